import Derived.Test.YthlfboaidhgnlaaGreatDoorBase
import Derived.Deep.AppendLies
import Derived.Laws.AppendOwnNone
import Derived.Laws.OwnMore
import Derived.Test.YthlfboaidhgnlaaGreatDoorCa
namespace Go.Proofs.YthlfboaidhgnlaaGreatDoor
open Go.RowKit

/-- Texts that can be read. -/
structure TR (w : World) (v : Value) (l : List (List UInt8)) (ao : Option Addr) (cap : Nat) : Prop where
  val : v = .slice ao l.length cap
  cap : l.length ≤ cap
  cell : l = [] ∨ ∃ g off : Nat, ao = some ⟨g, off, none⟩ ∧ g < w.heap.size ∧ ∀ j, j < l.length → w.cell? ⟨g, off + j, none⟩ = some (.string ⟨(l.getD j []).toArray⟩)
theorem TR.at {w : World} {v : Value} {l : List (List UInt8)} {ao : Option Addr} {cap : Nat} (h : TR w v l ao cap) {j : Nat} (hj : j < l.length) : ∃ g off : Nat, ao = some ⟨g, off, none⟩ ∧ w.cell? ⟨g, off + j, none⟩ = some (.string ⟨(l.getD j []).toArray⟩) := by
  rcases h.cell with h0 | ⟨g, off, e, _, hc⟩
  · subst h0; simp at hj
  · exact ⟨g, off, e, hc j hj⟩
theorem TR.below {w w' : World} {v : Value} {l : List (List UInt8)} {ao : Option Addr} {cap n : Nat} (h : TR w v l ao cap) (hb : Below n w w') (hn : w.heap.size ≤ n) : TR w' v l ao cap := by
  refine ⟨h.val, h.cap, ?_⟩
  rcases h.cell with h0 | ⟨g, off, e, hg, hc⟩
  · exact .inl h0
  · exact .inr ⟨g, off, e, Nat.lt_of_lt_of_le hg hb.size, fun j hj => cell_but (hc j hj) fun _ => hb.block g (by omega)⟩

set_option maxRecDepth 100000 in
set_option maxHeartbeats 4000000 in
theorem index_any (ao : Option Addr) (cap : Nat) (l : List (List UInt8)) (s : List UInt8) (w : World) (h : TR w (.slice ao l.length cap) l ao cap) (hl : l.length ≤ 9223372036854775807) :
    Calls Tryz.prog 58 #[.slice ao l.length cap, .string ⟨s.toArray⟩] w fun e w' => (∃ r : Int, e = .returned (.int .i64 r) ∧ decide (r ≥ 0) = decide (s ∈ l)) ∧ w' = w := by
  have HC : Hid (∀ j, j < l.length → ∃ g off : Nat, ao = some ⟨g, off, none⟩ ∧ w.cell? ⟨g, off + j, none⟩ = some (.string ⟨(l.getD j []).toArray⟩)) := fun j hj => h.at hj
  clear h
  go_enter Tryz.func58, Tryz.ntmps58
  go_wp2
  go_loopw [8] (fun s8 wx => ∃ k : Nat, s8 = .int .i64 k ∧ k ≤ l.length ∧ wx = w ∧ ∀ j, j < k → l.getD j [] ≠ s) (fun x _ => l.length - (intOf x).toNat)
  case atStart => exact ⟨0, rfl, Nat.zero_le _, rfl, fun j hj => by omega⟩
  case round =>
    obtain ⟨k, rfl, hk, rfl, hne⟩ := hrel
    have HNe : Hid (∀ j, j < k → l.getD j [] ≠ s) := hne
    clear hne
    by_cases hlt : k < l.length
    · have q0 : decide ((k : Int) < (l.length : Int)) = true := decide_eq_true (by omega)
      obtain ⟨g, off, rfl, kc⟩ := HC.out k hlt
      obtain ⟨x, hx⟩ : ∃ x, l.getD k [] = x := ⟨_, rfl⟩
      rw [hx] at kc
      by_cases he : s = x
      · subst he
        have HF : Hid (s ∈ l) := by
          show _ ∈ _
          rw [← hx, List.getD_eq_getElem?_getD, List.getElem?_eq_getElem hlt]
          exact List.getElem_mem hlt
        clear hx HNe
        go_wp2
        go_ret
        exact ⟨⟨_, rfl, by rw [decide_eq_true HF.out, decide_eq_true (by omega)]⟩, rfl⟩
      · have qs : (s == x) = false := by simpa using he
        have HN2 : Hid (∀ j, j < k + 1 → l.getD j [] ≠ s) := fun j hj => by
          rcases Nat.lt_or_ge j k with h | h
          · exact HNe.out j h
          · obtain rfl : j = k := by omega
            rw [hx]; exact fun e => he e.symm
        clear hx HNe he
        go_wp2
        go_roundw
        case rel => exact ⟨k + 1, by go_num, by omega, trivial, HN2.out⟩
        case measure => simp [intOf]; omega
    · have q0 : decide ((k : Int) < (l.length : Int)) = false := decide_eq_false (by omega)
      have HF : Hid (s ∉ l) := by
        show _ ∉ _
        intro hcc
        obtain ⟨j, hj, e⟩ := List.getElem_of_mem hcc
        exact absurd (by rw [List.getD_eq_getElem?_getD, List.getElem?_eq_getElem hj]; exact e) (HNe.out j (by omega))
      go_wp2
      go_ret
      exact ⟨⟨_, rfl, by rw [decide_eq_false HF.out, decide_eq_false (by omega)]⟩, rfl⟩

set_option maxRecDepth 100000 in
theorem contains_any (ao : Option Addr) (cap : Nat) (l : List (List UInt8)) (s : List UInt8) (w : World) (h : TR w (.slice ao l.length cap) l ao cap) (hl : l.length ≤ 9223372036854775807) :
    Calls Tryz.prog 40 #[.slice ao l.length cap, .string ⟨s.toArray⟩] w fun e w' => e = .returned (.bool (decide (s ∈ l))) ∧ w' = w := by
  have C0 := index_any ao cap l s w h hl
  clear h
  generalize decide (s ∈ l) = b at *
  go_enter Tryz.func40, Tryz.ntmps40
  go_wp2_with fail
  refine C0.mono ?_
  clear C0
  rintro e w1 ⟨⟨r, rfl, hr⟩, rfl⟩
  go_wp2
  go_ret
  exact ⟨rfl, rfl⟩

def tV (s : List UInt8) : Value := .string ⟨s.toArray⟩
/-- A list of texts of one's own. -/
def OT (B : Nat) (w : World) (v : Value) (l : List (List UInt8)) : Prop := w.ownsRow B 9 1 v l.length (l.map tV)
theorem infoTx : (Tryz.prog.info? 9).map (fun i => (i.zero, i.size, i.bytes)) = some (some (.string ⟨#[]⟩), 1, 16) := by kernel_rfl
theorem OT.tr {B : Nat} {w : World} {v : Value} {l : List (List UInt8)} (h : OT B w v l) : ∃ ao cap, v = .slice ao l.length cap ∧ TR w (.slice ao l.length cap) l ao cap := by
  obtain ⟨a, c, e, hc, hg⟩ := own_slice h
  refine ⟨a, c, e, rfl, hc, ?_⟩
  rcases Nat.eq_zero_or_pos l.length with h0 | h0
  · exact .inl (List.eq_nil_of_length_eq_zero h0)
  · obtain ⟨g, rfl⟩ := hg h0
    refine .inr ⟨g, 0, rfl, (h.lt g (by rw [e]; rfl)).2, fun j hj => ?_⟩
    rw [Nat.zero_add]
    unfold OT at h
    rw [e] at h
    refine (own_cell h j _ ?_).1
    rw [List.getElem?_map, List.getElem?_eq_getElem hj, List.getD_eq_getElem?_getD, List.getElem?_eq_getElem hj]
    rfl
/-- append of texts that can be read behind a list of one's own. -/
theorem append_txt {wr : World} {ops : Array Oper} {rest : List Oper} {o : Oper} {a : Act} {Q : Exit → Act → World → Prop} (hgd : o.guard = none) (s x : Operand)
    (ho : o.op = .call { callee := .builtin .append, args := #[s, x], argTypes := #[23, 23] })
    (B : Nat) (v : Value) (l : List (List UInt8)) (hs : a.eval s = v) (h : OT B wr v l) (ao : Option Addr) (cap : Nat) (m : List (List UInt8)) (hx : a.eval x = .slice ao m.length cap) (hR : TR wr (.slice ao m.length cap) m ao cap) (hn : ao = none → cap = 0) (hl : l.length + m.length ≤ 1000000000) (hB : B ≤ wr.heap.size)
    (k : ∀ v' w', OT B w' v' (l ++ m) → wr.grownBy w' v.ownBlock → wpList Tryz.prog ops Q rest (a.put o.dst v') w') : wpList Tryz.prog ops Q (o :: rest) a wr := by
  obtain ⟨i, hi, hz, hsize, hby⟩ := info_parts infoTx
  cases ao with
  | none =>
    obtain rfl := hn rfl
    have hm : m = [] := by
      rcases hR.cell with e | ⟨g, off, e, _⟩
      · exact e
      · cases e
    subst hm
    refine wpList_append_own_none hgd s x 23 ho B 9 i 1 Tryz.underlying23 hi v l.length (l.map tV) hs h hx ?_
    refine k v wr (by rw [List.append_nil]; exact h) ⟨rfl, rfl, rfl, Nat.le_refl _, fun _ _ _ => rfl⟩
  | some ad =>
    refine wpList_append_own_wide _ hgd s x 23 ho B 9 i (.string ⟨#[]⟩) 1 16 Tryz.underlying23 hi hz hsize hby rfl (by decide) v l.length (l.map tV) hs h ad m.length cap (m.map tV) hx (by simp) ?_ (by intro u hu; obtain ⟨y, _, rfl⟩ := List.mem_map.1 hu; rfl) (by unfold maxLen; omega) (by omega) hB ?_
    · intro j u hu
      rw [List.getElem?_map, Option.map_eq_some_iff] at hu
      obtain ⟨y, hy, rfl⟩ := hu
      have hj := (List.getElem?_eq_some_iff.1 hy).1
      rcases hR.cell with e | ⟨g, off, e, _, hc⟩
      · subst e; simp at hj
      · cases e
        rw [Addr.add_lit, hc j hj, List.getD_eq_getElem?_getD, hy]
        rfl
    · intro v' w' h2 h3 _
      refine k v' w' ?_ h3
      unfold OT
      rw [List.length_append, List.map_append]
      exact h2

/-- A policy; claims, with the values of their lists. -/
def plV (a : Value) (iss : ByteArray) (hi : Bool) (aud : ByteArray) (ha : Bool) (ty : List UInt8) (wt : Bool) (lee : Int) (need : Value) : Value := .agg #[a, .string iss, .bool hi, .string aud, .bool ha, .string ⟨ty.toArray⟩, .bool wt, .int .i64 lee, need]
def clV (va aa : Value) (c : Cm) : Value := .agg #[va, .string ⟨c.iss.toArray⟩, .bool c.hIss, .string ⟨c.sub.toArray⟩, .bool c.hSub, aa, .bool c.hAud, .string ⟨c.jti.toArray⟩, .bool c.hJti, .bool c.exp.has, .int .i64 c.exp.at_, .bool c.nbf.has, .int .i64 c.nbf.at_, .bool c.iat.has, .int .i64 c.iat.at_]
def clC (va aa : Value) (c : Cm) : List Value := [va, .string ⟨c.iss.toArray⟩, .bool c.hIss, .string ⟨c.sub.toArray⟩, .bool c.hSub, aa, .bool c.hAud, .string ⟨c.jti.toArray⟩, .bool c.hJti, .bool c.exp.has, .int .i64 c.exp.at_, .bool c.nbf.has, .int .i64 c.nbf.at_, .bool c.iat.has, .int .i64 c.iat.at_]

end Go.Proofs.YthlfboaidhgnlaaGreatDoor
