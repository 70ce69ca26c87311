import Derived.Test.YtfpimcmhooiooaaDoorHe
import Derived.Test.YtfpimcmhooiooaaDoorOrk
import Derived.Deep.AppendLies
import Derived.Laws.AppendOwnNone
namespace Go.Proofs.YtfpimcmhooiooaaDoor
open Go.RowKit

theorem own_lt {w : World} {base n size : Nat} {e : TypeId} {v : Value} {xs : List Value} (h : w.ownsRow base e size v n xs) {g : Nat} (hg : v.ownBlock = some g) : base ≤ g ∧ g < w.heap.size := h.lt g hg
theorem own_slice {w : World} {base n size : Nat} {e : TypeId} {v : Value} {xs : List Value} (h : w.ownsRow base e size v n xs) : ∃ a c, v = .slice a n c ∧ n ≤ c ∧ (0 < n → ∃ g, a = some ⟨g, 0, none⟩) := by
  rcases h.2 with ⟨hv, hn⟩ | ⟨g, cap, cur, hv, _, _, hc, _⟩
  · subst hn; exact ⟨none, 0, hv, Nat.le_refl _, fun h => by omega⟩
  · exact ⟨_, cap, hv, hc, fun _ => ⟨g, rfl⟩⟩
theorem own_cell {w : World} {base n size : Nat} {e : TypeId} {g c : Nat} {xs : List Value} (h : w.ownsRow base e size (.slice (some ⟨g, 0, none⟩) n c) n xs) (j : Nat) (u : Value) (hj : xs[j]? = some u) : w.cell? ⟨g, j, none⟩ = some u ∧ w.frozen? ⟨g, j, none⟩ = false := by
  rcases h.2 with ⟨hv, _⟩ | ⟨g', cap, cur, hv, _, hg, hc1, hc2, hs, ht⟩
  · cases hv
  · cases hv
    have hj2 : j < xs.length := (List.getElem?_eq_some_iff.1 hj).1
    refine ⟨?_, by unfold World.frozen?; simp [hg]⟩
    unfold World.cell?
    simp only [hg]
    rw [← ht, List.getElem?_take] at hj
    split at hj
    · simpa using hj
    · cases hj

def tV (s : List UInt8) : Value := .string ⟨s.toArray⟩
/-- A list of texts of one's own. -/
def OT (B : Nat) (w : World) (v : Value) (l : List (List UInt8)) : Prop := w.ownsRow B 9 1 v l.length (l.map tV)
theorem infoTx : (Tryd.prog.info? 9).map (fun i => (i.zero, i.size, i.bytes)) = some (some (.string ⟨#[]⟩), 1, 16) := by kernel_rfl
theorem OT.tr {B : Nat} {w : World} {v : Value} {l : List (List UInt8)} (h : OT B w v l) : ∃ ao cap, v = .slice ao l.length cap ∧ TR w (.slice ao l.length cap) l ao cap := by
  obtain ⟨a, c, e, hc, hg⟩ := own_slice h
  refine ⟨a, c, e, rfl, hc, ?_⟩
  rcases Nat.eq_zero_or_pos l.length with h0 | h0
  · exact .inl (List.eq_nil_of_length_eq_zero h0)
  · obtain ⟨g, rfl⟩ := hg h0
    refine .inr ⟨g, 0, rfl, (h.lt g (by rw [e]; rfl)).2, fun j hj => ?_⟩
    rw [Nat.zero_add]
    unfold OT at h
    rw [e] at h
    refine (own_cell h j _ ?_).1
    rw [List.getElem?_map, List.getElem?_eq_getElem hj, List.getD_eq_getElem?_getD, List.getElem?_eq_getElem hj]
    rfl
/-- append of texts that can be read behind a list of one's own. -/
theorem append_txt {wr : World} {ops : Array Oper} {rest : List Oper} {o : Oper} {a : Act} {Q : Exit → Act → World → Prop} (hgd : o.guard = none) (s x : Operand)
    (ho : o.op = .call { callee := .builtin .append, args := #[s, x], argTypes := #[22, 22] })
    (B : Nat) (v : Value) (l : List (List UInt8)) (hs : a.eval s = v) (h : OT B wr v l) (ao : Option Addr) (cap : Nat) (m : List (List UInt8)) (hx : a.eval x = .slice ao m.length cap) (hR : TR wr (.slice ao m.length cap) m ao cap) (hn : ao = none → cap = 0) (hl : l.length + m.length ≤ 1000000000) (hB : B ≤ wr.heap.size)
    (k : ∀ v' w', OT B w' v' (l ++ m) → wr.grownBy w' v.ownBlock → wpList Tryd.prog ops Q rest (a.put o.dst v') w') : wpList Tryd.prog ops Q (o :: rest) a wr := by
  obtain ⟨i, hi, hz, hsize, hby⟩ := info_parts infoTx
  cases ao with
  | none =>
    obtain rfl := hn rfl
    have hm : m = [] := by
      rcases hR.cell with e | ⟨g, off, e, _⟩
      · exact e
      · cases e
    subst hm
    refine wpList_append_own_none hgd s x 22 ho B 9 i 1 Tryd.underlying22 hi v l.length (l.map tV) hs h hx ?_
    refine k v wr (by rw [List.append_nil]; exact h) ⟨rfl, rfl, rfl, Nat.le_refl _, fun _ _ _ => rfl⟩
  | some ad =>
    refine wpList_append_own_wide _ hgd s x 22 ho B 9 i (.string ⟨#[]⟩) 1 16 Tryd.underlying22 hi hz hsize hby rfl (by decide) v l.length (l.map tV) hs h ad m.length cap (m.map tV) hx (by simp) ?_ (by intro u hu; obtain ⟨y, _, rfl⟩ := List.mem_map.1 hu; rfl) (by unfold maxLen; omega) (by omega) hB ?_
    · intro j u hu
      rw [List.getElem?_map, Option.map_eq_some_iff] at hu
      obtain ⟨y, hy, rfl⟩ := hu
      have hj := (List.getElem?_eq_some_iff.1 hy).1
      rcases hR.cell with e | ⟨g, off, e, _, hc⟩
      · subst e; simp at hj
      · cases e
        rw [Addr.add_lit, hc j hj, List.getD_eq_getElem?_getD, hy]
        rfl
    · intro v' w' h2 h3 _
      refine k v' w' ?_ h3
      unfold OT
      rw [List.length_append, List.map_append]
      exact h2


/-- The marks. -/
abbrev mkT : List UInt8 := [109, 97, 114, 107]
theorem tr_one (w : World) (y : List UInt8) : TR (w.alloc (.cells #[.string ⟨y.toArray⟩] 9)) (.slice (some ⟨w.heap.size, 0, none⟩) 1 1) [y] (some ⟨w.heap.size, 0, none⟩) 1 := by
  have hbm : Bl 9 (w.alloc (.cells #[.string ⟨y.toArray⟩] 9)) w.heap.size [.string ⟨y.toArray⟩] := alloc_bl _ _ _
  refine ⟨rfl, Nat.le_refl _, .inr ⟨w.heap.size, 0, rfl, hbm.lt, fun j hj => ?_⟩⟩
  obtain rfl : j = 0 := by simpa using hj
  exact hbm.cell 0 (by simp)

set_option maxRecDepth 100000 in
set_option maxHeartbeats 8000000 in
theorem lent_any (ao : Option Addr) (cap : Nat) (l : List (List UInt8)) (w : World) (hR : TR w (.slice ao l.length cap) l ao cap) (hl : l.length ≤ 10000000) :
    Calls Tryd.prog 5 #[.slice ao l.length cap] w fun e w' => Below w.heap.size w w' ∧ ∃ g c, e = .returned (.slice (some ⟨g, 0, none⟩) l.length c) ∧ OT w.heap.size w' (.slice (some ⟨g, 0, none⟩) (l.length + 20) c) (l ++ List.replicate 20 mkT) := by
  have HTR : Hid (∀ wq, Below w.heap.size w wq → TR wq (.slice ao l.length cap) l ao cap) := fun wq hq => hR.below hq (Nat.le_refl _)
  clear hR
  go_enter Tryd.func5, Tryd.ntmps5
  go_wp2
  go_loopw [3, 4] (fun s3 s4 wx => ∃ k : Nat, s4 = .int .i64 k ∧ k ≤ l.length ∧ OT w.heap.size wx s3 (l.take k) ∧ Below w.heap.size w wx) (fun _ x _ => l.length - (intOf x).toNat)
  case atStart => exact ⟨0, rfl, Nat.zero_le _, World.ownsRow_nil _ _ _ _, Below.refl _ _⟩
  case round =>
    obtain ⟨k, rfl, hk, hot, hBr⟩ := hrel
    have HO : Hid (OT w.heap.size wr u3 (l.take k)) := hot
    have HB : Hid (Below w.heap.size w wr) := hBr
    clear hot hBr
    by_cases hlt : k < l.length
    · have q0 : decide ((k : Int) < (l.length : Int)) = true := decide_eq_true (by omega)
      obtain ⟨g, off, e', kc⟩ := (HTR.out wr HB.out).at hlt
      subst e'
      obtain ⟨x, hx⟩ : ∃ x, l.getD k [] = x := ⟨_, rfl⟩
      rw [hx] at kc
      have HTK : Hid (l.take (k + 1) = l.take k ++ [x]) := by show _ = _; rw [List.take_add_one, List.getElem?_eq_getElem hlt, ← hx, List.getD_eq_getElem?_getD, List.getElem?_eq_getElem hlt]; rfl
      have hk0 : (0 : Int) ≤ (k : Int) := by omega
      have hki : (k : Int) < (l.length : Int) := by omega
      have hT1 := tr_one wr x
      have hO1 : OT w.heap.size (wr.alloc (.cells #[.string ⟨x.toArray⟩] 9)) u3 (l.take k) := World.ownsRow.alloc HO.out _
      have hB1 : Below w.heap.size w (wr.alloc (.cells #[.string ⟨x.toArray⟩] 9)) := HB.out.trans ((alloc_below _ _).mono HB.out.size)
      have HO1 : Hid (OT w.heap.size (wr.alloc (.cells #[.string ⟨x.toArray⟩] 9)) u3 (l.take k)) := hO1
      have HB1 : Hid (Below w.heap.size w (wr.alloc (.cells #[.string ⟨x.toArray⟩] 9))) := hB1
      have HT1 : Hid (TR (wr.alloc (.cells #[.string ⟨x.toArray⟩] 9)) (.slice (some ⟨wr.heap.size, 0, none⟩) 1 1) [x] (some ⟨wr.heap.size, 0, none⟩) 1) := hT1
      clear hx hT1 hO1 hB1
      go_wp2_with (at_builtin; refine append_txt (wr := wr.alloc (.cells #[.string ⟨x.toArray⟩] 9)) rfl (.tmp 12) (.tmp 17) rfl w.heap.size u3 (l.take k) rfl HO1.out (some ⟨wr.heap.size, 0, none⟩) 1 [x] rfl HT1.out (fun h => by cases h) (by rw [List.length_take]; simp only [List.length_cons, List.length_nil]; omega) HB1.out.size ?_; intro v5 w5 ho5 hg5; rw [← HTK.out] at ho5; have HO5 : Hid (OT w.heap.size w5 v5 (l.take (k + 1))) := ho5; have HB5 : Hid (Below w.heap.size w w5) := Below.grown HB1.out hg5 HB1.out.size (own_block HO1.out); clear ho5 hg5)
      go_roundw
      case rel => exact ⟨k + 1, by go_num, by omega, HO5.out, HB5.out⟩
      case measure => simp [intOf]; omega
    · have q0 : decide ((k : Int) < (l.length : Int)) = false := decide_eq_false (by omega)
      have HO2 : Hid (OT w.heap.size wr u3 (l ++ List.replicate 0 mkT)) := by
        show OT _ _ _ _
        have := HO.out
        rw [List.take_of_length_le (by omega)] at this
        simpa using this
      clear HO
      go_wp2
      go_loopw [3, 5] (fun s3 s5 wx => ∃ k : Nat, s5 = .int .i64 k ∧ k ≤ 20 ∧ OT w.heap.size wx s3 (l ++ List.replicate k mkT) ∧ Below w.heap.size w wx) (fun _ x _ => 20 - (intOf x).toNat)
      case atStart => exact ⟨0, rfl, Nat.zero_le _, HO2.out, HB.out⟩
      case round =>
        obtain ⟨k, rfl, hk, hot, hBr⟩ := hrel
        have HOr : Hid (OT w.heap.size wr u3 (l ++ List.replicate k mkT)) := hot
        have HBr : Hid (Below w.heap.size w wr) := hBr
        clear hot hBr HO2 HB
        by_cases hlt : k < 20
        · have q1 : decide ((k : Int) < 20) = true := decide_eq_true (by omega)
          have HTK : Hid (l ++ List.replicate (k + 1) mkT = (l ++ List.replicate k mkT) ++ [mkT]) := by show _ = _; rw [List.replicate_succ', List.append_assoc]
          have HO1 : Hid (OT w.heap.size (wr.alloc (.cells #[.string { data := #[109, 97, 114, 107] }] 9)) u3 (l ++ List.replicate k mkT)) := World.ownsRow.alloc HOr.out _
          have HB1 : Hid (Below w.heap.size w (wr.alloc (.cells #[.string { data := #[109, 97, 114, 107] }] 9))) := HBr.out.trans ((alloc_below _ _).mono HBr.out.size)
          have HT1 : Hid (TR (wr.alloc (.cells #[.string { data := #[109, 97, 114, 107] }] 9)) (.slice (some ⟨wr.heap.size, 0, none⟩) 1 1) [mkT] (some ⟨wr.heap.size, 0, none⟩) 1) := tr_one wr mkT
          go_wp2_with (at_builtin; refine append_txt (wr := wr.alloc (.cells #[.string { data := #[109, 97, 114, 107] }] 9)) rfl (.tmp 23) (.tmp 24) rfl w.heap.size u3 (l ++ List.replicate k mkT) rfl HO1.out (some ⟨wr.heap.size, 0, none⟩) 1 [mkT] rfl HT1.out (fun h => by cases h) (by rw [List.length_append, List.length_replicate]; simp only [List.length_cons, List.length_nil]; omega) HB1.out.size ?_; intro v5 w5 ho5 hg5; rw [← HTK.out] at ho5; have HO5 : Hid (OT w.heap.size w5 v5 (l ++ List.replicate (k + 1) mkT)) := ho5; have HB5 : Hid (Below w.heap.size w w5) := Below.grown HB1.out hg5 HB1.out.size (own_block HO1.out); clear ho5 hg5)
          go_roundw
          case rel => exact ⟨k + 1, by go_num, by omega, HO5.out, HB5.out⟩
          case measure => simp [intOf]; omega
        · have q1 : decide ((k : Int) < 20) = false := decide_eq_false (by omega)
          obtain rfl : k = 20 := by omega
          obtain ⟨a, c, e, hc, hg⟩ := own_slice HOr.out
          obtain ⟨g, rfl⟩ := hg (by simp)
          rw [show (l ++ List.replicate 20 mkT).length = l.length + 20 by simp] at e hc
          subst e
          have hc1 : l.length ≤ c := by omega
          have hc2 : ¬ (c : Int) < (l.length : Int) := by omega
          go_wp2
          go_ret
          exact ⟨HBr.out, _, _, rfl, HOr.out⟩

set_option maxRecDepth 100000 in
set_option maxHeartbeats 8000000 in
theorem whole_any (g c : Nat) (ao : Option Addr) (cap : Nat) (l : List (List UInt8)) (w : World) (h1 : OT 0 w (.slice (some ⟨g, 0, none⟩) (l.length + 20) c) (l ++ List.replicate 20 mkT)) (hR : TR w (.slice ao l.length cap) l ao cap) (hl : l.length ≤ 10000000) :
    Calls Tryd.prog 8 #[.slice (some ⟨g, 0, none⟩) l.length c, .slice ao l.length cap] w fun e w' => e = .returned (.bool true) ∧ ∃ q, w' = w.drewN q := by
  obtain ⟨a, c', e, hc, _⟩ := own_slice h1
  rw [show (l ++ List.replicate 20 mkT).length = l.length + 20 by simp] at hc e
  cases e
  have HC : Hid (∀ j, j < l.length → w.cell? ⟨g, j, none⟩ = some (.string ⟨(l.getD j []).toArray⟩)) := fun j hj => by
    refine (own_cell (n := (l ++ List.replicate 20 mkT).length) (by have := h1; unfold OT at this; rwa [show l.length + 20 = (l ++ List.replicate 20 mkT).length by simp] at this) j _ ?_).1
    rw [List.map_append, List.getElem?_append_left (by simpa using hj), List.getElem?_map, List.getElem?_eq_getElem hj, List.getD_eq_getElem?_getD, List.getElem?_eq_getElem hj]
    rfl
  have HM : Hid (∀ j, j < 20 → w.cell? ⟨g, l.length + j, none⟩ = some (.string { data := #[109, 97, 114, 107] })) := fun j hj => by
    refine (own_cell (n := (l ++ List.replicate 20 mkT).length) (by have := h1; unfold OT at this; rwa [show l.length + 20 = (l ++ List.replicate 20 mkT).length by simp] at this) (l.length + j) _ ?_).1
    rw [List.map_append, List.getElem?_append_right (by simp), List.length_map, Nat.add_sub_cancel_left, List.getElem?_map, List.getElem?_replicate, if_pos hj]
    rfl
  have HL : Hid (∀ j, j < l.length → ∃ g off : Nat, ao = some ⟨g, off, none⟩ ∧ w.cell? ⟨g, off + j, none⟩ = some (.string ⟨(l.getD j []).toArray⟩)) := fun j hj => hR.at hj
  clear h1 hR
  have hc2 : ¬ (c : Int) < (l.length : Int) + 20 := by omega
  go_enter Tryd.func8, Tryd.ntmps8
  go_wp2
  go_loopw [6] (fun s6 wx => ∃ k : Nat, s6 = .int .i64 k ∧ k ≤ l.length ∧ ∃ q, wx = w.drewN q) (fun x _ => l.length - (intOf x).toNat)
  case atStart => exact ⟨0, rfl, Nat.zero_le _, 0, rfl⟩
  case round =>
    obtain ⟨k, rfl, hk, q, rfl⟩ := hrel
    by_cases hlt : k < l.length
    · have q0 : decide ((k : Int) < (l.length : Int)) = true := decide_eq_true (by omega)
      obtain ⟨g', off, e', kc⟩ := HL.out k hlt
      subst e'
      have kd := HC.out k hlt
      obtain ⟨x, hx⟩ : ∃ x, l.getD k [] = x := ⟨_, rfl⟩
      rw [hx] at kc kd
      have kc' : (w.drewN q).cell? ⟨g', off + k, none⟩ = some (.string ⟨x.toArray⟩) := kc
      have kd' : (w.drewN q).cell? ⟨g, k, none⟩ = some (.string ⟨x.toArray⟩) := kd
      have qx : (x == x) = true := by simp
      have hk0 : (0 : Int) ≤ (k : Int) := by omega
      have hki : (k : Int) < (l.length : Int) := by omega
      have hkj : (k : Int) < (l.length : Int) + 20 := by omega
      clear hx
      go_wp2
      go_quiet (fail)
      go_wp2
      go_roundw
      case rel => exact ⟨k + 1, by go_num, by omega, _, rfl⟩
      case measure => simp [intOf]; omega
    · have q0 : decide ((k : Int) < (l.length : Int)) = false := decide_eq_false (by omega)
      go_wp2
      go_loopw [7] (fun s7 wx => ∃ k : Nat, s7 = .int .i64 k ∧ k ≤ 20 ∧ ∃ q, wx = w.drewN q) (fun x _ => 20 - (intOf x).toNat)
      case atStart => exact ⟨0, rfl, Nat.zero_le _, q, rfl⟩
      case round =>
        obtain ⟨m, rfl, hm, q', rfl⟩ := hrel
        by_cases hlm : m < 20
        · have q1 : decide ((m : Int) < 20) = true := decide_eq_true (by omega)
          have km := HM.out m hlm
          have km' : (w.drewN q').cell? ⟨g, l.length + m, none⟩ = some (.string { data := #[109, 97, 114, 107] }) := km
          have hk0 : (0 : Int) ≤ (l.length : Int) + (m : Int) := by omega
          have hki : (l.length : Int) + (m : Int) < (l.length : Int) + 20 := by omega

          go_wp2
          go_roundw
          case rel => exact ⟨m + 1, by go_num, by omega, _, rfl⟩
          case measure => simp [intOf]; omega
        · have q1 : decide ((m : Int) < 20) = false := decide_eq_false (by omega)
          go_wp2
          go_ret
          exact ⟨rfl, _, rfl⟩

end Go.Proofs.YtfpimcmhooiooaaDoor
