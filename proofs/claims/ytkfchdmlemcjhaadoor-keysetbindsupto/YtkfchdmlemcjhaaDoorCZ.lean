import Derived.Test.YtkfchdmlemcjhaaDoorBase
import Derived.Test.YtkfchdmlemcjhaaDoorWZ
import Derived.Deep.AppendLies
import Derived.Laws.AppendOwnNone
import Derived.Laws.OwnMore
import Derived.Test.YtkfchdmlemcjhaaDoorOrk
import Derived.Laws.Tables
import Derived.Test.YtkfchdmlemcjhaaDoorTZ
import Derived.WalkMore
namespace Go.Proofs.YtkfchdmlemcjhaaDoor
open Go.RowKit

/-- A time claim. -/
structure Tm where
  has : Bool
  at_ : Int
deriving DecidableEq
def tm0 : Tm := ⟨false, 0⟩
/-- The first and the last clock. -/
def fstF (t : Tm) (l : Int) : Int := if t.has = false ∨ t.at_ < -9223372036854775808 + l then -9223372036854775808 else t.at_ - l
def lstF (t : Tm) (l : Int) : Option Int := if t.has = false ∨ 9223372036854775807 - l < t.at_ then some 9223372036854775807 else if t.at_ + l = -9223372036854775808 then none else some (t.at_ + l - 1)
/-- What Clock answers, in numbers without a bound. -/
def clockF (e n i : Tm) (l now : Int) : Nat :=
  if l < 0 ∨ 600 < l then 12
  else if e.has = true ∧ e.at_ + l ≤ now then 134
  else if n.has = true ∧ now < n.at_ - l then 135
  else if i.has = true ∧ now < i.at_ - l then 136 else 0
structure Wn where
  empty : Bool
  fr : Int
  en : Int
deriving DecidableEq
/-- What Open answers. -/
def openF (e n i : Tm) (l : Int) : Wn × Nat :=
  if l < 0 ∨ 600 < l then (⟨false, 0, 0⟩, 12)
  else match lstF e l with
    | none => (⟨true, 0, 0⟩, 0)
    | some x => if x < max (fstF n l) (fstF i l) then (⟨true, 0, 0⟩, 0) else (⟨false, max (fstF n l) (fstF i l), x⟩, 0)

def I64 (x : Int) : Prop := -9223372036854775808 ≤ x ∧ x ≤ 9223372036854775807

/-- Claims as a value: nine cells of whatever kind, then the three times. -/
def clW (x0 x1 x2 x3 x4 x5 x6 x7 x8 : Value) (e n i : Tm) : Value := .agg #[x0, x1, x2, x3, x4, x5, x6, x7, x8, .bool e.has, .int .i64 e.at_, .bool n.has, .int .i64 n.at_, .bool i.has, .int .i64 i.at_]
def wnV (x : Wn) : Value := .agg #[.bool x.empty, .int .i64 x.fr, .int .i64 x.en]

end Go.Proofs.YtkfchdmlemcjhaaDoor

namespace Go.Proofs.YtkfchdmlemcjhaaDoor
open Go.RowKit

/-- Claims. -/
structure Cm where
  val : List Nd
  iss : List UInt8
  hIss : Bool
  sub : List UInt8
  hSub : Bool
  aud : List (List UInt8)
  hAud : Bool
  jti : List UInt8
  hJti : Bool
  exp : Tm
  nbf : Tm
  iat : Tm
deriving DecidableEq
def cm0 : Cm := ⟨[], [], false, [], false, [], false, [], false, tm0, tm0, tm0⟩
abbrev kIss : List UInt8 := [105, 115, 115]
abbrev kSub : List UInt8 := [115, 117, 98]
abbrev kAud : List UInt8 := [97, 117, 100]
abbrev kJti : List UInt8 := [106, 116, 105]
abbrev kExp : List UInt8 := [101, 120, 112]
abbrev kNbf : List UInt8 := [110, 98, 102]
abbrev kIat : List UInt8 := [105, 97, 116]

/-- Are all of these texts? -/
def allT (v : List Nd) (L : List Nat) : Bool := L.all fun i => decide ((v.getD i (nd0 0)).kind = 5)
/-- Is the claim at that place of the kind that its name wants? -/
def fitF (v : List Nd) (k : Nat) : Bool :=
  if (v.getD k (nd0 0)).key = kAud then (if (v.getD k (nd0 0)).kind = 6 then allT v (kidsF v (k : Int)) else decide ((v.getD k (nd0 0)).kind = 5))
  else if (v.getD k (nd0 0)).key = kIss ∨ (v.getD k (nd0 0)).key = kSub ∨ (v.getD k (nd0 0)).key = kJti then decide ((v.getD k (nd0 0)).kind = 5)
  else if (v.getD k (nd0 0)).key = kExp ∨ (v.getD k (nd0 0)).key = kNbf ∨ (v.getD k (nd0 0)).key = kIat then (v.getD k (nd0 0)).whole
  else true
/-- A text of that name. -/
def txF (v : List Nd) (k : List UInt8) : List UInt8 × Bool := if memF v 0 k < 0 then ([], false) else ((v.getD (memF v 0 k).toNat (nd0 0)).text, true)
/-- Texts of that name. -/
def tsF (v : List Nd) (k : List UInt8) : List (List UInt8) × Bool :=
  if memF v 0 k < 0 then ([], false)
  else if (v.getD (memF v 0 k).toNat (nd0 0)).kind = 5 then ([(v.getD (memF v 0 k).toNat (nd0 0)).text], true)
  else ((kidsF v (memF v 0 k)).map fun i => (v.getD i (nd0 0)).text, true)
/-- A time of that name. -/
def moF (v : List Nd) (k : List UInt8) : Tm := if memF v 0 k < 0 then tm0 else ⟨true, (v.getD (memF v 0 k).toNat (nd0 0)).int⟩
def saidF (v : List Nd) : Cm := ⟨v, (txF v kIss).1, (txF v kIss).2, (txF v kSub).1, (txF v kSub).2, (tsF v kAud).1, (tsF v kAud).2, (txF v kJti).1, (txF v kJti).2, moF v kExp, moF v kNbf, moF v kIat⟩
/-- What Parse answers. -/
def cparseF (t : List UInt8) : Cm × Nat :=
  if (parseF t).2.1 ≠ 0 then (cm0, (parseF t).2.1)
  else if ((parseF t).1.getD 0 (nd0 0)).kind ≠ 7 then (cm0, 130)
  else if (kidsF (parseF t).1 0).all (fitF (parseF t).1) then (saidF (parseF t).1, 0) else (cm0, 131)
/-- Is one of the names no member's? -/
def lackF (v : List Nd) (need : List (List UInt8)) : Bool := need.any fun k => decide (memF v 0 k < 0)
/-- What Check answers, of a well shaped value. -/
def checkF (v : List Nd) (iss : List UInt8) (hIss : Bool) (aud : List (List UInt8)) (hAud : Bool) (need : List (List UInt8)) (pi : List UInt8) (pHi : Bool) (pa : List UInt8) (pHa : Bool) : Nat :=
  if lackF v need = true then 137
  else if pHi = true ∧ (hIss = false ∨ iss ≠ pi) then 132
  else if pHa ≠ hAud then 133
  else if pHa = true ∧ pa ∉ aud then 133 else 0

end Go.Proofs.YtkfchdmlemcjhaaDoor

namespace Go.Proofs.YtkfchdmlemcjhaaDoor
open Go.RowKit

theorem memL_in (v : List Nd) (key : List UInt8) : ∀ L : List Nat, memL v key L = -1 ∨ ∃ k ∈ L, memL v key L = (k : Int) ∧ (v.getD k (nd0 0)).key = key
  | [] => .inl rfl
  | k :: r => by
    unfold memL
    split
    · rename_i h; exact .inr ⟨k, by simp, rfl, h⟩
    · rcases memL_in v key r with h | ⟨x, hx, h⟩
      · exact .inl h
      · exact .inr ⟨x, List.mem_cons_of_mem _ hx, h⟩
/-- Is the member that a text, a time, the audience wants there as it should be, or not at all? -/
def okT (v : List Nd) (k : List UInt8) : Bool := decide (memF v 0 k < 0) || decide ((v.getD (memF v 0 k).toNat (nd0 0)).kind = 5)
def okM (v : List Nd) (k : List UInt8) : Bool := decide (memF v 0 k < 0) || (decide ((v.getD (memF v 0 k).toNat (nd0 0)).kind = 4) && (v.getD (memF v 0 k).toNat (nd0 0)).whole)
def okA (v : List Nd) (k : List UInt8) : Bool := decide (memF v 0 k < 0) || decide ((v.getD (memF v 0 k).toNat (nd0 0)).kind = 5) || (decide ((v.getD (memF v 0 k).toNat (nd0 0)).kind = 6) && allT v (kidsF v (memF v 0 k)))
def okF (v : List Nd) : Bool := okT v kIss && okT v kSub && okT v kJti && okM v kExp && okM v kNbf && okM v kIat && okA v kAud

end Go.Proofs.YtkfchdmlemcjhaaDoor

namespace Go.Proofs.YtkfchdmlemcjhaaDoor
open Go.RowKit

/-- Texts that can be read. -/
structure TR (w : World) (v : Value) (l : List (List UInt8)) (ao : Option Addr) (cap : Nat) : Prop where
  val : v = .slice ao l.length cap
  cap : l.length ≤ cap
  cell : l = [] ∨ ∃ g off : Nat, ao = some ⟨g, off, none⟩ ∧ g < w.heap.size ∧ ∀ j, j < l.length → w.cell? ⟨g, off + j, none⟩ = some (.string ⟨(l.getD j []).toArray⟩)
theorem TR.at {w : World} {v : Value} {l : List (List UInt8)} {ao : Option Addr} {cap : Nat} (h : TR w v l ao cap) {j : Nat} (hj : j < l.length) : ∃ g off : Nat, ao = some ⟨g, off, none⟩ ∧ w.cell? ⟨g, off + j, none⟩ = some (.string ⟨(l.getD j []).toArray⟩) := by
  rcases h.cell with h0 | ⟨g, off, e, _, hc⟩
  · subst h0; simp at hj
  · exact ⟨g, off, e, hc j hj⟩
theorem TR.below {w w' : World} {v : Value} {l : List (List UInt8)} {ao : Option Addr} {cap n : Nat} (h : TR w v l ao cap) (hb : Below n w w') (hn : w.heap.size ≤ n) : TR w' v l ao cap := by
  refine ⟨h.val, h.cap, ?_⟩
  rcases h.cell with h0 | ⟨g, off, e, hg, hc⟩
  · exact .inl h0
  · exact .inr ⟨g, off, e, Nat.lt_of_lt_of_le hg hb.size, fun j hj => cell_but (hc j hj) fun _ => hb.block g (by omega)⟩

set_option maxRecDepth 100000 in
set_option maxHeartbeats 4000000 in
theorem index_any (ao : Option Addr) (cap : Nat) (l : List (List UInt8)) (s : List UInt8) (w : World) (h : TR w (.slice ao l.length cap) l ao cap) (hl : l.length ≤ 9223372036854775807) :
    Calls Tryd.prog 29 #[.slice ao l.length cap, .string ⟨s.toArray⟩] w fun e w' => (∃ r : Int, e = .returned (.int .i64 r) ∧ decide (r ≥ 0) = decide (s ∈ l)) ∧ w' = w := by
  have HC : Hid (∀ j, j < l.length → ∃ g off : Nat, ao = some ⟨g, off, none⟩ ∧ w.cell? ⟨g, off + j, none⟩ = some (.string ⟨(l.getD j []).toArray⟩)) := fun j hj => h.at hj
  clear h
  go_enter Tryd.func29, Tryd.ntmps29
  go_wp2
  go_loopw [8] (fun s8 wx => ∃ k : Nat, s8 = .int .i64 k ∧ k ≤ l.length ∧ wx = w ∧ ∀ j, j < k → l.getD j [] ≠ s) (fun x _ => l.length - (intOf x).toNat)
  case atStart => exact ⟨0, rfl, Nat.zero_le _, rfl, fun j hj => by omega⟩
  case round =>
    obtain ⟨k, rfl, hk, rfl, hne⟩ := hrel
    have HNe : Hid (∀ j, j < k → l.getD j [] ≠ s) := hne
    clear hne
    by_cases hlt : k < l.length
    · have q0 : decide ((k : Int) < (l.length : Int)) = true := decide_eq_true (by omega)
      obtain ⟨g, off, rfl, kc⟩ := HC.out k hlt
      obtain ⟨x, hx⟩ : ∃ x, l.getD k [] = x := ⟨_, rfl⟩
      rw [hx] at kc
      by_cases he : s = x
      · subst he
        have HF : Hid (s ∈ l) := by
          show _ ∈ _
          rw [← hx, List.getD_eq_getElem?_getD, List.getElem?_eq_getElem hlt]
          exact List.getElem_mem hlt
        clear hx HNe
        go_wp2
        go_ret
        exact ⟨⟨_, rfl, by rw [decide_eq_true HF.out, decide_eq_true (by omega)]⟩, rfl⟩
      · have qs : (s == x) = false := by simpa using he
        have HN2 : Hid (∀ j, j < k + 1 → l.getD j [] ≠ s) := fun j hj => by
          rcases Nat.lt_or_ge j k with h | h
          · exact HNe.out j h
          · obtain rfl : j = k := by omega
            rw [hx]; exact fun e => he e.symm
        clear hx HNe he
        go_wp2
        go_roundw
        case rel => exact ⟨k + 1, by go_num, by omega, trivial, HN2.out⟩
        case measure => simp [intOf]; omega
    · have q0 : decide ((k : Int) < (l.length : Int)) = false := decide_eq_false (by omega)
      have HF : Hid (s ∉ l) := by
        show _ ∉ _
        intro hcc
        obtain ⟨j, hj, e⟩ := List.getElem_of_mem hcc
        exact absurd (by rw [List.getD_eq_getElem?_getD, List.getElem?_eq_getElem hj]; exact e) (HNe.out j (by omega))
      go_wp2
      go_ret
      exact ⟨⟨_, rfl, by rw [decide_eq_false HF.out, decide_eq_false (by omega)]⟩, rfl⟩

set_option maxRecDepth 100000 in
theorem contains_any (ao : Option Addr) (cap : Nat) (l : List (List UInt8)) (s : List UInt8) (w : World) (h : TR w (.slice ao l.length cap) l ao cap) (hl : l.length ≤ 9223372036854775807) :
    Calls Tryd.prog 20 #[.slice ao l.length cap, .string ⟨s.toArray⟩] w fun e w' => e = .returned (.bool (decide (s ∈ l))) ∧ w' = w := by
  have C0 := index_any ao cap l s w h hl
  clear h
  generalize decide (s ∈ l) = b at *
  go_enter Tryd.func20, Tryd.ntmps20
  go_wp2_with fail
  refine C0.mono ?_
  clear C0
  rintro e w1 ⟨⟨r, rfl, hr⟩, rfl⟩
  go_wp2
  go_ret
  exact ⟨rfl, rfl⟩

def tV (s : List UInt8) : Value := .string ⟨s.toArray⟩
/-- A list of texts of one's own. -/
def OT (B : Nat) (w : World) (v : Value) (l : List (List UInt8)) : Prop := w.ownsRow B 9 1 v l.length (l.map tV)
theorem infoTx : (Tryd.prog.info? 9).map (fun i => (i.zero, i.size, i.bytes)) = some (some (.string ⟨#[]⟩), 1, 16) := by kernel_rfl
theorem OT.tr {B : Nat} {w : World} {v : Value} {l : List (List UInt8)} (h : OT B w v l) : ∃ ao cap, v = .slice ao l.length cap ∧ TR w (.slice ao l.length cap) l ao cap := by
  obtain ⟨a, c, e, hc, hg⟩ := own_slice h
  refine ⟨a, c, e, rfl, hc, ?_⟩
  rcases Nat.eq_zero_or_pos l.length with h0 | h0
  · exact .inl (List.eq_nil_of_length_eq_zero h0)
  · obtain ⟨g, rfl⟩ := hg h0
    refine .inr ⟨g, 0, rfl, (h.lt g (by rw [e]; rfl)).2, fun j hj => ?_⟩
    rw [Nat.zero_add]
    unfold OT at h
    rw [e] at h
    refine (own_cell h j _ ?_).1
    rw [List.getElem?_map, List.getElem?_eq_getElem hj, List.getD_eq_getElem?_getD, List.getElem?_eq_getElem hj]
    rfl
/-- append of texts that can be read behind a list of one's own. -/
theorem append_txt {wr : World} {ops : Array Oper} {rest : List Oper} {o : Oper} {a : Act} {Q : Exit → Act → World → Prop} (hgd : o.guard = none) (s x : Operand)
    (ho : o.op = .call { callee := .builtin .append, args := #[s, x], argTypes := #[24, 24] })
    (B : Nat) (v : Value) (l : List (List UInt8)) (hs : a.eval s = v) (h : OT B wr v l) (ao : Option Addr) (cap : Nat) (m : List (List UInt8)) (hx : a.eval x = .slice ao m.length cap) (hR : TR wr (.slice ao m.length cap) m ao cap) (hn : ao = none → cap = 0) (hl : l.length + m.length ≤ 1000000000) (hB : B ≤ wr.heap.size)
    (k : ∀ v' w', OT B w' v' (l ++ m) → wr.grownBy w' v.ownBlock → wpList Tryd.prog ops Q rest (a.put o.dst v') w') : wpList Tryd.prog ops Q (o :: rest) a wr := by
  obtain ⟨i, hi, hz, hsize, hby⟩ := info_parts infoTx
  cases ao with
  | none =>
    obtain rfl := hn rfl
    have hm : m = [] := by
      rcases hR.cell with e | ⟨g, off, e, _⟩
      · exact e
      · cases e
    subst hm
    refine wpList_append_own_none hgd s x 24 ho B 9 i 1 Tryd.underlying24 hi v l.length (l.map tV) hs h hx ?_
    refine k v wr (by rw [List.append_nil]; exact h) ⟨rfl, rfl, rfl, Nat.le_refl _, fun _ _ _ => rfl⟩
  | some ad =>
    refine wpList_append_own_wide _ hgd s x 24 ho B 9 i (.string ⟨#[]⟩) 1 16 Tryd.underlying24 hi hz hsize hby rfl (by decide) v l.length (l.map tV) hs h ad m.length cap (m.map tV) hx (by simp) ?_ (by intro u hu; obtain ⟨y, _, rfl⟩ := List.mem_map.1 hu; rfl) (by unfold maxLen; omega) (by omega) hB ?_
    · intro j u hu
      rw [List.getElem?_map, Option.map_eq_some_iff] at hu
      obtain ⟨y, hy, rfl⟩ := hu
      have hj := (List.getElem?_eq_some_iff.1 hy).1
      rcases hR.cell with e | ⟨g, off, e, _, hc⟩
      · subst e; simp at hj
      · cases e
        rw [Addr.add_lit, hc j hj, List.getD_eq_getElem?_getD, hy]
        rfl
    · intro v' w' h2 h3 _
      refine k v' w' ?_ h3
      unfold OT
      rw [List.length_append, List.map_append]
      exact h2

/-- A policy; claims, with the values of their lists. -/
def plV (a : Value) (iss : ByteArray) (hi : Bool) (aud : ByteArray) (ha : Bool) (ty : List UInt8) (wt : Bool) (lee : Int) (need : Value) : Value := .agg #[a, .string iss, .bool hi, .string aud, .bool ha, .string ⟨ty.toArray⟩, .bool wt, .int .i64 lee, need]
def clV (va aa : Value) (c : Cm) : Value := .agg #[va, .string ⟨c.iss.toArray⟩, .bool c.hIss, .string ⟨c.sub.toArray⟩, .bool c.hSub, aa, .bool c.hAud, .string ⟨c.jti.toArray⟩, .bool c.hJti, .bool c.exp.has, .int .i64 c.exp.at_, .bool c.nbf.has, .int .i64 c.nbf.at_, .bool c.iat.has, .int .i64 c.iat.at_]
def clC (va aa : Value) (c : Cm) : List Value := [va, .string ⟨c.iss.toArray⟩, .bool c.hIss, .string ⟨c.sub.toArray⟩, .bool c.hSub, aa, .bool c.hAud, .string ⟨c.jti.toArray⟩, .bool c.hJti, .bool c.exp.has, .int .i64 c.exp.at_, .bool c.nbf.has, .int .i64 c.nbf.at_, .bool c.iat.has, .int .i64 c.iat.at_]

end Go.Proofs.YtkfchdmlemcjhaaDoor

namespace Go.Proofs.YtkfchdmlemcjhaaDoor
open Go.RowKit

/-- What lastAhead answers. -/
def laV (o : Option Int) : Value := match o with
  | none => .tuple #[.int .i64 0, .bool false]
  | some x => .tuple #[.int .i64 x, .bool true]
end Go.Proofs.YtkfchdmlemcjhaaDoor

namespace Go.Proofs.YtkfchdmlemcjhaaDoor
open Go.RowKit

/-- The cells of claims. -/
def clC9 (x0 x1 x2 x3 x4 x5 x6 x7 x8 : Value) (e n i : Tm) : List Value := [x0, x1, x2, x3, x4, x5, x6, x7, x8, .bool e.has, .int .i64 e.at_, .bool n.has, .int .i64 n.at_, .bool i.has, .int .i64 i.at_]
end Go.Proofs.YtkfchdmlemcjhaaDoor

namespace Go.Proofs.YtkfchdmlemcjhaaDoor
open Go.RowKit

def wnC (x : Wn) : List Value := [.bool x.empty, .int .i64 x.fr, .int .i64 x.en]
end Go.Proofs.YtkfchdmlemcjhaaDoor

namespace Go.Proofs.YtkfchdmlemcjhaaDoor
open Go.RowKit

def tmC (t : Tm) : List Value := [.bool t.has, .int .i64 t.at_]
def tmV (t : Tm) : Value := .agg #[.bool t.has, .int .i64 t.at_]
end Go.Proofs.YtkfchdmlemcjhaaDoor

namespace Go.Proofs.YtkfchdmlemcjhaaDoor
open Go.RowKit

end Go.Proofs.YtkfchdmlemcjhaaDoor

namespace Go.Proofs.YtkfchdmlemcjhaaDoor
open Go.RowKit

theorem OT.below {B : Nat} {w w' : World} {v : Value} {l : List (List UInt8)} (h : OT B w v l) (hb : Below w.heap.size w w') : OT B w' v l := own_below h hb (Nat.le_refl _)

end Go.Proofs.YtkfchdmlemcjhaaDoor

namespace Go.Proofs.YtkfchdmlemcjhaaDoor
open Go.RowKit

theorem bl_setCell {t : TypeId} {w : World} {b c j : Nat} {vs : List Value} {v : Value} (h : Bl t w b vs) (hne : b ≠ c) : Bl t (w.setCell ⟨c, j, none⟩ v) b vs := (heap_setCell_other w _ b _ (fun e => hne e)).trans h
end Go.Proofs.YtkfchdmlemcjhaaDoor

namespace Go.Proofs.YtkfchdmlemcjhaaDoor
open Go.RowKit

end Go.Proofs.YtkfchdmlemcjhaaDoor
