import Derived.Test.YtjaopeenkbcjcaaBase
import Derived.Test.YtjaopeenkbcjcaaWZ
import Derived.Deep.AppendLies
import Derived.Laws.AppendOwnNone
import Derived.Laws.OwnMore
import Derived.Test.YtjaopeenkbcjcaaOrk
import Derived.Laws.Tables
import Derived.Test.YtjaopeenkbcjcaaTZ
import Derived.WalkMore
namespace Go.Proofs.Ytjaopeenkbcjcaa
open Go.RowKit

/-- A time claim. -/
structure Tm where
  has : Bool
  at_ : Int
deriving DecidableEq
def tm0 : Tm := ⟨false, 0⟩
/-- The first and the last clock. -/
def fstF (t : Tm) (l : Int) : Int := if t.has = false ∨ t.at_ < -9223372036854775808 + l then -9223372036854775808 else t.at_ - l
def lstF (t : Tm) (l : Int) : Option Int := if t.has = false ∨ 9223372036854775807 - l < t.at_ then some 9223372036854775807 else if t.at_ + l = -9223372036854775808 then none else some (t.at_ + l - 1)
/-- What Clock answers, in numbers without a bound. -/
def clockF (e n i : Tm) (l now : Int) : Nat :=
  if l < 0 ∨ 600 < l then 12
  else if e.has = true ∧ e.at_ + l ≤ now then 134
  else if n.has = true ∧ now < n.at_ - l then 135
  else if i.has = true ∧ now < i.at_ - l then 136 else 0
structure Wn where
  empty : Bool
  fr : Int
  en : Int
deriving DecidableEq
/-- What Open answers. -/
def openF (e n i : Tm) (l : Int) : Wn × Nat :=
  if l < 0 ∨ 600 < l then (⟨false, 0, 0⟩, 12)
  else match lstF e l with
    | none => (⟨true, 0, 0⟩, 0)
    | some x => if x < max (fstF n l) (fstF i l) then (⟨true, 0, 0⟩, 0) else (⟨false, max (fstF n l) (fstF i l), x⟩, 0)

def I64 (x : Int) : Prop := -9223372036854775808 ≤ x ∧ x ≤ 9223372036854775807

/-- The program's way to the code. -/
theorem clock_way {e n i : Tm} {l now : Int} (_he : I64 e.at_) (hn : I64 n.at_) (hi : I64 i.at_) (hw : I64 now) (h0 : 0 ≤ l) (h6 : l ≤ 600) :
    clockF e n i l now = (match lstF e l with
      | none => 134
      | some x => if x < now then 134 else if now < fstF n l then 135 else if now < fstF i l then 136 else 0) := by
  unfold I64 at *
  have hE : (e.has = true ∧ e.at_ + l ≤ now) ↔ (match lstF e l with
      | none => True
      | some x => x < now) := by
    unfold lstF
    cases e.has
    · simp; omega
    · simp only [true_and, Bool.true_eq_false, false_or]
      split
      · rename_i hz
        split at hz
        · cases hz
        · split at hz
          · simp; omega
          · cases hz
      · rename_i hz
        split at hz
        · cases hz; omega
        · split at hz
          · cases hz
          · cases hz; omega
  have hF : ∀ t : Tm, I64 t.at_ → ((t.has = true ∧ now < t.at_ - l) ↔ now < fstF t l) := by
    intro t ht
    unfold I64 at ht
    unfold fstF
    cases t.has
    · simp; omega
    · simp only [true_and, Bool.true_eq_false, false_or]
      split <;> omega
  unfold clockF
  rw [if_neg (by omega)]
  simp only [hF n hn, hF i hi]
  cases hz : lstF e l with
  | none =>
    rw [hz] at hE
    rw [if_pos (hE.2 trivial)]
  | some x =>
    rw [hz] at hE
    simp only [hE]

/-- Claims as a value: nine cells of whatever kind, then the three times. -/
def clW (x0 x1 x2 x3 x4 x5 x6 x7 x8 : Value) (e n i : Tm) : Value := .agg #[x0, x1, x2, x3, x4, x5, x6, x7, x8, .bool e.has, .int .i64 e.at_, .bool n.has, .int .i64 n.at_, .bool i.has, .int .i64 i.at_]
def wnV (x : Wn) : Value := .agg #[.bool x.empty, .int .i64 x.fr, .int .i64 x.en]

end Go.Proofs.Ytjaopeenkbcjcaa

namespace Go.Proofs.Ytjaopeenkbcjcaa
open Go.RowKit

/-- Claims. -/
structure Cm where
  val : List Nd
  iss : List UInt8
  hIss : Bool
  sub : List UInt8
  hSub : Bool
  aud : List (List UInt8)
  hAud : Bool
  jti : List UInt8
  hJti : Bool
  exp : Tm
  nbf : Tm
  iat : Tm
deriving DecidableEq
def cm0 : Cm := ⟨[], [], false, [], false, [], false, [], false, tm0, tm0, tm0⟩
abbrev kIss : List UInt8 := [105, 115, 115]
abbrev kSub : List UInt8 := [115, 117, 98]
abbrev kAud : List UInt8 := [97, 117, 100]
abbrev kJti : List UInt8 := [106, 116, 105]
abbrev kExp : List UInt8 := [101, 120, 112]
abbrev kNbf : List UInt8 := [110, 98, 102]
abbrev kIat : List UInt8 := [105, 97, 116]

/-- Are all of these texts? -/
def allT (v : List Nd) (L : List Nat) : Bool := L.all fun i => decide ((v.getD i (nd0 0)).kind = 5)
/-- Is the claim at that place of the kind that its name wants? -/
def fitF (v : List Nd) (k : Nat) : Bool :=
  if (v.getD k (nd0 0)).key = kAud then (if (v.getD k (nd0 0)).kind = 6 then allT v (kidsF v (k : Int)) else decide ((v.getD k (nd0 0)).kind = 5))
  else if (v.getD k (nd0 0)).key = kIss ∨ (v.getD k (nd0 0)).key = kSub ∨ (v.getD k (nd0 0)).key = kJti then decide ((v.getD k (nd0 0)).kind = 5)
  else if (v.getD k (nd0 0)).key = kExp ∨ (v.getD k (nd0 0)).key = kNbf ∨ (v.getD k (nd0 0)).key = kIat then (v.getD k (nd0 0)).whole
  else true
/-- A text of that name. -/
def txF (v : List Nd) (k : List UInt8) : List UInt8 × Bool := if memF v 0 k < 0 then ([], false) else ((v.getD (memF v 0 k).toNat (nd0 0)).text, true)
/-- Texts of that name. -/
def tsF (v : List Nd) (k : List UInt8) : List (List UInt8) × Bool :=
  if memF v 0 k < 0 then ([], false)
  else if (v.getD (memF v 0 k).toNat (nd0 0)).kind = 5 then ([(v.getD (memF v 0 k).toNat (nd0 0)).text], true)
  else ((kidsF v (memF v 0 k)).map fun i => (v.getD i (nd0 0)).text, true)
/-- A time of that name. -/
def moF (v : List Nd) (k : List UInt8) : Tm := if memF v 0 k < 0 then tm0 else ⟨true, (v.getD (memF v 0 k).toNat (nd0 0)).int⟩
def saidF (v : List Nd) : Cm := ⟨v, (txF v kIss).1, (txF v kIss).2, (txF v kSub).1, (txF v kSub).2, (tsF v kAud).1, (tsF v kAud).2, (txF v kJti).1, (txF v kJti).2, moF v kExp, moF v kNbf, moF v kIat⟩
/-- What Parse answers. -/
def cparseF (t : List UInt8) : Cm × Nat :=
  if (parseF t).2.1 ≠ 0 then (cm0, (parseF t).2.1)
  else if ((parseF t).1.getD 0 (nd0 0)).kind ≠ 7 then (cm0, 130)
  else if (kidsF (parseF t).1 0).all (fitF (parseF t).1) then (saidF (parseF t).1, 0) else (cm0, 131)
/-- Is one of the names no member's? -/
def lackF (v : List Nd) (need : List (List UInt8)) : Bool := need.any fun k => decide (memF v 0 k < 0)
/-- What Check answers, of a well shaped value. -/
def checkF (v : List Nd) (iss : List UInt8) (hIss : Bool) (aud : List (List UInt8)) (hAud : Bool) (need : List (List UInt8)) (pi : List UInt8) (pHi : Bool) (pa : List UInt8) (pHa : Bool) : Nat :=
  if lackF v need = true then 137
  else if pHi = true ∧ (hIss = false ∨ iss ≠ pi) then 132
  else if pHa ≠ hAud then 133
  else if pHa = true ∧ pa ∉ aud then 133 else 0

end Go.Proofs.Ytjaopeenkbcjcaa

namespace Go.Proofs.Ytjaopeenkbcjcaa
open Go.RowKit

/-- Is the member that a text, a time, the audience wants there as it should be, or not at all? -/
def okT (v : List Nd) (k : List UInt8) : Bool := decide (memF v 0 k < 0) || decide ((v.getD (memF v 0 k).toNat (nd0 0)).kind = 5)
def okM (v : List Nd) (k : List UInt8) : Bool := decide (memF v 0 k < 0) || (decide ((v.getD (memF v 0 k).toNat (nd0 0)).kind = 4) && (v.getD (memF v 0 k).toNat (nd0 0)).whole)
def okA (v : List Nd) (k : List UInt8) : Bool := decide (memF v 0 k < 0) || decide ((v.getD (memF v 0 k).toNat (nd0 0)).kind = 5) || (decide ((v.getD (memF v 0 k).toNat (nd0 0)).kind = 6) && allT v (kidsF v (memF v 0 k)))
def okF (v : List Nd) : Bool := okT v kIss && okT v kSub && okT v kJti && okM v kExp && okM v kNbf && okM v kIat && okA v kAud

end Go.Proofs.Ytjaopeenkbcjcaa

namespace Go.Proofs.Ytjaopeenkbcjcaa
open Go.RowKit

/-- Texts that can be read. -/
structure TR (w : World) (v : Value) (l : List (List UInt8)) (ao : Option Addr) (cap : Nat) : Prop where
  val : v = .slice ao l.length cap
  cap : l.length ≤ cap
  cell : l = [] ∨ ∃ g off : Nat, ao = some ⟨g, off, none⟩ ∧ g < w.heap.size ∧ ∀ j, j < l.length → w.cell? ⟨g, off + j, none⟩ = some (.string ⟨(l.getD j []).toArray⟩)
theorem TR.at {w : World} {v : Value} {l : List (List UInt8)} {ao : Option Addr} {cap : Nat} (h : TR w v l ao cap) {j : Nat} (hj : j < l.length) : ∃ g off : Nat, ao = some ⟨g, off, none⟩ ∧ w.cell? ⟨g, off + j, none⟩ = some (.string ⟨(l.getD j []).toArray⟩) := by
  rcases h.cell with h0 | ⟨g, off, e, _, hc⟩
  · subst h0; simp at hj
  · exact ⟨g, off, e, hc j hj⟩
theorem TR.below {w w' : World} {v : Value} {l : List (List UInt8)} {ao : Option Addr} {cap n : Nat} (h : TR w v l ao cap) (hb : Below n w w') (hn : w.heap.size ≤ n) : TR w' v l ao cap := by
  refine ⟨h.val, h.cap, ?_⟩
  rcases h.cell with h0 | ⟨g, off, e, hg, hc⟩
  · exact .inl h0
  · exact .inr ⟨g, off, e, Nat.lt_of_lt_of_le hg hb.size, fun j hj => cell_but (hc j hj) fun _ => hb.block g (by omega)⟩

def tV (s : List UInt8) : Value := .string ⟨s.toArray⟩
/-- A list of texts of one's own. -/
def OT (B : Nat) (w : World) (v : Value) (l : List (List UInt8)) : Prop := w.ownsRow B 9 1 v l.length (l.map tV)
theorem infoTx : (Try.prog.info? 9).map (fun i => (i.zero, i.size, i.bytes)) = some (some (.string ⟨#[]⟩), 1, 16) := by kernel_rfl
theorem OT.tr {B : Nat} {w : World} {v : Value} {l : List (List UInt8)} (h : OT B w v l) : ∃ ao cap, v = .slice ao l.length cap ∧ TR w (.slice ao l.length cap) l ao cap := by
  obtain ⟨a, c, e, hc, hg⟩ := own_slice h
  refine ⟨a, c, e, rfl, hc, ?_⟩
  rcases Nat.eq_zero_or_pos l.length with h0 | h0
  · exact .inl (List.eq_nil_of_length_eq_zero h0)
  · obtain ⟨g, rfl⟩ := hg h0
    refine .inr ⟨g, 0, rfl, (h.lt g (by rw [e]; rfl)).2, fun j hj => ?_⟩
    rw [Nat.zero_add]
    unfold OT at h
    rw [e] at h
    refine (own_cell h j _ ?_).1
    rw [List.getElem?_map, List.getElem?_eq_getElem hj, List.getD_eq_getElem?_getD, List.getElem?_eq_getElem hj]
    rfl
/-- append of texts that can be read behind a list of one's own. -/
theorem append_txt {wr : World} {ops : Array Oper} {rest : List Oper} {o : Oper} {a : Act} {Q : Exit → Act → World → Prop} (hgd : o.guard = none) (s x : Operand)
    (ho : o.op = .call { callee := .builtin .append, args := #[s, x], argTypes := #[23, 23] })
    (B : Nat) (v : Value) (l : List (List UInt8)) (hs : a.eval s = v) (h : OT B wr v l) (ao : Option Addr) (cap : Nat) (m : List (List UInt8)) (hx : a.eval x = .slice ao m.length cap) (hR : TR wr (.slice ao m.length cap) m ao cap) (hn : ao = none → cap = 0) (hl : l.length + m.length ≤ 1000000000) (hB : B ≤ wr.heap.size)
    (k : ∀ v' w', OT B w' v' (l ++ m) → wr.grownBy w' v.ownBlock → wpList Try.prog ops Q rest (a.put o.dst v') w') : wpList Try.prog ops Q (o :: rest) a wr := by
  obtain ⟨i, hi, hz, hsize, hby⟩ := info_parts infoTx
  cases ao with
  | none =>
    obtain rfl := hn rfl
    have hm : m = [] := by
      rcases hR.cell with e | ⟨g, off, e, _⟩
      · exact e
      · cases e
    subst hm
    refine wpList_append_own_none hgd s x 23 ho B 9 i 1 Try.underlying23 hi v l.length (l.map tV) hs h hx ?_
    refine k v wr (by rw [List.append_nil]; exact h) ⟨rfl, rfl, rfl, Nat.le_refl _, fun _ _ _ => rfl⟩
  | some ad =>
    refine wpList_append_own_wide _ hgd s x 23 ho B 9 i (.string ⟨#[]⟩) 1 16 Try.underlying23 hi hz hsize hby rfl (by decide) v l.length (l.map tV) hs h ad m.length cap (m.map tV) hx (by simp) ?_ (by intro u hu; obtain ⟨y, _, rfl⟩ := List.mem_map.1 hu; rfl) (by unfold maxLen; omega) (by omega) hB ?_
    · intro j u hu
      rw [List.getElem?_map, Option.map_eq_some_iff] at hu
      obtain ⟨y, hy, rfl⟩ := hu
      have hj := (List.getElem?_eq_some_iff.1 hy).1
      rcases hR.cell with e | ⟨g, off, e, _, hc⟩
      · subst e; simp at hj
      · cases e
        rw [Addr.add_lit, hc j hj, List.getD_eq_getElem?_getD, hy]
        rfl
    · intro v' w' h2 h3 _
      refine k v' w' ?_ h3
      unfold OT
      rw [List.length_append, List.map_append]
      exact h2

/-- A policy; claims, with the values of their lists. -/
def plV (a : Value) (iss : ByteArray) (hi : Bool) (aud : ByteArray) (ha : Bool) (ty : List UInt8) (wt : Bool) (lee : Int) (need : Value) : Value := .agg #[a, .string iss, .bool hi, .string aud, .bool ha, .string ⟨ty.toArray⟩, .bool wt, .int .i64 lee, need]
def clV (va aa : Value) (c : Cm) : Value := .agg #[va, .string ⟨c.iss.toArray⟩, .bool c.hIss, .string ⟨c.sub.toArray⟩, .bool c.hSub, aa, .bool c.hAud, .string ⟨c.jti.toArray⟩, .bool c.hJti, .bool c.exp.has, .int .i64 c.exp.at_, .bool c.nbf.has, .int .i64 c.nbf.at_, .bool c.iat.has, .int .i64 c.iat.at_]
def clC (va aa : Value) (c : Cm) : List Value := [va, .string ⟨c.iss.toArray⟩, .bool c.hIss, .string ⟨c.sub.toArray⟩, .bool c.hSub, aa, .bool c.hAud, .string ⟨c.jti.toArray⟩, .bool c.hJti, .bool c.exp.has, .int .i64 c.exp.at_, .bool c.nbf.has, .int .i64 c.nbf.at_, .bool c.iat.has, .int .i64 c.iat.at_]

end Go.Proofs.Ytjaopeenkbcjcaa

namespace Go.Proofs.Ytjaopeenkbcjcaa
open Go.RowKit

set_option maxRecDepth 100000 in
set_option maxHeartbeats 4000000 in
theorem allowed_any (l : Int) (w : World) : Calls Try.prog 11 #[.int .i64 l] w fun e w' => e = .returned (.bool (decide (0 ≤ l ∧ l ≤ 600))) ∧ w' = w := by
  by_cases h0 : 0 ≤ l
  · have q0 : decide (0 ≤ l) = true := decide_eq_true h0
    by_cases h6 : l ≤ 600
    · have q6 : decide (l ≤ 600) = true := decide_eq_true h6
      have HF : Hid (decide (0 ≤ l ∧ l ≤ 600) = true) := decide_eq_true ⟨h0, h6⟩
      clear h0 h6
      go_enter Try.func11, Try.ntmps11
      go_wp2
      go_ret
      rw [HF.out]
      exact ⟨rfl, rfl⟩
    · have q6 : decide (l ≤ 600) = false := decide_eq_false h6
      have HF : Hid (decide (0 ≤ l ∧ l ≤ 600) = false) := decide_eq_false (fun h => h6 h.2)
      clear h0 h6
      go_enter Try.func11, Try.ntmps11
      go_wp2
      go_ret
      rw [HF.out]
      exact ⟨rfl, rfl⟩
  · have q0 : decide (0 ≤ l) = false := decide_eq_false h0
    have HF : Hid (decide (0 ≤ l ∧ l ≤ 600) = false) := decide_eq_false (fun h => h0 h.1)
    clear h0
    go_enter Try.func11, Try.ntmps11
    go_wp2
    go_ret
    rw [HF.out]
    exact ⟨rfl, rfl⟩

set_option maxRecDepth 100000 in
set_option maxHeartbeats 4000000 in
theorem firstAt_any (t : Tm) (l : Int) (w : World) (ht : I64 t.at_) (h0 : 0 ≤ l) (h6 : l ≤ 600) : Calls Try.prog 13 #[.agg #[.bool t.has, .int .i64 t.at_], .int .i64 l] w fun e w' => e = .returned (.int .i64 (fstF t l)) ∧ Below w.heap.size w w' := by
  obtain ⟨has, a⟩ := t
  dsimp only
  have ha : -9223372036854775808 ≤ a ∧ a ≤ 9223372036854775807 := ht
  obtain ⟨ha1, ha2⟩ := ha
  clear ht
  obtain ⟨W, hW⟩ : ∃ W : World, w.alloc (.cells #[.bool has, .int .i64 a] 25) = W := ⟨_, rfl⟩
  have hB : Below w.heap.size w W := by rw [← hW]; exact alloc_below _ _
  have hbl : Bl 25 W w.heap.size [.bool has, .int .i64 a] := by rw [← hW]; exact alloc_bl _ _ _
  have c0 : W.cell? ⟨w.heap.size, 0, none⟩ = some (.bool has) := hbl.cell 0 (by simp)
  have c1 : W.cell? ⟨w.heap.size, 1, none⟩ = some (.int .i64 a) := hbl.cell 1 (by simp)
  have HB : Hid (Below w.heap.size w W) := hB
  clear hB hbl
  cases has
  · have HF : Hid (fstF ⟨false, a⟩ l = -9223372036854775808) := by show _ = _; unfold fstF; exact if_pos (Or.inl rfl)
    go_enter Try.func13, Try.ntmps13
    go_wp2
    go_ret
    rw [HF.out]
    exact ⟨rfl, HB.out⟩
  · by_cases hx : a < -9223372036854775808 + l
    · have HF : Hid (fstF ⟨true, a⟩ l = -9223372036854775808) := by show _ = _; unfold fstF; exact if_pos (Or.inr hx)
      have qx : decide (a < -9223372036854775808 + l) = true := decide_eq_true hx
      go_enter Try.func13, Try.ntmps13
      go_wp2
      go_ret
      rw [HF.out]
      exact ⟨rfl, HB.out⟩
    · have HF : Hid (fstF ⟨true, a⟩ l = a - l) := by show _ = _; unfold fstF; exact if_neg (fun h => h.elim (fun h => by cases h) hx)
      have qx : decide (a < -9223372036854775808 + l) = false := decide_eq_false hx
      go_enter Try.func13, Try.ntmps13
      go_wp2
      go_ret
      rw [HF.out]
      exact ⟨rfl, HB.out⟩

/-- What lastAhead answers. -/
def laV (o : Option Int) : Value := match o with
  | none => .tuple #[.int .i64 0, .bool false]
  | some x => .tuple #[.int .i64 x, .bool true]
set_option maxRecDepth 100000 in
set_option maxHeartbeats 4000000 in
theorem lastAhead_any (t : Tm) (l : Int) (w : World) (ht : I64 t.at_) (h0 : 0 ≤ l) (h6 : l ≤ 600) : Calls Try.prog 12 #[.agg #[.bool t.has, .int .i64 t.at_], .int .i64 l] w fun e w' => e = .returned (laV (lstF t l)) ∧ Below w.heap.size w w' := by
  obtain ⟨has, a⟩ := t
  dsimp only
  have ha : -9223372036854775808 ≤ a ∧ a ≤ 9223372036854775807 := ht
  obtain ⟨ha1, ha2⟩ := ha
  clear ht
  obtain ⟨W, hW⟩ : ∃ W : World, w.alloc (.cells #[.bool has, .int .i64 a] 25) = W := ⟨_, rfl⟩
  have hB : Below w.heap.size w W := by rw [← hW]; exact alloc_below _ _
  have hbl : Bl 25 W w.heap.size [.bool has, .int .i64 a] := by rw [← hW]; exact alloc_bl _ _ _
  have c0 : W.cell? ⟨w.heap.size, 0, none⟩ = some (.bool has) := hbl.cell 0 (by simp)
  have c1 : W.cell? ⟨w.heap.size, 1, none⟩ = some (.int .i64 a) := hbl.cell 1 (by simp)
  have HB : Hid (Below w.heap.size w W) := hB
  clear hB hbl
  cases has
  · have HF : Hid (lstF ⟨false, a⟩ l = some 9223372036854775807) := by show _ = _; unfold lstF; exact if_pos (Or.inl rfl)
    go_enter Try.func12, Try.ntmps12
    go_wp2
    go_ret2
    rw [HF.out]
    exact ⟨rfl, HB.out⟩
  · by_cases hx : 9223372036854775807 - l < a
    · have HF : Hid (lstF ⟨true, a⟩ l = some 9223372036854775807) := by show _ = _; unfold lstF; exact if_pos (Or.inr hx)
      have qx : decide (a > 9223372036854775807 - l) = true := decide_eq_true hx
      go_enter Try.func12, Try.ntmps12
      go_wp2
      go_ret2
      rw [HF.out]
      exact ⟨rfl, HB.out⟩
    · have qx : decide (a > 9223372036854775807 - l) = false := decide_eq_false hx
      by_cases hz : a + l = -9223372036854775808
      · have HF : Hid (lstF ⟨true, a⟩ l = none) := by show _ = _; unfold lstF; rw [if_neg (fun h => h.elim (fun h => by cases h) hx)]; exact if_pos hz
        have qz : (a + l == -9223372036854775808) = true := by simpa using hz
        clear hz
        go_enter Try.func12, Try.ntmps12
        go_wp2
        go_ret2
        rw [HF.out]
        exact ⟨rfl, HB.out⟩
      · have HF : Hid (lstF ⟨true, a⟩ l = some (a + l - 1)) := by show _ = _; unfold lstF; rw [if_neg (fun h => h.elim (fun h => by cases h) hx)]; exact if_neg hz
        have qz : (a + l == -9223372036854775808) = false := by simpa using hz
        go_enter Try.func12, Try.ntmps12
        go_wp2
        go_ret2
        rw [HF.out]
        exact ⟨rfl, HB.out⟩

end Go.Proofs.Ytjaopeenkbcjcaa

namespace Go.Proofs.Ytjaopeenkbcjcaa
open Go.RowKit

/-- The cells of claims. -/
def clC9 (x0 x1 x2 x3 x4 x5 x6 x7 x8 : Value) (e n i : Tm) : List Value := [x0, x1, x2, x3, x4, x5, x6, x7, x8, .bool e.has, .int .i64 e.at_, .bool n.has, .int .i64 n.at_, .bool i.has, .int .i64 i.at_]
theorem clock_out {e n i : Tm} {l now : Int} (h : ¬ (0 ≤ l ∧ l ≤ 600)) : clockF e n i l now = 12 := by unfold clockF; exact if_pos (by omega)
theorem open_out {e n i : Tm} {l : Int} (h : ¬ (0 ≤ l ∧ l ≤ 600)) : openF e n i l = (⟨false, 0, 0⟩, 12) := by unfold openF; exact if_pos (by omega)
theorem open_none {e n i : Tm} {l : Int} (h : 0 ≤ l ∧ l ≤ 600) (hx : lstF e l = none) : openF e n i l = (⟨true, 0, 0⟩, 0) := by unfold openF; rw [if_neg (by omega), hx]
theorem open_some {e n i : Tm} {l x : Int} (h : 0 ≤ l ∧ l ≤ 600) (hx : lstF e l = some x) : openF e n i l = if x < max (fstF n l) (fstF i l) then (⟨true, 0, 0⟩, 0) else (⟨false, max (fstF n l) (fstF i l), x⟩, 0) := by unfold openF; rw [if_neg (by omega), hx]

set_option maxRecDepth 100000 in
set_option maxHeartbeats 8000000 in
theorem clock_any (x0 x1 x2 x3 x4 x5 x6 x7 x8 : Value) (e n i : Tm) (l now : Int) (w : World) (he : I64 e.at_) (hn : I64 n.at_) (hi : I64 i.at_) (hw : I64 now) :
    Calls Try.prog 5 #[clW x0 x1 x2 x3 x4 x5 x6 x7 x8 e n i, .int .i64 l, .int .i64 now] w fun r w' => r = .returned (.int .i64 (clockF e n i l now : Nat)) ∧ Below w.heap.size w w' := by
  unfold clW
  obtain ⟨W, hW⟩ : ∃ W : World, w.alloc (.cells (clC9 x0 x1 x2 x3 x4 x5 x6 x7 x8 e n i).toArray 27) = W := ⟨_, rfl⟩
  have hB : Below w.heap.size w W := by rw [← hW]; exact alloc_below _ _
  have hbl : Bl 27 W w.heap.size (clC9 x0 x1 x2 x3 x4 x5 x6 x7 x8 e n i) := by rw [← hW]; exact alloc_bl _ _ _
  have HC : Hid (∀ wq, Below W.heap.size W wq → wq.cell? ⟨w.heap.size, 9, none⟩ = some (.bool e.has) ∧ wq.cell? ⟨w.heap.size, 10, none⟩ = some (.int .i64 e.at_) ∧ wq.cell? ⟨w.heap.size, 11, none⟩ = some (.bool n.has) ∧ wq.cell? ⟨w.heap.size, 12, none⟩ = some (.int .i64 n.at_) ∧ wq.cell? ⟨w.heap.size, 13, none⟩ = some (.bool i.has) ∧ wq.cell? ⟨w.heap.size, 14, none⟩ = some (.int .i64 i.at_)) := fun wq hq => by
    have hb := hbl.below hq hbl.lt
    exact ⟨hb.cell 9 (by simp [clC9]), hb.cell 10 (by simp [clC9]), hb.cell 11 (by simp [clC9]), hb.cell 12 (by simp [clC9]), hb.cell 13 (by simp [clC9]), hb.cell 14 (by simp [clC9])⟩
  have HB : Hid (Below w.heap.size w W) := hB
  have CA := allowed_any l W
  by_cases hl : 0 ≤ l ∧ l ≤ 600
  · have HF : Hid (clockF e n i l now = _) := clock_way he hn hi hw hl.1 hl.2
    have C1 : ∀ wq, Calls Try.prog 12 #[.agg #[.bool e.has, .int .i64 e.at_], .int .i64 l] wq fun r w' => r = .returned (laV (lstF e l)) ∧ Below wq.heap.size wq w' := fun wq => lastAhead_any e l wq he hl.1 hl.2
    have C2 : ∀ wq, Calls Try.prog 13 #[.agg #[.bool n.has, .int .i64 n.at_], .int .i64 l] wq fun r w' => r = .returned (.int .i64 (fstF n l)) ∧ Below wq.heap.size wq w' := fun wq => firstAt_any n l wq hn hl.1 hl.2
    have C3 : ∀ wq, Calls Try.prog 13 #[.agg #[.bool i.has, .int .i64 i.at_], .int .i64 l] wq fun r w' => r = .returned (.int .i64 (fstF i l)) ∧ Below wq.heap.size wq w' := fun wq => firstAt_any i l wq hi hl.1 hl.2
    rw [decide_eq_true hl] at CA
    have HC1 : Hid _ := C1
    have HC2 : Hid _ := C2
    have HC3 : Hid _ := C3
    obtain ⟨o, ho⟩ : ∃ o, lstF e l = o := ⟨_, rfl⟩
    obtain ⟨fn, hfn⟩ : ∃ x, fstF n l = x := ⟨_, rfl⟩
    obtain ⟨fi, hfi⟩ : ∃ x, fstF i l = x := ⟨_, rfl⟩
    rw [ho, hfn, hfi] at HF
    rw [ho] at HC1
    rw [hfn] at HC2
    rw [hfi] at HC3
    clear hB hbl C1 C2 C3 he hn hi hw hl ho hfn hfi
    go_enter Try.func5, Try.ntmps5
    go_wp2_with fail
    rw [show w.alloc (Obj.cells #[x0, x1, x2, x3, x4, x5, x6, x7, x8, .bool e.has, .int .i64 e.at_, .bool n.has, .int .i64 n.at_, .bool i.has, .int .i64 i.at_] 27) = W from hW]
    clear hW
    refine CA.mono ?_
    clear CA
    rintro r w1 ⟨rfl, rfl⟩
    obtain ⟨k9, k10, k11, k12, k13, k14⟩ := HC.out w1 (Below.refl _ _)
    have C1 := HC1.out w1
    clear HC1
    go_wp2_with fail
    refine C1.mono ?_
    clear C1 k9 k10 k11 k12 k13 k14
    rintro r w2 ⟨rfl, hB2⟩
    have HB2 : Hid (Below w1.heap.size w1 w2) := hB2
    have HBw : Hid (Below w.heap.size w w2) := HB.out.trans (hB2.mono HB.out.size)
    clear hB2 HB
    obtain ⟨k9, k10, k11, k12, k13, k14⟩ := HC.out w2 HB2.out
    cases o with
    | none =>
      unfold laV
      go_wp2
      go_ret
      rw [HF.out]
      exact ⟨rfl, HBw.out⟩
    | some x =>
      unfold laV
      by_cases hx : x < now
      · have qx : decide (now > x) = true := decide_eq_true hx
        have HF2 : Hid (clockF e n i l now = 134) := by show _ = _; rw [HF.out]; exact if_pos hx
        clear HF
        go_wp2
        go_ret
        rw [HF2.out]
        exact ⟨rfl, HBw.out⟩
      · have qx : decide (now > x) = false := decide_eq_false hx
        have HF2 : Hid (clockF e n i l now = if now < fn then 135 else if now < fi then 136 else 0) := by show _ = _; rw [HF.out]; exact if_neg hx
        have C2 := HC2.out w2
        clear HF HC2
        go_wp2_with fail
        refine C2.mono ?_
        clear C2 k9 k10 k11 k12 k13 k14
        rintro r w3 ⟨rfl, hB3⟩
        have HB3 : Hid (Below w1.heap.size w1 w3) := HB2.out.trans (hB3.mono HB2.out.size)
        have HBv : Hid (Below w.heap.size w w3) := HBw.out.trans (hB3.mono HBw.out.size)
        clear hB3 HB2 HBw
        obtain ⟨k9, k10, k11, k12, k13, k14⟩ := HC.out w3 HB3.out
        by_cases hn : now < fn
        · have qn : decide (now < fn) = true := decide_eq_true hn
          have HF3 : Hid (clockF e n i l now = 135) := by show _ = _; rw [HF2.out]; exact if_pos hn
          clear HF2
          go_wp2
          go_ret
          rw [HF3.out]
          exact ⟨rfl, HBv.out⟩
        · have qn : decide (now < fn) = false := decide_eq_false hn
          have HF3 : Hid (clockF e n i l now = if now < fi then 136 else 0) := by show _ = _; rw [HF2.out]; exact if_neg hn
          have C3 := HC3.out w3
          clear HF2 HC3
          go_wp2_with fail
          refine C3.mono ?_
          clear C3 k9 k10 k11 k12 k13 k14
          rintro r w4 ⟨rfl, hB4⟩
          have HBu : Hid (Below w.heap.size w w4) := HBv.out.trans (hB4.mono HBv.out.size)
          clear hB4 HBv HB3
          by_cases hi : now < fi
          · have qi : decide (now < fi) = true := decide_eq_true hi
            have HF4 : Hid (clockF e n i l now = 136) := by show _ = _; rw [HF3.out]; exact if_pos hi
            clear HF3
            go_wp2
            go_ret
            rw [HF4.out]
            exact ⟨rfl, HBu.out⟩
          · have qi : decide (now < fi) = false := decide_eq_false hi
            have HF4 : Hid (clockF e n i l now = 0) := by show _ = _; rw [HF3.out]; exact if_neg hi
            clear HF3
            go_wp2
            go_ret
            rw [HF4.out]
            exact ⟨rfl, HBu.out⟩
  · have HF : Hid (clockF e n i l now = 12) := clock_out hl
    rw [decide_eq_false hl] at CA
    clear hB hbl HC hl he hn hi hw
    go_enter Try.func5, Try.ntmps5
    go_wp2_with fail
    rw [show w.alloc (Obj.cells #[x0, x1, x2, x3, x4, x5, x6, x7, x8, .bool e.has, .int .i64 e.at_, .bool n.has, .int .i64 n.at_, .bool i.has, .int .i64 i.at_] 27) = W from hW]
    clear hW
    refine CA.mono ?_
    clear CA
    rintro r w1 ⟨rfl, rfl⟩
    go_wp2
    go_ret
    rw [HF.out]
    exact ⟨rfl, HB.out⟩

end Go.Proofs.Ytjaopeenkbcjcaa

namespace Go.Proofs.Ytjaopeenkbcjcaa
open Go.RowKit

theorem set_bl2 {t : TypeId} {w : World} {b : Nat} {old new : List Value} (h : Bl t w b old) : Bl t (w.setRow b new.toArray) b new := setRow_heap _ _ _ _ _ _ h
theorem setRow_below2 {w0 w : World} {n b : Nat} (new : Array Value) (h : Below n w0 w) (hb : n ≤ b) : Below n w0 (w.setRow b new) := ⟨h.os, h.tape, h.output, by simpa [World.setRow] using h.size, fun k hk => (setRow_other w b k _ (by omega)).trans (h.block k hk)⟩
def wnC (x : Wn) : List Value := [.bool x.empty, .int .i64 x.fr, .int .i64 x.en]
theorem results_wn {fn : Func} {u p : Tmp} (h : fn.results = #[.cell p 32, .tmp u]) (tmps : Array Value) (w : World) (b : Nat) (x : Wn) (y : Value) (hu : tmps.getD u undef = y) (hp : tmps.getD p undef = .pointer (some ⟨b, 0, none⟩)) (hb : Bl 32 w b (wnC x)) :
    (results fn tmps).run Try.prog w = .ok (.tuple #[wnV x, y]) w := by
  have hr : (loadVar 32 ⟨b, 0, none⟩).run Try.prog w = .ok (wnV x) w := by
    refine run_loadVar_mid w b 0 32 (wnC x) _ ?_ Try.underlying32 rfl (by kernel_rfl)
    intro j v hv
    obtain ⟨hj, e⟩ := List.getElem?_eq_some_iff.1 hv
    rw [Nat.zero_add, ← e]
    exact hb.cell j hj
  have hr2 : (results fn tmps).run Try.prog w = ((asAddr (tmps.getD p undef)).run Try.prog w).andThen fun a w₁ => ((loadVar 32 a).run Try.prog w₁).andThen fun v w₂ => .ok (.tuple #[v, tmps.getD u undef]) w₂ := by
    simp only [results, h]
    simp [Sem.run_bind, Result.andThen]
  rw [hr2, hp]
  unfold asAddr
  simp only [Sem.run_pure, Result.andThen_ok]
  rw [hr, hu]
  rfl

set_option maxRecDepth 100000 in
set_option maxHeartbeats 8000000 in
theorem open_any (x0 x1 x2 x3 x4 x5 x6 x7 x8 : Value) (e n i : Tm) (l : Int) (w : World) (he : I64 e.at_) (hn : I64 n.at_) (hi : I64 i.at_) :
    Calls Try.prog 6 #[clW x0 x1 x2 x3 x4 x5 x6 x7 x8 e n i, .int .i64 l] w fun r w' => r = .returned (.tuple #[wnV (openF e n i l).1, .int .i64 ((openF e n i l).2 : Nat)]) ∧ Below w.heap.size w w' := by
  unfold clW
  obtain ⟨V, hV⟩ : ∃ V : World, w.alloc (.cells (clC9 x0 x1 x2 x3 x4 x5 x6 x7 x8 e n i).toArray 27) = V := ⟨_, rfl⟩
  have hBV : Below w.heap.size w V := by rw [← hV]; exact alloc_below _ _
  have hbl : Bl 27 V w.heap.size (clC9 x0 x1 x2 x3 x4 x5 x6 x7 x8 e n i) := by rw [← hV]; exact alloc_bl _ _ _
  obtain ⟨W, hW⟩ : ∃ W : World, V.alloc (.cells (wnC ⟨false, 0, 0⟩).toArray 32) = W := ⟨_, rfl⟩
  have hBW : Below V.heap.size V W := by rw [← hW]; exact alloc_below _ _
  have HBox : Hid (Bl 32 W V.heap.size (wnC ⟨false, 0, 0⟩)) := by rw [← hW]; exact alloc_bl _ _ _
  have HbW : Hid (w.heap.size ≤ V.heap.size) := Nat.le_of_lt hbl.lt
  have hB : Below w.heap.size w W := hBV.trans (hBW.mono HbW.out)
  replace hbl : Bl 27 W w.heap.size (clC9 x0 x1 x2 x3 x4 x5 x6 x7 x8 e n i) := hbl.below hBW hbl.lt
  have hsv : V.heap.size = w.heap.size + 1 := by rw [← hV]; exact alloc_size _ _
  rw [show V = w.alloc (.cells #[x0, x1, x2, x3, x4, x5, x6, x7, x8, .bool e.has, .int .i64 e.at_, .bool n.has, .int .i64 n.at_, .bool i.has, .int .i64 i.at_] 27) from hV.symm] at hW
  rw [hsv] at HBox HbW
  obtain ⟨bw, hbw⟩ : ∃ b, w.heap.size + 1 = b := ⟨_, rfl⟩
  have HBW : Hid (w.heap.size + 1 = bw) := hbw
  rw [hbw] at HBox HbW
  clear hV hBV hBW hsv hbw V
  have HC : Hid (∀ wq, Below W.heap.size W wq → wq.cell? ⟨w.heap.size, 9, none⟩ = some (.bool e.has) ∧ wq.cell? ⟨w.heap.size, 10, none⟩ = some (.int .i64 e.at_) ∧ wq.cell? ⟨w.heap.size, 11, none⟩ = some (.bool n.has) ∧ wq.cell? ⟨w.heap.size, 12, none⟩ = some (.int .i64 n.at_) ∧ wq.cell? ⟨w.heap.size, 13, none⟩ = some (.bool i.has) ∧ wq.cell? ⟨w.heap.size, 14, none⟩ = some (.int .i64 i.at_)) := fun wq hq => by
    have hb := hbl.below hq hbl.lt
    exact ⟨hb.cell 9 (by simp [clC9]), hb.cell 10 (by simp [clC9]), hb.cell 11 (by simp [clC9]), hb.cell 12 (by simp [clC9]), hb.cell 13 (by simp [clC9]), hb.cell 14 (by simp [clC9])⟩
  have HB : Hid (Below w.heap.size w W) := hB
  have HSS : Hid (∀ wq, Below W.heap.size W wq → (fun (w' : World) => w'.cell? ⟨w.heap.size, 11, none⟩ = some (.bool n.has) ∧ w'.cell? ⟨w.heap.size, 12, none⟩ = some (.int .i64 n.at_) ∧ w'.cell? ⟨w.heap.size, 13, none⟩ = some (.bool i.has) ∧ w'.cell? ⟨w.heap.size, 14, none⟩ = some (.int .i64 i.at_)) wq) := fun wq hq => ⟨(HC.out wq hq).2.2.1, (HC.out wq hq).2.2.2.1, (HC.out wq hq).2.2.2.2.1, (HC.out wq hq).2.2.2.2.2⟩
  have HBq : Hid (∀ wq, Below W.heap.size W wq → Bl 32 wq bw (wnC ⟨false, 0, 0⟩)) := fun wq hq => HBox.out.below hq HBox.out.lt
  have CA := allowed_any l W
  by_cases hl : 0 ≤ l ∧ l ≤ 600
  · have C1 : ∀ wq, Calls Try.prog 12 #[.agg #[.bool e.has, .int .i64 e.at_], .int .i64 l] wq fun r w' => r = .returned (laV (lstF e l)) ∧ Below wq.heap.size wq w' := fun wq => lastAhead_any e l wq he hl.1 hl.2
    have C2 : ∀ wq, Calls Try.prog 13 #[.agg #[.bool n.has, .int .i64 n.at_], .int .i64 l] wq fun r w' => r = .returned (.int .i64 (fstF n l)) ∧ Below wq.heap.size wq w' := fun wq => firstAt_any n l wq hn hl.1 hl.2
    have C3 : ∀ wq, Calls Try.prog 13 #[.agg #[.bool i.has, .int .i64 i.at_], .int .i64 l] wq fun r w' => r = .returned (.int .i64 (fstF i l)) ∧ Below wq.heap.size wq w' := fun wq => firstAt_any i l wq hi hl.1 hl.2
    rw [decide_eq_true hl] at CA
    have HN : Hid (lstF e l = none → openF e n i l = (⟨true, 0, 0⟩, 0)) := open_none hl
    have HO : Hid (∀ x, lstF e l = some x → openF e n i l = if x < max (fstF n l) (fstF i l) then (⟨true, 0, 0⟩, 0) else (⟨false, max (fstF n l) (fstF i l), x⟩, 0)) := fun x h => open_some hl h
    have HC1 : Hid _ := C1
    have HC2 : Hid _ := C2
    have HC3 : Hid _ := C3
    obtain ⟨o, ho⟩ : ∃ o, lstF e l = o := ⟨_, rfl⟩
    obtain ⟨fn, hfn⟩ : ∃ x, fstF n l = x := ⟨_, rfl⟩
    obtain ⟨fi, hfi⟩ : ∃ x, fstF i l = x := ⟨_, rfl⟩
    rw [ho] at HN HO
    rw [hfn, hfi] at HO
    rw [ho] at HC1
    rw [hfn] at HC2
    rw [hfi] at HC3
    clear hB hbl C1 C2 C3 he hn hi hl ho hfn hfi
    go_enter Try.func6, Try.ntmps6
    go_wp2_with fail
    rw [show (w.alloc (Obj.cells #[x0, x1, x2, x3, x4, x5, x6, x7, x8, .bool e.has, .int .i64 e.at_, .bool n.has, .int .i64 n.at_, .bool i.has, .int .i64 i.at_] 27)).alloc (Obj.cells #[.bool false, .int .i64 0, .int .i64 0] 32) = W from hW]
    clear hW
    rw [HBW.out]
    refine CA.mono ?_
    clear CA
    rintro r w1 ⟨rfl, rfl⟩
    rcases Int.lt_or_le fn fi with hm | hm
    · have hmx : max fn fi = fi := by omega
      have qm : decide (fn < fi) = true := decide_eq_true hm
      go_wp2
      refine wp_region_K 8 (fun (w' : World) => w'.cell? ⟨w.heap.size, 11, none⟩ = some (.bool n.has) ∧ w'.cell? ⟨w.heap.size, 12, none⟩ = some (.int .i64 n.at_) ∧ w'.cell? ⟨w.heap.size, 13, none⟩ = some (.bool i.has) ∧ w'.cell? ⟨w.heap.size, 14, none⟩ = some (.int .i64 i.at_)) (by kernel_rfl) ?_
      have hHeld : ((fun (w' : World) => w'.cell? ⟨w.heap.size, 11, none⟩ = some (.bool n.has) ∧ w'.cell? ⟨w.heap.size, 12, none⟩ = some (.int .i64 n.at_) ∧ w'.cell? ⟨w.heap.size, 13, none⟩ = some (.bool i.has) ∧ w'.cell? ⟨w.heap.size, 14, none⟩ = some (.int .i64 i.at_))) (World.drew _) := HSS.out _ (below_drewN (Below.refl _ _) 1)
      refine wpAnyK_take0 0 (v := ?v1) rfl (by kernel_rfl) (fun _ _ _ h => h) (Or.inl ⟨by rfl, ?hy1⟩) (fun _ => hHeld) ?_
      case hy1 => (intro w hSw; go_simp; try with_reducible rfl)
      try simp only [Act.put, List.setIfInBounds_toArray, List.set_cons_zero, List.set_cons_succ]
      refine wpAnyK_take 1 [3, 8] (v := ?v2) rfl (by kernel_rfl) (fun _ _ _ h => h) (Or.inl ⟨by rfl, ?hy2⟩) hHeld ?_
      case hy2 => (intro w hSw; (try dsimp only at hSw); go_simp; try with_reducible rfl)
      try simp only [Act.put, List.setIfInBounds_toArray, List.set_cons_zero, List.set_cons_succ]
      refine wpAnyK_take0 2 (v := ?v3) rfl (by kernel_rfl) (fun _ _ _ h => h) (Or.inl ⟨by rfl, ?hy3⟩) (fun _ => hHeld) ?_
      case hy3 => (intro w hSw; go_simp; try with_reducible rfl)
      try simp only [Act.put, List.setIfInBounds_toArray, List.set_cons_zero, List.set_cons_succ]
      refine wpAnyK_take0 4 (v := ?v4) rfl (by kernel_rfl) (fun _ _ _ h => h) (Or.inl ⟨by rfl, ?hy4⟩) (fun _ => hHeld) ?_
      case hy4 => (intro w hSw; go_simp; try with_reducible rfl)
      try simp only [Act.put, List.setIfInBounds_toArray, List.set_cons_zero, List.set_cons_succ]
      refine wpAnyK_take 5 [7, 8] (v := ?v5) rfl (by kernel_rfl) (fun _ _ _ h => h) (Or.inl ⟨by rfl, ?hy5⟩) hHeld ?_
      case hy5 => (intro w hSw; (try dsimp only at hSw); go_simp; try with_reducible rfl)
      try simp only [Act.put, List.setIfInBounds_toArray, List.set_cons_zero, List.set_cons_succ]
      refine wpAnyK_take0 6 (v := ?v6) rfl (by kernel_rfl) (fun _ _ _ h => h) (Or.inl ⟨by rfl, ?hy6⟩) (fun _ => hHeld) ?_
      case hy6 => (intro w hSw; go_simp; try with_reducible rfl)
      try simp only [Act.put, List.setIfInBounds_toArray, List.set_cons_zero, List.set_cons_succ]
      refine wpAnyK_step 3 rfl (by kernel_rfl) (fun K hK => ?_)
      go_simp
      refine (HC2.out _).mono ?_
      rintro r w2 ⟨rfl, hB2⟩
      have HB2 : Hid (Below w1.heap.size w1 w2) := (below_drewN (Below.refl _ _) 1).trans (hB2.mono (Nat.le_refl _))
      clear hB2
      dsimp only
      refine hK.out _ _ ?hk7 ?_
      case hk7 => exact fun _ => HSS.out _ HB2.out
      have hHeld : ((fun (w' : World) => w'.cell? ⟨w.heap.size, 11, none⟩ = some (.bool n.has) ∧ w'.cell? ⟨w.heap.size, 12, none⟩ = some (.int .i64 n.at_) ∧ w'.cell? ⟨w.heap.size, 13, none⟩ = some (.bool i.has) ∧ w'.cell? ⟨w.heap.size, 14, none⟩ = some (.int .i64 i.at_))) _ := HSS.out _ HB2.out
      clear hK K
      try simp only [Act.put, List.setIfInBounds_toArray, List.set_cons_zero, List.set_cons_succ]
      refine wpAnyK_step 7 rfl (by kernel_rfl) (fun K hK => ?_)
      go_simp
      refine (HC3.out _).mono ?_
      rintro r w3 ⟨rfl, hB3⟩
      have HB3 : Hid (Below w1.heap.size w1 w3) := HB2.out.trans (hB3.mono HB2.out.size)
      clear hB3
      dsimp only
      refine hK.out _ _ ?hk8 ?_
      case hk8 => exact fun _ => HSS.out _ HB3.out
      have hHeld : ((fun (w' : World) => w'.cell? ⟨w.heap.size, 11, none⟩ = some (.bool n.has) ∧ w'.cell? ⟨w.heap.size, 12, none⟩ = some (.int .i64 n.at_) ∧ w'.cell? ⟨w.heap.size, 13, none⟩ = some (.bool i.has) ∧ w'.cell? ⟨w.heap.size, 14, none⟩ = some (.int .i64 i.at_))) _ := HSS.out _ HB3.out
      clear hK K
      try simp only [Act.put, List.setIfInBounds_toArray, List.set_cons_zero, List.set_cons_succ]
      refine wpAnyK_step 8 rfl (by kernel_rfl) (fun K hK => ?_)
      go_simp
      refine hK.out _ _ ?hk9 ?_
      case hk9 => exact (fun h => nomatch (h.symm.trans (show _ = true by kernel_rfl)))
      clear hK K
      try simp only [Act.put, List.setIfInBounds_toArray, List.set_cons_zero, List.set_cons_succ]
      refine wpAnyK_take0 9 (v := ?v10) rfl (by kernel_rfl) (fun _ _ _ h => h) (Or.inl ⟨by rfl, ?hy10⟩) (fun h => nomatch (h.symm.trans (show _ = true by kernel_rfl))) ?_
      case hy10 => (intro w hSw; go_simp; try with_reducible rfl)
      try simp only [Act.put, List.setIfInBounds_toArray, List.set_cons_zero, List.set_cons_succ]
      refine wpAnyK_done (by kernel_rfl) ?_ _
      obtain ⟨k9, k10, k11, k12, k13, k14⟩ := HC.out w3 HB3.out
      have C1 := HC1.out w3
      clear HC1
      go_wp2_with fail
      refine C1.mono ?_
      clear C1 k9 k10 k11 k12 k13 k14
      rintro r w4 ⟨rfl, hB4⟩
      have HB4 : Hid (Below w1.heap.size w1 w4) := HB3.out.trans (hB4.mono HB3.out.size)
      have HBw : Hid (Below w.heap.size w w4) := HB.out.trans (HB4.out.mono HB.out.size)
      have HBox4 : Hid (Bl 32 w4 bw (wnC ⟨false, 0, 0⟩)) := HBq.out w4 HB4.out
      clear hB4
      cases o with
      | none =>
        have HX : Hid (openF e n i l = (⟨true, 0, 0⟩, 0)) := HN.out rfl
        unfold laV
        obtain ⟨wz, hwz⟩ : ∃ wz, w4.setRow bw (wnC ⟨true, 0, 0⟩).toArray = wz := ⟨_, rfl⟩
        have HBz : Hid (Bl 32 wz bw (wnC ⟨true, 0, 0⟩)) := by rw [← hwz]; exact set_bl2 HBox4.out
        have Hz : Hid (Below w.heap.size w wz) := by rw [← hwz]; exact setRow_below2 _ HBw.out HbW.out
        have HWz : Hid (w4.setRow bw (wnC ⟨true, 0, 0⟩).toArray = wz) := hwz
        clear hwz
        have hgi : (Try.prog.info? 32).map (·.size) = some 3 := by kernel_rfl
        go_wp2_with (refine wpList_store_row rfl 32 (.tmp 4) (.tmp 36) rfl bw (wnC ⟨true, 0, 0⟩).toArray rfl rfl 32 (wnC ⟨false, 0, 0⟩).toArray HBox4.out hgi rfl (by simp [wnC, Value.oneCell']) ?_; rw [HWz.out]; clear HWz hgi)
        (try simp only [Exit.inBlock, Exit.then])
        refine bodyPost_ret (v := .tuple #[wnV ⟨true, 0, 0⟩, .int .i64 0]) (results_wn rfl _ _ bw ⟨true, 0, 0⟩ _ rfl rfl HBz.out) rfl ⟨?_, Hz.out⟩
        rw [HX.out]; rfl

      | some x =>
        unfold laV
        by_cases hx : x < fi
        · have qx : decide (fi > x) = true := decide_eq_true hx
          have HX : Hid (openF e n i l = (⟨true, 0, 0⟩, 0)) := by show _ = _; rw [HO.out x rfl, hmx]; exact if_pos hx
          obtain ⟨wz, hwz⟩ : ∃ wz, w4.setRow bw (wnC ⟨true, 0, 0⟩).toArray = wz := ⟨_, rfl⟩
          have HBz : Hid (Bl 32 wz bw (wnC ⟨true, 0, 0⟩)) := by rw [← hwz]; exact set_bl2 HBox4.out
          have Hz : Hid (Below w.heap.size w wz) := by rw [← hwz]; exact setRow_below2 _ HBw.out HbW.out
          have HWz : Hid (w4.setRow bw (wnC ⟨true, 0, 0⟩).toArray = wz) := hwz
          clear hwz
          have hgi : (Try.prog.info? 32).map (·.size) = some 3 := by kernel_rfl
          go_wp2_with (refine wpList_store_row rfl 32 (.tmp 4) (.tmp 36) rfl bw (wnC ⟨true, 0, 0⟩).toArray rfl rfl 32 (wnC ⟨false, 0, 0⟩).toArray HBox4.out hgi rfl (by simp [wnC, Value.oneCell']) ?_; rw [HWz.out]; clear HWz hgi)
          (try simp only [Exit.inBlock, Exit.then])
          refine bodyPost_ret (v := .tuple #[wnV ⟨true, 0, 0⟩, .int .i64 0]) (results_wn rfl _ _ bw ⟨true, 0, 0⟩ _ rfl rfl HBz.out) rfl ⟨?_, Hz.out⟩
          rw [HX.out]; rfl

        · have qx : decide (fi > x) = false := decide_eq_false hx
          have HX : Hid (openF e n i l = (⟨false, fi, x⟩, 0)) := by show _ = _; rw [HO.out x rfl, hmx]; exact if_neg hx
          obtain ⟨wz, hwz⟩ : ∃ wz, w4.setRow bw (wnC ⟨false, fi, x⟩).toArray = wz := ⟨_, rfl⟩
          have HBz : Hid (Bl 32 wz bw (wnC ⟨false, fi, x⟩)) := by rw [← hwz]; exact set_bl2 HBox4.out
          have Hz : Hid (Below w.heap.size w wz) := by rw [← hwz]; exact setRow_below2 _ HBw.out HbW.out
          have HWz : Hid (w4.setRow bw (wnC ⟨false, fi, x⟩).toArray = wz) := hwz
          clear hwz
          have hgi : (Try.prog.info? 32).map (·.size) = some 3 := by kernel_rfl
          go_wp2_with (refine wpList_store_row rfl 32 (.tmp 4) (.tmp 39) rfl bw (wnC ⟨false, fi, x⟩).toArray rfl rfl 32 (wnC ⟨false, 0, 0⟩).toArray HBox4.out hgi rfl (by simp [wnC, Value.oneCell']) ?_; rw [HWz.out]; clear HWz hgi)
          (try simp only [Exit.inBlock, Exit.then])
          refine bodyPost_ret (v := .tuple #[wnV ⟨false, fi, x⟩, .int .i64 0]) (results_wn rfl _ _ bw ⟨false, fi, x⟩ _ rfl rfl HBz.out) rfl ⟨?_, Hz.out⟩
          rw [HX.out]; rfl

    · have hmx : max fn fi = fn := by omega
      have qm : decide (fn < fi) = false := decide_eq_false (by omega)
      go_wp2
      refine wp_region_K 8 (fun (w' : World) => w'.cell? ⟨w.heap.size, 11, none⟩ = some (.bool n.has) ∧ w'.cell? ⟨w.heap.size, 12, none⟩ = some (.int .i64 n.at_) ∧ w'.cell? ⟨w.heap.size, 13, none⟩ = some (.bool i.has) ∧ w'.cell? ⟨w.heap.size, 14, none⟩ = some (.int .i64 i.at_)) (by kernel_rfl) ?_
      have hHeld : ((fun (w' : World) => w'.cell? ⟨w.heap.size, 11, none⟩ = some (.bool n.has) ∧ w'.cell? ⟨w.heap.size, 12, none⟩ = some (.int .i64 n.at_) ∧ w'.cell? ⟨w.heap.size, 13, none⟩ = some (.bool i.has) ∧ w'.cell? ⟨w.heap.size, 14, none⟩ = some (.int .i64 i.at_))) (World.drew _) := HSS.out _ (below_drewN (Below.refl _ _) 1)
      refine wpAnyK_take0 0 (v := ?v11) rfl (by kernel_rfl) (fun _ _ _ h => h) (Or.inl ⟨by rfl, ?hy11⟩) (fun _ => hHeld) ?_
      case hy11 => (intro w hSw; go_simp; try with_reducible rfl)
      try simp only [Act.put, List.setIfInBounds_toArray, List.set_cons_zero, List.set_cons_succ]
      refine wpAnyK_take 1 [3, 8] (v := ?v12) rfl (by kernel_rfl) (fun _ _ _ h => h) (Or.inl ⟨by rfl, ?hy12⟩) hHeld ?_
      case hy12 => (intro w hSw; (try dsimp only at hSw); go_simp; try with_reducible rfl)
      try simp only [Act.put, List.setIfInBounds_toArray, List.set_cons_zero, List.set_cons_succ]
      refine wpAnyK_take0 2 (v := ?v13) rfl (by kernel_rfl) (fun _ _ _ h => h) (Or.inl ⟨by rfl, ?hy13⟩) (fun _ => hHeld) ?_
      case hy13 => (intro w hSw; go_simp; try with_reducible rfl)
      try simp only [Act.put, List.setIfInBounds_toArray, List.set_cons_zero, List.set_cons_succ]
      refine wpAnyK_take0 4 (v := ?v14) rfl (by kernel_rfl) (fun _ _ _ h => h) (Or.inl ⟨by rfl, ?hy14⟩) (fun _ => hHeld) ?_
      case hy14 => (intro w hSw; go_simp; try with_reducible rfl)
      try simp only [Act.put, List.setIfInBounds_toArray, List.set_cons_zero, List.set_cons_succ]
      refine wpAnyK_take 5 [7, 8] (v := ?v15) rfl (by kernel_rfl) (fun _ _ _ h => h) (Or.inl ⟨by rfl, ?hy15⟩) hHeld ?_
      case hy15 => (intro w hSw; (try dsimp only at hSw); go_simp; try with_reducible rfl)
      try simp only [Act.put, List.setIfInBounds_toArray, List.set_cons_zero, List.set_cons_succ]
      refine wpAnyK_take0 6 (v := ?v16) rfl (by kernel_rfl) (fun _ _ _ h => h) (Or.inl ⟨by rfl, ?hy16⟩) (fun _ => hHeld) ?_
      case hy16 => (intro w hSw; go_simp; try with_reducible rfl)
      try simp only [Act.put, List.setIfInBounds_toArray, List.set_cons_zero, List.set_cons_succ]
      refine wpAnyK_step 3 rfl (by kernel_rfl) (fun K hK => ?_)
      go_simp
      refine (HC2.out _).mono ?_
      rintro r w2 ⟨rfl, hB2⟩
      have HB2 : Hid (Below w1.heap.size w1 w2) := (below_drewN (Below.refl _ _) 1).trans (hB2.mono (Nat.le_refl _))
      clear hB2
      dsimp only
      refine hK.out _ _ ?hk17 ?_
      case hk17 => exact fun _ => HSS.out _ HB2.out
      have hHeld : ((fun (w' : World) => w'.cell? ⟨w.heap.size, 11, none⟩ = some (.bool n.has) ∧ w'.cell? ⟨w.heap.size, 12, none⟩ = some (.int .i64 n.at_) ∧ w'.cell? ⟨w.heap.size, 13, none⟩ = some (.bool i.has) ∧ w'.cell? ⟨w.heap.size, 14, none⟩ = some (.int .i64 i.at_))) _ := HSS.out _ HB2.out
      clear hK K
      try simp only [Act.put, List.setIfInBounds_toArray, List.set_cons_zero, List.set_cons_succ]
      refine wpAnyK_step 7 rfl (by kernel_rfl) (fun K hK => ?_)
      go_simp
      refine (HC3.out _).mono ?_
      rintro r w3 ⟨rfl, hB3⟩
      have HB3 : Hid (Below w1.heap.size w1 w3) := HB2.out.trans (hB3.mono HB2.out.size)
      clear hB3
      dsimp only
      refine hK.out _ _ ?hk18 ?_
      case hk18 => exact fun _ => HSS.out _ HB3.out
      have hHeld : ((fun (w' : World) => w'.cell? ⟨w.heap.size, 11, none⟩ = some (.bool n.has) ∧ w'.cell? ⟨w.heap.size, 12, none⟩ = some (.int .i64 n.at_) ∧ w'.cell? ⟨w.heap.size, 13, none⟩ = some (.bool i.has) ∧ w'.cell? ⟨w.heap.size, 14, none⟩ = some (.int .i64 i.at_))) _ := HSS.out _ HB3.out
      clear hK K
      try simp only [Act.put, List.setIfInBounds_toArray, List.set_cons_zero, List.set_cons_succ]
      refine wpAnyK_step 8 rfl (by kernel_rfl) (fun K hK => ?_)
      go_simp
      refine hK.out _ _ ?hk19 ?_
      case hk19 => exact (fun h => nomatch (h.symm.trans (show _ = true by kernel_rfl)))
      clear hK K
      try simp only [Act.put, List.setIfInBounds_toArray, List.set_cons_zero, List.set_cons_succ]
      refine wpAnyK_take0 9 (v := ?v20) rfl (by kernel_rfl) (fun _ _ _ h => h) (Or.inl ⟨by rfl, ?hy20⟩) (fun h => nomatch (h.symm.trans (show _ = true by kernel_rfl))) ?_
      case hy20 => (intro w hSw; go_simp; try with_reducible rfl)
      try simp only [Act.put, List.setIfInBounds_toArray, List.set_cons_zero, List.set_cons_succ]
      refine wpAnyK_done (by kernel_rfl) ?_ _
      obtain ⟨k9, k10, k11, k12, k13, k14⟩ := HC.out w3 HB3.out
      have C1 := HC1.out w3
      clear HC1
      go_wp2_with fail
      refine C1.mono ?_
      clear C1 k9 k10 k11 k12 k13 k14
      rintro r w4 ⟨rfl, hB4⟩
      have HB4 : Hid (Below w1.heap.size w1 w4) := HB3.out.trans (hB4.mono HB3.out.size)
      have HBw : Hid (Below w.heap.size w w4) := HB.out.trans (HB4.out.mono HB.out.size)
      have HBox4 : Hid (Bl 32 w4 bw (wnC ⟨false, 0, 0⟩)) := HBq.out w4 HB4.out
      clear hB4
      cases o with
      | none =>
        have HX : Hid (openF e n i l = (⟨true, 0, 0⟩, 0)) := HN.out rfl
        unfold laV
        obtain ⟨wz, hwz⟩ : ∃ wz, w4.setRow bw (wnC ⟨true, 0, 0⟩).toArray = wz := ⟨_, rfl⟩
        have HBz : Hid (Bl 32 wz bw (wnC ⟨true, 0, 0⟩)) := by rw [← hwz]; exact set_bl2 HBox4.out
        have Hz : Hid (Below w.heap.size w wz) := by rw [← hwz]; exact setRow_below2 _ HBw.out HbW.out
        have HWz : Hid (w4.setRow bw (wnC ⟨true, 0, 0⟩).toArray = wz) := hwz
        clear hwz
        have hgi : (Try.prog.info? 32).map (·.size) = some 3 := by kernel_rfl
        go_wp2_with (refine wpList_store_row rfl 32 (.tmp 4) (.tmp 36) rfl bw (wnC ⟨true, 0, 0⟩).toArray rfl rfl 32 (wnC ⟨false, 0, 0⟩).toArray HBox4.out hgi rfl (by simp [wnC, Value.oneCell']) ?_; rw [HWz.out]; clear HWz hgi)
        (try simp only [Exit.inBlock, Exit.then])
        refine bodyPost_ret (v := .tuple #[wnV ⟨true, 0, 0⟩, .int .i64 0]) (results_wn rfl _ _ bw ⟨true, 0, 0⟩ _ rfl rfl HBz.out) rfl ⟨?_, Hz.out⟩
        rw [HX.out]; rfl

      | some x =>
        unfold laV
        by_cases hx : x < fn
        · have qx : decide (fn > x) = true := decide_eq_true hx
          have HX : Hid (openF e n i l = (⟨true, 0, 0⟩, 0)) := by show _ = _; rw [HO.out x rfl, hmx]; exact if_pos hx
          obtain ⟨wz, hwz⟩ : ∃ wz, w4.setRow bw (wnC ⟨true, 0, 0⟩).toArray = wz := ⟨_, rfl⟩
          have HBz : Hid (Bl 32 wz bw (wnC ⟨true, 0, 0⟩)) := by rw [← hwz]; exact set_bl2 HBox4.out
          have Hz : Hid (Below w.heap.size w wz) := by rw [← hwz]; exact setRow_below2 _ HBw.out HbW.out
          have HWz : Hid (w4.setRow bw (wnC ⟨true, 0, 0⟩).toArray = wz) := hwz
          clear hwz
          have hgi : (Try.prog.info? 32).map (·.size) = some 3 := by kernel_rfl
          go_wp2_with (refine wpList_store_row rfl 32 (.tmp 4) (.tmp 36) rfl bw (wnC ⟨true, 0, 0⟩).toArray rfl rfl 32 (wnC ⟨false, 0, 0⟩).toArray HBox4.out hgi rfl (by simp [wnC, Value.oneCell']) ?_; rw [HWz.out]; clear HWz hgi)
          (try simp only [Exit.inBlock, Exit.then])
          refine bodyPost_ret (v := .tuple #[wnV ⟨true, 0, 0⟩, .int .i64 0]) (results_wn rfl _ _ bw ⟨true, 0, 0⟩ _ rfl rfl HBz.out) rfl ⟨?_, Hz.out⟩
          rw [HX.out]; rfl

        · have qx : decide (fn > x) = false := decide_eq_false hx
          have HX : Hid (openF e n i l = (⟨false, fn, x⟩, 0)) := by show _ = _; rw [HO.out x rfl, hmx]; exact if_neg hx
          obtain ⟨wz, hwz⟩ : ∃ wz, w4.setRow bw (wnC ⟨false, fn, x⟩).toArray = wz := ⟨_, rfl⟩
          have HBz : Hid (Bl 32 wz bw (wnC ⟨false, fn, x⟩)) := by rw [← hwz]; exact set_bl2 HBox4.out
          have Hz : Hid (Below w.heap.size w wz) := by rw [← hwz]; exact setRow_below2 _ HBw.out HbW.out
          have HWz : Hid (w4.setRow bw (wnC ⟨false, fn, x⟩).toArray = wz) := hwz
          clear hwz
          have hgi : (Try.prog.info? 32).map (·.size) = some 3 := by kernel_rfl
          go_wp2_with (refine wpList_store_row rfl 32 (.tmp 4) (.tmp 39) rfl bw (wnC ⟨false, fn, x⟩).toArray rfl rfl 32 (wnC ⟨false, 0, 0⟩).toArray HBox4.out hgi rfl (by simp [wnC, Value.oneCell']) ?_; rw [HWz.out]; clear HWz hgi)
          (try simp only [Exit.inBlock, Exit.then])
          refine bodyPost_ret (v := .tuple #[wnV ⟨false, fn, x⟩, .int .i64 0]) (results_wn rfl _ _ bw ⟨false, fn, x⟩ _ rfl rfl HBz.out) rfl ⟨?_, Hz.out⟩
          rw [HX.out]; rfl

  · have HX : Hid (openF e n i l = (⟨false, 0, 0⟩, 12)) := open_out hl
    rw [decide_eq_false hl] at CA
    clear hB hbl HC hl he hn hi HSS HBq
    go_enter Try.func6, Try.ntmps6
    go_wp2_with fail
    rw [show (w.alloc (Obj.cells #[x0, x1, x2, x3, x4, x5, x6, x7, x8, .bool e.has, .int .i64 e.at_, .bool n.has, .int .i64 n.at_, .bool i.has, .int .i64 i.at_] 27)).alloc (Obj.cells #[.bool false, .int .i64 0, .int .i64 0] 32) = W from hW]
    clear hW
    rw [HBW.out]
    refine CA.mono ?_
    clear CA
    rintro r w1 ⟨rfl, rfl⟩
    obtain ⟨wz, hwz⟩ : ∃ wz, w1.setRow bw (wnC ⟨false, 0, 0⟩).toArray = wz := ⟨_, rfl⟩
    have HBz : Hid (Bl 32 wz bw (wnC ⟨false, 0, 0⟩)) := by rw [← hwz]; exact set_bl2 HBox.out
    have Hz : Hid (Below w.heap.size w wz) := by rw [← hwz]; exact setRow_below2 _ HB.out HbW.out
    have HWz : Hid (w1.setRow bw (wnC ⟨false, 0, 0⟩).toArray = wz) := hwz
    clear hwz
    have hgi : (Try.prog.info? 32).map (·.size) = some 3 := by kernel_rfl
    go_wp2_with (refine wpList_store_row rfl 32 (.tmp 4) (.tmp 12) rfl bw (wnC ⟨false, 0, 0⟩).toArray rfl rfl 32 (wnC ⟨false, 0, 0⟩).toArray HBox.out hgi rfl (by simp [wnC, Value.oneCell']) ?_; rw [HWz.out]; clear HWz hgi)
    (try simp only [Exit.inBlock, Exit.then])
    refine bodyPost_ret (v := .tuple #[wnV ⟨false, 0, 0⟩, .int .i64 12]) (results_wn rfl _ _ bw ⟨false, 0, 0⟩ _ rfl rfl HBz.out) rfl ⟨?_, Hz.out⟩
    rw [HX.out]; rfl

end Go.Proofs.Ytjaopeenkbcjcaa

namespace Go.Proofs.Ytjaopeenkbcjcaa
open Go.RowKit

def tmC (t : Tm) : List Value := [.bool t.has, .int .i64 t.at_]
def tmV (t : Tm) : Value := .agg #[.bool t.has, .int .i64 t.at_]
end Go.Proofs.Ytjaopeenkbcjcaa

namespace Go.Proofs.Ytjaopeenkbcjcaa
open Go.RowKit

end Go.Proofs.Ytjaopeenkbcjcaa

namespace Go.Proofs.Ytjaopeenkbcjcaa
open Go.RowKit

theorem OT.below {B : Nat} {w w' : World} {v : Value} {l : List (List UInt8)} (h : OT B w v l) (hb : Below w.heap.size w w') : OT B w' v l := own_below h hb (Nat.le_refl _)

end Go.Proofs.Ytjaopeenkbcjcaa

namespace Go.Proofs.Ytjaopeenkbcjcaa
open Go.RowKit

/-- What stands while the claims are gathered: the answer's block, the claims' own. -/
structure SaS (w : World) (b1 b2 : Nat) (vs : List Value) (wx : World) : Prop where
  bel : Below w.heap.size w wx
  r : Bl 27 wx b1 (clC (.slice none 0 0) (.slice none 0 0) cm0)
  c : Bl 27 wx b2 vs
theorem SaS.below {w wx wy : World} {b1 b2 : Nat} {vs : List Value} (h : SaS w b1 b2 vs wx) (hb : Below wx.heap.size wx wy) : SaS w b1 b2 vs wy :=
  ⟨h.bel.trans (hb.mono h.bel.size), h.r.below hb h.r.lt, h.c.below hb h.c.lt⟩
theorem bl_setCell {t : TypeId} {w : World} {b c j : Nat} {vs : List Value} {v : Value} (h : Bl t w b vs) (hne : b ≠ c) : Bl t (w.setCell ⟨c, j, none⟩ v) b vs := (heap_setCell_other w _ b _ (fun e => hne e)).trans h
theorem SaS.set {w wx : World} {b1 b2 : Nat} {vs : List Value} (h : SaS w b1 b2 vs wx) (j : Nat) (v : Value) (h1 : w.heap.size ≤ b1) (h2 : b1 < b2) : SaS w b1 b2 (vs.set j v) (wx.setCell ⟨b2, j, none⟩ v) :=
  ⟨Below.setCell h.bel (by show w.heap.size ≤ b2; omega) _, bl_setCell h.r (by omega), h.c.set j v⟩
theorem OT.setCell {B : Nat} {w : World} {v x : Value} {l : List (List UInt8)} {b j : Nat} {vs : List Value} (h : OT B w v l) (hb : Bl 27 w b vs) : OT B (w.setCell ⟨b, j, none⟩ x) v l := by
  have ha := block_apart h hb (by decide)
  exact own_keep h fun g hg => heap_setCell_other w _ g _ (fun e => ha (by rw [hg]; exact congrArg some e))
end Go.Proofs.Ytjaopeenkbcjcaa

namespace Go.Proofs.Ytjaopeenkbcjcaa
open Go.RowKit

end Go.Proofs.Ytjaopeenkbcjcaa
