import Derived.Test.YtjehkpndchadbaaGreatDoorBase
import Derived.Test.YtjehkpndchadbaaGreatDoorWZ
import Derived.Deep.AppendLies
import Derived.Laws.AppendOwnNone
import Derived.Laws.OwnMore
import Derived.Test.YtjehkpndchadbaaGreatDoorOrk
import Derived.Laws.Tables
import Derived.Test.YtjehkpndchadbaaGreatDoorTZ
import Derived.WalkMore
namespace Go.Proofs.YtjehkpndchadbaaGreatDoor
open Go.RowKit

/-- A time claim. -/
structure Tm where
  has : Bool
  at_ : Int
deriving DecidableEq
def tm0 : Tm := ⟨false, 0⟩
/-- The first and the last clock. -/
def fstF (t : Tm) (l : Int) : Int := if t.has = false ∨ t.at_ < -9223372036854775808 + l then -9223372036854775808 else t.at_ - l
def lstF (t : Tm) (l : Int) : Option Int := if t.has = false ∨ 9223372036854775807 - l < t.at_ then some 9223372036854775807 else if t.at_ + l = -9223372036854775808 then none else some (t.at_ + l - 1)
/-- What Clock answers, in numbers without a bound. -/
def clockF (e n i : Tm) (l now : Int) : Nat :=
  if l < 0 ∨ 600 < l then 12
  else if e.has = true ∧ e.at_ + l ≤ now then 134
  else if n.has = true ∧ now < n.at_ - l then 135
  else if i.has = true ∧ now < i.at_ - l then 136 else 0
structure Wn where
  empty : Bool
  fr : Int
  en : Int
deriving DecidableEq
/-- What Open answers. -/
def openF (e n i : Tm) (l : Int) : Wn × Nat :=
  if l < 0 ∨ 600 < l then (⟨false, 0, 0⟩, 12)
  else match lstF e l with
    | none => (⟨true, 0, 0⟩, 0)
    | some x => if x < max (fstF n l) (fstF i l) then (⟨true, 0, 0⟩, 0) else (⟨false, max (fstF n l) (fstF i l), x⟩, 0)

def I64 (x : Int) : Prop := -9223372036854775808 ≤ x ∧ x ≤ 9223372036854775807

/-- The program's way to the code. -/
theorem clock_way {e n i : Tm} {l now : Int} (_he : I64 e.at_) (hn : I64 n.at_) (hi : I64 i.at_) (hw : I64 now) (h0 : 0 ≤ l) (h6 : l ≤ 600) :
    clockF e n i l now = (match lstF e l with
      | none => 134
      | some x => if x < now then 134 else if now < fstF n l then 135 else if now < fstF i l then 136 else 0) := by
  unfold I64 at *
  have hE : (e.has = true ∧ e.at_ + l ≤ now) ↔ (match lstF e l with
      | none => True
      | some x => x < now) := by
    unfold lstF
    cases e.has
    · simp; omega
    · simp only [true_and, Bool.true_eq_false, false_or]
      split
      · rename_i hz
        split at hz
        · cases hz
        · split at hz
          · simp; omega
          · cases hz
      · rename_i hz
        split at hz
        · cases hz; omega
        · split at hz
          · cases hz
          · cases hz; omega
  have hF : ∀ t : Tm, I64 t.at_ → ((t.has = true ∧ now < t.at_ - l) ↔ now < fstF t l) := by
    intro t ht
    unfold I64 at ht
    unfold fstF
    cases t.has
    · simp; omega
    · simp only [true_and, Bool.true_eq_false, false_or]
      split <;> omega
  unfold clockF
  rw [if_neg (by omega)]
  simp only [hF n hn, hF i hi]
  cases hz : lstF e l with
  | none =>
    rw [hz] at hE
    rw [if_pos (hE.2 trivial)]
  | some x =>
    rw [hz] at hE
    simp only [hE]

/-- Claims as a value: nine cells of whatever kind, then the three times. -/
def clW (x0 x1 x2 x3 x4 x5 x6 x7 x8 : Value) (e n i : Tm) : Value := .agg #[x0, x1, x2, x3, x4, x5, x6, x7, x8, .bool e.has, .int .i64 e.at_, .bool n.has, .int .i64 n.at_, .bool i.has, .int .i64 i.at_]
def wnV (x : Wn) : Value := .agg #[.bool x.empty, .int .i64 x.fr, .int .i64 x.en]

end Go.Proofs.YtjehkpndchadbaaGreatDoor

namespace Go.Proofs.YtjehkpndchadbaaGreatDoor
open Go.RowKit

/-- Claims. -/
structure Cm where
  val : List Nd
  iss : List UInt8
  hIss : Bool
  sub : List UInt8
  hSub : Bool
  aud : List (List UInt8)
  hAud : Bool
  jti : List UInt8
  hJti : Bool
  exp : Tm
  nbf : Tm
  iat : Tm
deriving DecidableEq
def cm0 : Cm := ⟨[], [], false, [], false, [], false, [], false, tm0, tm0, tm0⟩
abbrev kIss : List UInt8 := [105, 115, 115]
abbrev kSub : List UInt8 := [115, 117, 98]
abbrev kAud : List UInt8 := [97, 117, 100]
abbrev kJti : List UInt8 := [106, 116, 105]
abbrev kExp : List UInt8 := [101, 120, 112]
abbrev kNbf : List UInt8 := [110, 98, 102]
abbrev kIat : List UInt8 := [105, 97, 116]

/-- Are all of these texts? -/
def allT (v : List Nd) (L : List Nat) : Bool := L.all fun i => decide ((v.getD i (nd0 0)).kind = 5)
/-- Is the claim at that place of the kind that its name wants? -/
def fitF (v : List Nd) (k : Nat) : Bool :=
  if (v.getD k (nd0 0)).key = kAud then (if (v.getD k (nd0 0)).kind = 6 then allT v (kidsF v (k : Int)) else decide ((v.getD k (nd0 0)).kind = 5))
  else if (v.getD k (nd0 0)).key = kIss ∨ (v.getD k (nd0 0)).key = kSub ∨ (v.getD k (nd0 0)).key = kJti then decide ((v.getD k (nd0 0)).kind = 5)
  else if (v.getD k (nd0 0)).key = kExp ∨ (v.getD k (nd0 0)).key = kNbf ∨ (v.getD k (nd0 0)).key = kIat then (v.getD k (nd0 0)).whole
  else true
/-- A text of that name. -/
def txF (v : List Nd) (k : List UInt8) : List UInt8 × Bool := if memF v 0 k < 0 then ([], false) else ((v.getD (memF v 0 k).toNat (nd0 0)).text, true)
/-- Texts of that name. -/
def tsF (v : List Nd) (k : List UInt8) : List (List UInt8) × Bool :=
  if memF v 0 k < 0 then ([], false)
  else if (v.getD (memF v 0 k).toNat (nd0 0)).kind = 5 then ([(v.getD (memF v 0 k).toNat (nd0 0)).text], true)
  else ((kidsF v (memF v 0 k)).map fun i => (v.getD i (nd0 0)).text, true)
/-- A time of that name. -/
def moF (v : List Nd) (k : List UInt8) : Tm := if memF v 0 k < 0 then tm0 else ⟨true, (v.getD (memF v 0 k).toNat (nd0 0)).int⟩
def saidF (v : List Nd) : Cm := ⟨v, (txF v kIss).1, (txF v kIss).2, (txF v kSub).1, (txF v kSub).2, (tsF v kAud).1, (tsF v kAud).2, (txF v kJti).1, (txF v kJti).2, moF v kExp, moF v kNbf, moF v kIat⟩
/-- What Parse answers. -/
def cparseF (t : List UInt8) : Cm × Nat :=
  if (parseF t).2.1 ≠ 0 then (cm0, (parseF t).2.1)
  else if ((parseF t).1.getD 0 (nd0 0)).kind ≠ 7 then (cm0, 130)
  else if (kidsF (parseF t).1 0).all (fitF (parseF t).1) then (saidF (parseF t).1, 0) else (cm0, 131)
/-- Is one of the names no member's? -/
def lackF (v : List Nd) (need : List (List UInt8)) : Bool := need.any fun k => decide (memF v 0 k < 0)
/-- What Check answers, of a well shaped value. -/
def checkF (v : List Nd) (iss : List UInt8) (hIss : Bool) (aud : List (List UInt8)) (hAud : Bool) (need : List (List UInt8)) (pi : List UInt8) (pHi : Bool) (pa : List UInt8) (pHa : Bool) : Nat :=
  if lackF v need = true then 137
  else if pHi = true ∧ (hIss = false ∨ iss ≠ pi) then 132
  else if pHa ≠ hAud then 133
  else if pHa = true ∧ pa ∉ aud then 133 else 0

end Go.Proofs.YtjehkpndchadbaaGreatDoor

namespace Go.Proofs.YtjehkpndchadbaaGreatDoor
open Go.RowKit

theorem memL_in (v : List Nd) (key : List UInt8) : ∀ L : List Nat, memL v key L = -1 ∨ ∃ k ∈ L, memL v key L = (k : Int) ∧ (v.getD k (nd0 0)).key = key
  | [] => .inl rfl
  | k :: r => by
    unfold memL
    split
    · rename_i h; exact .inr ⟨k, by simp, rfl, h⟩
    · rcases memL_in v key r with h | ⟨x, hx, h⟩
      · exact .inl h
      · exact .inr ⟨x, List.mem_cons_of_mem _ hx, h⟩
theorem memL_none (v : List Nd) (key : List UInt8) : ∀ L : List Nat, memL v key L = -1 → ∀ k ∈ L, (v.getD k (nd0 0)).key ≠ key
  | [], _ => by simp
  | k :: r, h => by
    unfold memL at h
    split at h
    · omega
    · rename_i hk
      intro x hx
      rcases List.mem_cons.1 hx with rfl | hx
      · exact hk
      · exact memL_none v key r h x hx
theorem mem_in (v : List Nd) (key : List UInt8) : memF v 0 key = -1 ∨ ∃ k ∈ kidsF v 0, memF v 0 key = (k : Int) ∧ (v.getD k (nd0 0)).key = key := by
  unfold memF
  split
  · exact memL_in v key _
  · exact .inl rfl
/-- Is the member that a text, a time, the audience wants there as it should be, or not at all? -/
def okT (v : List Nd) (k : List UInt8) : Bool := decide (memF v 0 k < 0) || decide ((v.getD (memF v 0 k).toNat (nd0 0)).kind = 5)
def okM (v : List Nd) (k : List UInt8) : Bool := decide (memF v 0 k < 0) || (decide ((v.getD (memF v 0 k).toNat (nd0 0)).kind = 4) && (v.getD (memF v 0 k).toNat (nd0 0)).whole)
def okA (v : List Nd) (k : List UInt8) : Bool := decide (memF v 0 k < 0) || decide ((v.getD (memF v 0 k).toNat (nd0 0)).kind = 5) || (decide ((v.getD (memF v 0 k).toNat (nd0 0)).kind = 6) && allT v (kidsF v (memF v 0 k)))
def okF (v : List Nd) : Bool := okT v kIss && okT v kSub && okT v kJti && okM v kExp && okM v kNbf && okM v kIat && okA v kAud

end Go.Proofs.YtjehkpndchadbaaGreatDoor

namespace Go.Proofs.YtjehkpndchadbaaGreatDoor
open Go.RowKit

/-- Texts that can be read. -/
structure TR (w : World) (v : Value) (l : List (List UInt8)) (ao : Option Addr) (cap : Nat) : Prop where
  val : v = .slice ao l.length cap
  cap : l.length ≤ cap
  cell : l = [] ∨ ∃ g off : Nat, ao = some ⟨g, off, none⟩ ∧ g < w.heap.size ∧ ∀ j, j < l.length → w.cell? ⟨g, off + j, none⟩ = some (.string ⟨(l.getD j []).toArray⟩)
theorem TR.at {w : World} {v : Value} {l : List (List UInt8)} {ao : Option Addr} {cap : Nat} (h : TR w v l ao cap) {j : Nat} (hj : j < l.length) : ∃ g off : Nat, ao = some ⟨g, off, none⟩ ∧ w.cell? ⟨g, off + j, none⟩ = some (.string ⟨(l.getD j []).toArray⟩) := by
  rcases h.cell with h0 | ⟨g, off, e, _, hc⟩
  · subst h0; simp at hj
  · exact ⟨g, off, e, hc j hj⟩
theorem TR.below {w w' : World} {v : Value} {l : List (List UInt8)} {ao : Option Addr} {cap n : Nat} (h : TR w v l ao cap) (hb : Below n w w') (hn : w.heap.size ≤ n) : TR w' v l ao cap := by
  refine ⟨h.val, h.cap, ?_⟩
  rcases h.cell with h0 | ⟨g, off, e, hg, hc⟩
  · exact .inl h0
  · exact .inr ⟨g, off, e, Nat.lt_of_lt_of_le hg hb.size, fun j hj => cell_but (hc j hj) fun _ => hb.block g (by omega)⟩

set_option maxRecDepth 100000 in
set_option maxHeartbeats 4000000 in
theorem index_any (ao : Option Addr) (cap : Nat) (l : List (List UInt8)) (s : List UInt8) (w : World) (h : TR w (.slice ao l.length cap) l ao cap) (hl : l.length ≤ 9223372036854775807) :
    Calls Tryz.prog 30 #[.slice ao l.length cap, .string ⟨s.toArray⟩] w fun e w' => (∃ r : Int, e = .returned (.int .i64 r) ∧ decide (r ≥ 0) = decide (s ∈ l)) ∧ w' = w := by
  have HC : Hid (∀ j, j < l.length → ∃ g off : Nat, ao = some ⟨g, off, none⟩ ∧ w.cell? ⟨g, off + j, none⟩ = some (.string ⟨(l.getD j []).toArray⟩)) := fun j hj => h.at hj
  clear h
  go_enter Tryz.func30, Tryz.ntmps30
  go_wp2
  go_loopw [8] (fun s8 wx => ∃ k : Nat, s8 = .int .i64 k ∧ k ≤ l.length ∧ wx = w ∧ ∀ j, j < k → l.getD j [] ≠ s) (fun x _ => l.length - (intOf x).toNat)
  case atStart => exact ⟨0, rfl, Nat.zero_le _, rfl, fun j hj => by omega⟩
  case round =>
    obtain ⟨k, rfl, hk, rfl, hne⟩ := hrel
    have HNe : Hid (∀ j, j < k → l.getD j [] ≠ s) := hne
    clear hne
    by_cases hlt : k < l.length
    · have q0 : decide ((k : Int) < (l.length : Int)) = true := decide_eq_true (by omega)
      obtain ⟨g, off, rfl, kc⟩ := HC.out k hlt
      obtain ⟨x, hx⟩ : ∃ x, l.getD k [] = x := ⟨_, rfl⟩
      rw [hx] at kc
      by_cases he : s = x
      · subst he
        have HF : Hid (s ∈ l) := by
          show _ ∈ _
          rw [← hx, List.getD_eq_getElem?_getD, List.getElem?_eq_getElem hlt]
          exact List.getElem_mem hlt
        clear hx HNe
        go_wp2
        go_ret
        exact ⟨⟨_, rfl, by rw [decide_eq_true HF.out, decide_eq_true (by omega)]⟩, rfl⟩
      · have qs : (s == x) = false := by simpa using he
        have HN2 : Hid (∀ j, j < k + 1 → l.getD j [] ≠ s) := fun j hj => by
          rcases Nat.lt_or_ge j k with h | h
          · exact HNe.out j h
          · obtain rfl : j = k := by omega
            rw [hx]; exact fun e => he e.symm
        clear hx HNe he
        go_wp2
        go_roundw
        case rel => exact ⟨k + 1, by go_num, by omega, trivial, HN2.out⟩
        case measure => simp [intOf]; omega
    · have q0 : decide ((k : Int) < (l.length : Int)) = false := decide_eq_false (by omega)
      have HF : Hid (s ∉ l) := by
        show _ ∉ _
        intro hcc
        obtain ⟨j, hj, e⟩ := List.getElem_of_mem hcc
        exact absurd (by rw [List.getD_eq_getElem?_getD, List.getElem?_eq_getElem hj]; exact e) (HNe.out j (by omega))
      go_wp2
      go_ret
      exact ⟨⟨_, rfl, by rw [decide_eq_false HF.out, decide_eq_false (by omega)]⟩, rfl⟩

set_option maxRecDepth 100000 in
theorem contains_any (ao : Option Addr) (cap : Nat) (l : List (List UInt8)) (s : List UInt8) (w : World) (h : TR w (.slice ao l.length cap) l ao cap) (hl : l.length ≤ 9223372036854775807) :
    Calls Tryz.prog 21 #[.slice ao l.length cap, .string ⟨s.toArray⟩] w fun e w' => e = .returned (.bool (decide (s ∈ l))) ∧ w' = w := by
  have C0 := index_any ao cap l s w h hl
  clear h
  generalize decide (s ∈ l) = b at *
  go_enter Tryz.func21, Tryz.ntmps21
  go_wp2_with fail
  refine C0.mono ?_
  clear C0
  rintro e w1 ⟨⟨r, rfl, hr⟩, rfl⟩
  go_wp2
  go_ret
  exact ⟨rfl, rfl⟩

def tV (s : List UInt8) : Value := .string ⟨s.toArray⟩
/-- A list of texts of one's own. -/
def OT (B : Nat) (w : World) (v : Value) (l : List (List UInt8)) : Prop := w.ownsRow B 9 1 v l.length (l.map tV)
theorem infoTx : (Tryz.prog.info? 9).map (fun i => (i.zero, i.size, i.bytes)) = some (some (.string ⟨#[]⟩), 1, 16) := by kernel_rfl
theorem OT.tr {B : Nat} {w : World} {v : Value} {l : List (List UInt8)} (h : OT B w v l) : ∃ ao cap, v = .slice ao l.length cap ∧ TR w (.slice ao l.length cap) l ao cap := by
  obtain ⟨a, c, e, hc, hg⟩ := own_slice h
  refine ⟨a, c, e, rfl, hc, ?_⟩
  rcases Nat.eq_zero_or_pos l.length with h0 | h0
  · exact .inl (List.eq_nil_of_length_eq_zero h0)
  · obtain ⟨g, rfl⟩ := hg h0
    refine .inr ⟨g, 0, rfl, (h.lt g (by rw [e]; rfl)).2, fun j hj => ?_⟩
    rw [Nat.zero_add]
    unfold OT at h
    rw [e] at h
    refine (own_cell h j _ ?_).1
    rw [List.getElem?_map, List.getElem?_eq_getElem hj, List.getD_eq_getElem?_getD, List.getElem?_eq_getElem hj]
    rfl
/-- append of texts that can be read behind a list of one's own. -/
theorem append_txt {wr : World} {ops : Array Oper} {rest : List Oper} {o : Oper} {a : Act} {Q : Exit → Act → World → Prop} (hgd : o.guard = none) (s x : Operand)
    (ho : o.op = .call { callee := .builtin .append, args := #[s, x], argTypes := #[24, 24] })
    (B : Nat) (v : Value) (l : List (List UInt8)) (hs : a.eval s = v) (h : OT B wr v l) (ao : Option Addr) (cap : Nat) (m : List (List UInt8)) (hx : a.eval x = .slice ao m.length cap) (hR : TR wr (.slice ao m.length cap) m ao cap) (hn : ao = none → cap = 0) (hl : l.length + m.length ≤ 1000000000) (hB : B ≤ wr.heap.size)
    (k : ∀ v' w', OT B w' v' (l ++ m) → wr.grownBy w' v.ownBlock → wpList Tryz.prog ops Q rest (a.put o.dst v') w') : wpList Tryz.prog ops Q (o :: rest) a wr := by
  obtain ⟨i, hi, hz, hsize, hby⟩ := info_parts infoTx
  cases ao with
  | none =>
    obtain rfl := hn rfl
    have hm : m = [] := by
      rcases hR.cell with e | ⟨g, off, e, _⟩
      · exact e
      · cases e
    subst hm
    refine wpList_append_own_none hgd s x 24 ho B 9 i 1 Tryz.underlying24 hi v l.length (l.map tV) hs h hx ?_
    refine k v wr (by rw [List.append_nil]; exact h) ⟨rfl, rfl, rfl, Nat.le_refl _, fun _ _ _ => rfl⟩
  | some ad =>
    refine wpList_append_own_wide _ hgd s x 24 ho B 9 i (.string ⟨#[]⟩) 1 16 Tryz.underlying24 hi hz hsize hby rfl (by decide) v l.length (l.map tV) hs h ad m.length cap (m.map tV) hx (by simp) ?_ (by intro u hu; obtain ⟨y, _, rfl⟩ := List.mem_map.1 hu; rfl) (by unfold maxLen; omega) (by omega) hB ?_
    · intro j u hu
      rw [List.getElem?_map, Option.map_eq_some_iff] at hu
      obtain ⟨y, hy, rfl⟩ := hu
      have hj := (List.getElem?_eq_some_iff.1 hy).1
      rcases hR.cell with e | ⟨g, off, e, _, hc⟩
      · subst e; simp at hj
      · cases e
        rw [Addr.add_lit, hc j hj, List.getD_eq_getElem?_getD, hy]
        rfl
    · intro v' w' h2 h3 _
      refine k v' w' ?_ h3
      unfold OT
      rw [List.length_append, List.map_append]
      exact h2

/-- A policy; claims, with the values of their lists. -/
def plV (a : Value) (iss : ByteArray) (hi : Bool) (aud : ByteArray) (ha : Bool) (ty : List UInt8) (wt : Bool) (lee : Int) (need : Value) : Value := .agg #[a, .string iss, .bool hi, .string aud, .bool ha, .string ⟨ty.toArray⟩, .bool wt, .int .i64 lee, need]
def clV (va aa : Value) (c : Cm) : Value := .agg #[va, .string ⟨c.iss.toArray⟩, .bool c.hIss, .string ⟨c.sub.toArray⟩, .bool c.hSub, aa, .bool c.hAud, .string ⟨c.jti.toArray⟩, .bool c.hJti, .bool c.exp.has, .int .i64 c.exp.at_, .bool c.nbf.has, .int .i64 c.nbf.at_, .bool c.iat.has, .int .i64 c.iat.at_]
def clC (va aa : Value) (c : Cm) : List Value := [va, .string ⟨c.iss.toArray⟩, .bool c.hIss, .string ⟨c.sub.toArray⟩, .bool c.hSub, aa, .bool c.hAud, .string ⟨c.jti.toArray⟩, .bool c.hJti, .bool c.exp.has, .int .i64 c.exp.at_, .bool c.nbf.has, .int .i64 c.nbf.at_, .bool c.iat.has, .int .i64 c.iat.at_]

end Go.Proofs.YtjehkpndchadbaaGreatDoor

namespace Go.Proofs.YtjehkpndchadbaaGreatDoor
open Go.RowKit

set_option maxRecDepth 100000 in
set_option maxHeartbeats 4000000 in
theorem allowed_any (l : Int) (w : World) : Calls Tryz.prog 17 #[.int .i64 l] w fun e w' => e = .returned (.bool (decide (0 ≤ l ∧ l ≤ 600))) ∧ w' = w := by
  by_cases h0 : 0 ≤ l
  · have q0 : decide (0 ≤ l) = true := decide_eq_true h0
    by_cases h6 : l ≤ 600
    · have q6 : decide (l ≤ 600) = true := decide_eq_true h6
      have HF : Hid (decide (0 ≤ l ∧ l ≤ 600) = true) := decide_eq_true ⟨h0, h6⟩
      clear h0 h6
      go_enter Tryz.func17, Tryz.ntmps17
      go_wp2
      go_ret
      rw [HF.out]
      exact ⟨rfl, rfl⟩
    · have q6 : decide (l ≤ 600) = false := decide_eq_false h6
      have HF : Hid (decide (0 ≤ l ∧ l ≤ 600) = false) := decide_eq_false (fun h => h6 h.2)
      clear h0 h6
      go_enter Tryz.func17, Tryz.ntmps17
      go_wp2
      go_ret
      rw [HF.out]
      exact ⟨rfl, rfl⟩
  · have q0 : decide (0 ≤ l) = false := decide_eq_false h0
    have HF : Hid (decide (0 ≤ l ∧ l ≤ 600) = false) := decide_eq_false (fun h => h0 h.1)
    clear h0
    go_enter Tryz.func17, Tryz.ntmps17
    go_wp2
    go_ret
    rw [HF.out]
    exact ⟨rfl, rfl⟩

set_option maxRecDepth 100000 in
set_option maxHeartbeats 4000000 in
theorem firstAt_any (t : Tm) (l : Int) (w : World) (ht : I64 t.at_) (h0 : 0 ≤ l) (h6 : l ≤ 600) : Calls Tryz.prog 18 #[.agg #[.bool t.has, .int .i64 t.at_], .int .i64 l] w fun e w' => e = .returned (.int .i64 (fstF t l)) ∧ Below w.heap.size w w' := by
  obtain ⟨has, a⟩ := t
  dsimp only
  have ha : -9223372036854775808 ≤ a ∧ a ≤ 9223372036854775807 := ht
  obtain ⟨ha1, ha2⟩ := ha
  clear ht
  obtain ⟨W, hW⟩ : ∃ W : World, w.alloc (.cells #[.bool has, .int .i64 a] 26) = W := ⟨_, rfl⟩
  have hB : Below w.heap.size w W := by rw [← hW]; exact alloc_below _ _
  have hbl : Bl 26 W w.heap.size [.bool has, .int .i64 a] := by rw [← hW]; exact alloc_bl _ _ _
  have c0 : W.cell? ⟨w.heap.size, 0, none⟩ = some (.bool has) := hbl.cell 0 (by simp)
  have c1 : W.cell? ⟨w.heap.size, 1, none⟩ = some (.int .i64 a) := hbl.cell 1 (by simp)
  have HB : Hid (Below w.heap.size w W) := hB
  clear hB hbl
  cases has
  · have HF : Hid (fstF ⟨false, a⟩ l = -9223372036854775808) := by show _ = _; unfold fstF; exact if_pos (Or.inl rfl)
    go_enter Tryz.func18, Tryz.ntmps18
    go_wp2
    go_ret
    rw [HF.out]
    exact ⟨rfl, HB.out⟩
  · by_cases hx : a < -9223372036854775808 + l
    · have HF : Hid (fstF ⟨true, a⟩ l = -9223372036854775808) := by show _ = _; unfold fstF; exact if_pos (Or.inr hx)
      have qx : decide (a < -9223372036854775808 + l) = true := decide_eq_true hx
      go_enter Tryz.func18, Tryz.ntmps18
      go_wp2
      go_ret
      rw [HF.out]
      exact ⟨rfl, HB.out⟩
    · have HF : Hid (fstF ⟨true, a⟩ l = a - l) := by show _ = _; unfold fstF; exact if_neg (fun h => h.elim (fun h => by cases h) hx)
      have qx : decide (a < -9223372036854775808 + l) = false := decide_eq_false hx
      go_enter Tryz.func18, Tryz.ntmps18
      go_wp2
      go_ret
      rw [HF.out]
      exact ⟨rfl, HB.out⟩

/-- What lastAhead answers. -/
def laV (o : Option Int) : Value := match o with
  | none => .tuple #[.int .i64 0, .bool false]
  | some x => .tuple #[.int .i64 x, .bool true]
set_option maxRecDepth 100000 in
set_option maxHeartbeats 4000000 in
theorem lastAhead_any (t : Tm) (l : Int) (w : World) (ht : I64 t.at_) (h0 : 0 ≤ l) (h6 : l ≤ 600) : Calls Tryz.prog 19 #[.agg #[.bool t.has, .int .i64 t.at_], .int .i64 l] w fun e w' => e = .returned (laV (lstF t l)) ∧ Below w.heap.size w w' := by
  obtain ⟨has, a⟩ := t
  dsimp only
  have ha : -9223372036854775808 ≤ a ∧ a ≤ 9223372036854775807 := ht
  obtain ⟨ha1, ha2⟩ := ha
  clear ht
  obtain ⟨W, hW⟩ : ∃ W : World, w.alloc (.cells #[.bool has, .int .i64 a] 26) = W := ⟨_, rfl⟩
  have hB : Below w.heap.size w W := by rw [← hW]; exact alloc_below _ _
  have hbl : Bl 26 W w.heap.size [.bool has, .int .i64 a] := by rw [← hW]; exact alloc_bl _ _ _
  have c0 : W.cell? ⟨w.heap.size, 0, none⟩ = some (.bool has) := hbl.cell 0 (by simp)
  have c1 : W.cell? ⟨w.heap.size, 1, none⟩ = some (.int .i64 a) := hbl.cell 1 (by simp)
  have HB : Hid (Below w.heap.size w W) := hB
  clear hB hbl
  cases has
  · have HF : Hid (lstF ⟨false, a⟩ l = some 9223372036854775807) := by show _ = _; unfold lstF; exact if_pos (Or.inl rfl)
    go_enter Tryz.func19, Tryz.ntmps19
    go_wp2
    go_ret2
    rw [HF.out]
    exact ⟨rfl, HB.out⟩
  · by_cases hx : 9223372036854775807 - l < a
    · have HF : Hid (lstF ⟨true, a⟩ l = some 9223372036854775807) := by show _ = _; unfold lstF; exact if_pos (Or.inr hx)
      have qx : decide (a > 9223372036854775807 - l) = true := decide_eq_true hx
      go_enter Tryz.func19, Tryz.ntmps19
      go_wp2
      go_ret2
      rw [HF.out]
      exact ⟨rfl, HB.out⟩
    · have qx : decide (a > 9223372036854775807 - l) = false := decide_eq_false hx
      by_cases hz : a + l = -9223372036854775808
      · have HF : Hid (lstF ⟨true, a⟩ l = none) := by show _ = _; unfold lstF; rw [if_neg (fun h => h.elim (fun h => by cases h) hx)]; exact if_pos hz
        have qz : (a + l == -9223372036854775808) = true := by simpa using hz
        clear hz
        go_enter Tryz.func19, Tryz.ntmps19
        go_wp2
        go_ret2
        rw [HF.out]
        exact ⟨rfl, HB.out⟩
      · have HF : Hid (lstF ⟨true, a⟩ l = some (a + l - 1)) := by show _ = _; unfold lstF; rw [if_neg (fun h => h.elim (fun h => by cases h) hx)]; exact if_neg hz
        have qz : (a + l == -9223372036854775808) = false := by simpa using hz
        go_enter Tryz.func19, Tryz.ntmps19
        go_wp2
        go_ret2
        rw [HF.out]
        exact ⟨rfl, HB.out⟩

end Go.Proofs.YtjehkpndchadbaaGreatDoor

namespace Go.Proofs.YtjehkpndchadbaaGreatDoor
open Go.RowKit

/-- The cells of claims. -/
def clC9 (x0 x1 x2 x3 x4 x5 x6 x7 x8 : Value) (e n i : Tm) : List Value := [x0, x1, x2, x3, x4, x5, x6, x7, x8, .bool e.has, .int .i64 e.at_, .bool n.has, .int .i64 n.at_, .bool i.has, .int .i64 i.at_]
theorem clock_out {e n i : Tm} {l now : Int} (h : ¬ (0 ≤ l ∧ l ≤ 600)) : clockF e n i l now = 12 := by unfold clockF; exact if_pos (by omega)
theorem open_out {e n i : Tm} {l : Int} (h : ¬ (0 ≤ l ∧ l ≤ 600)) : openF e n i l = (⟨false, 0, 0⟩, 12) := by unfold openF; exact if_pos (by omega)
theorem open_none {e n i : Tm} {l : Int} (h : 0 ≤ l ∧ l ≤ 600) (hx : lstF e l = none) : openF e n i l = (⟨true, 0, 0⟩, 0) := by unfold openF; rw [if_neg (by omega), hx]
theorem open_some {e n i : Tm} {l x : Int} (h : 0 ≤ l ∧ l ≤ 600) (hx : lstF e l = some x) : openF e n i l = if x < max (fstF n l) (fstF i l) then (⟨true, 0, 0⟩, 0) else (⟨false, max (fstF n l) (fstF i l), x⟩, 0) := by unfold openF; rw [if_neg (by omega), hx]

set_option maxRecDepth 100000 in
set_option maxHeartbeats 8000000 in
theorem clock_any (x0 x1 x2 x3 x4 x5 x6 x7 x8 : Value) (e n i : Tm) (l now : Int) (w : World) (he : I64 e.at_) (hn : I64 n.at_) (hi : I64 i.at_) (hw : I64 now) :
    Calls Tryz.prog 10 #[clW x0 x1 x2 x3 x4 x5 x6 x7 x8 e n i, .int .i64 l, .int .i64 now] w fun r w' => r = .returned (.int .i64 (clockF e n i l now : Nat)) ∧ Below w.heap.size w w' := by
  unfold clW
  obtain ⟨W, hW⟩ : ∃ W : World, w.alloc (.cells (clC9 x0 x1 x2 x3 x4 x5 x6 x7 x8 e n i).toArray 28) = W := ⟨_, rfl⟩
  have hB : Below w.heap.size w W := by rw [← hW]; exact alloc_below _ _
  have hbl : Bl 28 W w.heap.size (clC9 x0 x1 x2 x3 x4 x5 x6 x7 x8 e n i) := by rw [← hW]; exact alloc_bl _ _ _
  have HC : Hid (∀ wq, Below W.heap.size W wq → wq.cell? ⟨w.heap.size, 9, none⟩ = some (.bool e.has) ∧ wq.cell? ⟨w.heap.size, 10, none⟩ = some (.int .i64 e.at_) ∧ wq.cell? ⟨w.heap.size, 11, none⟩ = some (.bool n.has) ∧ wq.cell? ⟨w.heap.size, 12, none⟩ = some (.int .i64 n.at_) ∧ wq.cell? ⟨w.heap.size, 13, none⟩ = some (.bool i.has) ∧ wq.cell? ⟨w.heap.size, 14, none⟩ = some (.int .i64 i.at_)) := fun wq hq => by
    have hb := hbl.below hq hbl.lt
    exact ⟨hb.cell 9 (by simp [clC9]), hb.cell 10 (by simp [clC9]), hb.cell 11 (by simp [clC9]), hb.cell 12 (by simp [clC9]), hb.cell 13 (by simp [clC9]), hb.cell 14 (by simp [clC9])⟩
  have HB : Hid (Below w.heap.size w W) := hB
  have CA := allowed_any l W
  by_cases hl : 0 ≤ l ∧ l ≤ 600
  · have HF : Hid (clockF e n i l now = _) := clock_way he hn hi hw hl.1 hl.2
    have C1 : ∀ wq, Calls Tryz.prog 19 #[.agg #[.bool e.has, .int .i64 e.at_], .int .i64 l] wq fun r w' => r = .returned (laV (lstF e l)) ∧ Below wq.heap.size wq w' := fun wq => lastAhead_any e l wq he hl.1 hl.2
    have C2 : ∀ wq, Calls Tryz.prog 18 #[.agg #[.bool n.has, .int .i64 n.at_], .int .i64 l] wq fun r w' => r = .returned (.int .i64 (fstF n l)) ∧ Below wq.heap.size wq w' := fun wq => firstAt_any n l wq hn hl.1 hl.2
    have C3 : ∀ wq, Calls Tryz.prog 18 #[.agg #[.bool i.has, .int .i64 i.at_], .int .i64 l] wq fun r w' => r = .returned (.int .i64 (fstF i l)) ∧ Below wq.heap.size wq w' := fun wq => firstAt_any i l wq hi hl.1 hl.2
    rw [decide_eq_true hl] at CA
    have HC1 : Hid _ := C1
    have HC2 : Hid _ := C2
    have HC3 : Hid _ := C3
    obtain ⟨o, ho⟩ : ∃ o, lstF e l = o := ⟨_, rfl⟩
    obtain ⟨fn, hfn⟩ : ∃ x, fstF n l = x := ⟨_, rfl⟩
    obtain ⟨fi, hfi⟩ : ∃ x, fstF i l = x := ⟨_, rfl⟩
    rw [ho, hfn, hfi] at HF
    rw [ho] at HC1
    rw [hfn] at HC2
    rw [hfi] at HC3
    clear hB hbl C1 C2 C3 he hn hi hw hl ho hfn hfi
    go_enter Tryz.func10, Tryz.ntmps10
    go_wp2_with fail
    rw [show w.alloc (Obj.cells #[x0, x1, x2, x3, x4, x5, x6, x7, x8, .bool e.has, .int .i64 e.at_, .bool n.has, .int .i64 n.at_, .bool i.has, .int .i64 i.at_] 28) = W from hW]
    clear hW
    refine CA.mono ?_
    clear CA
    rintro r w1 ⟨rfl, rfl⟩
    obtain ⟨k9, k10, k11, k12, k13, k14⟩ := HC.out w1 (Below.refl _ _)
    have C1 := HC1.out w1
    clear HC1
    go_wp2_with fail
    refine C1.mono ?_
    clear C1 k9 k10 k11 k12 k13 k14
    rintro r w2 ⟨rfl, hB2⟩
    have HB2 : Hid (Below w1.heap.size w1 w2) := hB2
    have HBw : Hid (Below w.heap.size w w2) := HB.out.trans (hB2.mono HB.out.size)
    clear hB2 HB
    obtain ⟨k9, k10, k11, k12, k13, k14⟩ := HC.out w2 HB2.out
    cases o with
    | none =>
      unfold laV
      go_wp2
      go_ret
      rw [HF.out]
      exact ⟨rfl, HBw.out⟩
    | some x =>
      unfold laV
      by_cases hx : x < now
      · have qx : decide (now > x) = true := decide_eq_true hx
        have HF2 : Hid (clockF e n i l now = 134) := by show _ = _; rw [HF.out]; exact if_pos hx
        clear HF
        go_wp2
        go_ret
        rw [HF2.out]
        exact ⟨rfl, HBw.out⟩
      · have qx : decide (now > x) = false := decide_eq_false hx
        have HF2 : Hid (clockF e n i l now = if now < fn then 135 else if now < fi then 136 else 0) := by show _ = _; rw [HF.out]; exact if_neg hx
        have C2 := HC2.out w2
        clear HF HC2
        go_wp2_with fail
        refine C2.mono ?_
        clear C2 k9 k10 k11 k12 k13 k14
        rintro r w3 ⟨rfl, hB3⟩
        have HB3 : Hid (Below w1.heap.size w1 w3) := HB2.out.trans (hB3.mono HB2.out.size)
        have HBv : Hid (Below w.heap.size w w3) := HBw.out.trans (hB3.mono HBw.out.size)
        clear hB3 HB2 HBw
        obtain ⟨k9, k10, k11, k12, k13, k14⟩ := HC.out w3 HB3.out
        by_cases hn : now < fn
        · have qn : decide (now < fn) = true := decide_eq_true hn
          have HF3 : Hid (clockF e n i l now = 135) := by show _ = _; rw [HF2.out]; exact if_pos hn
          clear HF2
          go_wp2
          go_ret
          rw [HF3.out]
          exact ⟨rfl, HBv.out⟩
        · have qn : decide (now < fn) = false := decide_eq_false hn
          have HF3 : Hid (clockF e n i l now = if now < fi then 136 else 0) := by show _ = _; rw [HF2.out]; exact if_neg hn
          have C3 := HC3.out w3
          clear HF2 HC3
          go_wp2_with fail
          refine C3.mono ?_
          clear C3 k9 k10 k11 k12 k13 k14
          rintro r w4 ⟨rfl, hB4⟩
          have HBu : Hid (Below w.heap.size w w4) := HBv.out.trans (hB4.mono HBv.out.size)
          clear hB4 HBv HB3
          by_cases hi : now < fi
          · have qi : decide (now < fi) = true := decide_eq_true hi
            have HF4 : Hid (clockF e n i l now = 136) := by show _ = _; rw [HF3.out]; exact if_pos hi
            clear HF3
            go_wp2
            go_ret
            rw [HF4.out]
            exact ⟨rfl, HBu.out⟩
          · have qi : decide (now < fi) = false := decide_eq_false hi
            have HF4 : Hid (clockF e n i l now = 0) := by show _ = _; rw [HF3.out]; exact if_neg hi
            clear HF3
            go_wp2
            go_ret
            rw [HF4.out]
            exact ⟨rfl, HBu.out⟩
  · have HF : Hid (clockF e n i l now = 12) := clock_out hl
    rw [decide_eq_false hl] at CA
    clear hB hbl HC hl he hn hi hw
    go_enter Tryz.func10, Tryz.ntmps10
    go_wp2_with fail
    rw [show w.alloc (Obj.cells #[x0, x1, x2, x3, x4, x5, x6, x7, x8, .bool e.has, .int .i64 e.at_, .bool n.has, .int .i64 n.at_, .bool i.has, .int .i64 i.at_] 28) = W from hW]
    clear hW
    refine CA.mono ?_
    clear CA
    rintro r w1 ⟨rfl, rfl⟩
    go_wp2
    go_ret
    rw [HF.out]
    exact ⟨rfl, HB.out⟩

end Go.Proofs.YtjehkpndchadbaaGreatDoor

namespace Go.Proofs.YtjehkpndchadbaaGreatDoor
open Go.RowKit

theorem set_bl2 {t : TypeId} {w : World} {b : Nat} {old new : List Value} (h : Bl t w b old) : Bl t (w.setRow b new.toArray) b new := setRow_heap _ _ _ _ _ _ h
theorem setRow_below2 {w0 w : World} {n b : Nat} (new : Array Value) (h : Below n w0 w) (hb : n ≤ b) : Below n w0 (w.setRow b new) := ⟨h.os, h.tape, h.output, by simpa [World.setRow] using h.size, fun k hk => (setRow_other w b k _ (by omega)).trans (h.block k hk)⟩
def wnC (x : Wn) : List Value := [.bool x.empty, .int .i64 x.fr, .int .i64 x.en]
theorem results_wn {fn : Func} {u p : Tmp} (h : fn.results = #[.cell p 42, .tmp u]) (tmps : Array Value) (w : World) (b : Nat) (x : Wn) (y : Value) (hu : tmps.getD u undef = y) (hp : tmps.getD p undef = .pointer (some ⟨b, 0, none⟩)) (hb : Bl 42 w b (wnC x)) :
    (results fn tmps).run Tryz.prog w = .ok (.tuple #[wnV x, y]) w := by
  have hr : (loadVar 42 ⟨b, 0, none⟩).run Tryz.prog w = .ok (wnV x) w := by
    refine run_loadVar_mid w b 0 42 (wnC x) _ ?_ Tryz.underlying42 rfl (by kernel_rfl)
    intro j v hv
    obtain ⟨hj, e⟩ := List.getElem?_eq_some_iff.1 hv
    rw [Nat.zero_add, ← e]
    exact hb.cell j hj
  have hr2 : (results fn tmps).run Tryz.prog w = ((asAddr (tmps.getD p undef)).run Tryz.prog w).andThen fun a w₁ => ((loadVar 42 a).run Tryz.prog w₁).andThen fun v w₂ => .ok (.tuple #[v, tmps.getD u undef]) w₂ := by
    simp only [results, h]
    simp [Sem.run_bind, Result.andThen]
  rw [hr2, hp]
  unfold asAddr
  simp only [Sem.run_pure, Result.andThen_ok]
  rw [hr, hu]
  rfl

set_option maxRecDepth 100000 in
set_option maxHeartbeats 8000000 in
theorem open_any (x0 x1 x2 x3 x4 x5 x6 x7 x8 : Value) (e n i : Tm) (l : Int) (w : World) (he : I64 e.at_) (hn : I64 n.at_) (hi : I64 i.at_) :
    Calls Tryz.prog 8 #[clW x0 x1 x2 x3 x4 x5 x6 x7 x8 e n i, .int .i64 l] w fun r w' => r = .returned (.tuple #[wnV (openF e n i l).1, .int .i64 ((openF e n i l).2 : Nat)]) ∧ Below w.heap.size w w' := by
  unfold clW
  obtain ⟨V, hV⟩ : ∃ V : World, w.alloc (.cells (clC9 x0 x1 x2 x3 x4 x5 x6 x7 x8 e n i).toArray 28) = V := ⟨_, rfl⟩
  have hBV : Below w.heap.size w V := by rw [← hV]; exact alloc_below _ _
  have hbl : Bl 28 V w.heap.size (clC9 x0 x1 x2 x3 x4 x5 x6 x7 x8 e n i) := by rw [← hV]; exact alloc_bl _ _ _
  obtain ⟨W, hW⟩ : ∃ W : World, V.alloc (.cells (wnC ⟨false, 0, 0⟩).toArray 42) = W := ⟨_, rfl⟩
  have hBW : Below V.heap.size V W := by rw [← hW]; exact alloc_below _ _
  have HBox : Hid (Bl 42 W V.heap.size (wnC ⟨false, 0, 0⟩)) := by rw [← hW]; exact alloc_bl _ _ _
  have HbW : Hid (w.heap.size ≤ V.heap.size) := Nat.le_of_lt hbl.lt
  have hB : Below w.heap.size w W := hBV.trans (hBW.mono HbW.out)
  replace hbl : Bl 28 W w.heap.size (clC9 x0 x1 x2 x3 x4 x5 x6 x7 x8 e n i) := hbl.below hBW hbl.lt
  have hsv : V.heap.size = w.heap.size + 1 := by rw [← hV]; exact alloc_size _ _
  rw [show V = w.alloc (.cells #[x0, x1, x2, x3, x4, x5, x6, x7, x8, .bool e.has, .int .i64 e.at_, .bool n.has, .int .i64 n.at_, .bool i.has, .int .i64 i.at_] 28) from hV.symm] at hW
  rw [hsv] at HBox HbW
  obtain ⟨bw, hbw⟩ : ∃ b, w.heap.size + 1 = b := ⟨_, rfl⟩
  have HBW : Hid (w.heap.size + 1 = bw) := hbw
  rw [hbw] at HBox HbW
  clear hV hBV hBW hsv hbw V
  have HC : Hid (∀ wq, Below W.heap.size W wq → wq.cell? ⟨w.heap.size, 9, none⟩ = some (.bool e.has) ∧ wq.cell? ⟨w.heap.size, 10, none⟩ = some (.int .i64 e.at_) ∧ wq.cell? ⟨w.heap.size, 11, none⟩ = some (.bool n.has) ∧ wq.cell? ⟨w.heap.size, 12, none⟩ = some (.int .i64 n.at_) ∧ wq.cell? ⟨w.heap.size, 13, none⟩ = some (.bool i.has) ∧ wq.cell? ⟨w.heap.size, 14, none⟩ = some (.int .i64 i.at_)) := fun wq hq => by
    have hb := hbl.below hq hbl.lt
    exact ⟨hb.cell 9 (by simp [clC9]), hb.cell 10 (by simp [clC9]), hb.cell 11 (by simp [clC9]), hb.cell 12 (by simp [clC9]), hb.cell 13 (by simp [clC9]), hb.cell 14 (by simp [clC9])⟩
  have HB : Hid (Below w.heap.size w W) := hB
  have HSS : Hid (∀ wq, Below W.heap.size W wq → (fun (w' : World) => w'.cell? ⟨w.heap.size, 11, none⟩ = some (.bool n.has) ∧ w'.cell? ⟨w.heap.size, 12, none⟩ = some (.int .i64 n.at_) ∧ w'.cell? ⟨w.heap.size, 13, none⟩ = some (.bool i.has) ∧ w'.cell? ⟨w.heap.size, 14, none⟩ = some (.int .i64 i.at_)) wq) := fun wq hq => ⟨(HC.out wq hq).2.2.1, (HC.out wq hq).2.2.2.1, (HC.out wq hq).2.2.2.2.1, (HC.out wq hq).2.2.2.2.2⟩
  have HBq : Hid (∀ wq, Below W.heap.size W wq → Bl 42 wq bw (wnC ⟨false, 0, 0⟩)) := fun wq hq => HBox.out.below hq HBox.out.lt
  have CA := allowed_any l W
  by_cases hl : 0 ≤ l ∧ l ≤ 600
  · have C1 : ∀ wq, Calls Tryz.prog 19 #[.agg #[.bool e.has, .int .i64 e.at_], .int .i64 l] wq fun r w' => r = .returned (laV (lstF e l)) ∧ Below wq.heap.size wq w' := fun wq => lastAhead_any e l wq he hl.1 hl.2
    have C2 : ∀ wq, Calls Tryz.prog 18 #[.agg #[.bool n.has, .int .i64 n.at_], .int .i64 l] wq fun r w' => r = .returned (.int .i64 (fstF n l)) ∧ Below wq.heap.size wq w' := fun wq => firstAt_any n l wq hn hl.1 hl.2
    have C3 : ∀ wq, Calls Tryz.prog 18 #[.agg #[.bool i.has, .int .i64 i.at_], .int .i64 l] wq fun r w' => r = .returned (.int .i64 (fstF i l)) ∧ Below wq.heap.size wq w' := fun wq => firstAt_any i l wq hi hl.1 hl.2
    rw [decide_eq_true hl] at CA
    have HN : Hid (lstF e l = none → openF e n i l = (⟨true, 0, 0⟩, 0)) := open_none hl
    have HO : Hid (∀ x, lstF e l = some x → openF e n i l = if x < max (fstF n l) (fstF i l) then (⟨true, 0, 0⟩, 0) else (⟨false, max (fstF n l) (fstF i l), x⟩, 0)) := fun x h => open_some hl h
    have HC1 : Hid _ := C1
    have HC2 : Hid _ := C2
    have HC3 : Hid _ := C3
    obtain ⟨o, ho⟩ : ∃ o, lstF e l = o := ⟨_, rfl⟩
    obtain ⟨fn, hfn⟩ : ∃ x, fstF n l = x := ⟨_, rfl⟩
    obtain ⟨fi, hfi⟩ : ∃ x, fstF i l = x := ⟨_, rfl⟩
    rw [ho] at HN HO
    rw [hfn, hfi] at HO
    rw [ho] at HC1
    rw [hfn] at HC2
    rw [hfi] at HC3
    clear hB hbl C1 C2 C3 he hn hi hl ho hfn hfi
    go_enter Tryz.func8, Tryz.ntmps8
    go_wp2_with fail
    rw [show (w.alloc (Obj.cells #[x0, x1, x2, x3, x4, x5, x6, x7, x8, .bool e.has, .int .i64 e.at_, .bool n.has, .int .i64 n.at_, .bool i.has, .int .i64 i.at_] 28)).alloc (Obj.cells #[.bool false, .int .i64 0, .int .i64 0] 42) = W from hW]
    clear hW
    rw [HBW.out]
    refine CA.mono ?_
    clear CA
    rintro r w1 ⟨rfl, rfl⟩
    rcases Int.lt_or_le fn fi with hm | hm
    · have hmx : max fn fi = fi := by omega
      have qm : decide (fn < fi) = true := decide_eq_true hm
      go_wp2
      refine wp_region_K 8 (fun (w' : World) => w'.cell? ⟨w.heap.size, 11, none⟩ = some (.bool n.has) ∧ w'.cell? ⟨w.heap.size, 12, none⟩ = some (.int .i64 n.at_) ∧ w'.cell? ⟨w.heap.size, 13, none⟩ = some (.bool i.has) ∧ w'.cell? ⟨w.heap.size, 14, none⟩ = some (.int .i64 i.at_)) (by kernel_rfl) ?_
      have hHeld : ((fun (w' : World) => w'.cell? ⟨w.heap.size, 11, none⟩ = some (.bool n.has) ∧ w'.cell? ⟨w.heap.size, 12, none⟩ = some (.int .i64 n.at_) ∧ w'.cell? ⟨w.heap.size, 13, none⟩ = some (.bool i.has) ∧ w'.cell? ⟨w.heap.size, 14, none⟩ = some (.int .i64 i.at_))) (World.drew _) := HSS.out _ (below_drewN (Below.refl _ _) 1)
      refine wpAnyK_take0 0 (v := ?v1) rfl (by kernel_rfl) (fun _ _ _ h => h) (Or.inl ⟨by rfl, ?hy1⟩) (fun _ => hHeld) ?_
      case hy1 => (intro w hSw; go_simp; try with_reducible rfl)
      try simp only [Act.put, List.setIfInBounds_toArray, List.set_cons_zero, List.set_cons_succ]
      refine wpAnyK_take 1 [3, 8] (v := ?v2) rfl (by kernel_rfl) (fun _ _ _ h => h) (Or.inl ⟨by rfl, ?hy2⟩) hHeld ?_
      case hy2 => (intro w hSw; (try dsimp only at hSw); go_simp; try with_reducible rfl)
      try simp only [Act.put, List.setIfInBounds_toArray, List.set_cons_zero, List.set_cons_succ]
      refine wpAnyK_take0 2 (v := ?v3) rfl (by kernel_rfl) (fun _ _ _ h => h) (Or.inl ⟨by rfl, ?hy3⟩) (fun _ => hHeld) ?_
      case hy3 => (intro w hSw; go_simp; try with_reducible rfl)
      try simp only [Act.put, List.setIfInBounds_toArray, List.set_cons_zero, List.set_cons_succ]
      refine wpAnyK_take0 4 (v := ?v4) rfl (by kernel_rfl) (fun _ _ _ h => h) (Or.inl ⟨by rfl, ?hy4⟩) (fun _ => hHeld) ?_
      case hy4 => (intro w hSw; go_simp; try with_reducible rfl)
      try simp only [Act.put, List.setIfInBounds_toArray, List.set_cons_zero, List.set_cons_succ]
      refine wpAnyK_take 5 [7, 8] (v := ?v5) rfl (by kernel_rfl) (fun _ _ _ h => h) (Or.inl ⟨by rfl, ?hy5⟩) hHeld ?_
      case hy5 => (intro w hSw; (try dsimp only at hSw); go_simp; try with_reducible rfl)
      try simp only [Act.put, List.setIfInBounds_toArray, List.set_cons_zero, List.set_cons_succ]
      refine wpAnyK_take0 6 (v := ?v6) rfl (by kernel_rfl) (fun _ _ _ h => h) (Or.inl ⟨by rfl, ?hy6⟩) (fun _ => hHeld) ?_
      case hy6 => (intro w hSw; go_simp; try with_reducible rfl)
      try simp only [Act.put, List.setIfInBounds_toArray, List.set_cons_zero, List.set_cons_succ]
      refine wpAnyK_step 3 rfl (by kernel_rfl) (fun K hK => ?_)
      go_simp
      refine (HC2.out _).mono ?_
      rintro r w2 ⟨rfl, hB2⟩
      have HB2 : Hid (Below w1.heap.size w1 w2) := (below_drewN (Below.refl _ _) 1).trans (hB2.mono (Nat.le_refl _))
      clear hB2
      dsimp only
      refine hK.out _ _ ?hk7 ?_
      case hk7 => exact fun _ => HSS.out _ HB2.out
      have hHeld : ((fun (w' : World) => w'.cell? ⟨w.heap.size, 11, none⟩ = some (.bool n.has) ∧ w'.cell? ⟨w.heap.size, 12, none⟩ = some (.int .i64 n.at_) ∧ w'.cell? ⟨w.heap.size, 13, none⟩ = some (.bool i.has) ∧ w'.cell? ⟨w.heap.size, 14, none⟩ = some (.int .i64 i.at_))) _ := HSS.out _ HB2.out
      clear hK K
      try simp only [Act.put, List.setIfInBounds_toArray, List.set_cons_zero, List.set_cons_succ]
      refine wpAnyK_step 7 rfl (by kernel_rfl) (fun K hK => ?_)
      go_simp
      refine (HC3.out _).mono ?_
      rintro r w3 ⟨rfl, hB3⟩
      have HB3 : Hid (Below w1.heap.size w1 w3) := HB2.out.trans (hB3.mono HB2.out.size)
      clear hB3
      dsimp only
      refine hK.out _ _ ?hk8 ?_
      case hk8 => exact fun _ => HSS.out _ HB3.out
      have hHeld : ((fun (w' : World) => w'.cell? ⟨w.heap.size, 11, none⟩ = some (.bool n.has) ∧ w'.cell? ⟨w.heap.size, 12, none⟩ = some (.int .i64 n.at_) ∧ w'.cell? ⟨w.heap.size, 13, none⟩ = some (.bool i.has) ∧ w'.cell? ⟨w.heap.size, 14, none⟩ = some (.int .i64 i.at_))) _ := HSS.out _ HB3.out
      clear hK K
      try simp only [Act.put, List.setIfInBounds_toArray, List.set_cons_zero, List.set_cons_succ]
      refine wpAnyK_step 8 rfl (by kernel_rfl) (fun K hK => ?_)
      go_simp
      refine hK.out _ _ ?hk9 ?_
      case hk9 => exact (fun h => nomatch (h.symm.trans (show _ = true by kernel_rfl)))
      clear hK K
      try simp only [Act.put, List.setIfInBounds_toArray, List.set_cons_zero, List.set_cons_succ]
      refine wpAnyK_take0 9 (v := ?v10) rfl (by kernel_rfl) (fun _ _ _ h => h) (Or.inl ⟨by rfl, ?hy10⟩) (fun h => nomatch (h.symm.trans (show _ = true by kernel_rfl))) ?_
      case hy10 => (intro w hSw; go_simp; try with_reducible rfl)
      try simp only [Act.put, List.setIfInBounds_toArray, List.set_cons_zero, List.set_cons_succ]
      refine wpAnyK_done (by kernel_rfl) ?_ _
      obtain ⟨k9, k10, k11, k12, k13, k14⟩ := HC.out w3 HB3.out
      have C1 := HC1.out w3
      clear HC1
      go_wp2_with fail
      refine C1.mono ?_
      clear C1 k9 k10 k11 k12 k13 k14
      rintro r w4 ⟨rfl, hB4⟩
      have HB4 : Hid (Below w1.heap.size w1 w4) := HB3.out.trans (hB4.mono HB3.out.size)
      have HBw : Hid (Below w.heap.size w w4) := HB.out.trans (HB4.out.mono HB.out.size)
      have HBox4 : Hid (Bl 42 w4 bw (wnC ⟨false, 0, 0⟩)) := HBq.out w4 HB4.out
      clear hB4
      cases o with
      | none =>
        have HX : Hid (openF e n i l = (⟨true, 0, 0⟩, 0)) := HN.out rfl
        unfold laV
        obtain ⟨wz, hwz⟩ : ∃ wz, w4.setRow bw (wnC ⟨true, 0, 0⟩).toArray = wz := ⟨_, rfl⟩
        have HBz : Hid (Bl 42 wz bw (wnC ⟨true, 0, 0⟩)) := by rw [← hwz]; exact set_bl2 HBox4.out
        have Hz : Hid (Below w.heap.size w wz) := by rw [← hwz]; exact setRow_below2 _ HBw.out HbW.out
        have HWz : Hid (w4.setRow bw (wnC ⟨true, 0, 0⟩).toArray = wz) := hwz
        clear hwz
        have hgi : (Tryz.prog.info? 42).map (·.size) = some 3 := by kernel_rfl
        go_wp2_with (refine wpList_store_row rfl 42 (.tmp 4) (.tmp 36) rfl bw (wnC ⟨true, 0, 0⟩).toArray rfl rfl 42 (wnC ⟨false, 0, 0⟩).toArray HBox4.out hgi rfl (by simp [wnC, Value.oneCell']) ?_; rw [HWz.out]; clear HWz hgi)
        (try simp only [Exit.inBlock, Exit.then])
        refine bodyPost_ret (v := .tuple #[wnV ⟨true, 0, 0⟩, .int .i64 0]) (results_wn rfl _ _ bw ⟨true, 0, 0⟩ _ rfl rfl HBz.out) rfl ⟨?_, Hz.out⟩
        rw [HX.out]; rfl

      | some x =>
        unfold laV
        by_cases hx : x < fi
        · have qx : decide (fi > x) = true := decide_eq_true hx
          have HX : Hid (openF e n i l = (⟨true, 0, 0⟩, 0)) := by show _ = _; rw [HO.out x rfl, hmx]; exact if_pos hx
          obtain ⟨wz, hwz⟩ : ∃ wz, w4.setRow bw (wnC ⟨true, 0, 0⟩).toArray = wz := ⟨_, rfl⟩
          have HBz : Hid (Bl 42 wz bw (wnC ⟨true, 0, 0⟩)) := by rw [← hwz]; exact set_bl2 HBox4.out
          have Hz : Hid (Below w.heap.size w wz) := by rw [← hwz]; exact setRow_below2 _ HBw.out HbW.out
          have HWz : Hid (w4.setRow bw (wnC ⟨true, 0, 0⟩).toArray = wz) := hwz
          clear hwz
          have hgi : (Tryz.prog.info? 42).map (·.size) = some 3 := by kernel_rfl
          go_wp2_with (refine wpList_store_row rfl 42 (.tmp 4) (.tmp 36) rfl bw (wnC ⟨true, 0, 0⟩).toArray rfl rfl 42 (wnC ⟨false, 0, 0⟩).toArray HBox4.out hgi rfl (by simp [wnC, Value.oneCell']) ?_; rw [HWz.out]; clear HWz hgi)
          (try simp only [Exit.inBlock, Exit.then])
          refine bodyPost_ret (v := .tuple #[wnV ⟨true, 0, 0⟩, .int .i64 0]) (results_wn rfl _ _ bw ⟨true, 0, 0⟩ _ rfl rfl HBz.out) rfl ⟨?_, Hz.out⟩
          rw [HX.out]; rfl

        · have qx : decide (fi > x) = false := decide_eq_false hx
          have HX : Hid (openF e n i l = (⟨false, fi, x⟩, 0)) := by show _ = _; rw [HO.out x rfl, hmx]; exact if_neg hx
          obtain ⟨wz, hwz⟩ : ∃ wz, w4.setRow bw (wnC ⟨false, fi, x⟩).toArray = wz := ⟨_, rfl⟩
          have HBz : Hid (Bl 42 wz bw (wnC ⟨false, fi, x⟩)) := by rw [← hwz]; exact set_bl2 HBox4.out
          have Hz : Hid (Below w.heap.size w wz) := by rw [← hwz]; exact setRow_below2 _ HBw.out HbW.out
          have HWz : Hid (w4.setRow bw (wnC ⟨false, fi, x⟩).toArray = wz) := hwz
          clear hwz
          have hgi : (Tryz.prog.info? 42).map (·.size) = some 3 := by kernel_rfl
          go_wp2_with (refine wpList_store_row rfl 42 (.tmp 4) (.tmp 39) rfl bw (wnC ⟨false, fi, x⟩).toArray rfl rfl 42 (wnC ⟨false, 0, 0⟩).toArray HBox4.out hgi rfl (by simp [wnC, Value.oneCell']) ?_; rw [HWz.out]; clear HWz hgi)
          (try simp only [Exit.inBlock, Exit.then])
          refine bodyPost_ret (v := .tuple #[wnV ⟨false, fi, x⟩, .int .i64 0]) (results_wn rfl _ _ bw ⟨false, fi, x⟩ _ rfl rfl HBz.out) rfl ⟨?_, Hz.out⟩
          rw [HX.out]; rfl

    · have hmx : max fn fi = fn := by omega
      have qm : decide (fn < fi) = false := decide_eq_false (by omega)
      go_wp2
      refine wp_region_K 8 (fun (w' : World) => w'.cell? ⟨w.heap.size, 11, none⟩ = some (.bool n.has) ∧ w'.cell? ⟨w.heap.size, 12, none⟩ = some (.int .i64 n.at_) ∧ w'.cell? ⟨w.heap.size, 13, none⟩ = some (.bool i.has) ∧ w'.cell? ⟨w.heap.size, 14, none⟩ = some (.int .i64 i.at_)) (by kernel_rfl) ?_
      have hHeld : ((fun (w' : World) => w'.cell? ⟨w.heap.size, 11, none⟩ = some (.bool n.has) ∧ w'.cell? ⟨w.heap.size, 12, none⟩ = some (.int .i64 n.at_) ∧ w'.cell? ⟨w.heap.size, 13, none⟩ = some (.bool i.has) ∧ w'.cell? ⟨w.heap.size, 14, none⟩ = some (.int .i64 i.at_))) (World.drew _) := HSS.out _ (below_drewN (Below.refl _ _) 1)
      refine wpAnyK_take0 0 (v := ?v11) rfl (by kernel_rfl) (fun _ _ _ h => h) (Or.inl ⟨by rfl, ?hy11⟩) (fun _ => hHeld) ?_
      case hy11 => (intro w hSw; go_simp; try with_reducible rfl)
      try simp only [Act.put, List.setIfInBounds_toArray, List.set_cons_zero, List.set_cons_succ]
      refine wpAnyK_take 1 [3, 8] (v := ?v12) rfl (by kernel_rfl) (fun _ _ _ h => h) (Or.inl ⟨by rfl, ?hy12⟩) hHeld ?_
      case hy12 => (intro w hSw; (try dsimp only at hSw); go_simp; try with_reducible rfl)
      try simp only [Act.put, List.setIfInBounds_toArray, List.set_cons_zero, List.set_cons_succ]
      refine wpAnyK_take0 2 (v := ?v13) rfl (by kernel_rfl) (fun _ _ _ h => h) (Or.inl ⟨by rfl, ?hy13⟩) (fun _ => hHeld) ?_
      case hy13 => (intro w hSw; go_simp; try with_reducible rfl)
      try simp only [Act.put, List.setIfInBounds_toArray, List.set_cons_zero, List.set_cons_succ]
      refine wpAnyK_take0 4 (v := ?v14) rfl (by kernel_rfl) (fun _ _ _ h => h) (Or.inl ⟨by rfl, ?hy14⟩) (fun _ => hHeld) ?_
      case hy14 => (intro w hSw; go_simp; try with_reducible rfl)
      try simp only [Act.put, List.setIfInBounds_toArray, List.set_cons_zero, List.set_cons_succ]
      refine wpAnyK_take 5 [7, 8] (v := ?v15) rfl (by kernel_rfl) (fun _ _ _ h => h) (Or.inl ⟨by rfl, ?hy15⟩) hHeld ?_
      case hy15 => (intro w hSw; (try dsimp only at hSw); go_simp; try with_reducible rfl)
      try simp only [Act.put, List.setIfInBounds_toArray, List.set_cons_zero, List.set_cons_succ]
      refine wpAnyK_take0 6 (v := ?v16) rfl (by kernel_rfl) (fun _ _ _ h => h) (Or.inl ⟨by rfl, ?hy16⟩) (fun _ => hHeld) ?_
      case hy16 => (intro w hSw; go_simp; try with_reducible rfl)
      try simp only [Act.put, List.setIfInBounds_toArray, List.set_cons_zero, List.set_cons_succ]
      refine wpAnyK_step 3 rfl (by kernel_rfl) (fun K hK => ?_)
      go_simp
      refine (HC2.out _).mono ?_
      rintro r w2 ⟨rfl, hB2⟩
      have HB2 : Hid (Below w1.heap.size w1 w2) := (below_drewN (Below.refl _ _) 1).trans (hB2.mono (Nat.le_refl _))
      clear hB2
      dsimp only
      refine hK.out _ _ ?hk17 ?_
      case hk17 => exact fun _ => HSS.out _ HB2.out
      have hHeld : ((fun (w' : World) => w'.cell? ⟨w.heap.size, 11, none⟩ = some (.bool n.has) ∧ w'.cell? ⟨w.heap.size, 12, none⟩ = some (.int .i64 n.at_) ∧ w'.cell? ⟨w.heap.size, 13, none⟩ = some (.bool i.has) ∧ w'.cell? ⟨w.heap.size, 14, none⟩ = some (.int .i64 i.at_))) _ := HSS.out _ HB2.out
      clear hK K
      try simp only [Act.put, List.setIfInBounds_toArray, List.set_cons_zero, List.set_cons_succ]
      refine wpAnyK_step 7 rfl (by kernel_rfl) (fun K hK => ?_)
      go_simp
      refine (HC3.out _).mono ?_
      rintro r w3 ⟨rfl, hB3⟩
      have HB3 : Hid (Below w1.heap.size w1 w3) := HB2.out.trans (hB3.mono HB2.out.size)
      clear hB3
      dsimp only
      refine hK.out _ _ ?hk18 ?_
      case hk18 => exact fun _ => HSS.out _ HB3.out
      have hHeld : ((fun (w' : World) => w'.cell? ⟨w.heap.size, 11, none⟩ = some (.bool n.has) ∧ w'.cell? ⟨w.heap.size, 12, none⟩ = some (.int .i64 n.at_) ∧ w'.cell? ⟨w.heap.size, 13, none⟩ = some (.bool i.has) ∧ w'.cell? ⟨w.heap.size, 14, none⟩ = some (.int .i64 i.at_))) _ := HSS.out _ HB3.out
      clear hK K
      try simp only [Act.put, List.setIfInBounds_toArray, List.set_cons_zero, List.set_cons_succ]
      refine wpAnyK_step 8 rfl (by kernel_rfl) (fun K hK => ?_)
      go_simp
      refine hK.out _ _ ?hk19 ?_
      case hk19 => exact (fun h => nomatch (h.symm.trans (show _ = true by kernel_rfl)))
      clear hK K
      try simp only [Act.put, List.setIfInBounds_toArray, List.set_cons_zero, List.set_cons_succ]
      refine wpAnyK_take0 9 (v := ?v20) rfl (by kernel_rfl) (fun _ _ _ h => h) (Or.inl ⟨by rfl, ?hy20⟩) (fun h => nomatch (h.symm.trans (show _ = true by kernel_rfl))) ?_
      case hy20 => (intro w hSw; go_simp; try with_reducible rfl)
      try simp only [Act.put, List.setIfInBounds_toArray, List.set_cons_zero, List.set_cons_succ]
      refine wpAnyK_done (by kernel_rfl) ?_ _
      obtain ⟨k9, k10, k11, k12, k13, k14⟩ := HC.out w3 HB3.out
      have C1 := HC1.out w3
      clear HC1
      go_wp2_with fail
      refine C1.mono ?_
      clear C1 k9 k10 k11 k12 k13 k14
      rintro r w4 ⟨rfl, hB4⟩
      have HB4 : Hid (Below w1.heap.size w1 w4) := HB3.out.trans (hB4.mono HB3.out.size)
      have HBw : Hid (Below w.heap.size w w4) := HB.out.trans (HB4.out.mono HB.out.size)
      have HBox4 : Hid (Bl 42 w4 bw (wnC ⟨false, 0, 0⟩)) := HBq.out w4 HB4.out
      clear hB4
      cases o with
      | none =>
        have HX : Hid (openF e n i l = (⟨true, 0, 0⟩, 0)) := HN.out rfl
        unfold laV
        obtain ⟨wz, hwz⟩ : ∃ wz, w4.setRow bw (wnC ⟨true, 0, 0⟩).toArray = wz := ⟨_, rfl⟩
        have HBz : Hid (Bl 42 wz bw (wnC ⟨true, 0, 0⟩)) := by rw [← hwz]; exact set_bl2 HBox4.out
        have Hz : Hid (Below w.heap.size w wz) := by rw [← hwz]; exact setRow_below2 _ HBw.out HbW.out
        have HWz : Hid (w4.setRow bw (wnC ⟨true, 0, 0⟩).toArray = wz) := hwz
        clear hwz
        have hgi : (Tryz.prog.info? 42).map (·.size) = some 3 := by kernel_rfl
        go_wp2_with (refine wpList_store_row rfl 42 (.tmp 4) (.tmp 36) rfl bw (wnC ⟨true, 0, 0⟩).toArray rfl rfl 42 (wnC ⟨false, 0, 0⟩).toArray HBox4.out hgi rfl (by simp [wnC, Value.oneCell']) ?_; rw [HWz.out]; clear HWz hgi)
        (try simp only [Exit.inBlock, Exit.then])
        refine bodyPost_ret (v := .tuple #[wnV ⟨true, 0, 0⟩, .int .i64 0]) (results_wn rfl _ _ bw ⟨true, 0, 0⟩ _ rfl rfl HBz.out) rfl ⟨?_, Hz.out⟩
        rw [HX.out]; rfl

      | some x =>
        unfold laV
        by_cases hx : x < fn
        · have qx : decide (fn > x) = true := decide_eq_true hx
          have HX : Hid (openF e n i l = (⟨true, 0, 0⟩, 0)) := by show _ = _; rw [HO.out x rfl, hmx]; exact if_pos hx
          obtain ⟨wz, hwz⟩ : ∃ wz, w4.setRow bw (wnC ⟨true, 0, 0⟩).toArray = wz := ⟨_, rfl⟩
          have HBz : Hid (Bl 42 wz bw (wnC ⟨true, 0, 0⟩)) := by rw [← hwz]; exact set_bl2 HBox4.out
          have Hz : Hid (Below w.heap.size w wz) := by rw [← hwz]; exact setRow_below2 _ HBw.out HbW.out
          have HWz : Hid (w4.setRow bw (wnC ⟨true, 0, 0⟩).toArray = wz) := hwz
          clear hwz
          have hgi : (Tryz.prog.info? 42).map (·.size) = some 3 := by kernel_rfl
          go_wp2_with (refine wpList_store_row rfl 42 (.tmp 4) (.tmp 36) rfl bw (wnC ⟨true, 0, 0⟩).toArray rfl rfl 42 (wnC ⟨false, 0, 0⟩).toArray HBox4.out hgi rfl (by simp [wnC, Value.oneCell']) ?_; rw [HWz.out]; clear HWz hgi)
          (try simp only [Exit.inBlock, Exit.then])
          refine bodyPost_ret (v := .tuple #[wnV ⟨true, 0, 0⟩, .int .i64 0]) (results_wn rfl _ _ bw ⟨true, 0, 0⟩ _ rfl rfl HBz.out) rfl ⟨?_, Hz.out⟩
          rw [HX.out]; rfl

        · have qx : decide (fn > x) = false := decide_eq_false hx
          have HX : Hid (openF e n i l = (⟨false, fn, x⟩, 0)) := by show _ = _; rw [HO.out x rfl, hmx]; exact if_neg hx
          obtain ⟨wz, hwz⟩ : ∃ wz, w4.setRow bw (wnC ⟨false, fn, x⟩).toArray = wz := ⟨_, rfl⟩
          have HBz : Hid (Bl 42 wz bw (wnC ⟨false, fn, x⟩)) := by rw [← hwz]; exact set_bl2 HBox4.out
          have Hz : Hid (Below w.heap.size w wz) := by rw [← hwz]; exact setRow_below2 _ HBw.out HbW.out
          have HWz : Hid (w4.setRow bw (wnC ⟨false, fn, x⟩).toArray = wz) := hwz
          clear hwz
          have hgi : (Tryz.prog.info? 42).map (·.size) = some 3 := by kernel_rfl
          go_wp2_with (refine wpList_store_row rfl 42 (.tmp 4) (.tmp 39) rfl bw (wnC ⟨false, fn, x⟩).toArray rfl rfl 42 (wnC ⟨false, 0, 0⟩).toArray HBox4.out hgi rfl (by simp [wnC, Value.oneCell']) ?_; rw [HWz.out]; clear HWz hgi)
          (try simp only [Exit.inBlock, Exit.then])
          refine bodyPost_ret (v := .tuple #[wnV ⟨false, fn, x⟩, .int .i64 0]) (results_wn rfl _ _ bw ⟨false, fn, x⟩ _ rfl rfl HBz.out) rfl ⟨?_, Hz.out⟩
          rw [HX.out]; rfl

  · have HX : Hid (openF e n i l = (⟨false, 0, 0⟩, 12)) := open_out hl
    rw [decide_eq_false hl] at CA
    clear hB hbl HC hl he hn hi HSS HBq
    go_enter Tryz.func8, Tryz.ntmps8
    go_wp2_with fail
    rw [show (w.alloc (Obj.cells #[x0, x1, x2, x3, x4, x5, x6, x7, x8, .bool e.has, .int .i64 e.at_, .bool n.has, .int .i64 n.at_, .bool i.has, .int .i64 i.at_] 28)).alloc (Obj.cells #[.bool false, .int .i64 0, .int .i64 0] 42) = W from hW]
    clear hW
    rw [HBW.out]
    refine CA.mono ?_
    clear CA
    rintro r w1 ⟨rfl, rfl⟩
    obtain ⟨wz, hwz⟩ : ∃ wz, w1.setRow bw (wnC ⟨false, 0, 0⟩).toArray = wz := ⟨_, rfl⟩
    have HBz : Hid (Bl 42 wz bw (wnC ⟨false, 0, 0⟩)) := by rw [← hwz]; exact set_bl2 HBox.out
    have Hz : Hid (Below w.heap.size w wz) := by rw [← hwz]; exact setRow_below2 _ HB.out HbW.out
    have HWz : Hid (w1.setRow bw (wnC ⟨false, 0, 0⟩).toArray = wz) := hwz
    clear hwz
    have hgi : (Tryz.prog.info? 42).map (·.size) = some 3 := by kernel_rfl
    go_wp2_with (refine wpList_store_row rfl 42 (.tmp 4) (.tmp 12) rfl bw (wnC ⟨false, 0, 0⟩).toArray rfl rfl 42 (wnC ⟨false, 0, 0⟩).toArray HBox.out hgi rfl (by simp [wnC, Value.oneCell']) ?_; rw [HWz.out]; clear HWz hgi)
    (try simp only [Exit.inBlock, Exit.then])
    refine bodyPost_ret (v := .tuple #[wnV ⟨false, 0, 0⟩, .int .i64 12]) (results_wn rfl _ _ bw ⟨false, 0, 0⟩ _ rfl rfl HBz.out) rfl ⟨?_, Hz.out⟩
    rw [HX.out]; rfl

end Go.Proofs.YtjehkpndchadbaaGreatDoor

namespace Go.Proofs.YtjehkpndchadbaaGreatDoor
open Go.RowKit

theorem kids_len {v : List Nd} {a : Int} : (kidsF v a).length ≤ v.length := by
  unfold kidsF
  split
  · rename_i h
    have := kidsF_len (v := v) (v.length + 1) (a.toNat + 1) (v.getD a.toNat (nd0 0)).kids (by omega)
    omega
  · simp
theorem allT_drop {v : List Nd} {L : List Nat} {j : Nat} (hj : j < L.length) : allT v (L.drop j) = (decide ((v.getD (L.getD j 0) (nd0 0)).kind = 5) && allT v (L.drop (j + 1))) := by
  have e : L.getD j 0 = L[j] := by rw [List.getD_eq_getElem?_getD, List.getElem?_eq_getElem hj]; rfl
  rw [e, List.drop_eq_getElem_cons hj]
  rfl

set_option maxRecDepth 100000 in
set_option maxHeartbeats 8000000 in
theorem allTexts_any (l : List Nd) (ao : Option Addr) (cap : Nat) (k : Int) (w : World) (h : NR w (.slice ao l.length cap) l ao cap) (hl : l.length ≤ 1000000000) :
    Calls Tryz.prog 25 #[.slice ao l.length cap, .int .i64 k] w fun e w' => e = .returned (.bool (allT l (kidsF l k))) ∧ Below w.heap.size w w' := by
  have CK := kids_any _ l ao cap k w h hl
  have HLT : Hid (∀ i ∈ kidsF l k, i < l.length) := kidsF_lt
  have hlen : (kidsF l k).length ≤ 1000000000 := Nat.le_trans kids_len hl
  have HN : Hid (NR w (.slice ao l.length cap) l ao cap) := h
  generalize kidsF l k = L at *
  clear h
  go_enter Tryz.func25, Tryz.ntmps25
  go_wp2_with fail
  refine CK.mono ?_
  clear CK
  rintro e w1 ⟨r, rfl, hoi⟩
  obtain ⟨ka, kc, rfl, hkc, hkat⟩ := hoi.at
  have HAT : Hid (∀ j, j < L.length → ∃ g, ka = some ⟨g, 0, none⟩ ∧ w1.cell? ⟨g, j, none⟩ = some (iV (L.getD j 0))) := hkat
  have HB : Hid (Below w.heap.size w w1) := hoi.bel
  have HN1 : Hid (NR w1 (.slice ao l.length cap) l ao cap) := HN.out.below hoi.bel (Nat.le_refl _)
  clear hoi hkat HN
  go_wp2
  go_loopw [11] (fun s11 wx => ∃ j : Nat, s11 = .int .i64 j ∧ j ≤ L.length ∧ wx = w1 ∧ allT l (L.drop j) = allT l L) (fun x _ => L.length - (intOf x).toNat)
  case atStart => exact ⟨0, rfl, Nat.zero_le _, rfl, rfl⟩
  case round =>
    obtain ⟨j, rfl, hj, rfl, hd⟩ := hrel
    have HD : Hid (allT l (L.drop j) = allT l L) := hd
    clear hd
    by_cases hjl : j < L.length
    · have q0 : decide ((j : Int) < (L.length : Int)) = true := by simp; omega
      obtain ⟨kg, rfl, ckj⟩ := HAT.out j hjl
      have hkl : L.getD j 0 < l.length := HLT.out _ (by rw [List.getD_eq_getElem?_getD, List.getElem?_eq_getElem hjl]; exact List.getElem_mem hjl)
      have hr2 := HD.out
      rw [allT_drop hjl] at hr2
      generalize L.getD j 0 = i at *
      obtain ⟨g, off, rfl, hc2⟩ := HN1.out.at hkl
      obtain ⟨n, hn⟩ : ∃ n, l.getD i (nd0 0) = n := ⟨_, rfl⟩
      rw [hn] at hc2 hr2
      have ck0 := hc2 0 (.int .i64 n.kind) (by omega) rfl
      rw [Nat.add_zero] at ck0
      unfold iV at ckj
      by_cases h5 : n.kind = 5
      · have q5 : (n.kind != 5) = false := by simpa using h5
        have HD2 : Hid (allT l (L.drop (j + 1)) = allT l L) := by show _ = _; rw [← hr2, decide_eq_true h5]; rfl
        clear HD hr2 hc2 hn h5
        go_wp2
        go_roundw
        case rel => exact ⟨j + 1, by go_num, by omega, trivial, HD2.out⟩
        case measure => simp [intOf]; omega
      · have q5 : (n.kind != 5) = true := by simpa using h5
        have HF : Hid (allT l L = false) := by show _ = _; rw [← hr2, decide_eq_false h5]; rfl
        clear HD hr2 hc2 hn h5
        go_wp2
        go_ret
        rw [HF.out]
        exact ⟨rfl, HB.out⟩
    · have q0 : decide ((j : Int) < (L.length : Int)) = false := by simp; omega
      have HF : Hid (allT l L = true) := by show _ = _; rw [← HD.out, List.drop_eq_nil_of_le (by omega)]; rfl
      clear HD
      go_wp2
      go_ret
      rw [HF.out]
      exact ⟨rfl, HB.out⟩

set_option maxRecDepth 100000 in
set_option maxHeartbeats 8000000 in
theorem text_any (l : List Nd) (ao : Option Addr) (cap : Nat) (k : List UInt8) (w : World) (h : NR w (.slice ao l.length cap) l ao cap) (hl : l.length ≤ 1000000000) :
    Calls Tryz.prog 26 #[.slice ao l.length cap, .string ⟨k.toArray⟩] w fun e w' => e = .returned (.tuple #[.string ⟨(txF l k).1.toArray⟩, .bool (txF l k).2]) ∧ Below w.heap.size w w' := by
  have CM := member_any _ l ao cap 0 k w h hl
  have HN : Hid (NR w (.slice ao l.length cap) l ao cap) := h
  have HI := mem_in l k
  have HF : Hid (txF l k = if memF l 0 k < 0 then ([], false) else ((l.getD (memF l 0 k).toNat (nd0 0)).text, true)) := rfl
  have hlt : ∀ i ∈ kidsF l 0, i < l.length := kidsF_lt
  rcases HI with e | ⟨i, hi, e, _⟩
  · rw [e] at HF CM
    clear h hlt e
    go_enter Tryz.func26, Tryz.ntmps26
    go_wp2_with fail
    refine CM.mono ?_
    clear CM
    rintro e w1 ⟨rfl, hB⟩
    have HB : Hid (Below w.heap.size w w1) := hB
    clear hB HN
    go_wp2
    go_ret2
    rw [HF.out]
    exact ⟨rfl, HB.out⟩
  · have hil := hlt i hi
    rw [e] at HF CM
    rw [Int.toNat_natCast] at HF
    have HF2 : Hid (txF l k = ((l.getD i (nd0 0)).text, true)) := by show _ = _; rw [HF.out]; exact if_neg (by omega)
    clear h hlt e hi HF
    have q0 : decide ((i : Int) < 0) = false := decide_eq_false (by omega)
    go_enter Tryz.func26, Tryz.ntmps26
    go_wp2_with fail
    refine CM.mono ?_
    clear CM
    rintro e w1 ⟨rfl, hB⟩
    have HB : Hid (Below w.heap.size w w1) := hB
    obtain ⟨g, off, rfl, hc2⟩ := (HN.out.below hB (Nat.le_refl _)).at hil
    obtain ⟨n, hn⟩ : ∃ n, l.getD i (nd0 0) = n := ⟨_, rfl⟩
    rw [hn] at hc2 HF2
    have ck2 := hc2 2 (.string ⟨n.text.toArray⟩) (by omega) rfl
    clear hB HN hc2 hn
    go_wp2
    go_ret2
    rw [HF2.out]
    exact ⟨rfl, HB.out⟩

def tmC (t : Tm) : List Value := [.bool t.has, .int .i64 t.at_]
def tmV (t : Tm) : Value := .agg #[.bool t.has, .int .i64 t.at_]
theorem results_tm {fn : Func} {p : Tmp} (h : fn.results = #[.cell p 26]) (tmps : Array Value) (w : World) (b : Nat) (t : Tm) (hp : tmps.getD p undef = .pointer (some ⟨b, 0, none⟩)) (hb : Bl 26 w b (tmC t)) :
    (results fn tmps).run Tryz.prog w = .ok (tmV t) w := by
  have hr : (loadVar 26 ⟨b, 0, none⟩).run Tryz.prog w = .ok (tmV t) w := by
    refine run_loadVar_mid w b 0 26 (tmC t) _ ?_ Tryz.underlying26 rfl (by kernel_rfl)
    intro j v hv
    obtain ⟨hj, e⟩ := List.getElem?_eq_some_iff.1 hv
    rw [Nat.zero_add, ← e]
    exact hb.cell j hj
  rw [results_cell h, hp]
  unfold asAddr
  simp only [Sem.run_pure, Result.andThen_ok]
  exact hr
set_option maxRecDepth 100000 in
set_option maxHeartbeats 8000000 in
theorem moment_any (l : List Nd) (ao : Option Addr) (cap : Nat) (k : List UInt8) (w : World) (h : NR w (.slice ao l.length cap) l ao cap) (hl : l.length ≤ 1000000000) :
    Calls Tryz.prog 28 #[.slice ao l.length cap, .string ⟨k.toArray⟩] w fun e w' => e = .returned (tmV (moF l k)) ∧ Below w.heap.size w w' := by
  obtain ⟨w0, hw0⟩ : ∃ w0 : World, w.alloc (.cells (tmC tm0).toArray 26) = w0 := ⟨_, rfl⟩
  have hB0 : Below w.heap.size w w0 := by rw [← hw0]; exact alloc_below _ _
  have HBl : Hid (Bl 26 w0 w.heap.size (tmC tm0)) := by rw [← hw0]; exact alloc_bl _ _ _
  have HB0 : Hid (Below w.heap.size w w0) := hB0
  have HW0 : Hid (w.alloc (.cells #[.bool false, .int .i64 0] 26) = w0) := hw0
  have CM := member_any _ l ao cap 0 k w0 (h.below hB0 (Nat.le_refl _)) hl
  have HN : Hid (NR w0 (.slice ao l.length cap) l ao cap) := h.below hB0 (Nat.le_refl _)
  have HI := mem_in l k
  have HF : Hid (moF l k = if memF l 0 k < 0 then tm0 else ⟨true, (l.getD (memF l 0 k).toNat (nd0 0)).int⟩) := rfl
  have hlt : ∀ i ∈ kidsF l 0, i < l.length := kidsF_lt
  have hgi : (Tryz.prog.info? 26).map (·.size) = some 2 := by kernel_rfl
  rcases HI with e | ⟨i, hi, e, _⟩
  · rw [e] at HF CM
    have HF2 : Hid (moF l k = tm0) := by show _ = _; rw [HF.out]; exact if_pos (by decide)
    clear h hlt e hB0 hw0 HF
    go_enter Tryz.func28, Tryz.ntmps28
    go_wp2_with fail
    rw [HW0.out]
    clear HW0
    refine CM.mono ?_
    clear CM
    rintro e w1 ⟨rfl, hB⟩
    have HB : Hid (Below w.heap.size w w1) := HB0.out.trans (hB.mono HB0.out.size)
    have HBox : Hid (Bl 26 w1 w.heap.size (tmC tm0)) := HBl.out.below hB HBl.out.lt
    clear hB HN HB0 HBl
    obtain ⟨wz, hwz⟩ : ∃ wz, w1.setRow w.heap.size (tmC tm0).toArray = wz := ⟨_, rfl⟩
    have HBz : Hid (Bl 26 wz w.heap.size (tmC tm0)) := by rw [← hwz]; exact set_bl2 HBox.out
    have Hz : Hid (Below w.heap.size w wz) := by rw [← hwz]; exact setRow_below2 _ HB.out (Nat.le_refl _)
    have HWz : Hid (w1.setRow w.heap.size (tmC tm0).toArray = wz) := hwz
    clear hwz
    go_wp2_with (refine wpList_store_row rfl 26 (.tmp 4) (.tmp 11) rfl w.heap.size (tmC tm0).toArray rfl rfl 26 (tmC tm0).toArray HBox.out hgi rfl (by simp [tmC, tm0, Value.oneCell']) ?_; rw [HWz.out]; clear HWz hgi)
    (try simp only [Exit.inBlock, Exit.then])
    refine bodyPost_ret (v := tmV tm0) (results_tm rfl _ _ w.heap.size tm0 rfl HBz.out) rfl ⟨?_, Hz.out⟩
    rw [HF2.out]
  · have hil := hlt i hi
    rw [e] at HF CM
    rw [Int.toNat_natCast] at HF
    have HF2 : Hid (moF l k = ⟨true, (l.getD i (nd0 0)).int⟩) := by show _ = _; rw [HF.out]; exact if_neg (by omega)
    have q0 : decide ((i : Int) < 0) = false := decide_eq_false (by omega)
    clear h hlt e hi hB0 hw0 HF
    go_enter Tryz.func28, Tryz.ntmps28
    go_wp2_with fail
    rw [HW0.out]
    clear HW0
    refine CM.mono ?_
    clear CM
    rintro e w1 ⟨rfl, hB⟩
    have HB : Hid (Below w.heap.size w w1) := HB0.out.trans (hB.mono HB0.out.size)
    have HBox : Hid (Bl 26 w1 w.heap.size (tmC tm0)) := HBl.out.below hB HBl.out.lt
    obtain ⟨g, off, rfl, hc2⟩ := (HN.out.below hB (Nat.le_refl _)).at hil
    obtain ⟨n, hn⟩ : ∃ n, l.getD i (nd0 0) = n := ⟨_, rfl⟩
    rw [hn] at hc2 HF2
    have ck4 := hc2 4 (.int .i64 n.int) (by omega) rfl
    clear hB HN HB0 HBl hc2 hn
    obtain ⟨wz, hwz⟩ : ∃ wz, w1.setRow w.heap.size (tmC ⟨true, n.int⟩).toArray = wz := ⟨_, rfl⟩
    have HBz : Hid (Bl 26 wz w.heap.size (tmC ⟨true, n.int⟩)) := by rw [← hwz]; exact set_bl2 HBox.out
    have Hz : Hid (Below w.heap.size w wz) := by rw [← hwz]; exact setRow_below2 _ HB.out (Nat.le_refl _)
    have HWz : Hid (w1.setRow w.heap.size (tmC ⟨true, n.int⟩).toArray = wz) := hwz
    clear hwz
    go_wp2_with (refine wpList_store_row rfl 26 (.tmp 4) (.tmp 17) rfl w.heap.size (tmC ⟨true, n.int⟩).toArray rfl rfl 26 (tmC tm0).toArray HBox.out hgi rfl (by simp [tmC, Value.oneCell']) ?_; rw [HWz.out]; clear HWz hgi)
    (try simp only [Exit.inBlock, Exit.then])
    refine bodyPost_ret (v := tmV ⟨true, n.int⟩) (results_tm rfl _ _ w.heap.size ⟨true, n.int⟩ rfl HBz.out) rfl ⟨?_, Hz.out⟩
    rw [HF2.out]

end Go.Proofs.YtjehkpndchadbaaGreatDoor

namespace Go.Proofs.YtjehkpndchadbaaGreatDoor
open Go.RowKit

set_option maxRecDepth 100000 in
set_option maxHeartbeats 8000000 in
theorem fits_any (l : List Nd) (ao : Option Addr) (cap k : Nat) (w : World) (h : NR w (.slice ao l.length cap) l ao cap) (hl : l.length ≤ 1000000000) (hk : k < l.length) :
    Calls Tryz.prog 13 #[.slice ao l.length cap, .int .i64 k] w fun e w' => e = .returned (.bool (fitF l k)) ∧ Below w.heap.size w w' := by
  have CT := allTexts_any l ao cap (k : Int) w h hl
  obtain ⟨g, off, rfl, hc2⟩ := h.at hk
  have HFF : Hid (fitF l k = if (l.getD k (nd0 0)).key = kAud then (if (l.getD k (nd0 0)).kind = 6 then allT l (kidsF l (k : Int)) else decide ((l.getD k (nd0 0)).kind = 5))
    else if (l.getD k (nd0 0)).key = kIss ∨ (l.getD k (nd0 0)).key = kSub ∨ (l.getD k (nd0 0)).key = kJti then decide ((l.getD k (nd0 0)).kind = 5)
    else if (l.getD k (nd0 0)).key = kExp ∨ (l.getD k (nd0 0)).key = kNbf ∨ (l.getD k (nd0 0)).key = kIat then (l.getD k (nd0 0)).whole
    else true) := rfl
  obtain ⟨n, hn⟩ : ∃ n, l.getD k (nd0 0) = n := ⟨_, rfl⟩
  rw [hn] at hc2 HFF
  obtain ⟨nk, nky, nt, nw, ni, nq⟩ := n
  dsimp only at HFF
  have ck0 := hc2 0 (.int .i64 nk) (by omega) rfl
  have ck1 := hc2 1 (.string ⟨nky.toArray⟩) (by omega) rfl
  have ck3 := hc2 3 (.bool nw) (by omega) rfl
  rw [Nat.add_zero] at ck0
  generalize allT l (kidsF l (k : Int)) = B at *
  clear h hc2 hn
  by_cases hAud : nky = kAud
  · subst hAud
    rw [if_pos rfl] at HFF
    have q0 : (([97, 117, 100] : List UInt8) == [97, 117, 100]) = true := by decide
    by_cases h6 : nk = 6
    · subst h6
      have HF : Hid (fitF l k = B) := by show _ = _; rw [HFF.out]; exact if_pos rfl
      clear HFF
      go_enter Tryz.func13, Tryz.ntmps13
      go_wp2_with fail
      refine CT.mono ?_
      clear CT
      rintro e w1 ⟨rfl, hB⟩
      have HB : Hid (Below w.heap.size w w1) := hB
      clear hB
      go_wp2
      (try rw [Exit.noGoto_ret])
      go_ret
      rw [HF.out]
      exact ⟨rfl, HB.out⟩
    · have q6 : (nk == 6) = false := by simpa using h6
      rw [if_neg h6] at HFF
      have HF : Hid (fitF l k = (nk == 5)) := by show _ = _; rw [HFF.out]; by_cases hx : nk = 5 <;> simp [hx]
      clear HFF CT
      go_enter Tryz.func13, Tryz.ntmps13
      go_wp2
      (try rw [Exit.noGoto_ret])
      go_ret
      rw [HF.out]
      exact ⟨rfl, Below.refl _ _⟩
  by_cases hIss : nky = kIss
  · subst hIss
    have q0 : (([105, 115, 115] : List UInt8) == [97, 117, 100]) = false := by decide
    have q1 : (([105, 115, 115] : List UInt8) == [105, 115, 115]) = true := by decide
    have HF : Hid (fitF l k = (nk == 5)) := by show _ = _; rw [HFF.out]; rw [if_neg (by decide), if_pos (by simp)]; by_cases hx : nk = 5 <;> simp [hx]
    clear HFF CT
    go_enter Tryz.func13, Tryz.ntmps13
    go_wp2
    (try rw [Exit.noGoto_ret])
    go_ret
    rw [HF.out]
    exact ⟨rfl, Below.refl _ _⟩
  by_cases hSub : nky = kSub
  · subst hSub
    have q0 : (([115, 117, 98] : List UInt8) == [97, 117, 100]) = false := by decide
    have q1 : (([115, 117, 98] : List UInt8) == [105, 115, 115]) = false := by decide
    have q2 : (([115, 117, 98] : List UInt8) == [115, 117, 98]) = true := by decide
    have HF : Hid (fitF l k = (nk == 5)) := by show _ = _; rw [HFF.out]; rw [if_neg (by decide), if_pos (by simp)]; by_cases hx : nk = 5 <;> simp [hx]
    clear HFF CT
    go_enter Tryz.func13, Tryz.ntmps13
    go_wp2
    (try rw [Exit.noGoto_ret])
    go_ret
    rw [HF.out]
    exact ⟨rfl, Below.refl _ _⟩
  by_cases hJti : nky = kJti
  · subst hJti
    have q0 : (([106, 116, 105] : List UInt8) == [97, 117, 100]) = false := by decide
    have q1 : (([106, 116, 105] : List UInt8) == [105, 115, 115]) = false := by decide
    have q2 : (([106, 116, 105] : List UInt8) == [115, 117, 98]) = false := by decide
    have q3 : (([106, 116, 105] : List UInt8) == [106, 116, 105]) = true := by decide
    have HF : Hid (fitF l k = (nk == 5)) := by show _ = _; rw [HFF.out]; rw [if_neg (by decide), if_pos (by simp)]; by_cases hx : nk = 5 <;> simp [hx]
    clear HFF CT
    go_enter Tryz.func13, Tryz.ntmps13
    go_wp2
    (try rw [Exit.noGoto_ret])
    go_ret
    rw [HF.out]
    exact ⟨rfl, Below.refl _ _⟩
  by_cases hExp : nky = kExp
  · subst hExp
    have q0 : (([101, 120, 112] : List UInt8) == [97, 117, 100]) = false := by decide
    have q1 : (([101, 120, 112] : List UInt8) == [105, 115, 115]) = false := by decide
    have q2 : (([101, 120, 112] : List UInt8) == [115, 117, 98]) = false := by decide
    have q3 : (([101, 120, 112] : List UInt8) == [106, 116, 105]) = false := by decide
    have q4 : (([101, 120, 112] : List UInt8) == [101, 120, 112]) = true := by decide
    have HF : Hid (fitF l k = nw) := by show _ = _; rw [HFF.out]; rw [if_neg (by decide), if_neg (by decide), if_pos (by simp)]
    clear HFF CT
    go_enter Tryz.func13, Tryz.ntmps13
    go_wp2
    (try rw [Exit.noGoto_ret])
    go_ret
    rw [HF.out]
    exact ⟨rfl, Below.refl _ _⟩
  by_cases hNbf : nky = kNbf
  · subst hNbf
    have q0 : (([110, 98, 102] : List UInt8) == [97, 117, 100]) = false := by decide
    have q1 : (([110, 98, 102] : List UInt8) == [105, 115, 115]) = false := by decide
    have q2 : (([110, 98, 102] : List UInt8) == [115, 117, 98]) = false := by decide
    have q3 : (([110, 98, 102] : List UInt8) == [106, 116, 105]) = false := by decide
    have q4 : (([110, 98, 102] : List UInt8) == [101, 120, 112]) = false := by decide
    have q5 : (([110, 98, 102] : List UInt8) == [110, 98, 102]) = true := by decide
    have HF : Hid (fitF l k = nw) := by show _ = _; rw [HFF.out]; rw [if_neg (by decide), if_neg (by decide), if_pos (by simp)]
    clear HFF CT
    go_enter Tryz.func13, Tryz.ntmps13
    go_wp2
    (try rw [Exit.noGoto_ret])
    go_ret
    rw [HF.out]
    exact ⟨rfl, Below.refl _ _⟩
  by_cases hIat : nky = kIat
  · subst hIat
    have q0 : (([105, 97, 116] : List UInt8) == [97, 117, 100]) = false := by decide
    have q1 : (([105, 97, 116] : List UInt8) == [105, 115, 115]) = false := by decide
    have q2 : (([105, 97, 116] : List UInt8) == [115, 117, 98]) = false := by decide
    have q3 : (([105, 97, 116] : List UInt8) == [106, 116, 105]) = false := by decide
    have q4 : (([105, 97, 116] : List UInt8) == [101, 120, 112]) = false := by decide
    have q5 : (([105, 97, 116] : List UInt8) == [110, 98, 102]) = false := by decide
    have q6 : (([105, 97, 116] : List UInt8) == [105, 97, 116]) = true := by decide
    have HF : Hid (fitF l k = nw) := by show _ = _; rw [HFF.out]; rw [if_neg (by decide), if_neg (by decide), if_pos (by simp)]
    clear HFF CT
    go_enter Tryz.func13, Tryz.ntmps13
    go_wp2
    (try rw [Exit.noGoto_ret])
    go_ret
    rw [HF.out]
    exact ⟨rfl, Below.refl _ _⟩
  have q0 : (nky == [97, 117, 100]) = false := by simpa using hAud
  have q1 : (nky == [105, 115, 115]) = false := by simpa using hIss
  have q2 : (nky == [115, 117, 98]) = false := by simpa using hSub
  have q3 : (nky == [106, 116, 105]) = false := by simpa using hJti
  have q4 : (nky == [101, 120, 112]) = false := by simpa using hExp
  have q5 : (nky == [110, 98, 102]) = false := by simpa using hNbf
  have q6 : (nky == [105, 97, 116]) = false := by simpa using hIat
  have HF : Hid (fitF l k = true) := by
    show _ = _
    rw [HFF.out, if_neg hAud, if_neg (by rintro (h | h | h) <;> contradiction), if_neg (by rintro (h | h | h) <;> contradiction)]
  clear HFF CT hAud hIss hSub hJti hExp hNbf hIat
  go_enter Tryz.func13, Tryz.ntmps13
  go_wp2
  (try rw [Exit.noGoto_ret])
  go_ret
  rw [HF.out]
  exact ⟨rfl, Below.refl _ _⟩

end Go.Proofs.YtjehkpndchadbaaGreatDoor

namespace Go.Proofs.YtjehkpndchadbaaGreatDoor
open Go.RowKit

theorem take_map {v : List Nd} {L : List Nat} {j : Nat} (hj : j < L.length) : (L.take (j + 1)).map (fun i => (v.getD i (nd0 0)).text) = (L.take j).map (fun i => (v.getD i (nd0 0)).text) ++ [(v.getD (L.getD j 0) (nd0 0)).text] := by
  rw [List.take_add_one, List.getElem?_eq_getElem hj, List.map_append]
  simp [List.getD_eq_getElem?_getD, hj]
theorem one_txt (w : World) (x : List UInt8) : TR (w.alloc (.cells #[.string ⟨x.toArray⟩] 9)) (.slice (some ⟨w.heap.size, 0, none⟩) 1 1) [x] (some ⟨w.heap.size, 0, none⟩) 1 := by
  have hbl : Bl 9 (w.alloc (.cells #[.string ⟨x.toArray⟩] 9)) w.heap.size [.string ⟨x.toArray⟩] := alloc_bl _ _ _
  refine ⟨rfl, Nat.le_refl _, .inr ⟨w.heap.size, 0, rfl, hbl.lt, fun j hj => ?_⟩⟩
  have h0 : j = 0 := by simp at hj; omega
  subst h0
  exact hbl.cell 0 (by simp)
theorem own_mono {w : World} {b0 b1 n size : Nat} {e : TypeId} {v : Value} {xs : List Value} (h : w.ownsRow b1 e size v n xs) (hb : b0 ≤ b1) : w.ownsRow b0 e size v n xs :=
  ⟨h.1, h.2.elim .inl fun ⟨g, cap, cur, e, hg, r⟩ => .inr ⟨g, cap, cur, e, Nat.le_trans hb hg, r⟩⟩
theorem OT.below {B : Nat} {w w' : World} {v : Value} {l : List (List UInt8)} (h : OT B w v l) (hb : Below w.heap.size w w') : OT B w' v l := own_below h hb (Nat.le_refl _)

set_option maxRecDepth 100000 in
set_option maxHeartbeats 8000000 in
theorem texts_any (l : List Nd) (ao : Option Addr) (cap : Nat) (k : List UInt8) (w : World) (h : NR w (.slice ao l.length cap) l ao cap) (hl : l.length ≤ 100000000) :
    Calls Tryz.prog 27 #[.slice ao l.length cap, .string ⟨k.toArray⟩] w fun e w' => (∃ v, e = .returned (.tuple #[v, .bool (tsF l k).2]) ∧ OT w.heap.size w' v (tsF l k).1) ∧ Below w.heap.size w w' := by
  have CM := member_any _ l ao cap 0 k w h (by omega)
  have HN : Hid (NR w (.slice ao l.length cap) l ao cap) := h
  have HI := mem_in l k
  have HF : Hid (tsF l k = if memF l 0 k < 0 then ([], false)
    else if (l.getD (memF l 0 k).toNat (nd0 0)).kind = 5 then ([(l.getD (memF l 0 k).toNat (nd0 0)).text], true)
    else ((kidsF l (memF l 0 k)).map fun i => (l.getD i (nd0 0)).text, true)) := rfl
  have hlt : ∀ i ∈ kidsF l 0, i < l.length := kidsF_lt
  rcases HI with e | ⟨i, hi, e, _⟩
  · rw [e] at HF CM
    have HF2 : Hid (tsF l k = ([], false)) := by show _ = _; rw [HF.out]; exact if_pos (by decide)
    clear h hlt e HF
    go_enter Tryz.func27, Tryz.ntmps27
    go_wp2_with fail
    refine CM.mono ?_
    clear CM
    rintro e w1 ⟨rfl, hB⟩
    have HB : Hid (Below w.heap.size w w1) := hB
    clear hB HN
    go_wp2
    go_ret2
    rw [HF2.out]
    exact ⟨⟨_, rfl, World.ownsRow_nil _ _ _ _⟩, HB.out⟩
  · have hil := hlt i hi
    rw [e] at HF CM
    rw [Int.toNat_natCast] at HF
    have q0 : decide ((i : Int) < 0) = false := decide_eq_false (by omega)
    have HF1 : Hid (tsF l k = if (l.getD i (nd0 0)).kind = 5 then ([(l.getD i (nd0 0)).text], true) else ((kidsF l (i : Int)).map fun i => (l.getD i (nd0 0)).text, true)) := by show _ = _; rw [HF.out]; exact if_neg (by omega)
    clear h hlt e hi HF
    obtain ⟨n, hn⟩ : ∃ n, l.getD i (nd0 0) = n := ⟨_, rfl⟩
    rw [hn] at HF1
    by_cases h5 : n.kind = 5
    · have q5 : (n.kind == 5) = true := by simpa using h5
      have HF2 : Hid (tsF l k = ([n.text], true)) := by show _ = _; rw [HF1.out]; exact if_pos h5
      clear HF1 h5
      go_enter Tryz.func27, Tryz.ntmps27
      go_wp2_with fail
      refine CM.mono ?_
      clear CM
      rintro e w1 ⟨rfl, hB⟩
      have HB : Hid (Below w.heap.size w w1) := hB
      obtain ⟨g, off, rfl, hc2⟩ := (HN.out.below hB (Nat.le_refl _)).at hil
      rw [hn] at hc2
      have ck0 := hc2 0 (.int .i64 n.kind) (by omega) rfl
      have ck2 := hc2 2 (.string ⟨n.text.toArray⟩) (by omega) rfl
      rw [Nat.add_zero] at ck0
      have HO : Hid (OT w.heap.size (w1.alloc (.cells #[.string ⟨n.text.toArray⟩] 9)) (.slice (some ⟨w1.heap.size, 0, none⟩) 1 1) [n.text]) := World.ownsRow_lit w1 #[.string ⟨n.text.toArray⟩] 1 hB.size (by decide) rfl
      have HB2 : Hid (Below w.heap.size w (w1.alloc (.cells #[.string ⟨n.text.toArray⟩] 9))) := hB.trans ((alloc_below _ _).mono hB.size)
      clear hB HN hc2 hn HB
      go_wp2
      go_ret2
      rw [HF2.out]
      exact ⟨⟨_, rfl, HO.out⟩, HB2.out⟩
    · have q5 : (n.kind == 5) = false := by simpa using h5
      have HF2 : Hid (tsF l k = ((kidsF l (i : Int)).map fun i => (l.getD i (nd0 0)).text, true)) := by show _ = _; rw [HF1.out]; exact if_neg h5
      have HKs : Hid (∀ wq, NR wq (.slice ao l.length cap) l ao cap → Calls Tryz.prog 12 #[.slice ao l.length cap, .int .i64 (i : Int)] wq fun e w' => ∃ r, e = .returned r ∧ OI wq.heap.size wq w' r (kidsF l (i : Int))) := fun wq hq => kids_any _ l ao cap i wq hq (by omega)
      have HLT : Hid (∀ x ∈ kidsF l (i : Int), x < l.length) := kidsF_lt
      have hlen : (kidsF l (i : Int)).length ≤ 100000000 := Nat.le_trans kids_len hl
      generalize kidsF l (i : Int) = L at *
      clear HF1 h5
      go_enter Tryz.func27, Tryz.ntmps27
      go_wp2_with fail
      refine CM.mono ?_
      clear CM
      rintro e w1 ⟨rfl, hB⟩
      have HB : Hid (Below w.heap.size w w1) := hB
      have HN1 : Hid (NR w1 (.slice ao l.length cap) l ao cap) := HN.out.below hB (Nat.le_refl _)
      have CK := HKs.out w1 HN1.out
      obtain ⟨g, off, rfl, hc2⟩ := HN1.out.at hil
      rw [hn] at hc2
      have ck0 := hc2 0 (.int .i64 n.kind) (by omega) rfl
      rw [Nat.add_zero] at ck0
      clear hB HN hc2 hn HKs
      go_wp2_with fail
      refine CK.mono ?_
      clear CK ck0
      rintro e w2 ⟨r, rfl, hoi⟩
      obtain ⟨ka, kc, rfl, hkc, hkat⟩ := hoi.at
      have HOI : Hid (OI w1.heap.size w1 w2 (.slice ka L.length kc) L) := hoi
      have HAT : Hid (∀ wx, Below w2.heap.size w2 wx → ∀ j, j < L.length → ∃ g, ka = some ⟨g, 0, none⟩ ∧ wx.cell? ⟨g, j, none⟩ = some (iV (L.getD j 0))) := fun wx hx j hj => by
        obtain ⟨g', e, hc⟩ := hkat j hj
        exact ⟨g', e, cell_but hc fun _ => hx.block g' (World.block_lt_of_cell? _ _ hc)⟩
      have HN2 : Hid (∀ wx, Below w2.heap.size w2 wx → NR wx (.slice (some ⟨g, off, none⟩) l.length cap) l (some ⟨g, off, none⟩) cap) := fun wx hx => (HN1.out.below hoi.bel (Nat.le_refl _)).below hx (Nat.le_refl _)
      have HB2 : Hid (Below w.heap.size w w2) := HB.out.trans (hoi.bel.mono HB.out.size)
      clear hoi hkat HN1 HB HOI
      go_wp2
      go_loopw [31, 7] (fun s31 s7 wx => ∃ (j : Nat), s31 = .int .i64 j ∧ j ≤ L.length ∧ OT w2.heap.size wx s7 ((L.take j).map (fun i => (l.getD i (nd0 0)).text)) ∧ Below w2.heap.size w2 wx) (fun x _ _ => L.length - (intOf x).toNat)
      case atStart => exact ⟨0, rfl, Nat.zero_le _, World.ownsRow_nil _ _ _ _, Below.refl _ _⟩
      case round =>
        obtain ⟨j, rfl, hj, ho, hb⟩ := hrel
        have HO : Hid (OT w2.heap.size wr _ ((L.take j).map (fun i => (l.getD i (nd0 0)).text))) := ho
        have HBr : Hid (Below w2.heap.size w2 wr) := hb
        obtain ⟨va, vc, rfl, _, _⟩ := own_slice ho
        rw [List.length_map, List.length_take_of_le hj] at HO ⊢
        by_cases hjl : j < L.length
        · have q1 : decide ((j : Int) < (L.length : Int)) = true := by simp; omega
          obtain ⟨kg, rfl, ckj⟩ := HAT.out wr hb j hjl
          have hkl : L.getD j 0 < l.length := HLT.out _ (by rw [List.getD_eq_getElem?_getD, List.getElem?_eq_getElem hjl]; exact List.getElem_mem hjl)
          have htm := take_map (v := l) hjl
          obtain ⟨g2, off2, e2, hc3⟩ := (HN2.out wr hb).at hkl
          cases e2
          generalize L.getD j 0 = m at *
          obtain ⟨x, hx⟩ : ∃ n, l.getD m (nd0 0) = n := ⟨_, rfl⟩
          rw [hx] at hc3 htm
          have ck2 := hc3 2 (.string ⟨x.text.toArray⟩) (by omega) rfl
          unfold iV at ckj
          generalize hT : (L.take j).map (fun i => (l.getD i (nd0 0)).text) = T at *
          have hTl : T.length = j := by rw [← hT]; simp; omega
          have HTl : Hid (T.length = j) := hTl
          have HTM : Hid ((L.take (j + 1)).map (fun i => (l.getD i (nd0 0)).text) = T ++ [x.text]) := htm
          have ho1 : OT w2.heap.size (wr.alloc (.cells #[.string ⟨x.text.toArray⟩] 9)) (.slice va j vc) T := World.ownsRow.alloc HO.out _
          have hsz : w2.heap.size ≤ (wr.alloc (.cells #[.string ⟨x.text.toArray⟩] 9)).heap.size := by rw [alloc_size]; have := hb.size; omega
          have hBa : Below w2.heap.size w2 (wr.alloc (.cells #[.string ⟨x.text.toArray⟩] 9)) := hb.trans ((alloc_below _ _).mono hb.size)
          clear ho hb hc3 hx htm hT hTl
          go_wp2_with (at_builtin; refine append_txt (wr := wr.alloc (.cells #[.string ⟨x.text.toArray⟩] 9)) rfl (.tmp 35) (.tmp 41) rfl w2.heap.size (.slice va j vc) T rfl ho1 (some ⟨wr.heap.size, 0, none⟩) 1 [x.text] rfl (one_txt wr x.text) (fun h => by cases h) (by rw [HTl.out]; simp only [List.length_cons, List.length_nil]; omega) hsz ?_; intro v1 w4 ho4 hg4; have HO4 : Hid (OT w2.heap.size w4 v1 (T ++ [x.text])) := ho4; have HB4 : Hid (Below w2.heap.size w2 w4) := hBa.grown hg4 hsz (own_block ho1); clear ho4 hg4 ho1 hBa hsz)
          go_roundw
          case rel => exact ⟨j + 1, by go_num, by omega, by rw [HTM.out]; exact HO4.out, HB4.out⟩
          case measure => simp [intOf]; omega
        · have q1 : decide ((j : Int) < (L.length : Int)) = false := by simp; omega
          have HX : Hid (OT w2.heap.size wr (.slice va j vc) (L.map (fun i => (l.getD i (nd0 0)).text))) := by
            have := HO.out
            rwa [List.take_of_length_le (by omega)] at this
          have HS : Hid (w.heap.size ≤ w2.heap.size) := HB2.out.size
          have HBz : Hid (Below w.heap.size w wr) := HB2.out.trans (hb.mono HB2.out.size)
          clear ho hb HO
          go_wp2
          go_ret2
          rw [HF2.out]
          exact ⟨⟨_, rfl, own_mono HX.out HS.out⟩, HBz.out⟩

end Go.Proofs.YtjehkpndchadbaaGreatDoor

namespace Go.Proofs.YtjehkpndchadbaaGreatDoor
open Go.RowKit

/-- What stands while the claims are gathered: the answer's block, the claims' own. -/
structure SaS (w : World) (b1 b2 : Nat) (vs : List Value) (wx : World) : Prop where
  bel : Below w.heap.size w wx
  r : Bl 28 wx b1 (clC (.slice none 0 0) (.slice none 0 0) cm0)
  c : Bl 28 wx b2 vs
theorem SaS.below {w wx wy : World} {b1 b2 : Nat} {vs : List Value} (h : SaS w b1 b2 vs wx) (hb : Below wx.heap.size wx wy) : SaS w b1 b2 vs wy :=
  ⟨h.bel.trans (hb.mono h.bel.size), h.r.below hb h.r.lt, h.c.below hb h.c.lt⟩
theorem bl_setCell {t : TypeId} {w : World} {b c j : Nat} {vs : List Value} {v : Value} (h : Bl t w b vs) (hne : b ≠ c) : Bl t (w.setCell ⟨c, j, none⟩ v) b vs := (heap_setCell_other w _ b _ (fun e => hne e)).trans h
theorem SaS.set {w wx : World} {b1 b2 : Nat} {vs : List Value} (h : SaS w b1 b2 vs wx) (j : Nat) (v : Value) (h1 : w.heap.size ≤ b1) (h2 : b1 < b2) : SaS w b1 b2 (vs.set j v) (wx.setCell ⟨b2, j, none⟩ v) :=
  ⟨Below.setCell h.bel (by show w.heap.size ≤ b2; omega) _, bl_setCell h.r (by omega), h.c.set j v⟩
theorem OT.setCell {B : Nat} {w : World} {v x : Value} {l : List (List UInt8)} {b j : Nat} {vs : List Value} (h : OT B w v l) (hb : Bl 28 w b vs) : OT B (w.setCell ⟨b, j, none⟩ x) v l := by
  have ha := block_apart h hb (by decide)
  exact own_keep h fun g hg => heap_setCell_other w _ g _ (fun e => ha (by rw [hg]; exact congrArg some e))
theorem results_cl {fn : Func} {p : Tmp} (h : fn.results = #[.cell p 28]) (tmps : Array Value) (w : World) (b : Nat) (va aa : Value) (c : Cm) (hp : tmps.getD p undef = .pointer (some ⟨b, 0, none⟩)) (hb : Bl 28 w b (clC va aa c)) :
    (results fn tmps).run Tryz.prog w = .ok (clV va aa c) w := by
  have hr : (loadVar 28 ⟨b, 0, none⟩).run Tryz.prog w = .ok (clV va aa c) w := by
    refine run_loadVar_mid w b 0 28 (clC va aa c) _ ?_ Tryz.underlying28 rfl (by kernel_rfl)
    intro j v hv
    obtain ⟨hj, e⟩ := List.getElem?_eq_some_iff.1 hv
    rw [Nat.zero_add, ← e]
    exact hb.cell j hj
  rw [results_cell h, hp]
  unfold asAddr
  simp only [Sem.run_pure, Result.andThen_ok]
  exact hr
theorem results_cl2 {fn : Func} {u p : Tmp} (h : fn.results = #[.cell p 28, .tmp u]) (tmps : Array Value) (w : World) (b : Nat) (va aa : Value) (c : Cm) (y : Value) (hu : tmps.getD u undef = y) (hp : tmps.getD p undef = .pointer (some ⟨b, 0, none⟩)) (hb : Bl 28 w b (clC va aa c)) :
    (results fn tmps).run Tryz.prog w = .ok (.tuple #[clV va aa c, y]) w := by
  have hr : (loadVar 28 ⟨b, 0, none⟩).run Tryz.prog w = .ok (clV va aa c) w := by
    refine run_loadVar_mid w b 0 28 (clC va aa c) _ ?_ Tryz.underlying28 rfl (by kernel_rfl)
    intro j v hv
    obtain ⟨hj, e⟩ := List.getElem?_eq_some_iff.1 hv
    rw [Nat.zero_add, ← e]
    exact hb.cell j hj
  have hr2 : (results fn tmps).run Tryz.prog w = ((asAddr (tmps.getD p undef)).run Tryz.prog w).andThen fun a w₁ => ((loadVar 28 a).run Tryz.prog w₁).andThen fun v w₂ => .ok (.tuple #[v, tmps.getD u undef]) w₂ := by
    simp only [results, h]
    simp [Sem.run_bind, Result.andThen]
  rw [hr2, hp]
  unfold asAddr
  simp only [Sem.run_pure, Result.andThen_ok]
  rw [hr, hu]
  rfl

set_option maxRecDepth 100000 in
set_option maxHeartbeats 8000000 in
theorem said_any (l : List Nd) (ao : Option Addr) (cap : Nat) (w : World) (h : NR w (.slice ao l.length cap) l ao cap) (hl : l.length ≤ 100000000) :
    Calls Tryz.prog 14 #[.slice ao l.length cap] w fun e w' => (∃ aa, e = .returned (clV (.slice ao l.length cap) aa (saidF l)) ∧ OT w.heap.size w' aa (saidF l).aud) ∧ Below w.heap.size w w' := by
  have HNq : Hid (∀ wq, Below w.heap.size w wq → NR wq (.slice ao l.length cap) l ao cap) := fun wq hq => h.below hq (Nat.le_refl _)
  obtain ⟨w0, hw0⟩ : ∃ w0 : World, (w.alloc (.cells (clC (.slice none 0 0) (.slice none 0 0) cm0).toArray 28)).alloc (.cells (clC (.slice ao l.length cap) (.slice none 0 0) cm0).toArray 28) = w0 := ⟨_, rfl⟩
  obtain ⟨b2, hb2⟩ : ∃ b, w.heap.size + 1 = b := ⟨_, rfl⟩
  have HS0 : Hid (SaS w w.heap.size b2 (clC (.slice ao l.length cap) (.slice none 0 0) cm0) w0) := by
    have h1 := alloc_below w (.cells (clC (.slice none 0 0) (.slice none 0 0) cm0).toArray 28)
    have h2 := alloc_below (w.alloc (.cells (clC (.slice none 0 0) (.slice none 0 0) cm0).toArray 28)) (.cells (clC (.slice ao l.length cap) (.slice none 0 0) cm0).toArray 28)
    have h3 := alloc_bl w (clC (.slice none 0 0) (.slice none 0 0) cm0) 28
    have h4 := alloc_bl (w.alloc (.cells (clC (.slice none 0 0) (.slice none 0 0) cm0).toArray 28)) (clC (.slice ao l.length cap) (.slice none 0 0) cm0) 28
    rw [hw0] at h2 h4
    rw [alloc_size, hb2] at h4
    exact ⟨h1.trans (h2.mono h1.size), h3.below h2 h3.lt, h4⟩
  have HB2 : Hid (w.heap.size + 1 = b2) := hb2
  have HLT : Hid (w.heap.size < b2) := by show _ < _; omega
  have HW0 : Hid ((w.alloc (.cells #[.slice none 0 0, .string ⟨#[]⟩, .bool false, .string ⟨#[]⟩, .bool false, .slice none 0 0, .bool false, .string ⟨#[]⟩, .bool false, .bool false, .int .i64 0, .bool false, .int .i64 0, .bool false, .int .i64 0] 28)).alloc (.cells #[.slice ao l.length cap, .string ⟨#[]⟩, .bool false, .string ⟨#[]⟩, .bool false, .slice none 0 0, .bool false, .string ⟨#[]⟩, .bool false, .bool false, .int .i64 0, .bool false, .int .i64 0, .bool false, .int .i64 0] 28) = w0) := hw0
  have HTx : Hid (∀ k wq, Below w.heap.size w wq → Calls Tryz.prog 26 #[.slice ao l.length cap, .string ⟨k.toArray⟩] wq fun e w' => e = .returned (.tuple #[.string ⟨(txF l k).1.toArray⟩, .bool (txF l k).2]) ∧ Below wq.heap.size wq w') := fun k wq hq => text_any l ao cap k wq (HNq.out wq hq) (by omega)
  have HTs : Hid (∀ k wq, Below w.heap.size w wq → Calls Tryz.prog 27 #[.slice ao l.length cap, .string ⟨k.toArray⟩] wq fun e w' => (∃ v, e = .returned (.tuple #[v, .bool (tsF l k).2]) ∧ OT wq.heap.size w' v (tsF l k).1) ∧ Below wq.heap.size wq w') := fun k wq hq => texts_any l ao cap k wq (HNq.out wq hq) hl
  have HMo : Hid (∀ k wq, Below w.heap.size w wq → Calls Tryz.prog 28 #[.slice ao l.length cap, .string ⟨k.toArray⟩] wq fun e w' => e = .returned (tmV (moF l k)) ∧ Below wq.heap.size wq w') := fun k wq hq => moment_any l ao cap k wq (HNq.out wq hq) (by omega)
  have HSF : Hid (saidF l = ⟨l, (txF l kIss).1, (txF l kIss).2, (txF l kSub).1, (txF l kSub).2, (tsF l kAud).1, (tsF l kAud).2, (txF l kJti).1, (txF l kJti).2, moF l kExp, moF l kNbf, moF l kIat⟩) := rfl
  obtain ⟨iss, eiss⟩ : ∃ x, (txF l kIss).1 = x := ⟨_, rfl⟩
  obtain ⟨hIss, ehIss⟩ : ∃ x, (txF l kIss).2 = x := ⟨_, rfl⟩
  rw [eiss, ehIss] at HSF
  obtain ⟨sub, esub⟩ : ∃ x, (txF l kSub).1 = x := ⟨_, rfl⟩
  obtain ⟨hSub, ehSub⟩ : ∃ x, (txF l kSub).2 = x := ⟨_, rfl⟩
  rw [esub, ehSub] at HSF
  obtain ⟨aud, eaud⟩ : ∃ x, (tsF l kAud).1 = x := ⟨_, rfl⟩
  obtain ⟨hAud, ehAud⟩ : ∃ x, (tsF l kAud).2 = x := ⟨_, rfl⟩
  rw [eaud, ehAud] at HSF
  obtain ⟨jti, ejti⟩ : ∃ x, (txF l kJti).1 = x := ⟨_, rfl⟩
  obtain ⟨hJti, ehJti⟩ : ∃ x, (txF l kJti).2 = x := ⟨_, rfl⟩
  rw [ejti, ehJti] at HSF
  obtain ⟨exp, eexp⟩ : ∃ x, moF l kExp = x := ⟨_, rfl⟩
  rw [eexp] at HSF
  obtain ⟨nbf, enbf⟩ : ∃ x, moF l kNbf = x := ⟨_, rfl⟩
  rw [enbf] at HSF
  obtain ⟨iat, eiat⟩ : ∃ x, moF l kIat = x := ⟨_, rfl⟩
  rw [eiat] at HSF
  have HCiss : Hid (∀ wq, Below w.heap.size w wq → Calls Tryz.prog 26 #[.slice ao l.length cap, .string ⟨kIss.toArray⟩] wq fun e w' => e = .returned (.tuple #[.string ⟨iss.toArray⟩, .bool hIss]) ∧ Below wq.heap.size wq w') := fun wq hq => by have := HTx.out kIss wq hq; rw [eiss, ehIss] at this; exact this
  have HCsub : Hid (∀ wq, Below w.heap.size w wq → Calls Tryz.prog 26 #[.slice ao l.length cap, .string ⟨kSub.toArray⟩] wq fun e w' => e = .returned (.tuple #[.string ⟨sub.toArray⟩, .bool hSub]) ∧ Below wq.heap.size wq w') := fun wq hq => by have := HTx.out kSub wq hq; rw [esub, ehSub] at this; exact this
  have HCaud : Hid (∀ wq, Below w.heap.size w wq → Calls Tryz.prog 27 #[.slice ao l.length cap, .string ⟨kAud.toArray⟩] wq fun e w' => (∃ v, e = .returned (.tuple #[v, .bool hAud]) ∧ OT wq.heap.size w' v aud) ∧ Below wq.heap.size wq w') := fun wq hq => by have := HTs.out kAud wq hq; rw [eaud, ehAud] at this; exact this
  have HCjti : Hid (∀ wq, Below w.heap.size w wq → Calls Tryz.prog 26 #[.slice ao l.length cap, .string ⟨kJti.toArray⟩] wq fun e w' => e = .returned (.tuple #[.string ⟨jti.toArray⟩, .bool hJti]) ∧ Below wq.heap.size wq w') := fun wq hq => by have := HTx.out kJti wq hq; rw [ejti, ehJti] at this; exact this
  have HCexp : Hid (∀ wq, Below w.heap.size w wq → Calls Tryz.prog 28 #[.slice ao l.length cap, .string ⟨kExp.toArray⟩] wq fun e w' => e = .returned (tmV exp) ∧ Below wq.heap.size wq w') := fun wq hq => by have := HMo.out kExp wq hq; rw [eexp] at this; exact this
  have HCnbf : Hid (∀ wq, Below w.heap.size w wq → Calls Tryz.prog 28 #[.slice ao l.length cap, .string ⟨kNbf.toArray⟩] wq fun e w' => e = .returned (tmV nbf) ∧ Below wq.heap.size wq w') := fun wq hq => by have := HMo.out kNbf wq hq; rw [enbf] at this; exact this
  have HCiat : Hid (∀ wq, Below w.heap.size w wq → Calls Tryz.prog 28 #[.slice ao l.length cap, .string ⟨kIat.toArray⟩] wq fun e w' => e = .returned (tmV iat) ∧ Below wq.heap.size wq w') := fun wq hq => by have := HMo.out kIat wq hq; rw [eiat] at this; exact this
  clear h hw0 HNq HTx HTs HMo eiss ehIss esub ehSub eaud ehAud ejti ehJti eexp enbf eiat hb2
  have HS : Hid (SaS w w.heap.size b2 (clC (.slice ao l.length cap) (.slice none 0 0) ⟨[], [], false, [], false, [], false, [], false, tm0, tm0, tm0⟩) w0) := HS0.out
  clear HS0
  go_enter Tryz.func14, Tryz.ntmps14
  have C0 := HCiss.out w0 HS.out.bel
  go_wp2_with fail
  rw [HW0.out, HB2.out]
  clear HW0
  refine C0.mono ?_
  clear C0 HCiss
  rintro e v1 ⟨rfl, hB⟩
  have HSn : Hid (SaS w w.heap.size b2 (clC (.slice ao l.length cap) (.slice none 0 0) ⟨[], [], false, [], false, [], false, [], false, tm0, tm0, tm0⟩) v1) := HS.out.below hB
  clear HS hB
  have HS := HSn
  clear HSn
  have k1 : v1.cell? ⟨b2, 1, none⟩ = some (.string ⟨#[]⟩) := HS.out.c.cell 1 (by simp [clC])
  have k2 : v1.cell? ⟨b2, 2, none⟩ = some (.bool false) := HS.out.c.cell 2 (by simp [clC])
  have f1 := HS.out.c.frozen 1
  have f2 := HS.out.c.frozen 2
  obtain ⟨w1, hw⟩ : ∃ x, (v1.setCell ⟨b2, 1, none⟩ (.string ⟨iss.toArray⟩)).setCell ⟨b2, 2, none⟩ (.bool hIss) = x := ⟨_, rfl⟩
  have HSn : Hid (SaS w w.heap.size b2 (clC (.slice ao l.length cap) (.slice none 0 0) ⟨[], iss, hIss, [], false, [], false, [], false, tm0, tm0, tm0⟩) w1) := by
    rw [← hw]
    exact (HS.out.set 1 (.string ⟨iss.toArray⟩) (Nat.le_refl _) HLT.out).set 2 (.bool hIss) (Nat.le_refl _) HLT.out
  have HW : Hid ((v1.setCell ⟨b2, 1, none⟩ (.string ⟨iss.toArray⟩)).setCell ⟨b2, 2, none⟩ (.bool hIss) = w1) := hw
  clear HS hw
  have HS := HSn
  clear HSn
  have C0 := HCsub.out w1 HS.out.bel
  go_wp2_with fail
  rw [HW.out]
  clear HW k1 k2 f1 f2
  refine C0.mono ?_
  clear C0 HCsub
  rintro e v2 ⟨rfl, hB⟩
  have HSn : Hid (SaS w w.heap.size b2 (clC (.slice ao l.length cap) (.slice none 0 0) ⟨[], iss, hIss, [], false, [], false, [], false, tm0, tm0, tm0⟩) v2) := HS.out.below hB
  clear HS hB
  have HS := HSn
  clear HSn
  have k3 : v2.cell? ⟨b2, 3, none⟩ = some (.string ⟨#[]⟩) := HS.out.c.cell 3 (by simp [clC])
  have k4 : v2.cell? ⟨b2, 4, none⟩ = some (.bool false) := HS.out.c.cell 4 (by simp [clC])
  have f3 := HS.out.c.frozen 3
  have f4 := HS.out.c.frozen 4
  obtain ⟨w2, hw⟩ : ∃ x, (v2.setCell ⟨b2, 3, none⟩ (.string ⟨sub.toArray⟩)).setCell ⟨b2, 4, none⟩ (.bool hSub) = x := ⟨_, rfl⟩
  have HSn : Hid (SaS w w.heap.size b2 (clC (.slice ao l.length cap) (.slice none 0 0) ⟨[], iss, hIss, sub, hSub, [], false, [], false, tm0, tm0, tm0⟩) w2) := by
    rw [← hw]
    exact (HS.out.set 3 (.string ⟨sub.toArray⟩) (Nat.le_refl _) HLT.out).set 4 (.bool hSub) (Nat.le_refl _) HLT.out
  have HW : Hid ((v2.setCell ⟨b2, 3, none⟩ (.string ⟨sub.toArray⟩)).setCell ⟨b2, 4, none⟩ (.bool hSub) = w2) := hw
  clear HS hw
  have HS := HSn
  clear HSn
  have C0 := HCaud.out w2 HS.out.bel
  go_wp2_with fail
  rw [HW.out]
  clear HW k3 k4 f3 f4
  refine C0.mono ?_
  clear C0 HCaud
  rintro e v3 ⟨⟨va, rfl, hO⟩, hB⟩
  obtain ⟨aA, cA, rfl, _, _⟩ := own_slice hO
  have HO : Hid (OT w.heap.size v3 (.slice aA aud.length cA) aud) := own_mono hO HS.out.bel.size
  clear hO
  have HSn : Hid (SaS w w.heap.size b2 (clC (.slice ao l.length cap) (.slice none 0 0) ⟨[], iss, hIss, sub, hSub, [], false, [], false, tm0, tm0, tm0⟩) v3) := HS.out.below hB
  clear HS hB
  have HS := HSn
  clear HSn
  have k5 : v3.cell? ⟨b2, 5, none⟩ = some (.slice none 0 0) := HS.out.c.cell 5 (by simp [clC])
  have k6 : v3.cell? ⟨b2, 6, none⟩ = some (.bool false) := HS.out.c.cell 6 (by simp [clC])
  have f5 := HS.out.c.frozen 5
  have f6 := HS.out.c.frozen 6
  obtain ⟨w3, hw⟩ : ∃ x, (v3.setCell ⟨b2, 5, none⟩ (.slice aA aud.length cA)).setCell ⟨b2, 6, none⟩ (.bool hAud) = x := ⟨_, rfl⟩
  have HSn : Hid (SaS w w.heap.size b2 (clC (.slice ao l.length cap) (.slice aA aud.length cA) ⟨[], iss, hIss, sub, hSub, aud, hAud, [], false, tm0, tm0, tm0⟩) w3) := by
    rw [← hw]
    exact (HS.out.set 5 (.slice aA aud.length cA) (Nat.le_refl _) HLT.out).set 6 (.bool hAud) (Nat.le_refl _) HLT.out
  have HOn : Hid (OT w.heap.size w3 (.slice aA aud.length cA) aud) := by
    rw [← hw]
    exact (HO.out.setCell HS.out.c).setCell (HS.out.c.set 5 (.slice aA aud.length cA))
  clear HO
  have HO := HOn
  clear HOn
  have HW : Hid ((v3.setCell ⟨b2, 5, none⟩ (.slice aA aud.length cA)).setCell ⟨b2, 6, none⟩ (.bool hAud) = w3) := hw
  clear HS hw
  have HS := HSn
  clear HSn
  have C0 := HCjti.out w3 HS.out.bel
  go_wp2_with fail
  rw [HW.out]
  clear HW k5 k6 f5 f6
  refine C0.mono ?_
  clear C0 HCjti
  rintro e v4 ⟨rfl, hB⟩
  have HOn : Hid (OT w.heap.size v4 (.slice aA aud.length cA) aud) := HO.out.below hB
  clear HO
  have HO := HOn
  clear HOn
  have HSn : Hid (SaS w w.heap.size b2 (clC (.slice ao l.length cap) (.slice aA aud.length cA) ⟨[], iss, hIss, sub, hSub, aud, hAud, [], false, tm0, tm0, tm0⟩) v4) := HS.out.below hB
  clear HS hB
  have HS := HSn
  clear HSn
  have k7 : v4.cell? ⟨b2, 7, none⟩ = some (.string ⟨#[]⟩) := HS.out.c.cell 7 (by simp [clC])
  have k8 : v4.cell? ⟨b2, 8, none⟩ = some (.bool false) := HS.out.c.cell 8 (by simp [clC])
  have f7 := HS.out.c.frozen 7
  have f8 := HS.out.c.frozen 8
  obtain ⟨w4, hw⟩ : ∃ x, (v4.setCell ⟨b2, 7, none⟩ (.string ⟨jti.toArray⟩)).setCell ⟨b2, 8, none⟩ (.bool hJti) = x := ⟨_, rfl⟩
  have HSn : Hid (SaS w w.heap.size b2 (clC (.slice ao l.length cap) (.slice aA aud.length cA) ⟨[], iss, hIss, sub, hSub, aud, hAud, jti, hJti, tm0, tm0, tm0⟩) w4) := by
    rw [← hw]
    exact (HS.out.set 7 (.string ⟨jti.toArray⟩) (Nat.le_refl _) HLT.out).set 8 (.bool hJti) (Nat.le_refl _) HLT.out
  have HOn : Hid (OT w.heap.size w4 (.slice aA aud.length cA) aud) := by
    rw [← hw]
    exact (HO.out.setCell HS.out.c).setCell (HS.out.c.set 7 (.string ⟨jti.toArray⟩))
  clear HO
  have HO := HOn
  clear HOn
  have HW : Hid ((v4.setCell ⟨b2, 7, none⟩ (.string ⟨jti.toArray⟩)).setCell ⟨b2, 8, none⟩ (.bool hJti) = w4) := hw
  clear HS hw
  have HS := HSn
  clear HSn
  have C0 := HCexp.out w4 HS.out.bel
  go_wp2_with fail
  rw [HW.out]
  clear HW k7 k8 f7 f8
  refine C0.mono ?_
  clear C0 HCexp
  rintro e v5 ⟨rfl, hB⟩
  have HOn : Hid (OT w.heap.size v5 (.slice aA aud.length cA) aud) := HO.out.below hB
  clear HO
  have HO := HOn
  clear HOn
  have HSn : Hid (SaS w w.heap.size b2 (clC (.slice ao l.length cap) (.slice aA aud.length cA) ⟨[], iss, hIss, sub, hSub, aud, hAud, jti, hJti, tm0, tm0, tm0⟩) v5) := HS.out.below hB
  clear HS hB
  have HS := HSn
  clear HSn
  have k9 : v5.cell? ⟨b2, 9, none⟩ = some (.bool false) := HS.out.c.cell 9 (by simp [clC])
  have k10 : v5.cell? ⟨b2, 10, none⟩ = some (.int .i64 0) := HS.out.c.cell 10 (by simp [clC])
  have f9 := HS.out.c.frozen 9
  have f10 := HS.out.c.frozen 10
  obtain ⟨w5, hw⟩ : ∃ x, (v5.setCell ⟨b2, 9, none⟩ (.bool exp.has)).setCell ⟨b2, 10, none⟩ (.int .i64 exp.at_) = x := ⟨_, rfl⟩
  have HSn : Hid (SaS w w.heap.size b2 (clC (.slice ao l.length cap) (.slice aA aud.length cA) ⟨[], iss, hIss, sub, hSub, aud, hAud, jti, hJti, exp, tm0, tm0⟩) w5) := by
    rw [← hw]
    exact (HS.out.set 9 (.bool exp.has) (Nat.le_refl _) HLT.out).set 10 (.int .i64 exp.at_) (Nat.le_refl _) HLT.out
  have HOn : Hid (OT w.heap.size w5 (.slice aA aud.length cA) aud) := by
    rw [← hw]
    exact (HO.out.setCell HS.out.c).setCell (HS.out.c.set 9 (.bool exp.has))
  clear HO
  have HO := HOn
  clear HOn
  have HW : Hid ((v5.setCell ⟨b2, 9, none⟩ (.bool exp.has)).setCell ⟨b2, 10, none⟩ (.int .i64 exp.at_) = w5) := hw
  clear HS hw
  have HS := HSn
  clear HSn
  unfold tmV
  have C0 := HCnbf.out w5 HS.out.bel
  go_wp2_with fail
  rw [HW.out]
  clear HW k9 k10 f9 f10
  refine C0.mono ?_
  clear C0 HCnbf
  rintro e v6 ⟨rfl, hB⟩
  have HOn : Hid (OT w.heap.size v6 (.slice aA aud.length cA) aud) := HO.out.below hB
  clear HO
  have HO := HOn
  clear HOn
  have HSn : Hid (SaS w w.heap.size b2 (clC (.slice ao l.length cap) (.slice aA aud.length cA) ⟨[], iss, hIss, sub, hSub, aud, hAud, jti, hJti, exp, tm0, tm0⟩) v6) := HS.out.below hB
  clear HS hB
  have HS := HSn
  clear HSn
  have k11 : v6.cell? ⟨b2, 11, none⟩ = some (.bool false) := HS.out.c.cell 11 (by simp [clC])
  have k12 : v6.cell? ⟨b2, 12, none⟩ = some (.int .i64 0) := HS.out.c.cell 12 (by simp [clC])
  have f11 := HS.out.c.frozen 11
  have f12 := HS.out.c.frozen 12
  obtain ⟨w6, hw⟩ : ∃ x, (v6.setCell ⟨b2, 11, none⟩ (.bool nbf.has)).setCell ⟨b2, 12, none⟩ (.int .i64 nbf.at_) = x := ⟨_, rfl⟩
  have HSn : Hid (SaS w w.heap.size b2 (clC (.slice ao l.length cap) (.slice aA aud.length cA) ⟨[], iss, hIss, sub, hSub, aud, hAud, jti, hJti, exp, nbf, tm0⟩) w6) := by
    rw [← hw]
    exact (HS.out.set 11 (.bool nbf.has) (Nat.le_refl _) HLT.out).set 12 (.int .i64 nbf.at_) (Nat.le_refl _) HLT.out
  have HOn : Hid (OT w.heap.size w6 (.slice aA aud.length cA) aud) := by
    rw [← hw]
    exact (HO.out.setCell HS.out.c).setCell (HS.out.c.set 11 (.bool nbf.has))
  clear HO
  have HO := HOn
  clear HOn
  have HW : Hid ((v6.setCell ⟨b2, 11, none⟩ (.bool nbf.has)).setCell ⟨b2, 12, none⟩ (.int .i64 nbf.at_) = w6) := hw
  clear HS hw
  have HS := HSn
  clear HSn
  unfold tmV
  have C0 := HCiat.out w6 HS.out.bel
  go_wp2_with fail
  rw [HW.out]
  clear HW k11 k12 f11 f12
  refine C0.mono ?_
  clear C0 HCiat
  rintro e v7 ⟨rfl, hB⟩
  have HOn : Hid (OT w.heap.size v7 (.slice aA aud.length cA) aud) := HO.out.below hB
  clear HO
  have HO := HOn
  clear HOn
  have HSn : Hid (SaS w w.heap.size b2 (clC (.slice ao l.length cap) (.slice aA aud.length cA) ⟨[], iss, hIss, sub, hSub, aud, hAud, jti, hJti, exp, nbf, tm0⟩) v7) := HS.out.below hB
  clear HS hB
  have HS := HSn
  clear HSn
  have k13 : v7.cell? ⟨b2, 13, none⟩ = some (.bool false) := HS.out.c.cell 13 (by simp [clC])
  have k14 : v7.cell? ⟨b2, 14, none⟩ = some (.int .i64 0) := HS.out.c.cell 14 (by simp [clC])
  have f13 := HS.out.c.frozen 13
  have f14 := HS.out.c.frozen 14
  obtain ⟨w7, hw⟩ : ∃ x, (v7.setCell ⟨b2, 13, none⟩ (.bool iat.has)).setCell ⟨b2, 14, none⟩ (.int .i64 iat.at_) = x := ⟨_, rfl⟩
  have HSn : Hid (SaS w w.heap.size b2 (clC (.slice ao l.length cap) (.slice aA aud.length cA) ⟨[], iss, hIss, sub, hSub, aud, hAud, jti, hJti, exp, nbf, iat⟩) w7) := by
    rw [← hw]
    exact (HS.out.set 13 (.bool iat.has) (Nat.le_refl _) HLT.out).set 14 (.int .i64 iat.at_) (Nat.le_refl _) HLT.out
  have HOn : Hid (OT w.heap.size w7 (.slice aA aud.length cA) aud) := by
    rw [← hw]
    exact (HO.out.setCell HS.out.c).setCell (HS.out.c.set 13 (.bool iat.has))
  clear HO
  have HO := HOn
  clear HOn
  have HW : Hid ((v7.setCell ⟨b2, 13, none⟩ (.bool iat.has)).setCell ⟨b2, 14, none⟩ (.int .i64 iat.at_) = w7) := hw
  clear HS hw
  have HS := HSn
  clear HSn
  unfold tmV
  obtain ⟨c, hc⟩ : ∃ c : Cm, c = ⟨[], iss, hIss, sub, hSub, aud, hAud, jti, hJti, exp, nbf, iat⟩ := ⟨_, rfl⟩
  have HCC : Hid (∀ P : Cm → Prop, P c → P ⟨[], iss, hIss, sub, hSub, aud, hAud, jti, hJti, exp, nbf, iat⟩) := fun P h => hc ▸ h
  have HS2 : Hid (SaS w w.heap.size b2 (clC (.slice ao l.length cap) (.slice aA aud.length cA) ⟨[], iss, hIss, sub, hSub, aud, hAud, jti, hJti, exp, nbf, iat⟩) w7) := HS.out
  have HRg : Hid (w7.rangeAt b2 0 (clC (.slice ao l.length cap) (.slice aA aud.length cA) ⟨[], iss, hIss, sub, hSub, aud, hAud, jti, hJti, exp, nbf, iat⟩)) := fun j v hv => by
    obtain ⟨hj, e⟩ := List.getElem?_eq_some_iff.1 hv
    rw [Nat.zero_add, ← e]
    exact HS2.out.c.cell j hj
  obtain ⟨wz, hwz⟩ : ∃ wz, w7.setRow w.heap.size (clC (.slice ao l.length cap) (.slice aA aud.length cA) ⟨[], iss, hIss, sub, hSub, aud, hAud, jti, hJti, exp, nbf, iat⟩).toArray = wz := ⟨_, rfl⟩
  have HBz : Hid (Bl 28 wz w.heap.size (clC (.slice ao l.length cap) (.slice aA aud.length cA) ⟨[], iss, hIss, sub, hSub, aud, hAud, jti, hJti, exp, nbf, iat⟩)) := by rw [← hwz]; exact set_bl2 HS2.out.r
  have Hz : Hid (Below w.heap.size w wz) := by rw [← hwz]; exact setRow_below2 _ HS2.out.bel (Nat.le_refl _)
  have HOz : Hid (OT w.heap.size wz (.slice aA aud.length cA) aud) := by
    rw [← hwz]
    have ha := block_apart HO.out HS2.out.r (by decide)
    exact own_keep HO.out fun g hg => setRow_other _ _ _ _ (fun e => ha (by rw [hg]; exact congrArg some e))
  have HWz : Hid (w7.setRow w.heap.size (clC (.slice ao l.length cap) (.slice aA aud.length cA) ⟨[], iss, hIss, sub, hSub, aud, hAud, jti, hJti, exp, nbf, iat⟩).toArray = wz) := hwz
  have hgi : (Tryz.prog.info? 28).map (·.size) = some 15 := by kernel_rfl
  have hcl : (Tryz.prog.info? 28).map (·.size) = some (clC (.slice ao l.length cap) (.slice aA aud.length cA) ⟨[], iss, hIss, sub, hSub, aud, hAud, jti, hJti, exp, nbf, iat⟩).length := by kernel_rfl
  clear hwz hc HCC
  go_wp2_with (first | (refine wpList_load_mid rfl 28 (.tmp 3) rfl b2 0 rfl (clC (.slice ao l.length cap) (.slice aA aud.length cA) ⟨[], iss, hIss, sub, hSub, aud, hAud, jti, hJti, exp, nbf, iat⟩) _ (by rw [HW.out]; exact HRg.out) Tryz.underlying28 rfl hcl ?_; rw [HW.out]) | (refine wpList_store_row rfl 28 (.tmp 2) (.tmp 43) rfl w.heap.size (clC (.slice ao l.length cap) (.slice aA aud.length cA) ⟨[], iss, hIss, sub, hSub, aud, hAud, jti, hJti, exp, nbf, iat⟩).toArray rfl rfl 28 (clC (.slice none 0 0) (.slice none 0 0) cm0).toArray HS2.out.r hgi rfl (by simp [clC, Value.oneCell']) ?_; rw [HWz.out]; clear HWz hgi))
  (try simp only [Exit.inBlock, Exit.then])
  refine bodyPost_ret (v := clV (.slice ao l.length cap) (.slice aA aud.length cA) ⟨[], iss, hIss, sub, hSub, aud, hAud, jti, hJti, exp, nbf, iat⟩) (results_cl rfl _ _ w.heap.size _ _ _ rfl HBz.out) rfl ⟨⟨.slice aA aud.length cA, ?_, ?_⟩, Hz.out⟩
  · rw [HSF.out]; rfl
  · rw [HSF.out]; exact HOz.out

end Go.Proofs.YtjehkpndchadbaaGreatDoor

namespace Go.Proofs.YtjehkpndchadbaaGreatDoor
open Go.RowKit

theorem all_drop {v : List Nd} {L : List Nat} {j : Nat} (hj : j < L.length) : (L.drop j).all (fitF v) = (fitF v (L.getD j 0) && (L.drop (j + 1)).all (fitF v)) := by
  have e : L.getD j 0 = L[j] := by rw [List.getD_eq_getElem?_getD, List.getElem?_eq_getElem hj]; rfl
  rw [e, List.drop_eq_getElem_cons hj]
  rfl

set_option maxRecDepth 100000 in
set_option maxHeartbeats 8000000 in
theorem cparse_any (t : List UInt8) (w : World) (hG : GL w.heap.size w) :
    Calls Tryz.prog 5 #[.string ⟨t.toArray⟩] w fun e w' => (∃ va aa, e = .returned (.tuple #[clV va aa (cparseF t).1, .int .i64 ((cparseF t).2 : Nat)]) ∧ NO w.heap.size w' va (cparseF t).1.val ∧ OT w.heap.size w' aa (cparseF t).1.aud) ∧ Below w.heap.size w w' := by
  obtain ⟨w0, hw0⟩ : ∃ w0 : World, w.alloc (.cells (clC (.slice none 0 0) (.slice none 0 0) cm0).toArray 28) = w0 := ⟨_, rfl⟩
  have HB0 : Hid (Below w.heap.size w w0) := by rw [← hw0]; exact alloc_below _ _
  have HBox0 : Hid (Bl 28 w0 w.heap.size (clC (.slice none 0 0) (.slice none 0 0) cm0)) := by rw [← hw0]; exact alloc_bl _ _ _
  have C0 := parse_all t w0 ((hG.below HB0.out).up HB0.out.size)
  have HS0 : Hid (w.heap.size < w0.heap.size) := HBox0.out.lt
  have HW0 : Hid (w.alloc (.cells #[.slice none 0 0, .string ⟨#[]⟩, .bool false, .string ⟨#[]⟩, .bool false, .slice none 0 0, .bool false, .string ⟨#[]⟩, .bool false, .bool false, .int .i64 0, .bool false, .int .i64 0, .bool false, .int .i64 0] 28) = w0) := hw0
  have hbd := parse_bd t
  have HP : Hid (cparseF t = if (parseF t).2.1 ≠ 0 then (cm0, (parseF t).2.1)
    else if ((parseF t).1.getD 0 (nd0 0)).kind ≠ 7 then (cm0, 130)
    else if (kidsF (parseF t).1 0).all (fitF (parseF t).1) then (saidF (parseF t).1, 0) else (cm0, 131)) := rfl
  clear hG hw0
  obtain ⟨l, hl⟩ : ∃ l, (parseF t).1 = l := ⟨_, rfl⟩
  obtain ⟨c, hc⟩ : ∃ c, (parseF t).2.1 = c := ⟨_, rfl⟩
  obtain ⟨p, hp⟩ : ∃ p, (parseF t).2.2 = p := ⟨_, rfl⟩
  have hsh : c = 0 → 0 < l.length := fun h0 => by
    have := (parse_val (t := t) (hc.trans h0)).len
    rw [hl] at this
    simp only [List.length_cons, List.length_nil] at this
    omega
  rw [hl, hc, hp] at C0
  rw [hl] at hbd
  rw [hl, hc] at HP
  clear hl hc hp
  go_enter Tryz.func5, Tryz.ntmps5
  go_wp2_with fail
  rw [HW0.out]
  clear HW0
  refine C0.mono ?_
  clear C0
  rintro e w1 ⟨hB1, v, rfl, hno⟩
  obtain ⟨ao, cap, hN⟩ := hno.nr
  obtain ⟨rfl, hcap, _⟩ := id hN
  have HB1 : Hid (Below w.heap.size w w1) := HB0.out.trans (hB1.mono HB0.out.size)
  have HBox1 : Hid (Bl 28 w1 w.heap.size (clC (.slice none 0 0) (.slice none 0 0) cm0)) := HBox0.out.below hB1 HS0.out
  have HNO : Hid (NO w.heap.size w1 (.slice ao l.length cap) l) := own_mono hno (Nat.le_of_lt HS0.out)
  have HN : Hid (NR w1 (.slice ao l.length cap) l ao cap) := hN
  have HS1 : Hid (w.heap.size < w1.heap.size) := HBox1.out.lt
  clear hno hN hB1 HB0 HBox0 HS0
  by_cases h0 : c = 0
  · subst h0
    have hpos := hsh rfl
    have hll := hbd.1
    have HP2 : Hid (cparseF t = if (l.getD 0 (nd0 0)).kind ≠ 7 then (cm0, 130) else if (kidsF l 0).all (fitF l) then (saidF l, 0) else (cm0, 131)) := by show _ = _; rw [HP.out, if_neg (fun h => h rfl)]
    clear hsh hbd HP
    obtain ⟨g, off, rfl, hcell⟩ := HN.out.at hpos
    obtain ⟨K, hK⟩ : ∃ K, (l.getD 0 (nd0 0)).kind = K := ⟨_, rfl⟩
    have ck := hcell 0 (.int .i64 K) (by omega) (by rw [← hK]; rfl)
    simp only [Nat.zero_mul, Nat.add_zero] at ck
    rw [hK] at HP2
    clear hcell hK
    have hbv : 0 < (l.length : Int) := by omega
    by_cases h7 : K = 7
    · subst h7
      have HP3 : Hid (cparseF t = if (kidsF l 0).all (fitF l) then (saidF l, 0) else (cm0, 131)) := by show _ = _; rw [HP2.out]; exact if_neg (fun h => h rfl)
      have CK := kids_any _ l _ cap 0 w1 HN.out (by omega)
      have HLT : Hid (∀ i ∈ kidsF l 0, i < l.length) := kidsF_lt
      have hlen : (kidsF l 0).length ≤ 1000000000 := Nat.le_trans kids_len (by omega)
      generalize kidsF l 0 = L at *
      clear HP2
      go_wp2_with fail
      refine CK.mono ?_
      clear CK ck
      rintro e w2 ⟨r, rfl, hoi⟩
      obtain ⟨ka, kc, rfl, hkc, hkat⟩ := hoi.at
      have HAT : Hid (∀ wx, Below w2.heap.size w2 wx → ∀ j, j < L.length → ∃ g, ka = some ⟨g, 0, none⟩ ∧ wx.cell? ⟨g, j, none⟩ = some (iV (L.getD j 0))) := fun wx hx j hj => by
        obtain ⟨g', e, hc⟩ := hkat j hj
        exact ⟨g', e, cell_but hc fun _ => hx.block g' (World.block_lt_of_cell? _ _ hc)⟩
      have HNq : Hid (∀ wx, Below w2.heap.size w2 wx → NR wx (.slice (some ⟨g, off, none⟩) l.length cap) l (some ⟨g, off, none⟩) cap) := fun wx hx => (HN.out.below hoi.bel (Nat.le_refl _)).below hx (Nat.le_refl _)
      have HNOq : Hid (∀ wx, Below w2.heap.size w2 wx → NO w.heap.size wx (.slice (some ⟨g, off, none⟩) l.length cap) l) := fun wx hx => own_below (own_below HNO.out hoi.bel (Nat.le_refl _)) hx (Nat.le_refl _)
      have HBq : Hid (∀ wx, Below w2.heap.size w2 wx → Below w.heap.size w wx) := fun wx hx => (HB1.out.trans (hoi.bel.mono HB1.out.size)).trans (hx.mono (HB1.out.trans (hoi.bel.mono HB1.out.size)).size)
      have HXq : Hid (∀ wx, Below w2.heap.size w2 wx → Bl 28 wx w.heap.size (clC (.slice none 0 0) (.slice none 0 0) cm0)) := fun wx hx => by
        have h1 := HBox1.out.below hoi.bel HBox1.out.lt
        exact h1.below hx h1.lt
      clear hoi hkat HN HNO HB1 HBox1
      go_wp2
      go_loopw [28] (fun s28 wx => ∃ (j : Nat), s28 = .int .i64 j ∧ j ≤ L.length ∧ Below w2.heap.size w2 wx ∧ (L.drop j).all (fitF l) = L.all (fitF l)) (fun x _ => L.length - (intOf x).toNat)
      case atStart => exact ⟨0, rfl, Nat.zero_le _, Below.refl _ _, rfl⟩
      case round =>
        obtain ⟨j, rfl, hj, hb, hd⟩ := hrel
        have HBr : Hid (Below w2.heap.size w2 wr) := hb
        have HD : Hid ((L.drop j).all (fitF l) = L.all (fitF l)) := hd
        clear hd hb
        by_cases hjl : j < L.length
        · have q1 : decide ((j : Int) < (L.length : Int)) = true := by simp; omega
          obtain ⟨kg, rfl, ckj⟩ := HAT.out wr HBr.out j hjl
          have hkl : L.getD j 0 < l.length := HLT.out _ (by rw [List.getD_eq_getElem?_getD, List.getElem?_eq_getElem hjl]; exact List.getElem_mem hjl)
          have hr2 := HD.out
          rw [all_drop hjl] at hr2
          generalize L.getD j 0 = m at *
          unfold iV at ckj
          have CF := fits_any l _ cap m wr (HNq.out wr HBr.out) (by omega) hkl
          cases hf : fitF l m
          · have HX : Hid (cparseF t = (cm0, 131)) := by
              show _ = _
              rw [HP3.out, ← hr2, hf]
              rfl
            rw [hf] at CF
            clear hr2 HD hf
            go_wp2_with fail
            refine CF.mono ?_
            clear CF
            rintro e w3 ⟨rfl, hB3⟩
            have HB3 : Hid (Below w2.heap.size w2 w3) := HBr.out.trans (hB3.mono HBr.out.size)
            have HBw : Hid (Below w.heap.size w w3) := HBq.out w3 HB3.out
            have HBox : Hid (Bl 28 w3 w.heap.size (clC (.slice none 0 0) (.slice none 0 0) cm0)) := HXq.out w3 HB3.out
            clear hB3
            obtain ⟨wz, hwz⟩ : ∃ wz, w3.setRow w.heap.size (clC (.slice none 0 0) (.slice none 0 0) cm0).toArray = wz := ⟨_, rfl⟩
            have HBz : Hid (Bl 28 wz w.heap.size (clC (.slice none 0 0) (.slice none 0 0) cm0)) := by rw [← hwz]; exact set_bl2 HBox.out
            have Hz : Hid (Below w.heap.size w wz) := by rw [← hwz]; exact setRow_below2 _ HBw.out (Nat.le_refl _)
            have HWz : Hid (w3.setRow w.heap.size (clC (.slice none 0 0) (.slice none 0 0) cm0).toArray = wz) := hwz
            clear hwz
            have hgi : (Tryz.prog.info? 28).map (·.size) = some 15 := by kernel_rfl
            go_wp2_with (refine wpList_store_row rfl 28 (.tmp 2) (.tmp 36) rfl w.heap.size (clC (.slice none 0 0) (.slice none 0 0) cm0).toArray rfl rfl 28 (clC (.slice none 0 0) (.slice none 0 0) cm0).toArray HBox.out hgi rfl (by simp [clC, cm0, Value.oneCell']) ?_; rw [HWz.out]; clear HWz hgi)
            (try simp only [Exit.inBlock, Exit.then])
            refine bodyPost_ret (v := .tuple #[clV (.slice none 0 0) (.slice none 0 0) cm0, .int .i64 131]) (results_cl2 rfl _ _ w.heap.size _ _ _ _ rfl rfl HBz.out) rfl ⟨⟨.slice none 0 0, .slice none 0 0, ?_, ?_, ?_⟩, Hz.out⟩
            · first | (rw [HX.out]; done) | (rw [HX.out]; rfl)
            · rw [HX.out]; exact World.ownsRow_nil _ _ _ _
            · rw [HX.out]; exact World.ownsRow_nil _ _ _ _

          · have HD2 : Hid ((L.drop (j + 1)).all (fitF l) = L.all (fitF l)) := by
              show _ = _
              rw [← hr2, hf]
              rfl
            rw [hf] at CF
            clear hr2 HD hf
            go_wp2_with fail
            refine CF.mono ?_
            clear CF
            rintro e w3 ⟨rfl, hB3⟩
            have HB3 : Hid (Below w2.heap.size w2 w3) := HBr.out.trans (hB3.mono HBr.out.size)
            clear hB3
            go_wp2
            go_roundw
            case rel => exact ⟨j + 1, by go_num, by omega, HB3.out, HD2.out⟩
            case measure => simp [intOf]; omega
        · have q1 : decide ((j : Int) < (L.length : Int)) = false := by simp; omega
          have HX : Hid (cparseF t = (saidF l, 0)) := by
            show _ = _
            rw [HP3.out, ← HD.out, List.drop_eq_nil_of_le (by omega)]
            rfl
          have CS := said_any l _ cap wr (HNq.out wr HBr.out) (by omega)
          clear HD
          go_wp2_with fail
          refine CS.mono ?_
          clear CS
          rintro e w3 ⟨⟨aa, rfl, hO⟩, hB3⟩
          obtain ⟨aA, cA, rfl, _, _⟩ := own_slice hO
          have HB3 : Hid (Below w2.heap.size w2 w3) := HBr.out.trans (hB3.mono HBr.out.size)
          have HBw : Hid (Below w.heap.size w w3) := HBq.out w3 HB3.out
          have HBox : Hid (Bl 28 w3 w.heap.size (clC (.slice none 0 0) (.slice none 0 0) cm0)) := HXq.out w3 HB3.out
          have HO : Hid (OT w.heap.size w3 (.slice aA (saidF l).aud.length cA) (saidF l).aud) := own_mono hO (HBq.out wr HBr.out).size
          have HNO : Hid (NO w.heap.size w3 (.slice (some ⟨g, off, none⟩) l.length cap) l) := HNOq.out w3 HB3.out
          have HV : Hid ((saidF l).val = l) := rfl
          clear hB3 hO
          generalize saidF l = c at *
          obtain ⟨wz, hwz⟩ : ∃ wz, w3.setRow w.heap.size (clC (.slice (some ⟨g, off, none⟩) l.length cap) (.slice aA c.aud.length cA) c).toArray = wz := ⟨_, rfl⟩
          have HBz : Hid (Bl 28 wz w.heap.size (clC (.slice (some ⟨g, off, none⟩) l.length cap) (.slice aA c.aud.length cA) c)) := by rw [← hwz]; exact set_bl2 HBox.out
          have Hz : Hid (Below w.heap.size w wz) := by rw [← hwz]; exact setRow_below2 _ HBw.out (Nat.le_refl _)
          have HOz : Hid (OT w.heap.size wz (.slice aA c.aud.length cA) c.aud) := by
            rw [← hwz]
            have ha := block_apart HO.out HBox.out (by decide)
            exact own_keep HO.out fun g hg => setRow_other _ _ _ _ (fun e => ha (by rw [hg]; exact congrArg some e))
          have HNz : Hid (NO w.heap.size wz (.slice (some ⟨g, off, none⟩) l.length cap) l) := by
            rw [← hwz]
            have ha := block_apart HNO.out HBox.out (by decide)
            exact own_keep HNO.out fun g hg => setRow_other _ _ _ _ (fun e => ha (by rw [hg]; exact congrArg some e))
          have HWz : Hid (w3.setRow w.heap.size (clC (.slice (some ⟨g, off, none⟩) l.length cap) (.slice aA c.aud.length cA) c).toArray = wz) := hwz
          clear hwz
          have hgi : (Tryz.prog.info? 28).map (·.size) = some 15 := by kernel_rfl
          unfold clV
          go_wp2_with (refine wpList_store_row rfl 28 (.tmp 2) (.tmp 39) rfl w.heap.size (clC (.slice (some ⟨g, off, none⟩) l.length cap) (.slice aA c.aud.length cA) c).toArray rfl rfl 28 (clC (.slice none 0 0) (.slice none 0 0) cm0).toArray HBox.out hgi rfl (by simp [clC, Value.oneCell']) ?_; rw [HWz.out]; clear HWz hgi)
          (try simp only [Exit.inBlock, Exit.then])
          refine bodyPost_ret (v := .tuple #[clV (.slice (some ⟨g, off, none⟩) l.length cap) (.slice aA c.aud.length cA) c, .int .i64 0]) (results_cl2 rfl _ _ w.heap.size _ _ _ _ rfl rfl HBz.out) rfl ⟨⟨.slice (some ⟨g, off, none⟩) l.length cap, .slice aA c.aud.length cA, ?_, ?_, ?_⟩, Hz.out⟩
          · rw [HX.out]; rfl
          · rw [HX.out]; rw [show (c, 0).1.val = l from HV.out]; exact HNz.out
          · rw [HX.out]; exact HOz.out
    · have q7 : (K != 7) = true := by simpa using h7
      have HX : Hid (cparseF t = (cm0, 130)) := by show _ = _; rw [HP2.out]; exact if_pos h7
      clear HP2 h7 HN HNO
      obtain ⟨wz, hwz⟩ : ∃ wz, w1.setRow w.heap.size (clC (.slice none 0 0) (.slice none 0 0) cm0).toArray = wz := ⟨_, rfl⟩
      have HBz : Hid (Bl 28 wz w.heap.size (clC (.slice none 0 0) (.slice none 0 0) cm0)) := by rw [← hwz]; exact set_bl2 HBox1.out
      have Hz : Hid (Below w.heap.size w wz) := by rw [← hwz]; exact setRow_below2 _ HB1.out (Nat.le_refl _)
      have HWz : Hid (w1.setRow w.heap.size (clC (.slice none 0 0) (.slice none 0 0) cm0).toArray = wz) := hwz
      clear hwz
      have hgi : (Tryz.prog.info? 28).map (·.size) = some 15 := by kernel_rfl
      go_wp2_with (refine wpList_store_row rfl 28 (.tmp 2) (.tmp 24) rfl w.heap.size (clC (.slice none 0 0) (.slice none 0 0) cm0).toArray rfl rfl 28 (clC (.slice none 0 0) (.slice none 0 0) cm0).toArray HBox1.out hgi rfl (by simp [clC, cm0, Value.oneCell']) ?_; rw [HWz.out]; clear HWz hgi)
      (try simp only [Exit.inBlock, Exit.then])
      refine bodyPost_ret (v := .tuple #[clV (.slice none 0 0) (.slice none 0 0) cm0, .int .i64 130]) (results_cl2 rfl _ _ w.heap.size _ _ _ _ rfl rfl HBz.out) rfl ⟨⟨.slice none 0 0, .slice none 0 0, ?_, ?_, ?_⟩, Hz.out⟩
      · first | (rw [HX.out]; done) | (rw [HX.out]; rfl)
      · rw [HX.out]; exact World.ownsRow_nil _ _ _ _
      · rw [HX.out]; exact World.ownsRow_nil _ _ _ _

  · have HX : Hid (cparseF t = (cm0, c)) := by show _ = _; rw [HP.out, if_pos h0]
    have qc : ((c : Int) == 0) = false := by simp; omega
    have qc' : ((c : Int) != 0) = true := by simp; omega
    clear hsh hbd HP HN h0 HNO
    obtain ⟨wz, hwz⟩ : ∃ wz, w1.setRow w.heap.size (clC (.slice none 0 0) (.slice none 0 0) cm0).toArray = wz := ⟨_, rfl⟩
    have HBz : Hid (Bl 28 wz w.heap.size (clC (.slice none 0 0) (.slice none 0 0) cm0)) := by rw [← hwz]; exact set_bl2 HBox1.out
    have Hz : Hid (Below w.heap.size w wz) := by rw [← hwz]; exact setRow_below2 _ HB1.out (Nat.le_refl _)
    have HWz : Hid (w1.setRow w.heap.size (clC (.slice none 0 0) (.slice none 0 0) cm0).toArray = wz) := hwz
    clear hwz
    have hgi : (Tryz.prog.info? 28).map (·.size) = some 15 := by kernel_rfl
    go_wp2_with (refine wpList_store_row rfl 28 (.tmp 2) (.tmp 17) rfl w.heap.size (clC (.slice none 0 0) (.slice none 0 0) cm0).toArray rfl rfl 28 (clC (.slice none 0 0) (.slice none 0 0) cm0).toArray HBox1.out hgi rfl (by simp [clC, cm0, Value.oneCell']) ?_; rw [HWz.out]; clear HWz hgi)
    (try simp only [Exit.inBlock, Exit.then])
    refine bodyPost_ret (v := .tuple #[clV (.slice none 0 0) (.slice none 0 0) cm0, .int .i64 (c : Int)]) (results_cl2 rfl _ _ w.heap.size _ _ _ _ rfl rfl HBz.out) rfl ⟨⟨.slice none 0 0, .slice none 0 0, ?_, ?_, ?_⟩, Hz.out⟩
    · first | (rw [HX.out]; done) | (rw [HX.out]; rfl)
    · rw [HX.out]; exact World.ownsRow_nil _ _ _ _
    · rw [HX.out]; exact World.ownsRow_nil _ _ _ _

end Go.Proofs.YtjehkpndchadbaaGreatDoor
