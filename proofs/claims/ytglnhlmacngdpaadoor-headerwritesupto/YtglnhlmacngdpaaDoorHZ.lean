import Derived.Test.YtglnhlmacngdpaaDoorBase
import Derived.Test.YtglnhlmacngdpaaDoorJZ
import Derived.Test.YtglnhlmacngdpaaDoorSZ
namespace Go.Proofs.YtglnhlmacngdpaaDoor
open Go.RowKit

/-- The algorithms: name, type, curve. -/
def algT : List (List UInt8 × Int × List UInt8) := [([], 0, []), ([72, 83, 50, 53, 54], 1, []), ([72, 83, 51, 56, 52], 1, []), ([72, 83, 53, 49, 50], 1, []), ([82, 83, 50, 53, 54], 2, []), ([82, 83, 51, 56, 52], 2, []), ([82, 83, 53, 49, 50], 2, []), ([80, 83, 50, 53, 54], 2, []), ([80, 83, 51, 56, 52], 2, []), ([80, 83, 53, 49, 50], 2, []), ([69, 83, 50, 53, 54], 3, [80, 45, 50, 53, 54]), ([69, 83, 51, 56, 52], 3, [80, 45, 51, 56, 52]), ([69, 100, 68, 83, 65], 4, [69, 100, 50, 53, 53, 49, 57])]
def algN (k : Nat) : List UInt8 := (algT.getD k ([], 0, [])).1
def algK (k : Nat) : Int := (algT.getD k ([], 0, [])).2.1
def algC (k : Nat) : List UInt8 := (algT.getD k ([], 0, [])).2.2
/-- Their cells. -/
def algCs : List Value := algT.flatMap fun r => [.string ⟨r.1.toArray⟩, .int .i64 r.2.1, .string ⟨r.2.2.toArray⟩]
/-- The program's table stands. -/
def Alg (w : World) : Prop := w.rangeAt 0 0 algCs
theorem Alg.below {B : Nat} {w w' : World} (h : Alg w) (hb : Below B w w') (hB : 0 < B) : Alg w' := fun j v hv => cell_but (h j v hv) fun _ => hb.block _ hB

theorem alg_cell {w : World} (h : Alg w) {k : Nat} (hk : k < 13) : w.cell? ⟨0, k * 3, none⟩ = some (.string ⟨(algN k).toArray⟩) ∧ w.cell? ⟨0, k * 3 + 1, none⟩ = some (.int .i64 (algK k)) ∧ w.cell? ⟨0, k * 3 + 2, none⟩ = some (.string ⟨(algC k).toArray⟩) := by
  have e : ∀ j, j < 39 → ∃ v, algCs[j]? = some v := fun j hj => ⟨_, List.getElem?_eq_getElem (by show j < 39; exact hj)⟩
  have h0 : ∀ j v, algCs[j]? = some v → w.cell? ⟨0, j, none⟩ = some v := fun j v hv => by
    have := h j v hv
    rwa [Nat.zero_add] at this
  rcases (show k = 0 ∨ k = 1 ∨ k = 2 ∨ k = 3 ∨ k = 4 ∨ k = 5 ∨ k = 6 ∨ k = 7 ∨ k = 8 ∨ k = 9 ∨ k = 10 ∨ k = 11 ∨ k = 12 by omega) with rfl | rfl | rfl | rfl | rfl | rfl | rfl | rfl | rfl | rfl | rfl | rfl | rfl <;> exact ⟨h0 _ _ rfl, h0 _ _ rfl, h0 _ _ rfl⟩

/-- The number of a name. -/
def ofF (l : List UInt8) : Nat := ((List.range 13).find? fun k => decide (algN k = l)).getD 0
/-- The name of a number. -/
def nameF' (a : Int) : List UInt8 := if 0 ≤ a ∧ a < 13 then algN a.toNat else []
set_option maxRecDepth 100000 in
set_option maxHeartbeats 4000000 in
theorem kname_any (a : Int) (w : World) (hA : Alg w) : Calls Tryd.prog 6 #[.int .i64 a] w fun e w' => e = .returned (.string ⟨(nameF' a).toArray⟩) ∧ w' = w := by
  by_cases h : 0 ≤ a ∧ a < 13
  · obtain ⟨k, rfl⟩ : ∃ k : Nat, a = (k : Int) := ⟨a.toNat, by omega⟩
    have hk : k < 13 := by omega
    have hc := (alg_cell hA hk).1
    have HF : Hid (nameF' (k : Int) = algN k) := by show _ = _; unfold nameF'; rw [if_pos h, Int.toNat_natCast]
    have q0 : decide ((k : Int) < 0) = false := decide_eq_false (by omega)
    have q1 : decide ((k : Int) ≥ 13) = false := decide_eq_false (by omega)
    have q2 : (k : Int) < 13 := by omega
    generalize algN k = nk at hc HF
    clear h hA hk
    go_enter Tryd.func6, Tryd.ntmps6
    go_wp2
    go_ret
    rw [HF.out]
    exact ⟨rfl, rfl⟩
  · have HF : Hid (nameF' a = []) := by show _ = _; unfold nameF'; rw [if_neg h]
    rcases (show a < 0 ∨ 0 ≤ a by omega) with h1 | h1
    · have q0 : decide (a < 0) = true := decide_eq_true h1
      clear h hA h1
      go_enter Tryd.func6, Tryd.ntmps6
      go_wp2
      go_ret
      rw [HF.out]
      exact ⟨rfl, rfl⟩
    · have q0 : decide (a < 0) = false := decide_eq_false (by omega)
      have q1 : decide (a ≥ 13) = true := decide_eq_true (by omega)
      clear h hA
      go_enter Tryd.func6, Tryd.ntmps6
      go_wp2
      go_ret
      rw [HF.out]
      exact ⟨rfl, rfl⟩

/-- The document's names, as a list of its own. -/
def nmCs : List Value := (List.range 13).map fun k => .string ⟨(algN k).toArray⟩
set_option maxRecDepth 100000 in
theorem names_any (w : World) : Calls Tryd.prog 17 #[] w fun e w' => e = .returned (.slice (some ⟨w.heap.size, 0, none⟩) 13 13) ∧ w' = w.alloc (.cells nmCs.toArray 9) := by
  go_enter Tryd.func17, Tryd.ntmps17
  go_wp2
  go_ret
  exact ⟨rfl, rfl⟩
theorem nm_cell (w : World) {k : Nat} (hk : k < 13) : (w.alloc (.cells nmCs.toArray 9)).cell? ⟨w.heap.size, k, none⟩ = some (.string ⟨(algN k).toArray⟩) := by
  have h : Bl 9 (w.alloc (.cells nmCs.toArray 9)) w.heap.size nmCs := alloc_bl _ _ _
  have := h.cell k (by simpa [nmCs] using hk)
  rw [this]
  simp [nmCs]

set_option maxRecDepth 100000 in
set_option maxHeartbeats 4000000 in
theorem rname_any (a : Int) (w : World) : Calls Tryd.prog 10 #[.int .i64 a] w fun e w' => e = .returned (.string ⟨(nameF' a).toArray⟩) ∧ Below w.heap.size w w' := by
  have HS : Hid (∀ wq : World, Calls Tryd.prog 17 #[] wq fun e w' => e = .returned (.slice (some ⟨wq.heap.size, 0, none⟩) 13 13) ∧ w' = wq.alloc (.cells nmCs.toArray 9)) := names_any
  rcases (show a < 0 ∨ 0 ≤ a by omega) with h1 | h1
  · have HF : Hid (nameF' a = []) := by show _ = _; unfold nameF'; rw [if_neg (by omega)]
    have q0 : decide (a < 0) = true := decide_eq_true h1
    clear h1
    go_enter Tryd.func10, Tryd.ntmps10
    go_wp2
    go_ret
    rw [HF.out]
    exact ⟨rfl, Below.refl _ _⟩
  · have q0 : decide (a < 0) = false := decide_eq_false (by omega)
    have C0 := HS.out w
    have HB : Hid (Below w.heap.size w (w.alloc (.cells nmCs.toArray 9))) := alloc_below _ _
    generalize w.alloc (.cells nmCs.toArray 9) = w1 at C0 HB
    by_cases h : a < 13
    · obtain ⟨k, rfl⟩ : ∃ k : Nat, a = (k : Int) := ⟨a.toNat, by omega⟩
      have hk : k < 13 := by omega
      have HF : Hid (nameF' (k : Int) = algN k) := by show _ = _; unfold nameF'; rw [if_pos ⟨h1, h⟩, Int.toNat_natCast]
      have q1 : decide ((k : Int) ≥ 13) = false := decide_eq_false (by omega)
      have hc := nm_cell w1 hk
      have C1 := HS.out w1
      have HB2 : Hid (Below w.heap.size w (w1.alloc (.cells nmCs.toArray 9))) := HB.out.trans ((alloc_below _ _).mono HB.out.size)
      generalize w1.alloc (.cells nmCs.toArray 9) = w2 at C1 HB2 hc
      generalize algN k = nk at hc HF
      go_enter Tryd.func10, Tryd.ntmps10
      go_wp2_with fail
      refine C0.mono ?_
      clear C0
      rintro e w3 ⟨rfl, rfl⟩
      go_wp2_with fail
      refine C1.mono ?_
      clear C1
      rintro e w4 ⟨rfl, rfl⟩
      go_wp2
      go_ret
      rw [HF.out]
      exact ⟨rfl, HB2.out⟩
    · have HF : Hid (nameF' a = []) := by show _ = _; unfold nameF'; rw [if_neg (by omega)]
      have q1 : decide (a ≥ 13) = true := decide_eq_true (by omega)
      go_enter Tryd.func10, Tryd.ntmps10
      go_wp2_with fail
      refine C0.mono ?_
      clear C0
      rintro e w3 ⟨rfl, rfl⟩
      go_wp2
      go_ret
      rw [HF.out]
      exact ⟨rfl, HB.out⟩

end Go.Proofs.YtglnhlmacngdpaaDoor

namespace Go.Proofs.YtglnhlmacngdpaaDoor
open Go.RowKit

/-- A header. -/
structure Hd where
  alg : Int
  kid : List UInt8
  typ : List UInt8
  has : Bool
deriving DecidableEq
/-- A header that is being read; whether its alg and kid have been met. -/
structure Hs where
  h : Hd
  a : Bool
  k : Bool
deriving DecidableEq
def hd0 : Hd := ⟨0, [], [], false⟩
def hs0 : Hs := ⟨hd0, false, false⟩
abbrev kA : List UInt8 := [97, 108, 103]
abbrev kK : List UInt8 := [107, 105, 100]
abbrev kT : List UInt8 := [116, 121, 112]

/-- What a member sets; none: it may not stand in a header. -/
def setH (n : Nd) (s : Hs) : Option Hs :=
  if n.kind ≠ 5 then none
  else if n.key = kA then some ⟨⟨(ofF n.text : Int), s.h.kid, s.h.typ, s.h.has⟩, true, s.k⟩
  else if n.key = kK then some ⟨⟨s.h.alg, n.text, s.h.typ, s.h.has⟩, s.a, true⟩
  else if n.key = kT then some ⟨⟨s.h.alg, s.h.kid, n.text, true⟩, s.a, s.k⟩
  else none
def rdL (v : List Nd) : List Nat → Hs → Option Hs
  | [], s => some s
  | k :: r, s => match setH (v.getD k (nd0 0)) s with
    | none => none
    | some s' => rdL v r s'
def readF (v : List Nd) : Option Hs :=
  if (v.getD 0 (nd0 0)).kind ≠ 7 then none else
  match rdL v (kidsF v 0) hs0 with
  | none => none
  | some s => if s.a && s.k then some s else none
/-- What Parse answers. -/
def hparseF (t : List UInt8) : Hd × Nat :=
  if (parseF t).2.1 ≠ 0 then (hd0, (parseF t).2.1) else
  match readF (parseF t).1 with
  | none => (hd0, 110)
  | some s => if s.h.alg = 0 then (hd0, 111) else (s.h, 0)
/-- What Allow answers. -/
def allowF (algs : List (List UInt8)) (wt : Bool) (ty : List UInt8) (h : Hd) : Nat :=
  if nameF' h.alg = [] ∨ nameF' h.alg ∉ algs then 112
  else if wt = true ∧ (h.has = false ∨ h.typ ≠ ty) then 113 else 0
/-- A header's value. -/
def wrF (h : Hd) : List Nd :=
  ⟨7, [], [], false, 0, if h.has then 3 else 2⟩ :: ⟨5, kA, nameF' h.alg, false, 0, 0⟩ :: ⟨5, kK, h.kid, false, 0, 0⟩ :: (if h.has then [⟨5, kT, h.typ, false, 0, 0⟩] else [])
/-- What Print answers. -/
def hprintF (h : Hd) : List UInt8 × Nat :=
  if nameF' h.alg = [] then ([], 111)
  else if Lib.validD h.kid = false ∨ (h.has = true ∧ Lib.validD h.typ = false) then ([], 110)
  else printF (wrF h)

/-- The orders in which a header's members may stand. -/
def Six (ks : List (List UInt8)) : Prop := ks = [kA, kK] ∨ ks = [kK, kA] ∨ ks = [kA, kK, kT] ∨ ks = [kA, kT, kK] ∨ ks = [kK, kA, kT] ∨ ks = [kK, kT, kA] ∨ ks = [kT, kA, kK] ∨ ks = [kT, kK, kA]
end Go.Proofs.YtglnhlmacngdpaaDoor

namespace Go.Proofs.YtglnhlmacngdpaaDoor
open Go.RowKit

/-- The names at these places. -/
abbrev kys (v : List Nd) (K : List Nat) : List (List UInt8) := K.map fun i => (v.getD i (nd0 0)).key
end Go.Proofs.YtglnhlmacngdpaaDoor

namespace Go.Proofs.YtglnhlmacngdpaaDoor
open Go.RowKit

/-- What is told of a value's first node. -/
structure Top (v : List Nd) : Prop where
  pos : 0 < v.length
  ch : Ch v 1 (kidsF v 0) v.length
  ln : ((kidsF v 0).length : Int) = (v.getD 0 (nd0 0)).kids
  nd : (v.getD 0 (nd0 0)).kind = 7 → (kys v (kidsF v 0)).Nodup
/-- What the law calls good. -/
def goodF (v : List Nd) : Prop := (v.getD 0 (nd0 0)).kind = 7 ∧ (v.getD 0 (nd0 0)).kids = (if 0 ≤ memF v 0 kT then 3 else 2) ∧ 0 ≤ memF v 0 kA ∧ 0 ≤ memF v 0 kK ∧ (v.getD (memF v 0 kA).toNat (nd0 0)).kind = 5 ∧ (v.getD (memF v 0 kK).toNat (nd0 0)).kind = 5 ∧ (memF v 0 kT < 0 ∨ (v.getD (memF v 0 kT).toNat (nd0 0)).kind = 5)
/-- A value that is a header, and what is read of it. -/
def GoodAt (v : List Nd) : Prop := ∃ a k : Nat, memF v 0 kA = (a : Int) ∧ memF v 0 kK = (k : Int) ∧ a < v.length ∧ k < v.length ∧ (v.getD 0 (nd0 0)).kind = 7 ∧ (v.getD a (nd0 0)).kind = 5 ∧ (v.getD k (nd0 0)).kind = 5 ∧ (v.getD a (nd0 0)).key = kA ∧ (v.getD k (nd0 0)).key = kK ∧
    (((v.getD 0 (nd0 0)).kids = 2 ∧ memF v 0 kT = -1 ∧ (∀ f : Nd → Nat, ((kidsF v 0).map fun i => f (v.getD i (nd0 0))).sum = f (v.getD a (nd0 0)) + f (v.getD k (nd0 0))) ∧ readF v = some ⟨⟨(ofF (v.getD a (nd0 0)).text : Int), (v.getD k (nd0 0)).text, [], false⟩, true, true⟩) ∨
     ((v.getD 0 (nd0 0)).kids = 3 ∧ ∃ t : Nat, memF v 0 kT = (t : Int) ∧ t < v.length ∧ (v.getD t (nd0 0)).kind = 5 ∧ (v.getD t (nd0 0)).key = kT ∧ (∀ f : Nd → Nat, ((kidsF v 0).map fun i => f (v.getD i (nd0 0))).sum = f (v.getD a (nd0 0)) + f (v.getD k (nd0 0)) + f (v.getD t (nd0 0))) ∧ readF v = some ⟨⟨(ofF (v.getD a (nd0 0)).text : Int), (v.getD k (nd0 0)).text, (v.getD t (nd0 0)).text, true⟩, true, true⟩))
end Go.Proofs.YtglnhlmacngdpaaDoor

namespace Go.Proofs.YtglnhlmacngdpaaDoor
open Go.RowKit

/-- Texts that can be read. -/
structure TR (w : World) (v : Value) (l : List (List UInt8)) (ao : Option Addr) (cap : Nat) : Prop where
  val : v = .slice ao l.length cap
  cap : l.length ≤ cap
  cell : l = [] ∨ ∃ g off : Nat, ao = some ⟨g, off, none⟩ ∧ g < w.heap.size ∧ ∀ j, j < l.length → w.cell? ⟨g, off + j, none⟩ = some (.string ⟨(l.getD j []).toArray⟩)
theorem TR.at {w : World} {v : Value} {l : List (List UInt8)} {ao : Option Addr} {cap : Nat} (h : TR w v l ao cap) {j : Nat} (hj : j < l.length) : ∃ g off : Nat, ao = some ⟨g, off, none⟩ ∧ w.cell? ⟨g, off + j, none⟩ = some (.string ⟨(l.getD j []).toArray⟩) := by
  rcases h.cell with h0 | ⟨g, off, e, _, hc⟩
  · subst h0; simp at hj
  · exact ⟨g, off, e, hc j hj⟩
theorem TR.below {w w' : World} {v : Value} {l : List (List UInt8)} {ao : Option Addr} {cap n : Nat} (h : TR w v l ao cap) (hb : Below n w w') (hn : w.heap.size ≤ n) : TR w' v l ao cap := by
  refine ⟨h.val, h.cap, ?_⟩
  rcases h.cell with h0 | ⟨g, off, e, hg, hc⟩
  · exact .inl h0
  · exact .inr ⟨g, off, e, Nat.lt_of_lt_of_le hg hb.size, fun j hj => cell_but (hc j hj) fun _ => hb.block g (by omega)⟩

theorem Alg.lt {w : World} (h : Alg w) : 0 < w.heap.size := World.block_lt_of_cell? w _ (alg_cell h (k := 0) (by decide)).1
theorem Alg.bel {w w' : World} {B : Nat} (h : Alg w) (hb : Below B w w') (hB : w.heap.size ≤ B) : Alg w' := h.below hb (Nat.lt_of_lt_of_le h.lt hB)

/-- A header as a value; a policy. -/
def hdV (h : Hd) : Value := .agg #[.int .i64 h.alg, .string ⟨h.kid.toArray⟩, .string ⟨h.typ.toArray⟩, .bool h.has]
def plV (a : Value) (iss : ByteArray) (hi : Bool) (aud : ByteArray) (ha : Bool) (ty : List UInt8) (wt : Bool) (lee : Int) (need : Value) : Value := .agg #[a, .string iss, .bool hi, .string aud, .bool ha, .string ⟨ty.toArray⟩, .bool wt, .int .i64 lee, need]

end Go.Proofs.YtglnhlmacngdpaaDoor

namespace Go.Proofs.YtglnhlmacngdpaaDoor
open Go.RowKit

/-- The cells of a header that is being read. -/
def hsC (s : Hs) : List Value := [.int .i64 s.h.alg, .string ⟨s.h.kid.toArray⟩, .string ⟨s.h.typ.toArray⟩, .bool s.h.has, .bool s.a, .bool s.k]

/-- The table of what each member sets. -/
def fnV (f b : Nat) : Value := .func (.func f) #[.pointer (some ⟨b, 0, none⟩)] #[]
end Go.Proofs.YtglnhlmacngdpaaDoor
