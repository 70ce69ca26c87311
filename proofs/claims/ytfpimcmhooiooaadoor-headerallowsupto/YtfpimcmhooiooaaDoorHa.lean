import Derived.Test.YtfpimcmhooiooaaDoorJZ
import Derived.Test.YtfpimcmhooiooaaDoorKa
namespace Go.Proofs.YtfpimcmhooiooaaDoor
open Go.RowKit

/-- A header. -/
structure Hd where
  alg : Int
  kid : List UInt8
  typ : List UInt8
  has : Bool
deriving DecidableEq
/-- A header that is being read; whether its alg and kid have been met. -/
structure Hs where
  h : Hd
  a : Bool
  k : Bool
deriving DecidableEq
def hd0 : Hd := ⟨0, [], [], false⟩
def hs0 : Hs := ⟨hd0, false, false⟩
abbrev kA : List UInt8 := [97, 108, 103]
abbrev kK : List UInt8 := [107, 105, 100]
abbrev kT : List UInt8 := [116, 121, 112]

/-- What a member sets; none: it may not stand in a header. -/
def setH (n : Nd) (s : Hs) : Option Hs :=
  if n.kind ≠ 5 then none
  else if n.key = kA then some ⟨⟨(ofF n.text : Int), s.h.kid, s.h.typ, s.h.has⟩, true, s.k⟩
  else if n.key = kK then some ⟨⟨s.h.alg, n.text, s.h.typ, s.h.has⟩, s.a, true⟩
  else if n.key = kT then some ⟨⟨s.h.alg, s.h.kid, n.text, true⟩, s.a, s.k⟩
  else none
def rdL (v : List Nd) : List Nat → Hs → Option Hs
  | [], s => some s
  | k :: r, s => match setH (v.getD k (nd0 0)) s with
    | none => none
    | some s' => rdL v r s'
def readF (v : List Nd) : Option Hs :=
  if (v.getD 0 (nd0 0)).kind ≠ 7 then none else
  match rdL v (kidsF v 0) hs0 with
  | none => none
  | some s => if s.a && s.k then some s else none
/-- What Parse answers. -/
def hparseF (t : List UInt8) : Hd × Nat :=
  if (parseF t).2.1 ≠ 0 then (hd0, (parseF t).2.1) else
  match readF (parseF t).1 with
  | none => (hd0, 110)
  | some s => if s.h.alg = 0 then (hd0, 111) else (s.h, 0)
/-- What Allow answers. -/
def allowF (algs : List (List UInt8)) (wt : Bool) (ty : List UInt8) (h : Hd) : Nat :=
  if nameF' h.alg = [] ∨ nameF' h.alg ∉ algs then 112
  else if wt = true ∧ (h.has = false ∨ h.typ ≠ ty) then 113 else 0
/-- A header's value. -/
def wrF (h : Hd) : List Nd :=
  ⟨7, [], [], false, 0, if h.has then 3 else 2⟩ :: ⟨5, kA, nameF' h.alg, false, 0, 0⟩ :: ⟨5, kK, h.kid, false, 0, 0⟩ :: (if h.has then [⟨5, kT, h.typ, false, 0, 0⟩] else [])
/-- What Print answers. -/
def hprintF (h : Hd) : List UInt8 × Nat :=
  if nameF' h.alg = [] then ([], 111)
  else if Lib.validD h.kid = false ∨ (h.has = true ∧ Lib.validD h.typ = false) then ([], 110)
  else printF (wrF h)

theorem alg_inj : ∀ j, j < 13 → ∀ k, k < 13 → algN j = algN k → j = k := by decide +kernel
theorem of_name {k : Nat} (hk : k < 13) : ofF (algN k) = k := of_hit hk (fun j hj e => by have := alg_inj j (by omega) k hk e; omega) rfl
theorem of_lt (l : List UInt8) : ofF l < 13 := by
  unfold ofF
  cases h : (List.range 13).find? (fun k => decide (algN k = l)) with
  | none => decide
  | some k =>
    have := List.mem_of_find?_eq_some h
    simpa using this
theorem name_of {l : List UInt8} (h : ofF l ≠ 0) : nameF' (ofF l : Int) = l := by
  have hl := of_lt l
  unfold nameF'
  rw [if_pos ⟨by omega, by omega⟩, Int.toNat_natCast]
  unfold ofF at h ⊢
  cases e : (List.range 13).find? (fun k => decide (algN k = l)) with
  | none => rw [e] at h; exact absurd rfl h
  | some k =>
    have := List.find?_some e
    simpa using this
theorem name_in {a : Int} (h : nameF' a ≠ []) : 1 ≤ a ∧ a ≤ 12 ∧ (ofF (nameF' a) : Int) = a := by
  unfold nameF' at h ⊢
  split at h
  · rename_i h0
    have hk : a.toNat < 13 := by omega
    rw [if_pos h0, of_name hk]
    refine ⟨?_, by omega, by omega⟩
    rcases (show a = 0 ∨ 1 ≤ a by omega) with rfl | h1
    · exact absurd rfl h
    · exact h1
  · exact absurd rfl h
theorem name_ne {a : Int} (h1 : 1 ≤ a) (h2 : a ≤ 12) : nameF' a ≠ [] := by
  unfold nameF'
  rw [if_pos ⟨by omega, by omega⟩]
  exact alg_ne _ (by omega) (by omega)

/-- The orders in which a header's members may stand. -/
def Six (ks : List (List UInt8)) : Prop := ks = [kA, kK] ∨ ks = [kK, kA] ∨ ks = [kA, kK, kT] ∨ ks = [kA, kT, kK] ∨ ks = [kK, kA, kT] ∨ ks = [kK, kT, kA] ∨ ks = [kT, kA, kK] ∨ ks = [kT, kK, kA]
theorem six_in {ks : List (List UInt8)} (hn : ks.Nodup) (hs : ∀ k ∈ ks, k = kA ∨ k = kK ∨ k = kT) (ha : kA ∈ ks) (hk : kK ∈ ks) : Six ks := by
  unfold Six
  match ks, hn, hs, ha, hk with
  | [], _, _, ha, _ => simp at ha
  | [x], _, hs, ha, hk => simp at ha hk; rw [← ha] at hk; exact absurd hk (by decide)
  | [x, y], hn, hs, ha, hk =>
    rcases hs x (by simp) with rfl | rfl | rfl <;> rcases hs y (by simp) with rfl | rfl | rfl <;> first | (exfalso; revert hn; decide) | (exfalso; revert ha; decide) | (exfalso; revert hk; decide) | decide
  | [x, y, z], hn, hs, ha, hk =>
    rcases hs x (by simp) with rfl | rfl | rfl <;> rcases hs y (by simp) with rfl | rfl | rfl <;> rcases hs z (by simp) with rfl | rfl | rfl <;> first | (exfalso; revert hn; decide) | decide
  | x :: y :: z :: u :: r, hn, hs, _, _ =>
    have hx := hs x (by simp)
    have hy := hs y (by simp)
    have hz := hs z (by simp)
    have hu := hs u (by simp)
    have n1 : x ≠ y ∧ x ≠ z ∧ x ≠ u ∧ y ≠ z ∧ y ≠ u ∧ z ≠ u := by
      simp only [List.nodup_cons, List.mem_cons, not_or] at hn
      exact ⟨hn.1.1, hn.1.2.1, hn.1.2.2.1, hn.2.1.1, hn.2.1.2.1, hn.2.2.1.1⟩
    exfalso
    rcases hx with rfl | rfl | rfl <;> rcases hy with rfl | rfl | rfl <;> rcases hz with rfl | rfl | rfl <;> rcases hu with rfl | rfl | rfl <;> first | exact n1.1 rfl | exact n1.2.1 rfl | exact n1.2.2.1 rfl | exact n1.2.2.2.1 rfl | exact n1.2.2.2.2.1 rfl | exact n1.2.2.2.2.2 rfl
theorem six_len {ks : List (List UInt8)} (ha : kA ∈ ks) (hk : kK ∈ ks) (hl : (ks.length = 2 ∧ kT ∉ ks) ∨ (ks.length = 3 ∧ kT ∈ ks)) : Six ks := by
  unfold Six
  rcases hl with ⟨hl, -⟩ | ⟨hl, ht⟩
  · match ks, hl with
    | [x, y], _ =>
      simp only [List.mem_cons, List.not_mem_nil, or_false] at ha hk
      rcases ha with rfl | rfl <;> rcases hk with hk | hk
      · exact absurd hk (by decide)
      · subst hk; decide
      · subst hk; decide
      · exact absurd hk (by decide)
  · match ks, hl with
    | [x, y, z], _ =>
      simp only [List.mem_cons, List.not_mem_nil, or_false] at ha hk ht
      rcases ha with rfl | rfl | rfl <;> rcases hk with hk | hk | hk <;> first | (exact absurd hk (by decide)) | (subst hk; rcases ht with ht | ht | ht <;> first | (exact absurd ht (by decide)) | (subst ht; decide))

end Go.Proofs.YtfpimcmhooiooaaDoor
