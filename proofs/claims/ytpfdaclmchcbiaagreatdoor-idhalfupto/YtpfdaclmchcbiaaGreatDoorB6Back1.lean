import Derived.Test.YtpfdaclmchcbiaaGreatDoorB6Facts
namespace Go.Proofs.YtpfdaclmchcbiaaGreatDoor.B64
open Go.RowKit
set_option maxRecDepth 100000

/-- The digits of bytes, in the base 64. -/
def dgs : List UInt8 → List Nat
  | [] => []
  | [x] => (List.range 2).map (dg (x.toNat * 65536))
  | [x, y] => (List.range 3).map (dg (x.toNat * 65536 + y.toNat * 256))
  | x :: y :: z :: r => (List.range 4).map (dg (x.toNat * 65536 + y.toNat * 256 + z.toNat)) ++ dgs r

theorem sg_map (row : ByteArray) (N n : Nat) : sg row N n = ((List.range n).map (dg N)).map (at6 row) := by
  simp [sg, Function.comp_def]

theorem enc_map (row : ByteArray) : ∀ l : List UInt8, enc row l = (dgs l).map (at6 row)
  | [] => rfl
  | [x] => by rw [enc, dgs, sg_map]
  | [x, y] => by rw [enc, dgs, sg_map]
  | x :: y :: z :: r => by rw [enc_cons3, dgs, List.map_append, sg_map, enc_map row r]

theorem dgs_lt : ∀ l : List UInt8, ∀ q ∈ dgs l, q < 64
  | [], q, h => by simp [dgs] at h
  | [x], q, h => by
    rw [dgs] at h
    obtain ⟨j, _, rfl⟩ := List.mem_map.1 h
    exact dg_lt _ _
  | [x, y], q, h => by
    rw [dgs] at h
    obtain ⟨j, _, rfl⟩ := List.mem_map.1 h
    exact dg_lt _ _
  | x :: y :: z :: r, q, h => by
    rw [dgs] at h
    rcases List.mem_append.1 h with h | h
    · obtain ⟨j, _, rfl⟩ := List.mem_map.1 h
      exact dg_lt _ _
    · exact dgs_lt r q h

/-- Every sign of the row is found in it. -/
def Found (row : ByteArray) : Prop := ∀ q, q < 64 → 0 ≤ ix row (at6 row q)
theorem foundU : Found urlRow := by unfold Found; decide +kernel
theorem enc_all (row : ByteArray) (h : Found row) (l : List UInt8) : ∀ c ∈ enc row l, 0 ≤ ix row c := by
  intro c hc
  rw [enc_map] at hc
  obtain ⟨q, hq, rfl⟩ := List.mem_map.1 hc
  exact h q (dgs_lt l q hq)

theorem first_of_all (row : ByteArray) (l : List UInt8) (h : ∀ c ∈ l, 0 ≤ ix row c) : ¬ firstNo row l < l.length := by
  have : firstNo row l = l.length := List.findIdx_eq_length.2 (fun c hc => by have := h c hc; simp; omega)
  omega

theorem decU_enc (l : List UInt8) : decU (enc urlRow l) = (some l, 0, 0) := by
  unfold decU
  have hl := enc_length urlRow l
  rw [if_neg (first_of_all _ _ (enc_all _ foundU l)), if_neg (by omega), dec_enc urlRow apartU l]

/-- A sign of the one row and the sign of the same number of the other. -/
def Pair (x y : UInt8) : Prop :=
  (x = 45 ∧ y = 43) ∨ (x = 95 ∧ y = 47) ∨ (x = y ∧ x ≠ 43 ∧ x ≠ 47 ∧ x ≠ 45 ∧ x ≠ 95)

end Go.Proofs.YtpfdaclmchcbiaaGreatDoor.B64