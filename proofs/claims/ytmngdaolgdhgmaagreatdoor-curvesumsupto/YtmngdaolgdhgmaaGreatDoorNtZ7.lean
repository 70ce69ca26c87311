import Derived.Test.YtmngdaolgdhgmaaGreatDoorNtZ6
import Derived.Test.YtmngdaolgdhgmaaGreatDoorNtZ5
import Derived.Test.YtmngdaolgdhgmaaGreatDoorNtZ1
namespace Go.Proofs.YtmngdaolgdhgmaaGreatDoor
open Go.RowKit

end Go.Proofs.YtmngdaolgdhgmaaGreatDoor

namespace Go.Proofs.YtmngdaolgdhgmaaGreatDoor
open Go.RowKit

end Go.Proofs.YtmngdaolgdhgmaaGreatDoor

namespace Go.Proofs.YtmngdaolgdhgmaaGreatDoor
open Go.RowKit

/-- What stands while a quotient is made bit by bit. -/
structure RS (w wr : World) (q r v u : Value) (xs ys : List Nat) (k Q R : Nat) : Prop where
  oq : Ow wr w.heap.size q (dg Bs Q)
  or : Ow wr w.heap.size r (dg Bs R)
  nmv : Nm wr v xs
  nmu : Nm wr u ys
  bel : Below w.heap.size w wr
  eq : nv Bs xs / 2 ^ k = Q * nv Bs ys + R
  lt : R < nv Bs ys

end Go.Proofs.YtmngdaolgdhgmaaGreatDoor

namespace Go.Proofs.YtmngdaolgdhgmaaGreatDoor
open Go.RowKit

/-- A row of bytes of one's own, made since a world. -/
structure OBb (B0 : Nat) (w ws : World) (v : Value) (xs : List UInt8) : Prop where
  own : Owb ws B0 v xs
  bel : Below B0 w ws
theorem OBb.nil (w : World) : OBb w.heap.size w w (.slice none 0 0) [] := ⟨Owb.nil _ _, Below.refl _ _⟩
end Go.Proofs.YtmngdaolgdhgmaaGreatDoor

namespace Go.Proofs.YtmngdaolgdhgmaaGreatDoor

/-- They differ by a multiple of M. -/
def Cg (M : Nat) (a b : Int) : Prop := (M : Int) ∣ a - b
theorem Cg.mod {M a b : Nat} (h : Cg M a b) : a % M = b % M := by
  have h1 : ((a : Int)) % (M : Int) = (b : Int) % (M : Int) := Int.emod_eq_emod_iff_emod_sub_eq_zero.2 (Int.emod_eq_zero_of_dvd h)
  omega
theorem Cg.of_mod {M a b : Nat} (h : a % M = b % M) : Cg M a b := by
  have h1 : ((a : Int)) % (M : Int) = (b : Int) % (M : Int) := by omega
  exact Int.dvd_of_emod_eq_zero (Int.emod_eq_emod_iff_emod_sub_eq_zero.1 h1)

/-- a - b modulo M, of numbers below M. -/
def lessV (M a b : Nat) : Nat := if a < b then a + M - b else a - b
theorem lessV_lt {M a b : Nat} (ha : a < M) (hb : b < M) : lessV M a b < M := by
  unfold lessV
  split <;> omega
theorem lessV_cg {M a b : Nat} (hb : b < M) : Cg M (lessV M a b : Nat) ((a : Int) - b) := by
  unfold lessV
  split
  · exact ⟨1, by omega⟩
  · exact ⟨0, by omega⟩
theorem lessV_mod {M a b : Nat} (ha : a < M) (hb : b < M) : lessV M a b = (a + M - b) % M := by
  unfold lessV
  split
  · rw [Nat.mod_eq_of_lt (by omega)]
  · rw [show a + M - b = a - b + M by omega, Nat.add_mod_right, Nat.mod_eq_of_lt (by omega)]
/-- The number whose double is x modulo an odd M. -/
def halfV (M x : Nat) : Nat := if x % 2 = 1 then (x + M) / 2 else x / 2
theorem halfV_lt {M x : Nat} (h : x < M) : halfV M x < M := by
  unfold halfV
  split <;> omega
theorem halfV_two {M x : Nat} (hM : M % 2 = 1) : Cg M (2 * (halfV M x : Nat)) x := by
  unfold halfV
  split
  · exact ⟨1, by omega⟩
  · exact ⟨0, by omega⟩

theorem Cg.half {M : Nat} {a b : Int} (hM : M % 2 = 1) (h : Cg M (2 * a) (2 * b)) : Cg M a b := by
  obtain ⟨k, hk⟩ := h
  obtain ⟨n, hn⟩ : ∃ n : Int, (M : Int) = 2 * n + 1 := ⟨(M : Int) / 2, by omega⟩
  have h2 : k % 2 = 0 := by
    have h3 : 2 * a - 2 * b = 2 * (n * k) + k := by rw [hk, hn]; grind
    omega
  refine ⟨k / 2, ?_⟩
  have h4 : k = 2 * (k / 2) := by omega
  rw [h4] at hk
  have h5 : (M : Int) * (2 * (k / 2)) = 2 * ((M : Int) * (k / 2)) := by grind
  omega

/-- What the search for an inverse keeps. -/
structure Inq (A M L x D y : Nat) : Prop where
  g : Nat.gcd L D = Nat.gcd A M
  cx : Cg M ((A : Int) * x) L
  cy : Cg M ((A : Int) * y) D
  hx : x < M
  hy : y < M
  hD : 0 < D
  hL : L ≤ M
  hM : D ≤ M

theorem Inq.start {A M : Nat} (h : 2 ≤ M) : Inq A M (A % M) 1 M 0 where
  g := by rw [Nat.gcd_comm A M, Nat.gcd_rec M A]
  cx := ⟨(A : Int) / M, by have := Int.mul_ediv_add_emod (A : Int) M; rw [Int.natCast_emod]; omega⟩
  cy := ⟨-1, by simp⟩
  hx := by omega
  hy := by omega
  hD := by omega
  hL := Nat.le_of_lt (Nat.mod_lt _ (by omega))
  hM := Nat.le_refl _
theorem Inq.swap {A M L x D y : Nat} (h : Inq A M L x D y) (hL : 0 < L) : Inq A M D y L x :=
  ⟨by rw [Nat.gcd_comm]; exact h.g, h.cy, h.cx, h.hy, h.hx, hL, h.hM, h.hL⟩
theorem Inq.sub {A M L x D y : Nat} (h : Inq A M L x D y) (hle : D ≤ L) : Inq A M (L - D) (lessV M x y) D y where
  g := by rw [Nat.gcd_sub_self_left hle]; exact h.g
  cx := by
    obtain ⟨u, hu⟩ := h.cx
    obtain ⟨v, hv⟩ := h.cy
    obtain ⟨k, hk⟩ := lessV_cg (a := x) h.hy
    refine ⟨u - v + A * k, ?_⟩
    rw [Int.ofNat_sub hle]
    have e : ((lessV M x y : Nat) : Int) = x - y + M * k := by omega
    rw [e]
    grind
  cy := h.cy
  hx := lessV_lt h.hx h.hy
  hy := h.hy
  hD := h.hD
  hL := by have := h.hL; omega
  hM := h.hM
theorem Inq.half {A M L x D y : Nat} (h : Inq A M L x D y) (hM : M % 2 = 1) (hD : D % 2 = 1) (hL : L % 2 = 0) : Inq A M (L / 2) (halfV M x) D y where
  g := by
    rw [← h.g]
    have h2 : Nat.Coprime 2 D := by
      rw [Nat.Coprime, Nat.gcd_rec, hD]; rfl
    have h3 := h2.gcd_mul_left_cancel (L / 2)
    rw [show 2 * (L / 2) = L by omega] at h3
    exact h3.symm
  cx := by
    apply Cg.half hM
    obtain ⟨u, hu⟩ := h.cx
    obtain ⟨k, hk⟩ := halfV_two (x := x) hM
    refine ⟨u + A * k, ?_⟩
    have e : (2 : Int) * ((L / 2 : Nat) : Int) = L := by omega
    rw [e]
    have e2 : (2 : Int) * ((halfV M x : Nat) : Int) = x + M * k := by omega
    have e3 : (2 : Int) * (A * ((halfV M x : Nat) : Int)) = A * (x + M * k) := by rw [← e2]; grind
    rw [e3]
    grind
  cy := h.cy
  hx := halfV_lt h.hx
  hy := h.hy
  hD := h.hD
  hL := by have := h.hL; omega
  hM := h.hM
theorem Inq.divide {A M L x D y : Nat} (h : Inq A M L x D y) (hL : 0 < L) : Inq A M (D % L) (lessV M y (D / L * x % M)) L x where
  g := by rw [← Nat.gcd_rec L D]; exact h.g
  cx := by
    obtain ⟨u, hu⟩ := h.cx
    obtain ⟨v, hv⟩ := h.cy
    have hM : 0 < M := by have := h.hx; omega
    obtain ⟨k, hk⟩ := lessV_cg (a := y) (Nat.mod_lt (D / L * x) hM)
    have e1 : ((D % L : Nat) : Int) = D - L * (D / L : Nat) := by
      have h2 : ((L * (D / L) + D % L : Nat) : Int) = (D : Int) := by rw [Nat.div_add_mod D L]
      rw [Int.natCast_add, Int.natCast_mul] at h2
      omega
    have e2 : ((D / L * x % M : Nat) : Int) = (D / L : Nat) * x - M * (D / L * x / M : Nat) := by
      have := Nat.div_add_mod (D / L * x) M
      have h2 : ((M * (D / L * x / M) + D / L * x % M : Nat) : Int) = ((D / L * x : Nat) : Int) := by rw [this]
      simp only [Int.natCast_add, Int.natCast_mul] at h2
      omega
    generalize D / L * x / M = n at e2
    generalize D / L = q at *
    generalize D % L = r at *
    generalize q * x % M = s at *
    refine ⟨v - q * u + A * n + A * k, ?_⟩
    have e : ((lessV M y s : Nat) : Int) = y - (q * x - M * n) + M * k := by omega
    rw [e, e1]
    grind
  cy := h.cx
  hx := lessV_lt h.hy (Nat.mod_lt _ (by have := h.hx; omega))
  hy := h.hx
  hD := hL
  hL := by have := Nat.mod_lt D hL; have := h.hL; omega
  hM := h.hL

/-- The inverse. -/
def Inz (A M Y : Nat) : Prop := Y < M ∧ A * Y % M = 1
theorem Inz.one {A M Y Z : Nat} (h : Inz A M Y) (h2 : Inz A M Z) : Y = Z := by
  have e : Y % M = Z % M := by
    apply Cg.mod
    have hM : M ≠ 1 := fun e => by have := h.2; rw [e, Nat.mod_one] at this; cases this
    have hM0 : M ≠ 0 := fun e => by have := h.1; omega
    have h1 : Cg M ((A * Y : Nat) : Int) ((1 : Nat) : Int) := Cg.of_mod (by rw [h.2, Nat.mod_eq_of_lt (by omega)])
    have h3 : Cg M ((A * Z : Nat) : Int) ((1 : Nat) : Int) := Cg.of_mod (by rw [h2.2, Nat.mod_eq_of_lt (by omega)])
    obtain ⟨u, hu⟩ := h1
    obtain ⟨v, hv⟩ := h3
    refine ⟨Z * u - Y * v, ?_⟩
    rw [Int.natCast_mul] at hu hv
    grind
  rwa [Nat.mod_eq_of_lt h.1, Nat.mod_eq_of_lt h2.1] at e
theorem Inz.gcd {A M Y : Nat} (h : Inz A M Y) : Nat.gcd A M = 1 := by
  apply Nat.dvd_one.1
  rw [← h.2]
  exact (Nat.dvd_mod_iff (Nat.gcd_dvd_right A M)).2 (Nat.dvd_trans (Nat.gcd_dvd_left A M) (Nat.dvd_mul_right _ _))
theorem Inq.done {A M x D y : Nat} (h : Inq A M 0 x D y) : D = Nat.gcd A M := by have := h.g; rwa [Nat.gcd_zero_left] at this
theorem Inq.inz {A M x y : Nat} (hM : 2 ≤ M) (h : Inq A M 0 x 1 y) : Inz A M y := by
  refine ⟨h.hy, ?_⟩
  have h1 := h.cy
  have h2 : Cg M ((A * y : Nat) : Int) ((1 : Nat) : Int) := by rw [Int.natCast_mul]; exact h1
  rw [h2.mod, Nat.mod_eq_of_lt (by omega)]

end Go.Proofs.YtmngdaolgdhgmaaGreatDoor
