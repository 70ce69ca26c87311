import Derived.Test.YtgkbbcoagnilgaaDiff
import Derived.Test.YtgkbbcoagnilgaaRefB
import Derived.Deep.CutRange
namespace Go.Proofs.Ytgkbbcoagnilgaa
open Go.RowKit

/-- A digit as a whole number, as the model's value. -/
def DW (c : UInt8) : Value := .int .i64 ((c.toNat : Int) - 48)

/-- Digits that can be read in a world, as a list of whole numbers. -/
def RdD (W : World) (ao : Option Addr) (xs : List UInt8) : Prop :=
  xs = [] ∨ ∃ b, ao = some ⟨b, 0, none⟩ ∧ b < W.heap.size ∧ ∀ j c, xs[j]? = some c → W.cell? ⟨b, j, none⟩ = some (DW c)

theorem RdD.drewN {W : World} {ao : Option Addr} {xs : List UInt8} (h : RdD W ao xs) (n : Nat) : RdD (W.drewN n) ao xs := h
theorem RdD.below {W W' : World} {ao : Option Addr} {xs : List UInt8} (h : RdD W ao xs) (hB : Below W.heap.size W W') : RdD W' ao xs := by
  rcases h with h | ⟨b, e, hb, hc⟩
  · exact .inl h
  · exact .inr ⟨b, e, Nat.lt_of_lt_of_le hb hB.size, fun j c hj => (hB.cell hb).trans (hc j c hj)⟩

/-- A number with a sign. -/
def sgd (p : Bool) (x : Int) : Int := if p then -x else x

theorem sd_sgd (p : Bool) (d : List UInt8) (k : Nat) : sgd p (sd false d k) = sd p d k := by
  unfold sgd sd
  cases p
  · simp
  · simp only [if_true]
    split <;> simp

/-- What the loop of Apart makes of the places below n, with x so far; K is what the dots' places say. -/
def apL (a b : Nat → Int) (K : Int) : Nat → Int → Int
  | 0, x => x + K
  | n + 1, x => if 1000000000000000 < 10 * x + a n - b n then 1000000000000000 else if 10 * x + a n - b n < -1000000000000000 then -1000000000000000 else apL a b K n (10 * x + a n - b n)

theorem apL_hi (a b : Nat → Int) (K : Int) (n : Nat) (x : Int) (h : 1000000000000000 < 10 * x + a n - b n) : apL a b K (n + 1) x = 1000000000000000 := by
  rw [apL, if_pos h]
theorem apL_lo (a b : Nat → Int) (K : Int) (n : Nat) (x : Int) (h0 : ¬ 1000000000000000 < 10 * x + a n - b n) (h : 10 * x + a n - b n < -1000000000000000) : apL a b K (n + 1) x = -1000000000000000 := by
  rw [apL, if_neg h0, if_pos h]
theorem apL_in (a b : Nat → Int) (K : Int) (n : Nat) (x : Int) (h0 : ¬ 1000000000000000 < 10 * x + a n - b n) (h : ¬ 10 * x + a n - b n < -1000000000000000) : apL a b K (n + 1) x = apL a b K n (10 * x + a n - b n) := by
  rw [apL, if_neg h0, if_neg h]

/-- The document's number in a block. -/
abbrev boxR (m : Bool) (a1 : Option Addr) (n1 c1 : Nat) (o : Int) (p : Bool) (a2 : Option Addr) (n2 c2 : Nat) (pl : Bool) (t : List UInt8) : Obj := .cells #[.bool m, .slice a1 n1 c1, .int .i64 o, .bool p, .slice a2 n2 c2, .bool pl, .string ⟨t.toArray⟩] 35

end Go.Proofs.Ytgkbbcoagnilgaa
