import Derived.Test.YtkaoobdemaahbaaWd5
import Derived.Test.YtkaoobdemaahbaaWr2
namespace Go.Proofs.Ytkaoobdemaahbaa
open Go.RowKit

/-- The bytes, or where there are too many, more than 65536. -/
def Acc (bs c : List UInt8) : Prop := (bs.length ≤ 65536 → c = bs) ∧ (65536 < bs.length → 65536 < c.length)
theorem Acc.self (bs : List UInt8) : Acc bs bs := ⟨fun _ => rfl, fun h => h⟩
theorem Acc.step {b1 c1 b2 c2 : List UInt8} (h1 : Acc b1 c1) (h2 : Acc b2 c2) (hc : c1.length ≤ 65536) : Acc (b1 ++ b2) (c1 ++ c2) := by
  constructor
  · intro h
    rw [List.length_append] at h
    rw [h1.1 (by omega), h2.1 (by omega)]
  · intro h
    rw [List.length_append] at h ⊢
    have e1 : b1.length ≤ 65536 := by
      rcases Nat.lt_or_ge 65536 b1.length with h3 | h3
      · have := h1.2 h3; omega
      · exact h3
    rw [h1.1 e1]
    rcases Nat.lt_or_ge 65536 b2.length with h3 | h3
    · have := h2.2 h3; omega
    · rw [h2.1 h3]; omega
theorem Acc.stop {b1 c1 : List UInt8} (h1 : Acc b1 c1) (hc : 65536 < c1.length) (b2 : List UInt8) : Acc (b1 ++ b2) c1 := by
  have hb : 65536 < b1.length := by
    rcases Nat.lt_or_ge 65536 b1.length with h3 | h3
    · exact h3
    · rw [h1.1 h3] at hc; exact hc
  constructor
  · intro h
    rw [List.length_append] at h
    omega
  · intro _; exact hc
theorem hd_len (t : Int) (n : Nat) : 2 ≤ (hd t n).length ∧ (hd t n).length ≤ 5 := by
  unfold hd
  split
  · simp
  · split
    · simp
    · split <;> simp
theorem Acc.close {body c : List UInt8} (t : Int) (h : Acc body c) : Acc (hd t body.length ++ body) (hd t (c.take 65537).length ++ c.take 65537) ∧ (hd t (c.take 65537).length ++ c.take 65537).length ≤ 65542 := by
  have hh := hd_len t body.length
  have hk := hd_len t (c.take 65537).length
  have hl : (c.take 65537).length = min 65537 c.length := List.length_take
  refine ⟨⟨fun h1 => ?_, fun h1 => ?_⟩, ?_⟩
  · rw [List.length_append] at h1
    have e := h.1 (by omega)
    rw [e, List.take_of_length_le (by omega)]
  · rw [List.length_append] at h1 ⊢
    rcases Nat.lt_or_ge 65536 body.length with h3 | h3
    · have := h.2 h3
      omega
    · have e := h.1 h3
      rw [e, List.take_of_length_le (by omega)]
      exact h1
  · rw [List.length_append]
    omega

/-- What the document's bytes answers of an element that may hold d constructed ones in each other. -/
def ByC (d : Nat) : Prop := ∀ (ao : Option Addr) (cap : Nat) (xs : List X) (w : World) (k : Nat) (ts : List E) (bs : List UInt8) (r : List E), Row w ao xs → xs.length ≤ 2000000 → (∀ x ∈ xs, x.a = none → x.c = 0) → (∀ x ∈ xs, x.e.data.length ≤ 100000000) →
  (es xs).drop k = ts ++ r → El d ts bs →
  Calls Try.prog 17 #[.slice ao xs.length cap, .int .i64 (k : Int)] w fun e w' => ∃ v c, e = .returned v ∧ w'.ownsRow w.heap.size 5 1 v c.length (c.map B) ∧ Acc bs c ∧ c.length ≤ 65542 ∧ Below w.heap.size w w'

end Go.Proofs.Ytkaoobdemaahbaa
