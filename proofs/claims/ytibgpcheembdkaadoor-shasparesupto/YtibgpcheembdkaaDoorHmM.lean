import Derived.Test.YtibgpcheembdkaaDoorPieces
namespace Go.Proofs.YtibgpcheembdkaaDoor
open Go.RowKit

theorem i64_xor_nat (a b : Nat) (ha : a < 9223372036854775808) (hb : b < 9223372036854775808) : bits .xor .i64 (a : Int) (b : Int) = ((a ^^^ b : Nat) : Int) := by
  have hx : a ^^^ b < 2 ^ 63 := Nat.xor_lt_two_pow (by omega) (by omega)
  show IntKind.i64.wrap ((BitVec.ofInt 64 (a : Int) ^^^ BitVec.ofInt 64 (b : Int)).toNat : Int) = _
  rw [BitVec.toNat_xor, ofInt_u64 a (by omega), ofInt_u64 b (by omega), IntKind.wrap_i64]
  omega
theorem i64_or_nat (a b : Nat) (ha : a < 9223372036854775808) (hb : b < 9223372036854775808) : bits .or .i64 (a : Int) (b : Int) = ((a ||| b : Nat) : Int) := by
  have hx : a ||| b < 2 ^ 63 := Nat.or_lt_two_pow (by omega) (by omega)
  show IntKind.i64.wrap ((BitVec.ofInt 64 (a : Int) ||| BitVec.ofInt 64 (b : Int)).toNat : Int) = _
  rw [BitVec.toNat_or, ofInt_u64 a (by omega), ofInt_u64 b (by omega), IntKind.wrap_i64]
  omega

theorem xor_zero_iff (a b : Nat) : a ^^^ b = 0 ↔ a = b := by
  constructor
  · intro h
    have h1 : (a ^^^ b) ^^^ b = a := by rw [Nat.xor_assoc, Nat.xor_self, Nat.xor_zero]
    rw [h, Nat.zero_xor] at h1
    exact h1.symm
  · intro h; rw [h, Nat.xor_self]
theorem or_zero_iff (a b : Nat) : a ||| b = 0 ↔ a = 0 ∧ b = 0 := by
  constructor
  · intro h
    exact ⟨by have := Nat.left_le_or (n := a) (m := b); omega, by have := Nat.right_le_or (n := a) (m := b); omega⟩
  · rintro ⟨h1, h2⟩; rw [h1, h2]; rfl

/-- Two lists are one. -/
theorem list_eq_iff (l1 l2 : List UInt8) (M : Nat) (h1 : l1.length ≤ M) : (l1.length = l2.length ∧ ∀ j, j < M → l1.getD j 0 = l2.getD j 0) ↔ l1 = l2 := by
  constructor
  · rintro ⟨hl, h⟩
    apply List.ext_getElem hl
    intro j hj1 hj2
    have := h j (by omega)
    rw [List.getD_eq_getElem?_getD, List.getD_eq_getElem?_getD, List.getElem?_eq_getElem hj1, List.getElem?_eq_getElem hj2] at this
    exact this
  · rintro rfl; exact ⟨rfl, fun _ _ => rfl⟩

/-- The filled key. -/
def keyF (h : Int) (key : List UInt8) : List UInt8 := if blk h < key.length then sumF h key else key
def filF (h : Int) (key : List UInt8) : List UInt8 := (List.range (blk h)).map fun i => (keyF h key).getD i 0
theorem filF_length (h : Int) (key : List UInt8) : (filF h key).length = blk h := by simp [filF]
/-- Each byte xor the mask. -/
def mskF (x : UInt8) (l : List UInt8) : List UInt8 := l.map fun c => c ^^^ x
theorem mskF_length (x : UInt8) (l : List UInt8) : (mskF x l).length = l.length := by simp [mskF]
/-- The tag. -/
def tagF (h : Int) (key data : List UInt8) : List UInt8 := sumF h (mskF 92 (filF h key) ++ sumF h (mskF 54 (filF h key) ++ data))
theorem tagF_length (h : Int) (key data : List UInt8) : (tagF h key data).length = siz h := sumF_length _ _
theorem tagF_not {h : Int} (hh : ¬ isH h) (key data : List UInt8) : tagF h key data = [] := (siz_not hh _).2

/-- A byte xor another. -/
theorem xorB (x y : UInt8) : bits .xor .u8 (x.toNat : Int) (y.toNat : Int) = ((x ^^^ y).toNat : Int) := by
  rw [u8_xor_nat x.toNat y.toNat x.toNat_lt y.toNat_lt, UInt8.toNat_xor]
/-- A list with one more of its bytes made. -/
theorem made_set (f : Nat → UInt8) (n k : Nat) (v : UInt8) (hk : k < n) (hv : v = f k) :
    (((List.range k).map f ++ List.replicate (n - k) 0).map B).set k (B v) = (((List.range (k + 1)).map f ++ List.replicate (n - (k + 1)) 0).map B) := by
  subst hv
  rw [← List.map_set, List.set_append_right _ _ (by simp), List.length_map, List.length_range, Nat.sub_self, show n - k = (n - (k + 1)) + 1 by omega, List.replicate_succ, List.set_cons_zero, List.range_succ, List.map_append]
  simp
theorem filF_eq (h : Int) (key : List UInt8) : (List.range (blk h)).map (fun i => (keyF h key).getD i 0) = filF h key := rfl
theorem mskF_eq (x : UInt8) (l : List UInt8) : (List.range l.length).map (fun i => l.getD i 0 ^^^ x) = mskF x l := by
  apply List.ext_getElem
  · simp [mskF]
  · intro j h1 h2
    have hj : j < l.length := by simpa using h1
    simp [mskF, List.getElem?_eq_getElem hj]
theorem xor_zero_byte (x y : UInt8) : x ^^^ y = 0 ↔ x = y := by
  constructor
  · intro h
    have h1 : (x ^^^ y) ^^^ y = x := by rw [UInt8.xor_assoc, UInt8.xor_self, UInt8.xor_zero]
    rw [h, UInt8.zero_xor] at h1
    exact h1.symm
  · intro h; rw [h, UInt8.xor_self]

end Go.Proofs.YtibgpcheembdkaaDoor
