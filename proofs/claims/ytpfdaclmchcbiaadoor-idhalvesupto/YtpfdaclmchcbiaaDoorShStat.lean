import Derived.Test.YtpfdaclmchcbiaaDoorShMix
namespace Go.Proofs.YtpfdaclmchcbiaaDoor.Sha
open Go.RowKit
set_option maxRecDepth 100000

/-- Where the sums begin. -/
def st0 (h : Int) : List Int :=
  if h = 1 then (List.range 8).map fun i => SQ.getD i 0 / 4294967296
  else if h = 2 then (List.range 8).map fun i => SQ.getD (i + 8) 0
  else (List.range 8).map fun i => SQ.getD i 0

/-- A block of a text, with noughts behind it up to 128 bytes. -/
def bkF (h : Int) (m : List UInt8) (i : Nat) : List UInt8 := (m.drop (i * blk h)).take (blk h) ++ List.replicate (128 - ((m.drop (i * blk h)).take (blk h)).length) 0
/-- The chain behind n blocks. -/
def chF (h : Int) (m : List UInt8) : Nat → List Int
  | 0 => st0 h
  | n + 1 => mixF h (chF h m n) (bkF h m n)
/-- The chain of a text's whole blocks; what fills none. -/
def cF (h : Int) (m : List UInt8) : List Int := chF h m (m.length / blk h)
def tF (h : Int) (m : List UInt8) : List UInt8 := bkF h m (m.length / blk h)
/-- A state of these bytes. -/
def Sta (w : World) (b : Nat) (h : Int) (m : List UInt8) : Prop := Cl w b (stV h (cF h m) m.length (tF h m))

/-- It is a hash. -/
def isH (h : Int) : Prop := h = 1 ∨ h = 2 ∨ h = 3
theorem blk_pos {h : Int} (hh : isH h) : 0 < blk h ∧ blk h ≤ 128 := by rcases hh with rfl | rfl | rfl <;> decide

theorem st0_length (h : Int) : (st0 h).length = 8 := by unfold st0; (repeat' split) <;> simp
theorem chF_length (h : Int) (m : List UInt8) (n : Nat) : (chF h m n).length = 8 := by
  induction n with
  | zero => exact st0_length h
  | succ n ih => exact mixF_length h _ _ ih
theorem bkF_length (h : Int) (m : List UInt8) (i : Nat) (hb : blk h ≤ 128) : (bkF h m i).length = 128 := by
  unfold bkF
  rw [List.length_append, List.length_replicate, List.length_take]
  omega
theorem cF_length (h : Int) (m : List UInt8) : (cF h m).length = 8 := chF_length _ _ _
theorem tF_length {h : Int} (hh : isH h) (m : List UInt8) : (tF h m).length = 128 := bkF_length _ _ _ (blk_pos hh).2

theorem bkF_app (h : Int) (m y : List UInt8) (i : Nat) (hi : (i + 1) * blk h ≤ m.length) : bkF h (m ++ y) i = bkF h m i := by
  unfold bkF
  have e : (i + 1) * blk h = i * blk h + blk h := Nat.succ_mul _ _
  rw [List.drop_append_of_le_length (by omega), List.take_append_of_le_length (by rw [List.length_drop]; omega)]
theorem chF_app (h : Int) (m y : List UInt8) (n : Nat) (hn : n * blk h ≤ m.length) : chF h (m ++ y) n = chF h m n := by
  induction n with
  | zero => rfl
  | succ n ih =>
    have e : (n + 1) * blk h = n * blk h + blk h := Nat.succ_mul _ _
    rw [chF, chF, ih (by omega), bkF_app h m y n hn]

/-- What fills no block yet. -/
def rF (h : Int) (m : List UInt8) : List UInt8 := m.drop (m.length / blk h * blk h)
theorem rF_length (h : Int) (m : List UInt8) : (rF h m).length = m.length % blk h := by
  unfold rF
  rw [List.length_drop]
  have := Nat.div_add_mod m.length (blk h)
  rw [Nat.mul_comm] at this
  omega
theorem tF_eq (h : Int) (m : List UInt8) (hb : 0 < blk h) : tF h m = rF h m ++ List.replicate (128 - m.length % blk h) 0 := by
  unfold tF bkF
  have e : ((m.drop (m.length / blk h * blk h)).take (blk h)) = rF h m := List.take_of_length_le (by
    show (rF h m).length ≤ _
    rw [rF_length]
    exact Nat.le_of_lt (Nat.mod_lt _ hb))
  rw [e, rF_length]
theorem bk_app (h : Int) (m y : List UInt8) (hy : m.length % blk h + y.length ≤ blk h) :
    bkF h (m ++ y) (m.length / blk h) = rF h m ++ y ++ List.replicate (128 - (m.length % blk h + y.length)) 0 := by
  have hq : m.length / blk h * blk h ≤ m.length := Nat.div_mul_le_self _ _
  unfold bkF
  have e : ((m ++ y).drop (m.length / blk h * blk h)).take (blk h) = rF h m ++ y := by
    rw [List.drop_append_of_le_length hq]
    exact List.take_of_length_le (by
      show (rF h m ++ y).length ≤ _
      rw [List.length_append, rF_length]; exact hy)
  rw [e, List.length_append, rF_length]

/-- Bytes put behind a text, no more than its last block has room for: what stands in the tail. -/
theorem tail_app (h : Int) (m y : List UInt8) (hb : 0 < blk h ∧ blk h ≤ 128) (hy : m.length % blk h + y.length ≤ blk h) :
    (tF h m).take (m.length % blk h) ++ y ++ (tF h m).drop (m.length % blk h + y.length) = bkF h (m ++ y) (m.length / blk h) := by
  rw [bk_app h m y hy, tF_eq h m hb.1]
  have e : (rF h m).length = m.length % blk h := rF_length h m
  rw [List.take_append_of_le_length (by omega), List.take_of_length_le (by omega), List.drop_append, List.drop_of_length_le (by omega), e, show m.length % blk h + y.length - m.length % blk h = y.length by omega, List.drop_replicate, List.nil_append]
  congr 2
  omega

theorem div_less (a n k : Nat) (hk : 0 < k) (h : a % k + n < k) : (a + n) / k = a / k ∧ (a + n) % k = a % k + n := by
  have h1 := Nat.div_add_mod a k
  have e : a + n = a % k + n + k * (a / k) := by omega
  constructor
  · rw [e, Nat.add_mul_div_left _ _ hk, Nat.div_eq_of_lt h, Nat.zero_add]
  · rw [e, Nat.add_mul_mod_self_left, Nat.mod_eq_of_lt h]
theorem div_full (a n k : Nat) (hk : 0 < k) (h : a % k + n = k) : (a + n) / k = a / k + 1 ∧ (a + n) % k = 0 := by
  have h1 := Nat.div_add_mod a k
  have e : a + n = k * (a / k + 1) := by rw [Nat.mul_add]; omega
  constructor
  · rw [e, Nat.mul_div_cancel_left _ hk]
  · rw [e, Nat.mul_mod_right]

theorem app_less (h : Int) (m y : List UInt8) (hb : 0 < blk h ∧ blk h ≤ 128) (hy : m.length % blk h + y.length < blk h) :
    cF h (m ++ y) = cF h m ∧ tF h (m ++ y) = (tF h m).take (m.length % blk h) ++ y ++ (tF h m).drop (m.length % blk h + y.length) := by
  have h1 := div_less m.length y.length (blk h) hb.1 hy
  rw [tail_app h m y hb (by omega)]
  unfold cF tF
  rw [List.length_append, h1.1]
  exact ⟨chF_app h m y _ (Nat.div_mul_le_self _ _), rfl⟩
theorem app_full (h : Int) (m y : List UInt8) (hb : 0 < blk h ∧ blk h ≤ 128) (hy : m.length % blk h + y.length = blk h) :
    cF h (m ++ y) = mixF h (cF h m) ((tF h m).take (m.length % blk h) ++ y ++ (tF h m).drop (m.length % blk h + y.length)) ∧ tF h (m ++ y) = Z128 := by
  have h1 := div_full m.length y.length (blk h) hb.1 hy
  rw [tail_app h m y hb (by omega)]
  constructor
  · unfold cF
    rw [List.length_append, h1.1, chF, chF_app h m y _ (Nat.div_mul_le_self _ _)]
  · rw [tF_eq h _ hb.1]
    have e : rF h (m ++ y) = [] := List.eq_nil_of_length_eq_zero (by rw [rF_length, List.length_append, h1.2])
    rw [e, List.length_append, h1.2]
    rfl

end Go.Proofs.YtpfdaclmchcbiaaDoor.Sha