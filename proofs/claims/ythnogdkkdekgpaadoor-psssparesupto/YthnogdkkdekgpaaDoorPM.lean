import Derived.Test.YthnogdkkdekgpaaDoorRsVerM
namespace Go.Proofs.YthnogdkkdekgpaaDoor
open Go.RowKit

/-- So many sums of a seed and a counter, one behind the other. -/
def flatM (h : Int) (seed : List UInt8) (k : Nat) : List UInt8 := (List.range k).flatMap fun i => Sha.sumF h (seed ++ tobe 4 i)
theorem flatM_succ (h : Int) (seed : List UInt8) (k : Nat) : flatM h seed (k + 1) = flatM h seed k ++ Sha.sumF h (seed ++ tobe 4 k) := by simp [flatM, List.range_succ]
theorem flatM_length (h : Int) (seed : List UInt8) (k : Nat) : (flatM h seed k).length = k * Sha.siz h := by
  induction k with
  | zero => simp [flatM]
  | succ k ih => rw [flatM_succ, List.length_append, ih, Sha.sumF_length, Nat.succ_mul]
/-- How many sums so many bytes want. -/
def cntM (h : Int) (n : Nat) : Nat := (n + Sha.siz h - 1) / Sha.siz h
theorem cnt_gen (n s : Nat) (hs : 0 < s) : n ≤ (n + s - 1) / s * s := by
  have h1 := Nat.div_add_mod (n + s - 1) s
  have h2 := Nat.mod_lt (n + s - 1) hs
  rw [Nat.mul_comm] at h1
  omega
theorem cnt_less (n s k : Nat) (hs : 0 < s) (hk : k < (n + s - 1) / s) : k * s < n := by
  have h1 := Nat.div_mul_le_self (n + s - 1) s
  have h2 : (k + 1) * s ≤ (n + s - 1) / s * s := Nat.mul_le_mul_right _ hk
  rw [Nat.succ_mul] at h2
  omega
/-- The mask. -/
def maskF (h : Int) (seed : List UInt8) (n : Nat) : List UInt8 := (flatM h seed (cntM h n)).take n
theorem flatM_more (h : Int) (seed : List UInt8) (n k d : Nat) (hk : n ≤ k * Sha.siz h) : (flatM h seed (k + d)).take n = (flatM h seed k).take n := by
  induction d with
  | zero => rfl
  | succ d ih =>
    rw [← Nat.add_assoc, flatM_succ, List.take_append_of_le_length, ih]
    rw [flatM_length]
    exact Nat.le_trans hk (Nat.mul_le_mul_right _ (by omega))
theorem maskF_eq (h : Int) (seed : List UInt8) (n k : Nat) (hs : 0 < Sha.siz h) (hk : n ≤ k * Sha.siz h) : (flatM h seed k).take n = maskF h seed n := by
  have hc : n ≤ cntM h n * Sha.siz h := cnt_gen n _ hs
  unfold maskF
  rcases Nat.le_total k (cntM h n) with h1 | h1
  · rw [← Nat.add_sub_cancel' h1, flatM_more h seed n k _ hk]
  · rw [← Nat.add_sub_cancel' h1, flatM_more h seed n (cntM h n) _ hc]
theorem maskF_length (h : Int) (seed : List UInt8) (n : Nat) (hs : 0 < Sha.siz h) : (maskF h seed n).length = n := by
  unfold maskF
  rw [List.length_take, flatM_length]
  have hc : n ≤ cntM h n * Sha.siz h := cnt_gen n _ hs
  omega
theorem maskF_take (h : Int) (seed : List UInt8) (n m : Nat) (hs : 0 < Sha.siz h) (hm : m ≤ n) : (maskF h seed n).take m = maskF h seed m := by
  have hc : n ≤ cntM h n * Sha.siz h := cnt_gen n _ hs
  rw [← maskF_eq h seed m (cntM h n) hs (by omega)]
  unfold maskF
  rw [List.take_take, Nat.min_eq_left hm]

/-- Byte by byte, by exclusive or. -/
def xorL (a b : List UInt8) : List UInt8 := List.zipWith (fun x y => x ^^^ y) a b
theorem xorL_length (a b : List UInt8) : (xorL a b).length = min a.length b.length := by simp [xorL]
theorem xorL_drop (a b : List UInt8) (n : Nat) : (xorL a b).drop n = xorL (a.drop n) (b.drop n) := by unfold xorL; exact List.drop_zipWith
theorem xorL_take (a b : List UInt8) (n : Nat) : (xorL a b).take n = xorL (a.take n) (b.take n) := by unfold xorL; exact List.take_zipWith
theorem xorL_back : ∀ (a b : List UInt8), a.length ≤ b.length → xorL (xorL a b) b = a
  | [], b, _ => by simp [xorL]
  | x :: a, [], h => by simp at h
  | x :: a, y :: b, h => by
    have ih := xorL_back a b (by simpa using h)
    unfold xorL at *
    simp only [List.zipWith_cons_cons]
    rw [ih, UInt8.xor_assoc, UInt8.xor_self, UInt8.xor_zero]
/-- A longer first list: what lies behind the second is not asked. -/
theorem xorL_cut (a b : List UInt8) : xorL (a.take b.length) b = xorL a b := by
  apply List.ext_getElem
  · simp [xorL, Nat.min_comm]
  · intro i h1 h2
    simp [xorL]

theorem isHB_pos {h : Int} (hh : isHB h = true) : 0 < Sha.siz h := by have := knownB h; rw [hh] at this; exact of_decide_eq_true this

def secF (h : Int) (d s : List UInt8) : List UInt8 := Sha.sumF h (List.replicate 8 0 ++ d ++ s)
theorem secF_length (h : Int) (d s : List UInt8) : (secF h d s).length = Sha.siz h := Sha.sumF_length _ _
/-- The block ahead of the mask. -/
def blkF (z : Nat) (s : List UInt8) : List UInt8 := List.replicate z 0 ++ (1 :: s)
theorem blkF_length (z : Nat) (s : List UInt8) : (blkF z s).length = z + 1 + s.length := by simp [blkF]; omega
/-- The highest bits of the first byte made 0. -/
def topM (b : Nat) : UInt8 := UInt8.ofNat (255 / 2 ^ b)
def topF (b : Nat) (l : List UInt8) : List UInt8 := l.set 0 (l.getD 0 0 &&& topM b)
theorem topF_length (b : Nat) (l : List UInt8) : (topF b l).length = l.length := by simp [topF]
def wid (bits : Nat) : Nat := (bits + 7) / 8
/-- The encoding. -/
def encF (h : Int) (d s : List UInt8) (bits : Nat) : List UInt8 :=
  topF (8 * wid bits - bits) (xorL (blkF (wid bits - Sha.siz h - s.length - 2) s) (maskF h (secF h d s) (wid bits - Sha.siz h - 1))) ++ (secF h d s ++ [188])
/-- Why there is none. -/
def pcode (h : Int) (dl sl : Nat) (bits : Int) : Int :=
  if isHB h = false then 111 else if bits < 0 ∨ 65536 < bits then 10 else if dl ≠ Sha.siz h ∨ wid bits.toNat < Sha.siz h + sl + 2 then 90 else 0
theorem pcode_ok {h : Int} {dl sl : Nat} {bits : Int} (hp : pcode h dl sl bits = 0) : isHB h = true ∧ 0 ≤ bits ∧ bits ≤ 65536 ∧ dl = Sha.siz h ∧ Sha.siz h + sl + 2 ≤ wid bits.toNat := by
  unfold pcode at hp
  split at hp
  · cases hp
  · split at hp
    · cases hp
    · split at hp
      · cases hp
      · refine ⟨?_, by omega, by omega, by omega, by omega⟩
        rename_i h1 _ _
        simpa using h1
theorem pcode_zero {h : Int} {dl sl : Nat} {bits : Int} (h1 : isHB h = true) (h2 : 0 ≤ bits) (h3 : bits ≤ 65536) (h4 : dl = Sha.siz h) (h5 : Sha.siz h + sl + 2 ≤ wid bits.toNat) : pcode h dl sl bits = 0 := by
  unfold pcode
  rw [if_neg (by rw [h1]; simp), if_neg (by omega), if_neg (by omega)]
theorem encF_block (h : Int) (d s : List UInt8) (bits : Nat) (hs : 0 < Sha.siz h) (hw : Sha.siz h + s.length + 2 ≤ wid bits) :
    (topF (8 * wid bits - bits) (xorL (blkF (wid bits - Sha.siz h - s.length - 2) s) (maskF h (secF h d s) (wid bits - Sha.siz h - 1)))).length = wid bits - Sha.siz h - 1 := by
  rw [topF_length, xorL_length, blkF_length, maskF_length _ _ _ hs]
  omega
theorem encF_length (h : Int) (d s : List UInt8) (bits : Nat) (hs : 0 < Sha.siz h) (hw : Sha.siz h + s.length + 2 ≤ wid bits) : (encF h d s bits).length = wid bits := by
  unfold encF
  rw [List.length_append, encF_block h d s bits hs hw, List.length_append, secF_length]
  simp
  omega
theorem encF_tail (h : Int) (d s : List UInt8) (bits : Nat) (hs : 0 < Sha.siz h) (hw : Sha.siz h + s.length + 2 ≤ wid bits) : (encF h d s bits).drop (wid bits - Sha.siz h - 1) = secF h d s ++ [188] := by
  unfold encF
  rw [List.drop_append_of_le_length (by rw [encF_block h d s bits hs hw]; exact Nat.le_refl _), List.drop_of_length_le (by rw [encF_block h d s bits hs hw]; exact Nat.le_refl _), List.nil_append]
/-- What the encoding's block holds behind its first byte. -/
theorem encF_mid (h : Int) (d s : List UInt8) (bits k : Nat) (hs : 0 < Sha.siz h) (hw : Sha.siz h + s.length + 2 ≤ wid bits) (hk : 0 < k) (hk2 : k ≤ wid bits - Sha.siz h - 1) :
    (encF h d s bits).drop k = xorL ((blkF (wid bits - Sha.siz h - s.length - 2) s).drop k) ((maskF h (secF h d s) (wid bits - Sha.siz h - 1)).drop k) ++ (secF h d s ++ [188]) := by
  unfold encF
  rw [List.drop_append_of_le_length (by rw [encF_block h d s bits hs hw]; exact hk2)]
  unfold topF
  rw [List.drop_set_of_lt hk, xorL_drop]
theorem blkF_salt (z : Nat) (s : List UInt8) : (blkF z s).drop (z + 1) = s := by
  unfold blkF
  rw [show List.replicate z (0 : UInt8) ++ 1 :: s = (List.replicate z 0 ++ [1]) ++ s by simp]
  rw [List.drop_append_of_le_length (by simp), List.drop_of_length_le (by simp), List.nil_append]

/-- The salt that unmasking gives. -/
def saltF (h : Int) (em : List UInt8) : List UInt8 :=
  xorL ((em.drop (em.length - 1 - 2 * Sha.siz h)).take (Sha.siz h)) ((maskF h ((em.drop (em.length - 1 - Sha.siz h)).take (Sha.siz h)) (em.length - 1 - Sha.siz h)).drop (em.length - 1 - 2 * Sha.siz h))
theorem saltF_length (h : Int) (em : List UInt8) (hs : 0 < Sha.siz h) (hl : 2 * Sha.siz h + 1 ≤ em.length) : (saltF h em).length = Sha.siz h := by
  unfold saltF
  rw [xorL_length, List.length_take, List.length_drop, List.length_drop, maskF_length _ _ _ hs]
  omega
/-- The salt comes back. -/
theorem salt_enc (h : Int) (d s : List UInt8) (bits : Nat) (hs : 0 < Sha.siz h) (hsl : s.length = Sha.siz h) (hw : Sha.siz h + s.length + 2 ≤ wid bits) : saltF h (encF h d s bits) = s := by
  have hl := encF_length h d s bits hs hw
  have ht := encF_tail h d s bits hs hw
  have ht2 : (secF h d s ++ [188]).take (Sha.siz h) = secF h d s := by rw [List.take_append_of_le_length (by rw [secF_length]; exact Nat.le_refl _), List.take_of_length_le (by rw [secF_length]; exact Nat.le_refl _)]
  unfold saltF
  rw [hl, show wid bits - 1 - Sha.siz h = wid bits - Sha.siz h - 1 by omega, ht, ht2]
  rw [encF_mid h d s bits (wid bits - 1 - 2 * Sha.siz h) hs hw (by omega) (by omega)]
  rw [show (blkF (wid bits - Sha.siz h - s.length - 2) s).drop (wid bits - 1 - 2 * Sha.siz h) = s by
    have := blkF_salt (wid bits - Sha.siz h - s.length - 2) s
    rwa [show wid bits - Sha.siz h - s.length - 2 + 1 = wid bits - 1 - 2 * Sha.siz h by omega] at this]
  have hml : ((maskF h (secF h d s) (wid bits - Sha.siz h - 1)).drop (wid bits - 1 - 2 * Sha.siz h)).length = s.length := by rw [List.length_drop, maskF_length _ _ _ hs]; omega
  rw [List.take_append_of_le_length (by rw [xorL_length, hml]; omega), List.take_of_length_le (by rw [xorL_length, hml]; omega)]
  exact xorL_back _ _ (by rw [hml]; exact Nat.le_refl _)

/-- Does it hold? -/
def holdsV (h : Int) (d em : List UInt8) (bits : Int) : Bool := decide (pcode h d.length (Sha.siz h) bits = 0 ∧ em.length = wid bits.toNat ∧ encF h d (saltF h em) bits.toNat = em)
theorem holds_enc (h : Int) (d s : List UInt8) (bits : Int) (hp : pcode h d.length s.length bits = 0) (hsl : s.length = Sha.siz h) : holdsV h d (encF h d s bits.toNat) bits = true := by
  obtain ⟨h1, h2, h3, h4, h5⟩ := pcode_ok hp
  have hs := isHB_pos h1
  unfold holdsV
  rw [decide_eq_true_iff]
  refine ⟨by rw [← hsl]; exact hp, encF_length h d s _ hs h5, ?_⟩
  rw [salt_enc h d s _ hs hsl h5]
/-- Two digests with one salt and one encoding have one second sum. -/
theorem holds_other (h : Int) (d d2 s : List UInt8) (bits : Int) (hp : pcode h d.length s.length bits = 0) (hsl : s.length = Sha.siz h) (hh : holdsV h d2 (encF h d s bits.toNat) bits = true) : secF h d s = secF h d2 s := by
  obtain ⟨h1, h2, h3, h4, h5⟩ := pcode_ok hp
  have hs := isHB_pos h1
  obtain ⟨_, _, he⟩ := of_decide_eq_true hh
  rw [salt_enc h d s _ hs hsl h5] at he
  have e1 := encF_tail h d2 s bits.toNat hs h5
  rw [he, encF_tail h d s bits.toNat hs h5] at e1
  exact List.append_cancel_right e1
/-- What Verify answers. -/
def pverV (h : Int) (n e m s : List UInt8) : Int :=
  if isHB h = false then 111 else if keyC n e ≠ 0 then 90 else if s.length ≠ n.length then 91 else if bv n ≤ bv s then 91
  else if bv s ^ bv e % bv n < 256 ^ wid (bl (bv n) - 1) ∧ holdsV h (Sha.sumF h m) (tobe (wid (bl (bv n) - 1)) (bv s ^ bv e % bv n)) ((bl (bv n) - 1 : Nat) : Int) = true then 0 else 91

end Go.Proofs.YthnogdkkdekgpaaDoor
