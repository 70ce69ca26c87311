import Derived.Test.YtpfdaclmchcbiaaDoorShRefM
namespace Go.Proofs.YtpfdaclmchcbiaaDoor.Sha
open Go.RowKit
set_option maxRecDepth 100000

/-- How many noughts come behind the bit, where the length takes sixteen bytes. -/
def zL (n : Nat) : Nat := if n % 128 < 112 then 119 - n % 128 else 247 - n % 128
def padL (m : List UInt8) : List UInt8 := m ++ [128] ++ List.replicate (zL m.length) 0 ++ tobe 8 (m.length * 8)

theorem padL_length (m : List UInt8) : (padL m).length = m.length + 1 + zL m.length + 8 := by unfold padL; simp [tobe_length]; omega
theorem padL_plain (m : List UInt8) (h : m.length % 128 < 112 ∨ 120 ≤ m.length % 128) : padL m = padR 128 m := by
  unfold padL padR
  have : zL m.length = zR 128 m.length := by
    unfold zL zR
    split <;> omega
  rw [this]
theorem padL_more (m : List UInt8) (h1 : 112 ≤ m.length % 128) (h2 : m.length % 128 < 120) :
    (padR 128 m).take ((padR 128 m).length - 8) ++ List.replicate 128 0 ++ (padR 128 m).drop ((padR 128 m).length - 8) = padL m := by
  have hz : zL m.length = zR 128 m.length + 128 := by
    unfold zL zR
    split <;> omega
  have hl : (padR 128 m).length - 8 = (m ++ [128] ++ List.replicate (zR 128 m.length) 0).length := by
    unfold padR
    rw [List.length_append, tobe_length]
    omega
  rw [hl]
  unfold padR
  rw [List.take_left', List.drop_left']
  · unfold padL
    rw [hz, ← List.replicate_append_replicate]
    simp
  · rfl
  · rfl

/-- The chain by blocks of 128 bytes. -/
def chL (S : List Int) (all : List UInt8) : Nat → List Int
  | 0 => S
  | n + 1 => mixW (chL S all n) ((all.drop (128 * n)).take 128)
theorem mixW_length (ch : List Int) (bl : List UInt8) (h : ch.length = 8) : (mixW ch bl).length = 8 := by
  unfold mixW; rw [List.length_zipWith, l8_length]; simp [h]
theorem chL_length (S : List Int) (all : List UInt8) (n : Nat) (h : S.length = 8) : (chL S all n).length = 8 := by
  induction n with
  | zero => exact h
  | succ n ih => exact mixW_length _ _ ih
theorem chL_bd (S : List Int) (all : List UInt8) (n : Nat) (h : ∀ k, 0 ≤ S.getD k 0 ∧ S.getD k 0 < 18446744073709551616) : ∀ k, 0 ≤ (chL S all n).getD k 0 ∧ (chL S all n).getD k 0 < 18446744073709551616 := by
  cases n with
  | zero => exact h
  | succ n =>
    intro k
    show 0 ≤ (mixW _ _).getD k 0 ∧ (mixW _ _).getD k 0 < 18446744073709551616
    unfold mixW
    exact zip_bd _ (fun x y => by omega) _ _ k

/-- It is one of the two great ones. -/
def isL (h : Int) : Prop := h = 2 ∨ h = 3
theorem isL.blk {h : Int} (hh : isL h) : blk h = 128 := by rcases hh with rfl | rfl <;> rfl
theorem isL.ne {h : Int} (hh : isL h) : h ≠ 1 := by rcases hh with rfl | rfl <;> decide
theorem isL.isH {h : Int} (hh : isL h) : isH h := .inr hh
theorem mixF_L {h : Int} (hh : isL h) (ch : List Int) (tl : List UInt8) : mixF h ch tl = mixW ch tl := by unfold mixF; rw [if_neg hh.ne]

theorem chL_chF {h : Int} (hh : isL h) (m y : List UInt8) (n : Nat) (hn : 128 * n ≤ m.length) : chL (st0 h) (m ++ y) n = chF h m n := by
  induction n with
  | zero => rfl
  | succ n ih =>
    rw [chL, ih (by omega), chF, mixF_L hh]
    congr 1
    unfold bkF
    rw [hh.blk, Nat.mul_comm n 128, List.drop_append_of_le_length (by omega), List.take_append_of_le_length (by rw [List.length_drop]; omega), show 128 - ((m.drop (128 * n)).take 128).length = 0 by rw [List.length_take, List.length_drop]; omega]
    simp

theorem tail_bitL {h : Int} (hh : isL h) (m : List UInt8) : (tF h m).set (m.length % 128) 128 = rF h m ++ 128 :: List.replicate (127 - m.length % 128) 0 := by
  have hf : m.length % 128 < 128 := Nat.mod_lt _ (by omega)
  have hr : (rF h m).length = m.length % 128 := by rw [rF_length, hh.blk]
  rw [tF_eq h m (by rw [hh.blk]; omega), hh.blk, List.set_append_right _ _ (by omega), hr, Nat.sub_self, show 128 - m.length % 128 = (127 - m.length % 128) + 1 by omega, List.replicate_succ, List.set_cons_zero]
theorem last_L (tl : List UInt8) (n : Nat) (h : tl.length = 128) : lastF 128 tl n = tl.take 120 ++ tobe 8 (n * 8) := by
  unfold lastF
  rw [List.drop_of_length_le (by simp [tobe_length, h]), List.append_nil]

theorem chL_fin {h : Int} (hh : isL h) (m : List UInt8) : ∃ nb, (padL m).length = 128 * nb ∧ chL (st0 h) (padL m) nb = finF h m := by
  have hq := Nat.div_add_mod m.length 128
  have hf : m.length % 128 < 128 := Nat.mod_lt _ (by omega)
  have hr : (rF h m).length = m.length % 128 := by rw [rF_length, hh.blk]
  have hb : blk h = 128 := hh.blk
  obtain ⟨Y, hY⟩ : ∃ Y, Y = [128] ++ List.replicate (zL m.length) 0 ++ tobe 8 (m.length * 8) := ⟨_, rfl⟩
  have hp : padL m = m ++ Y := by unfold padL; rw [hY]; simp
  have hYl : Y.length = 9 + zL m.length := by rw [hY]; simp [tobe_length]; omega
  have hc : chL (st0 h) (m ++ Y) (m.length / 128) = cF h m := by
    unfold cF
    rw [hb]
    exact chL_chF hh m Y _ (by omega)
  have hd : (m ++ Y).drop (128 * (m.length / 128)) = rF h m ++ Y := by
    rw [List.drop_append_of_le_length (by omega)]
    unfold rF
    rw [hb, Nat.mul_comm]
  have htl := tail_bitL hh m
  have htll : ((tF h m).set (m.length % 128) 128).length = 128 := by rw [List.length_set, tF_length hh.isH]
  rw [hp]
  by_cases h55 : m.length % 128 < 112
  · have hz1 : zL m.length = 119 - m.length % 128 := by unfold zL; rw [if_pos h55]
    refine ⟨m.length / 128 + 1, by rw [List.length_append, hYl, hz1]; omega, ?_⟩
    unfold finF
    rw [hb, if_neg (by omega), chL, hc, hd, List.take_of_length_le (by rw [List.length_append, hr, hYl, hz1]; omega), mixF_L hh, last_L _ _ htll, htl, List.take_append, hr, List.take_of_length_le (by omega), show 120 - m.length % 128 = (119 - m.length % 128) + 1 by omega, List.take_succ_cons, List.take_replicate, hY, hz1, show min (119 - m.length % 128) (127 - m.length % 128) = 119 - m.length % 128 by omega]
    simp
  · have hz1 : zL m.length = 247 - m.length % 128 := by unfold zL; rw [if_neg h55]
    refine ⟨m.length / 128 + 1 + 1, by rw [List.length_append, hYl, hz1]; omega, ?_⟩
    have hd2 : (m ++ Y).drop (128 * (m.length / 128 + 1)) = (rF h m ++ Y).drop 128 := by rw [← hd, List.drop_drop]; rfl
    have e1 : (rF h m ++ Y).take 128 = (tF h m).set (m.length % 128) 128 := by
      rw [htl, List.take_append, List.take_of_length_le (by omega), hr, hY, hz1, List.append_assoc, show 128 - m.length % 128 = (127 - m.length % 128) + 1 by omega]
      show _ ++ List.take _ (128 :: (List.replicate (247 - m.length % 128) 0 ++ tobe 8 (m.length * 8))) = _
      rw [List.take_succ_cons, List.take_append_of_le_length (by simp; omega), List.take_replicate, show min (127 - m.length % 128) (247 - m.length % 128) = 127 - m.length % 128 by omega]
    have e2 : ((rF h m ++ Y).drop 128).take 128 = lastF 128 Z128 m.length := by
      rw [last_L _ _ Z128_length, List.drop_append, hr, List.drop_of_length_le (by omega), hY, hz1, List.append_assoc, show 128 - m.length % 128 = (127 - m.length % 128) + 1 by omega, List.nil_append]
      show List.take 128 (List.drop _ (128 :: (List.replicate (247 - m.length % 128) 0 ++ tobe 8 (m.length * 8)))) = _
      rw [List.drop_succ_cons, List.drop_append_of_le_length (by simp; omega), List.drop_replicate, show 247 - m.length % 128 - (127 - m.length % 128) = 120 by omega, List.take_of_length_le (by simp [tobe_length])]
      rfl
    unfold finF
    rw [hb, if_pos (by omega), chL, chL, hc, hd, hd2, e1, e2, mixF_L hh, mixF_L hh]

theorem st0_S3 : st0 2 = S3 := by decide +kernel
theorem st0_S5 : st0 3 = S5 := by decide +kernel
theorem S3_bd : ∀ k, 0 ≤ S3.getD k 0 ∧ S3.getD k 0 < 18446744073709551616 := by
  intro k
  by_cases h : k < 8
  · have : ∀ i : Fin 8, 0 ≤ S3.getD i.val 0 ∧ S3.getD i.val 0 < 18446744073709551616 := by decide +kernel
    exact this ⟨k, h⟩
  · rw [List.getD_eq_getElem?_getD, List.getElem?_eq_none (show S3.length ≤ k by have : S3.length = 8 := rfl; omega)]
    exact ⟨by decide, by decide⟩
theorem S5_bd : ∀ k, 0 ≤ S5.getD k 0 ∧ S5.getD k 0 < 18446744073709551616 := by
  intro k
  by_cases h : k < 8
  · have : ∀ i : Fin 8, 0 ≤ S5.getD i.val 0 ∧ S5.getD i.val 0 < 18446744073709551616 := by decide +kernel
    exact this ⟨k, h⟩
  · rw [List.getD_eq_getElem?_getD, List.getElem?_eq_none (show S5.length ≤ k by have : S5.length = 8 := rfl; omega)]
    exact ⟨by decide, by decide⟩
theorem K5_KT : K5 = KT := rfl

/-- The schedule's first i words of 64 bits. -/
def lw' (bl : List UInt8) (i : Nat) : List Int := if i ≤ 16 then wds' bl i else ext' (wds' bl 16) (i - 16)
theorem lw'_length (bl : List UInt8) (i : Nat) : (lw' bl i).length = i := by
  unfold lw'
  split
  · exact wds'_length _ _
  · rw [ext'_length, wds'_length]; omega
theorem lw'_succ (bl : List UInt8) (i : Nat) (h : 16 ≤ i) : lw' bl (i + 1) = lw' bl i ++ [nx' (lw' bl i)] := by
  unfold lw'
  rw [if_neg (by omega)]
  by_cases h1 : i = 16
  · subst h1; rfl
  · rw [if_neg (by omega), show i + 1 - 16 = (i - 16) + 1 by omega, ext']
theorem lw'_low (bl : List UInt8) (i : Nat) (h : i < 16) : lw' bl (i + 1) = lw' bl i ++ [(be (pc bl 8 i) : Int)] := by
  unfold lw'
  rw [if_pos (by omega), if_pos (by omega), wds'_succ]
  rfl
theorem lw'_full (bl : List UInt8) : lw' bl 80 = ext' (wds' bl 16) 64 := rfl
theorem pad_set' (n : Nat) (l : List Int) (x y : Int) (h : l.length < n) : (pad n (l ++ [x])).set l.length y = pad n (l ++ [y]) := by
  rw [← pad_set n l x h, List.set_set, pad_set n l y h]
theorem pad_zero (n : Nat) (l : List Int) (h : l.length < n) : pad n (l ++ [0]) = pad n l := by
  unfold pad
  rw [show n - l.length = (n - (l ++ [0]).length) + 1 by simp; omega, List.replicate_succ]
  simp
theorem pc8_take (bl : List UInt8) (i k : Nat) (h : 8 * i + 8 ≤ bl.length) (hk : k < 8) : be ((pc bl 8 i).take (k + 1)) = be ((pc bl 8 i).take k) * 256 + (bl.getD (8 * i + k) 0).toNat := by
  have hl := pc_length bl 8 i h
  rw [take_be _ k (by omega), pc_get bl 8 i k h (by omega) (by omega), List.getD_eq_getElem?_getD, List.getElem?_eq_getElem (show 8 * i + k < bl.length by omega)]
  rfl
theorem pc8_lt (bl : List UInt8) (i k : Nat) (hk : k ≤ 7) : be ((pc bl 8 i).take k) < 72057594037927936 := by
  have h1 := be_lt ((pc bl 8 i).take k)
  rw [List.length_take] at h1
  refine Nat.lt_of_lt_of_le h1 ?_
  have : (256 : Nat) ^ (min k (pc bl 8 i).length) ≤ 256 ^ 7 := Nat.pow_le_pow_right (by decide) (by omega)
  omega
theorem shlOr (n : Nat) (x : Nat) (h : n < 72057594037927936) (hx : x < 256) : bits .or .u64 (IntKind.u64.wrap ((n : Int) * 256)) (x : Int) = ((n * 256 + x : Nat) : Int) := by
  have e : IntKind.u64.wrap ((n : Int) * 256) = ((n * 256 : Nat) : Int) := by rw [IntKind.wrap_u64]; omega
  rw [e, u64_or_nat (n * 256) x (by omega) (by omega), nat_join 8 (n * 256) x (by omega) (by omega)]

end Go.Proofs.YtpfdaclmchcbiaaDoor.Sha