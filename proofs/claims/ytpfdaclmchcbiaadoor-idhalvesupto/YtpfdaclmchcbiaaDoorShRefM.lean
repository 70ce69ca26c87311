import Derived.Test.YtpfdaclmchcbiaaDoorShShortM
namespace Go.Proofs.YtpfdaclmchcbiaaDoor.Sha
open Go.RowKit
set_option maxRecDepth 100000

/-- Words of a chain of SHA-256 fit. -/
def fitL (l : List Int) : Prop := ∀ x ∈ l, 0 ≤ x ∧ x < 4294967296
theorem fit_map {l : List Int} (h : fitL l) : l.map (· % 4294967296) = l := by
  induction l with
  | nil => rfl
  | cons x r ih =>
    rw [List.map_cons, ih (fun y hy => h y (List.mem_cons_of_mem _ hy))]
    have := h x (List.mem_cons_self ..)
    congr 1
    omega
theorem fit_zip (f : Int → Int → Int) (hf : ∀ x y, 0 ≤ f x y ∧ f x y < 4294967296) : ∀ a b : List Int, fitL (List.zipWith f a b)
  | [], _ => fun x hx => by simp at hx
  | _ :: _, [] => fun x hx => by simp at hx
  | x :: a, y :: b => fun z hz => by
    rw [List.zipWith_cons_cons] at hz
    rcases List.mem_cons.1 hz with rfl | hz
    · exact hf x y
    · exact fit_zip f hf a b z hz
theorem mixN_fit (ch : List Int) (bl : List UInt8) : fitL (mixN ch bl) := by unfold mixN; exact fit_zip _ (fun x y => by omega) _ _
theorem mixN_mixR {ch : List Int} (h : fitL ch) (bl : List UInt8) : mixN ch bl = mixR ch bl := by
  unfold mixN mixR
  rw [fit_map h]
theorem st0_fit : fitL (st0 1) := by
  have : ∀ x ∈ st0 1, 0 ≤ x ∧ x < 4294967296 := by decide +kernel
  exact this
theorem st0_S2 : st0 1 = S2 := by decide +kernel

theorem chF_fit (m : List UInt8) (n : Nat) : fitL (chF 1 m n) := by
  cases n with
  | zero => exact st0_fit
  | succ n => show fitL (mixF 1 _ _); unfold mixF; rw [if_pos rfl]; exact mixN_fit _ _

/-- Blocks of a text with something behind it. -/
theorem chR_chF (m y : List UInt8) (n : Nat) (h : 64 * n ≤ m.length) : chR (m ++ y) n = chF 1 m n := by
  induction n with
  | zero => exact st0_S2.symm
  | succ n ih =>
    have hb : blk 1 = 64 := rfl
    rw [chR, ih (by omega), chF]
    show _ = mixF 1 _ _
    unfold mixF
    rw [if_pos rfl, mixN_mixR (chF_fit m n)]
    congr 1
    unfold bkF
    rw [hb, Nat.mul_comm n 64, List.drop_append_of_le_length (by omega), List.take_append_of_le_length (by rw [List.length_drop]; omega), List.take_append_of_le_length (by rw [List.length_take, List.length_drop]; omega), List.take_take]
    simp

/-- The tail with the bit behind the bytes. -/
theorem tail_bit (m : List UInt8) : (tF 1 m).set (m.length % 64) 128 = rF 1 m ++ 128 :: List.replicate (127 - m.length % 64) 0 := by
  have hf : m.length % 64 < 64 := Nat.mod_lt _ (by omega)
  have hr : (rF 1 m).length = m.length % 64 := rF_length 1 m
  rw [tF_eq 1 m (by decide), show blk 1 = 64 from rfl, List.set_append_right _ _ (by omega), hr, Nat.sub_self, show 128 - m.length % 64 = (127 - m.length % 64) + 1 by omega, List.replicate_succ, List.set_cons_zero]

theorem last_take (tl : List UInt8) (n : Nat) (h : tl.length = 128) : (lastF 64 tl n).take 64 = tl.take 56 ++ tobe 8 (n * 8) := by
  unfold lastF
  rw [List.take_append_of_le_length (by simp [tobe_length]; omega), List.take_of_length_le (by simp [tobe_length]; omega)]

theorem chR_fin (m : List UInt8) : ∃ nb, (padR 64 m).length = 64 * nb ∧ chR (padR 64 m) nb = finF 1 m := by
  have hq := Nat.div_add_mod m.length 64
  have hf : m.length % 64 < 64 := Nat.mod_lt _ (by omega)
  have hr : (rF 1 m).length = m.length % 64 := rF_length 1 m
  have hb : blk 1 = 64 := rfl
  obtain ⟨Y, hY⟩ : ∃ Y, Y = [128] ++ List.replicate (zR 64 m.length) 0 ++ tobe 8 (m.length * 8) := ⟨_, rfl⟩
  have hp : padR 64 m = m ++ Y := by unfold padR; rw [hY]; simp
  have hz : zR 64 m.length = (119 - m.length % 64) % 64 := by unfold zR; rfl
  have hYl : Y.length = 9 + zR 64 m.length := by rw [hY]; simp [tobe_length]; omega
  have hc : chR (m ++ Y) (m.length / 64) = cF 1 m := chR_chF m Y _ (by omega)
  have hd : (m ++ Y).drop (64 * (m.length / 64)) = rF 1 m ++ Y := by
    rw [List.drop_append_of_le_length (by omega)]
    unfold rF
    rw [hb, Nat.mul_comm]
  have hfit : fitL (cF 1 m) := chF_fit m _
  have htl := tail_bit m
  have htll : ((tF 1 m).set (m.length % 64) 128).length = 128 := by rw [List.length_set, tF_length (.inl rfl)]
  rw [hp]
  by_cases h55 : m.length % 64 ≤ 55
  · have hz1 : zR 64 m.length = 55 - m.length % 64 := by rw [hz]; omega
    refine ⟨m.length / 64 + 1, by rw [List.length_append, hYl, hz1]; omega, ?_⟩
    unfold finF
    rw [hb, if_neg (by omega), chR, hc, hd, List.take_of_length_le (by rw [List.length_append, hr, hYl, hz1]; omega)]
    unfold mixF
    rw [if_pos rfl, mixN_mixR hfit, last_take _ _ htll, htl, List.take_append, hr, List.take_of_length_le (by omega), show 56 - m.length % 64 = (55 - m.length % 64) + 1 by omega, List.take_succ_cons, List.take_replicate, hY, hz1, show min (55 - m.length % 64) (127 - m.length % 64) = 55 - m.length % 64 by omega]
    simp
  · have hz1 : zR 64 m.length = 119 - m.length % 64 := by rw [hz]; omega
    refine ⟨m.length / 64 + 1 + 1, by rw [List.length_append, hYl, hz1]; omega, ?_⟩
    have hd2 : (m ++ Y).drop (64 * (m.length / 64 + 1)) = (rF 1 m ++ Y).drop 64 := by rw [← hd, List.drop_drop]; rfl
    have e1 : (rF 1 m ++ Y).take 64 = ((tF 1 m).set (m.length % 64) 128).take 64 := by
      rw [htl, List.take_append, List.take_append, hr, hY, hz1, List.append_assoc, show 64 - m.length % 64 = (63 - m.length % 64) + 1 by omega]
      show _ ++ List.take _ (128 :: (List.replicate (119 - m.length % 64) 0 ++ tobe 8 (m.length * 8))) = _
      rw [List.take_succ_cons, List.take_succ_cons, List.take_append_of_le_length (by simp; omega), List.take_replicate, List.take_replicate, show min (63 - m.length % 64) (119 - m.length % 64) = 63 - m.length % 64 by omega, show min (63 - m.length % 64) (127 - m.length % 64) = 63 - m.length % 64 by omega]
    have e2 : ((rF 1 m ++ Y).drop 64).take 64 = (lastF 64 Z128 m.length).take 64 := by
      rw [last_take _ _ Z128_length, List.drop_append, hr, List.drop_of_length_le (by omega), hY, hz1, List.append_assoc, show 64 - m.length % 64 = (63 - m.length % 64) + 1 by omega, List.nil_append]
      show List.take 64 (List.drop _ (128 :: (List.replicate (119 - m.length % 64) 0 ++ tobe 8 (m.length * 8)))) = _
      rw [List.drop_succ_cons, List.drop_append_of_le_length (by simp; omega), List.drop_replicate, show 119 - m.length % 64 - (63 - m.length % 64) = 56 by omega, List.take_of_length_le (by simp [tobe_length])]
      rfl
    unfold finF
    rw [hb, if_pos (by omega), chR, chR, hc, hd, hd2, e1, e2]
    unfold mixF
    rw [if_pos rfl, if_pos rfl, ← mixN_mixR hfit, ← mixN_mixR (mixN_fit _ _)]

end Go.Proofs.YtpfdaclmchcbiaaDoor.Sha