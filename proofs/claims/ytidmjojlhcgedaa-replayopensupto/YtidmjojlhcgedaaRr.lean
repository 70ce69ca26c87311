import Derived.Test.YtidmjojlhcgedaaRq
namespace Go.Proofs.Ytidmjojlhcgedaa
open Go.RowKit Go.Maps
set_option maxRecDepth 100000

theorem fp_inj {x y : Nat} (hx : x < FM) (hy : y < FM) (h : x * FP % FM = y * FP % FM) : x = y := by
  have key : ∀ z, z < FM → (z * FP % FM) * 14886173955864302971 % FM = z := by
    intro z hz
    rw [Nat.mod_mul_mod, Nat.mul_assoc]
    have e : FP * 14886173955864302971 = 1 + FM * 887285111055 := by decide +kernel
    rw [e, Nat.mul_add, Nat.mul_one, Nat.mul_comm FM, ← Nat.mul_assoc, Nat.add_mul_mod_self_right, Nat.mod_eq_of_lt hz]
  rw [← key x hx, h, key y hy]
theorem xor_lt {h : Nat} (c : UInt8) (hh : h < FM) : h ^^^ c.toNat < FM := by
  have e : FM = 2 ^ 64 := by decide +kernel
  have hc := c.toNat_lt
  rw [e] at hh ⊢
  exact Nat.xor_lt_two_pow hh (by omega)
theorem fnv_inj {g h : Nat} {c : UInt8} (hg : g < FM) (hh : h < FM) (e : fnv g c = fnv h c) : g = h := by
  unfold fnv at e
  have := fp_inj (xor_lt c hg) (xor_lt c hh) e
  have := congrArg (· ^^^ c.toNat) this
  simpa [Nat.xor_assoc] using this
theorem fnv_inj2 {h : Nat} {c d : UInt8} (hh : h < FM) (e : fnv h c = fnv h d) : c = d := by
  unfold fnv at e
  have := fp_inj (xor_lt c hh) (xor_lt d hh) e
  have := congrArg (h ^^^ ·) this
  simp only [← Nat.xor_assoc, Nat.xor_self, Nat.zero_xor] at this
  exact UInt8.toNat_inj.1 this
theorem fold_inj : ∀ (l : List UInt8) {g h : Nat}, g < FM → h < FM → l.foldl fnv g = l.foldl fnv h → g = h
  | [], _, _, _, _, e => e
  | c :: r, g, h, hg, hh, e => by
    rw [List.foldl_cons, List.foldl_cons] at e
    exact fnv_inj hg hh (fold_inj r (fnv_lt g c) (fnv_lt h c) e)
theorem sum_other {pre suf : List UInt8} {x y : UInt8} (hne : x ≠ y) : sumF (pre ++ x :: suf) ≠ sumF (pre ++ y :: suf) := by
  intro e
  unfold sumF at e
  rw [List.foldl_append, List.foldl_append, List.foldl_cons, List.foldl_cons] at e
  have h1 : pre.foldl fnv FB < FM := foldl_lt pre FB FB_lt
  exact hne (fnv_inj2 h1 (fold_inj suf (fnv_lt _ _) (fnv_lt _ _) e))

theorem open_end {l : List UInt8} {b : Bk} (e : openR l = .ok b) : ∃ k, k + 8 = l.length ∧ pieceF l k 8 = tobe 8 (sumF (l.take k)) := by
  unfold openR at e
  split at e
  · cases e
  split at e
  · cases e
  rename_i k _
  split at e
  · cases e
  rename_i hE
  obtain ⟨h1, h2⟩ := end_ok hE
  exact ⟨k, h1, (num_piece h2).2.1⟩

/-- None with one byte that is another one is taken. -/
theorem open_other {pre suf : List UInt8} {x y : UInt8} {b : Bk} (e : openR (pre ++ x :: suf) = .ok b) (hne : x ≠ y) : ∀ b', openR (pre ++ y :: suf) ≠ .ok b' := by
  intro b' e'
  obtain ⟨k, h1, h2⟩ := open_end e
  obtain ⟨k', h1', h2'⟩ := open_end e'
  obtain rfl : k = k' := by simp only [List.length_append, List.length_cons] at h1 h1'; omega
  by_cases hk : pre.length < k
  · have t1 : ∀ z, (pre ++ z :: suf).take k = pre ++ z :: suf.take (k - pre.length - 1) := fun z => by
      rw [List.take_append, List.take_of_length_le (by omega)]
      obtain ⟨m, hm⟩ : ∃ m, k - pre.length = m + 1 := ⟨k - pre.length - 1, by omega⟩
      rw [hm, List.take_succ_cons, Nat.add_sub_cancel]
    have t2 : pieceF (pre ++ x :: suf) k 8 = pieceF (pre ++ y :: suf) k 8 := by
      unfold pieceF
      congr 1
      rw [List.drop_append, List.drop_append]
      obtain ⟨m, hm⟩ : ∃ m, k - pre.length = m + 1 := ⟨k - pre.length - 1, by omega⟩
      rw [hm, List.drop_succ_cons, List.drop_succ_cons]
    rw [t1] at h2 h2'
    rw [h2, h2'] at t2
    have hb := congrArg be t2
    have hs : ∀ m, sumF m < 256 ^ 8 := fun m => sumF_lt m
    rw [be_tobe, be_tobe, Nat.mod_eq_of_lt (hs _), Nat.mod_eq_of_lt (hs _)] at hb
    exact sum_other hne hb
  · have t1 : (pre ++ x :: suf).take k = (pre ++ y :: suf).take k := by
      rw [List.take_append_of_le_length (by omega), List.take_append_of_le_length (by omega)]
    rw [t1] at h2
    have t2 : ∀ z, (pre ++ z :: suf).drop k = pieceF (pre ++ z :: suf) k 8 := fun z => by
      unfold pieceF
      rw [List.take_of_length_le]
      rw [List.length_drop]
      simp only [List.length_append, List.length_cons] at h1 ⊢
      omega
    have e1 := List.take_append_drop k (pre ++ x :: suf)
    have e2 := List.take_append_drop k (pre ++ y :: suf)
    rw [t2, h2, t1, ← h2', ← t2, e2] at e1
    have := List.append_cancel_left e1
    simp only [List.cons.injEq] at this
    exact hne this.1.symm

end Go.Proofs.Ytidmjojlhcgedaa
