import Derived.Test.YtgkbbcoagnilgaaBase
import Derived.Laws.Rows
namespace Go.Proofs.Ytgkbbcoagnilgaa
open Go.RowKit

/-- A limb as the model's value. -/
def U (x : Nat) : Value := .int .u32 (x : Int)

/-- A row of limbs in a block, all of it one may write. -/
def Fx (W : World) (b : Nat) (xs : List Nat) : Prop := ∃ t, W.heap[b]? = some (.cells (xs.map U).toArray t (0, 0))

theorem Fx.cell {W : World} {b : Nat} {xs : List Nat} (h : Fx W b xs) (j : Nat) (hj : j < xs.length) : W.cell? ⟨b, j, none⟩ = some (.int .u32 (xs[j] : Int)) := by
  obtain ⟨t, ht⟩ := h
  unfold World.cell?
  simp [ht, hj, U]

theorem Fx.frozen {W : World} {b : Nat} {xs : List Nat} (h : Fx W b xs) (j : Nat) : W.frozen? ⟨b, j, none⟩ = false := by
  obtain ⟨t, ht⟩ := h
  unfold World.frozen?
  simp [ht]

theorem Fx.set {W : World} {b : Nat} {xs : List Nat} (h : Fx W b xs) (j v : Nat) : Fx (W.setCell ⟨b, j, none⟩ (.int .u32 (v : Int))) b (xs.set j v) := by
  obtain ⟨t, ht⟩ := h
  refine ⟨t, ?_⟩
  rw [heap_setCell_same W b j _ t _ ht]
  congr 2
  simp [U, List.map_set]

/-- All blocks but this one stand as they stood. -/
def But (w w' : World) (b : Nat) : Prop := w'.os = w.os ∧ w'.tape = w.tape ∧ w'.output = w.output ∧ w'.heap.size = w.heap.size ∧ ∀ k, k ≠ b → w'.heap[k]? = w.heap[k]?

theorem But.refl (w : World) (b : Nat) : But w w b := ⟨rfl, rfl, rfl, rfl, fun _ _ => rfl⟩
theorem But.set {w w' : World} {b : Nat} (h : But w w' b) (j : Nat) (v : Value) : But w (w'.setCell ⟨b, j, none⟩ v) b := by
  obtain ⟨h1, h2, h3, h4, h5⟩ := h
  refine ⟨h1, h2, h3, ?_, fun k hk => ?_⟩
  · rw [← h4]; simp
  · rw [heap_setCell_other w' _ k v hk]; exact h5 k hk

/-- Is every limb of the stretch nought? -/
def zeros (xs : List Nat) : Bool := xs.all fun x => x == 0

set_option maxHeartbeats 400000 in
theorem isZero_any (b off n cap : Nat) (xs : List Nat) (w : World) (hx : Fx w b xs) (hn : off + n ≤ xs.length) (hlen : xs.length ≤ 1000000) (hbd : ∀ x ∈ xs, x < 4294967296) :
    Calls Try.prog 10 #[.slice (some ⟨b, off, none⟩) n cap] w fun e w' => e = .returned (.bool (zeros ((xs.drop off).take n))) ∧ w' = w := by
  have Hx : Hid (Fx w b xs) := hx
  have Hb : Hid (∀ x ∈ xs, x < 4294967296) := hbd
  clear hx hbd
  go_enter Try.func10, Try.ntmps10
  go_wp2
  go_loop [7, 4] (fun s7 _ => ∃ k : Nat, s7 = .int .i64 (k : Int) ∧ k ≤ n ∧ Hid (zeros ((xs.drop off).take k) = true)) (fun s _ => n - (intOf s).toNat)
  case atStart => exact ⟨0, rfl, Nat.zero_le _, rfl⟩
  case round =>
    obtain ⟨k, rfl, hk, Hz⟩ := hrel
    by_cases hlt : k < n
    · have hj : off + k < xs.length := by omega
      obtain ⟨x, hxj⟩ : ∃ x, xs[off + k] = x := ⟨_, rfl⟩
      have gc := Hx.out.cell (off + k) hj
      rw [hxj] at gc
      have Hst : Hid (zeros ((xs.drop off).take (k + 1)) = (zeros ((xs.drop off).take k) && (x == 0))) := by
        show _ = _
        have hj2 : k < (xs.drop off).length := by rw [List.length_drop]; omega
        rw [List.take_succ_eq_append_getElem hj2, List.getElem_drop, hxj]
        unfold zeros
        rw [List.all_append]
        simp
      clear hxj
      by_cases h0 : x = 0
      · subst h0
        have Hz1 : Hid (zeros ((xs.drop off).take (k + 1)) = true) := by show _ = _; rw [Hst.out, Hz.out]; rfl
        go_wp2
        go_round
        case rel => exact ⟨k + 1, by go_num, by omega, Hz1⟩
        case measure => simp [intOf]; omega
      · have hq : ((x : Int) != 0) = true := by simp; omega
        have Hr : Hid (zeros ((xs.drop off).take n) = false) := by
          show _ = _
          have h1 : zeros ((xs.drop off).take (k + 1)) = false := by rw [Hst.out]; simp [h0]
          unfold zeros at h1 ⊢
          rw [List.all_eq_false] at h1 ⊢
          obtain ⟨y, hy, hy2⟩ := h1
          exact ⟨y, (List.take_subset_take_left _ (by omega)) hy, hy2⟩
        clear h0
        go_wp2
        go_ret
        rw [Hr.out]
        exact ⟨rfl, rfl⟩
    · obtain rfl : k = n := by omega
      go_wp2
      go_ret
      rw [Hz.out]
      exact ⟨rfl, rfl⟩

end Go.Proofs.Ytgkbbcoagnilgaa
