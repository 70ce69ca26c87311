import Derived.Test.YtefpjjonmoofpaaDoorLent
namespace Go.Proofs.YtefpjjonmoofpaaDoor
open Go.RowKit

theorem key_r1 : keyC (List.replicate 256 255) [3] = 0 := by decide +kernel
theorem key_r2 : keyC (List.replicate 256 255) [2] = 90 := by decide +kernel
theorem key_r3 : keyC (List.replicate 256 255) [5] = 0 := by decide +kernel
theorem key_r4 : keyC ((List.replicate 256 255).set 0 0) [5] = 90 := by decide +kernel

theorem Bl.rdb' {t : TypeId} {w : World} {b : Nat} {xs : List UInt8} (h : Bl t w b (xs.map B)) : Rd w (some ⟨b, 0, none⟩) xs := h.rdb
/-- 256 bytes, the first k of them ff. -/
def ffs (k : Nat) : List UInt8 := List.replicate k (255 : UInt8) ++ List.replicate (256 - k) 0
theorem ffs_length (k : Nat) (hk : k ≤ 256) : (ffs k).length = 256 := by unfold ffs; rw [List.length_append, List.length_replicate, List.length_replicate]; omega
theorem ffs_full : ffs 256 = List.replicate 256 255 := by unfold ffs; rw [Nat.sub_self, List.replicate_zero, List.append_nil]
theorem ffs_set (k : Nat) (hk : k < 256) : ((ffs k).map B).set k (B 255) = (ffs (k + 1)).map B := by
  unfold ffs
  rw [← List.map_set, List.set_append_right _ _ (by simp), List.length_replicate, Nat.sub_self, show 256 - k = (256 - (k + 1)) + 1 by omega, List.replicate_succ, List.set_cons_zero, List.replicate_succ' (n := k), List.append_assoc]
  rfl

theorem key_bl (gn ge : Nat) (W : World) (ln le : List UInt8) (h1 : ln.length = 256) (h2 : le.length = 1) (b1 : Bl 5 W gn (ln.map B)) (b2 : Bl 5 W ge (le.map B)) :
    Calls Tryd.prog 19 #[.slice (some ⟨gn, 0, none⟩) 256 256, .slice (some ⟨ge, 0, none⟩) 1 1] W fun x w' => x = .returned (.int .i64 (keyC ln le)) ∧ w' = W := by
  have := key_any (some ⟨gn, 0, none⟩) (some ⟨ge, 0, none⟩) 256 1 ln le W b1.rdb b2.rdb (by omega) (by omega)
  rwa [h1, h2] at this

end Go.Proofs.YtefpjjonmoofpaaDoor
