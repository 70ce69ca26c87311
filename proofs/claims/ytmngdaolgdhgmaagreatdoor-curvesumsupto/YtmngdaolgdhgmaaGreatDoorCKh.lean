import Derived.Test.YtmngdaolgdhgmaaGreatDoorCAl
namespace Go.Proofs.YtmngdaolgdhgmaaGreatDoor
open Go.RowKit

theorem Lk.nm {w : World} {base g cap : Nat} {xs : List Nat} (h : Lk w base g cap xs) (s : Sm Bs xs) : Nm w (.slice (some ⟨g, 0, none⟩) xs.length cap) xs := ⟨_, _, rfl, Nat.le_trans (Nat.le_add_right _ _) h.cap.1, h.rn, s⟩
theorem Nm.nu' {w : World} {v : Value} {xs : List Nat} (h : Nm w v xs) (hl : xs.length ≤ 3000000) : Nu w v (nv Bs xs) := ⟨xs, h, rfl, hl⟩
theorem Mk.chf {f : Nat → Prop} {w w' : World} {base : Nat} {v : Value} {V k : Nat} (h : Mk w base v V k) (hc : Chf f w w') (hf : ∀ g, v.ownBlock = some g → ¬ f g) : Mk w' base v V k := ⟨own_chf h.1 hc hf, h.2⟩
theorem Mk.iv {w : World} {base : Nat} {v : Value} {V k : Nat} (h : Mk w base v V k) : ∀ g, v.ownBlock = some g → base ≤ g ∧ g < w.heap.size := fun g e => World.ownsRow.lt h.1 g e
theorem Lk.iv {w : World} {base g cap : Nat} {xs : List Nat} (h : Lk w base g cap xs) : base ≤ g ∧ g < w.heap.size := h.lt
end Go.Proofs.YtmngdaolgdhgmaaGreatDoor
