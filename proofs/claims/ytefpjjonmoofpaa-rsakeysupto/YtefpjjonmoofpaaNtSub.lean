import Derived.Test.YtefpjjonmoofpaaNtOps
namespace Go.Proofs.Ytefpjjonmoofpaa
open Go.RowKit

theorem diff_exact {B : Nat} (hB : 0 < B) {W : List Nat} (n c X Y : Nat) (hW : Sm B W) (hl : W.length = n) (_hX : X < B ^ n) (hle : Y ≤ X) (h : nv B W + 1 * Y = X + B ^ n * c) : nv B W = X - Y := by
  have h1 := nv_lt hB hW
  rw [hl] at h1
  rcases c with _ | c
  · omega
  · rw [Nat.mul_succ] at h; omega

end Go.Proofs.Ytefpjjonmoofpaa
