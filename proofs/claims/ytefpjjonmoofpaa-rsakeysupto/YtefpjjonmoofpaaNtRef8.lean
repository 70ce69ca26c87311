import Derived.Test.YtefpjjonmoofpaaNtRef7
namespace Go.Proofs.Ytefpjjonmoofpaa
open Go.RowKit

theorem half_limb (x D : Nat) (hx : x < 4294967296) : (x + 4294967296 * D) / 2 = x / 2 + D % 2 * 2147483648 + 4294967296 * (D / 2) ∧ (x + 4294967296 * D) % 2 = x % 2 ∧ x / 2 + D % 2 * 2147483648 < 4294967296 := by omega

theorem nv_drop (B : Nat) (xs : List Nat) (k : Nat) (hk : k < xs.length) : nv B (xs.drop k) = xs.getD k 0 + B * nv B (xs.drop (k + 1)) := by
  rw [List.drop_eq_getElem_cons hk, nv, getD_eq _ _ hk]

end Go.Proofs.Ytefpjjonmoofpaa
