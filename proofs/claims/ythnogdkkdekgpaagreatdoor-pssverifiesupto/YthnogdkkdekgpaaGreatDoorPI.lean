import Derived.Test.YthnogdkkdekgpaaGreatDoorPH
import Derived.Test.YthnogdkkdekgpaaGreatDoorShZ8
import Derived.Lib.SlBytesConst
namespace Go.Proofs.YthnogdkkdekgpaaGreatDoor
open Go.RowKit

set_option maxRecDepth 100000 in
theorem mask_foo : maskF 1 [102, 111, 111] 3 = [59, 218, 186] := by decide +kernel

theorem salt_set (h : Int) (em : List UInt8) (k : Nat) (y : UInt8) (hk : k < em.length - 1 - 2 * Sha.siz h) : saltF h (em.set k y) = saltF h em := by
  unfold saltF
  rw [List.length_set, List.drop_set_of_lt (by omega), List.drop_set_of_lt (by omega)]
/-- A byte ahead of the salt that is another one: no encoding. -/
theorem holds_bad (h : Int) (d s : List UInt8) (bits : Int) (k : Nat) (y : UInt8) (hp : pcode h d.length s.length bits = 0) (hsl : s.length = Sha.siz h) (hk : k < wid bits.toNat - 1 - 2 * Sha.siz h) (hy : (encF h d s bits.toNat).getD k 0 ≠ y) :
    holdsV h d ((encF h d s bits.toNat).set k y) bits = false := by
  obtain ⟨h1, h2, h3, h4, h5⟩ := pcode_ok hp
  have hs := isHB_pos h1
  have hl := encF_length h d s bits.toNat hs h5
  unfold holdsV
  rw [decide_eq_false]
  rintro ⟨_, _, he⟩
  rw [salt_set h _ k y (by rw [hl]; exact hk), salt_enc h d s _ hs hsl h5] at he
  apply hy
  have hk2 : k < (encF h d s bits.toNat).length := by rw [hl]; omega
  conv => lhs; rw [he]
  rw [List.getD_eq_getElem?_getD, List.getElem?_set_self hk2, Option.getD_some]

theorem Owb.blP {w : World} {base : Nat} {v : Value} {l : List UInt8} (h : Owb w base v l) (hl : 0 < l.length) : ∃ g cap r, v = .slice (some ⟨g, 0, none⟩) l.length cap ∧ base ≤ g ∧ Bl 5 w g (l.map B ++ r) ∧ l.length + r.length = cap ∧ cap ≤ maxLen := by
  rcases h.2 with ⟨_, h0⟩ | ⟨g, cap, cur, e, hg, hh, hn, hc, hsz, ht⟩
  · omega
  · refine ⟨g, cap, cur.toList.drop (l.length * 1), e, hg, ?_, ?_, hc⟩
    · unfold Bl
      rw [hh, ← ht, List.take_append_drop]
    · have e4 : cur.toList.length = cap := by rw [Array.length_toList, hsz, Nat.mul_one]
      rw [List.length_drop, e4]
      omega
theorem Bl.rdP {w : World} {g : Nat} {l : List UInt8} {r : List Value} (h : Bl 5 w g (l.map B ++ r)) : Rd w (some ⟨g, 0, none⟩) l := by
  refine .inr ⟨g, 0, rfl, h.lt, fun j hj => ?_⟩
  rw [Nat.zero_add, h.cell j (by rw [List.length_append, List.length_map]; omega), List.getElem_append_left (by rw [List.length_map]; exact hj), List.getElem_map, List.getD_eq_getElem?_getD, List.getElem?_eq_getElem hj]
  rfl
theorem lit_rd (w : World) (x y z : UInt8) : Rd (w.alloc (.cells #[.int .u8 (x.toNat : Int), .int .u8 (y.toNat : Int), .int .u8 (z.toNat : Int)] 5 (3, 4))) (some ⟨w.heap.size, 0, none⟩) [x, y, z] := by
  have a1 := Sha.alloc_last w (.cells #[.int .u8 (x.toNat : Int), .int .u8 (y.toNat : Int), .int .u8 (z.toNat : Int)] 5 (3, 4))
  generalize w.alloc (.cells #[.int .u8 (x.toNat : Int), .int .u8 (y.toNat : Int), .int .u8 (z.toNat : Int)] 5 (3, 4)) = W at *
  refine .inr ⟨w.heap.size, 0, rfl, (Array.getElem?_eq_some_iff.1 a1).1, fun j hj => ?_⟩
  have hj2 : j = 0 ∨ j = 1 ∨ j = 2 := by have : j < 3 := by simpa using hj
                                         omega
  unfold World.cell?
  rcases hj2 with rfl | rfl | rfl <;> simp [a1, B]

end Go.Proofs.YthnogdkkdekgpaaGreatDoor
