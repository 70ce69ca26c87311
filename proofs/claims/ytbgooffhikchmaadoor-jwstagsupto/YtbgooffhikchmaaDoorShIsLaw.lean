import Derived.Test.YtbgooffhikchmaaDoorShHm6
namespace Go.Proofs.YtbgooffhikchmaaDoor.Sha
open Go.RowKit
set_option maxRecDepth 100000

theorem blk_siz (h : Int) : blk h = 0 ↔ siz h = 0 := by
  unfold blk siz
  (repeat' split) <;> omega
theorem own_base2 {w : World} {B0 B1 : Nat} {a : Option Addr} {l : List UInt8} (h : Own w B1 a l) (hb : B0 ≤ B1) : Own w B0 a l := by
  rcases h with h0 | ⟨g, e, hg, hc⟩
  · exact .inl h0
  · exact .inr ⟨g, e, by omega, hc⟩

/-- sha.Sum of a row of one's own, as the one part of a new list. -/
theorem ssum_row (h : Int) (B0 n : Nat) (v : Value) (l : List UInt8) (w : World) (T : Tb w) (hv : w.ownsRow B0 5 1 v n (l.map B)) (hl : l.length < 2305843009213693952) :
    Calls Tryd.prog 17 #[.int .i64 h, .slice (some ⟨w.heap.size, 0, none⟩) 1 1] (w.alloc (.cells #[v] 23)) fun e w' => ∃ a, e = .returned (.slice a (siz h) (siz h)) ∧ Own w' w.heap.size a (sumF h l) ∧ Below w.heap.size w w' := by
  obtain ⟨a, c, rfl, hn, hc, hm, _, hr, _⟩ := own_rd hv
  have hp := pts1 w 23 ⟨a, c, l⟩ ⟨hr, by show l.length ≤ c; omega, by show c ≤ _; unfold maxLen at hm; omega⟩
  have hb3 := alloc_below w (.cells #[prV ⟨a, c, l⟩] 23)
  have hs3 := alloc_size w (.cells #[prV ⟨a, c, l⟩] 23)
  dsimp only [prV] at hp hb3 hs3
  rw [← hn] at hp hb3 hs3
  have C := ssum_any h (some ⟨w.heap.size, 0, none⟩) 1 [⟨a, c, l⟩] _ (T.below hb3) hp (by simp) (by rw [cat1]; exact hl)
  rw [cat1] at C
  refine C.mono ?_
  rintro e w2 ⟨a2, rfl, ho, hb⟩
  exact ⟨a2, rfl, own_base2 ho hb3.size, hb3.trans (hb.mono hb3.size)⟩

end Go.Proofs.YtbgooffhikchmaaDoor.Sha