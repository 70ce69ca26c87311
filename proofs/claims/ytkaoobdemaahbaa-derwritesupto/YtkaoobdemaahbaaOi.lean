import Derived.Test.YtkaoobdemaahbaaUn
import Derived.Lib.AppendStr
import Derived.Laws.IdiomStrings
namespace Go.Proofs.Ytkaoobdemaahbaa
open Go.RowKit

theorem text_run {w : World} {base : Nat} {v : Value} {l : List UInt8} (h : w.ownsRow base 5 1 v l.length (l.map B)) :
    (convert 25 9 v).run Try.prog w = .ok (.string ⟨l.toArray⟩) w := by
  obtain ⟨a, c, hv⟩ := own_slice h
  subst hv
  rcases h.2 with ⟨h', h0⟩ | ⟨g, cap, cur, h', _⟩
  · simp only [Value.slice.injEq] at h'
    obtain ⟨rfl, h3, rfl⟩ := h'
    obtain rfl : l = [] := List.length_eq_zero_iff.1 h0
    exact run_convert_bytes_nil w 25 5 Try.underlying25 Try.underlying5 0 0 9 Try.underlying9
  · simp only [Value.slice.injEq] at h'
    obtain ⟨rfl, h3, rfl⟩ := h'
    refine run_convert_bytes_back w 25 9 5 ⟨g, 0, none⟩ c l Try.underlying25 Try.underlying5 Try.underlying9 fun j hj => ?_
    rw [Addr.add_lit, Nat.zero_add, World.ownsRow.cellAt h j (by omega), List.getElem?_map, List.getElem?_eq_getElem hj]
    rfl

theorem gr_42 : aloneV ⟨6, [42, 3], 0⟩ 6 = true := by decide +kernel

end Go.Proofs.Ytkaoobdemaahbaa
