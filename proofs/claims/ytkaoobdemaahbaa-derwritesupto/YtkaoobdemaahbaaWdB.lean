import Derived.Test.YtkaoobdemaahbaaWdA
namespace Go.Proofs.Ytkaoobdemaahbaa
open Go.RowKit

theorem Tm.cells {base : Nat} {w : World} {g n c : Nat} {ys : List X} {j : Nat} (h : Tm base w (.slice (some ⟨g, 0, none⟩) n c) ys j) (hn : (ys ++ fil j).length = n) (k : Nat) (hk : k < (ys ++ fil j).length) :
    w.cell? ⟨g, 0 + k * 3, none⟩ = some (.int .i64 (ys ++ fil j)[k].e.tag) ∧ w.cell? ⟨g, 0 + k * 3 + 1, none⟩ = some (xD (ys ++ fil j)[k]) ∧ w.cell? ⟨g, 0 + k * 3 + 2, none⟩ = some (.int .i64 (ys ++ fil j)[k].e.kids) := by
  have ho := h.own
  generalize ys ++ fil j = zs at *
  subst hn
  have hcell : ∀ i, i < 3 → w.cell? ⟨g, 0 + k * 3 + i, none⟩ = (xC zs[k])[i]? := fun i hi => by
    rw [Nat.zero_add, World.ownsRow.cellAt ho (k * 3 + i) (by omega)]
    have e1 : zs = zs.take k ++ zs[k] :: zs.drop (k + 1) := by rw [← List.drop_eq_getElem_cons hk, List.take_append_drop]
    have e2 : xCs zs = xCs (zs.take k) ++ (xC zs[k] ++ xCs (zs.drop (k + 1))) := by
      conv => lhs; rw [e1]
      rw [xCs_append]
      rfl
    have e3 : (xCs (zs.take k)).length = k * 3 := by rw [xCs_length, List.length_take]; omega
    rw [e2, List.getElem?_append_right (by omega), e3, Nat.add_sub_cancel_left, List.getElem?_append_left (by simp [xC]; omega)]
  exact ⟨hcell 0 (by omega), hcell 1 (by omega), hcell 2 (by omega)⟩
theorem Tm.full {base : Nat} {w : World} {v : Value} {ys : List X} {j : Nat} (h : Tm base w v ys j) (y : X) (hy : y ∈ ys) : ∃ g, y.a = some ⟨g, 0, none⟩ ∧ Rd w (some ⟨g, 0, none⟩) (y.e.data ++ mks 90) ∧ y.e.data.length + 90 ≤ y.c ∧ y.c ≤ 9223372036854775807 := by
  have hd := h.dat y hy
  obtain ⟨g, c, e, h1, h2⟩ := own_some hd (by omega)
  simp only [Value.slice.injEq] at e
  obtain ⟨e1, _, e2⟩ := e
  rw [← e2] at h1 h2
  refine ⟨g, e1, ?_, h1, h2⟩
  have hl : (y.e.data ++ mks 90).length = y.e.data.length + 90 := by rw [List.length_append, mks_length]
  rw [e1, ← hl] at hd
  exact (own_rd hd).1
theorem Tm.row {base : Nat} {w : World} {g n c : Nat} {ys xs : List X} {j : Nat} {ao : Option Addr} (h : Tm base w (.slice (some ⟨g, 0, none⟩) n c) ys j) (hn : (ys ++ fil j).length = n) (hR : Row w ao xs) (he : es ys = es xs) : Row w (some ⟨g, 0, none⟩) ys := by
  refine ⟨.inr ⟨g, 0, rfl, (h.own.lt g rfl).2, fun k hk => ?_⟩, fun y hy => ?_⟩
  · have := h.cells hn k (by rw [List.length_append]; omega)
    rw [List.getElem_append_left hk] at this
    exact this
  · obtain ⟨g', e1, r, l1, l2⟩ := h.full y hy
    have hm : y.e ∈ es xs := by rw [← he]; exact List.mem_map.2 ⟨y, hy, rfl⟩
    obtain ⟨x, hx, ex⟩ := List.mem_map.1 hm
    have hX := hR.ok x hx
    have r2 := rd_take r y.e.data.length
    rw [List.take_left] at r2
    rw [← e1] at r2
    have q1 := hX.lo
    have q2 := hX.hi
    have ex' : x.e = y.e := ex
    rw [ex'] at q1 q2
    exact ⟨r2, by omega, l2, q1, q2⟩

end Go.Proofs.Ytkaoobdemaahbaa
