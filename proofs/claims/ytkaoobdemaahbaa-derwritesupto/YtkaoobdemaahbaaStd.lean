import Derived.Test.YtkaoobdemaahbaaOi
namespace Go.Proofs.Ytkaoobdemaahbaa
open Go.RowKit

/-- A list of one's own can be read. -/
theorem Lst.row {base : Nat} {w : World} {v : Value} {xs : List X} (h : Lst base w v xs) : ∃ ao cap, v = .slice ao xs.length cap ∧ Row w ao xs ∧ (∀ x ∈ xs, x.a = none → x.c = 0) ∧ xs.length ≤ cap ∧ (ao = none → cap = 0) := by
  have hok : ∀ x ∈ xs, XOk w x ∧ (x.a = none → x.c = 0) := fun x hx => by
    have hd := h.dat x hx
    obtain ⟨r1, r2, r3⟩ := own_rd hd
    have hn := h.num x hx
    refine ⟨⟨r1, r2, r3, by omega, by omega⟩, fun e => ?_⟩
    rcases hd.2 with ⟨h', _⟩ | ⟨g, cap, cur, h', _⟩
    · simp only [xD, Value.slice.injEq] at h'
      exact h'.2.2
    · simp only [xD, Value.slice.injEq] at h'
      rw [e] at h'
      cases h'.1
  rcases h.own.2 with ⟨h', h0⟩ | ⟨g, cap, cur, h', _, _, h1, _⟩
  · refine ⟨none, 0, by rw [h', h0], ⟨.inl (List.length_eq_zero_iff.1 h0), fun x hx => (hok x hx).1⟩, fun x hx => (hok x hx).2, by omega, fun _ => rfl⟩
  · refine ⟨_, _, h', ⟨.inr ⟨g, 0, rfl, ?_, fun j hj => ?_⟩, fun x hx => (hok x hx).1⟩, fun x hx => (hok x hx).2, h1, fun e => by cases e⟩
    · exact (h.own.lt g (by rw [h']; rfl)).2
    · have ho := h.own
      rw [h'] at ho
      have hcell : ∀ i, i < 3 → w.cell? ⟨g, 0 + j * 3 + i, none⟩ = (xC xs[j])[i]? := fun i hi => by
        rw [Nat.zero_add, World.ownsRow.cellAt ho (j * 3 + i) (by omega)]
        have e1 : xs = xs.take j ++ xs[j] :: xs.drop (j + 1) := by rw [← List.drop_eq_getElem_cons hj, List.take_append_drop]
        have e2 : xCs xs = xCs (xs.take j) ++ (xC xs[j] ++ xCs (xs.drop (j + 1))) := by
          conv => lhs; rw [e1]
          rw [xCs_append]
          rfl
        have e3 : (xCs (xs.take j)).length = j * 3 := by rw [xCs_length, List.length_take]; omega
        rw [e2, List.getElem?_append_right (by omega), e3, Nat.add_sub_cancel_left, List.getElem?_append_left (by simp [xC]; omega)]
      exact ⟨hcell 0 (by omega), hcell 1 (by omega), hcell 2 (by omega)⟩

theorem st_p1 : parse [48, 5, 2, 1, 5, 5, 0] = ([⟨48, [], 2⟩, ⟨2, [5], 0⟩, ⟨5, [], 0⟩], 0, 0) := by decide +kernel
theorem st_p2 : prints [⟨48, [], 2⟩, ⟨2, [5], 0⟩, ⟨5, [], 0⟩] = ([48, 5, 2, 1, 5, 5, 0], 0) := by decide +kernel
theorem st_p3 : parse [48, 5, 2, 1, 5, 5] = ([], 80, 0) := by decide +kernel
theorem st_u : uintV ⟨2, [0, 128], 0⟩ = some [128] := by decide +kernel

theorem rd_bl {t : TypeId} {w : World} {b : Nat} {vs : List Value} {l : List UInt8} (h : Bl t w b vs) (hv : vs = l.map B) : Rd w (some ⟨b, 0, none⟩) l := by
  subst hv
  refine .inr ⟨b, 0, rfl, h.lt, fun j hj => ?_⟩
  rw [Nat.zero_add, h.cell j (by simpa using hj), List.getElem_map, getD_eq _ _ hj]

end Go.Proofs.Ytkaoobdemaahbaa
