import Derived.Test.YtapljedegjiliaaDoorJArg
import Derived.Test.YtapljedegjiliaaDoorCZ
namespace Go.Proofs.YtapljedegjiliaaDoor
open Go.ChangeShapes Go.WideShapes Go.ChangeAt Go.RowKit Go.Deep

instance : Inhabited (List UInt8) := ⟨[]⟩

/-- Texts that came in. -/
theorem open_texts {H : Type} {enc : TypeId × Value → H} {W : World} {held : Bool} {c : Value} {d : DataW H} {p : List MemPlace} {fuel : Nat}
    (hf : DataW.trod enc Tryd.prog W 0 (fun _ => true) held fuel 22 [c] = some (d, p)) :
    ∃ (ao : Option Addr) (cap : Nat) (l : List (List UInt8)), c = .slice ao l.length cap ∧ TR W (.slice ao l.length cap) l ao cap ∧ l.length ≤ maxLen ∧ l.length ≤ Rows.uptoBulk d ∧ (ao = none → cap = 0) ∧ ∀ x ∈ l, x.length ≤ Rows.uptoBulk d := by
  rcases open_slice Tryd.underlying22 hf with ⟨hcs, hx⟩ | ⟨x, len, cap, m, n, D, Pl, hcs, _, hl, hm, hmm, hx, hall⟩
  · simp only [List.cons.injEq, and_true] at hcs
    exact ⟨none, 0, [], hcs, ⟨rfl, Nat.le_refl _, .inl rfl⟩, Nat.zero_le _, Nat.zero_le _, fun _ => rfl, fun x hx => by simp at hx⟩
  · simp only [List.cons.injEq, and_true] at hcs
    simp only [if_true] at hmm
    subst hmm
    simp only [Prod.mk.injEq] at hx
    have hz : ∀ i, i < m → ∃ s : List UInt8, W.cell? (x.add i) = some (.string ⟨s.toArray⟩) ∧ s.length ≤ Rows.uptoBulk (D i) := fun i hi => by
      obtain ⟨cs, h1, h2⟩ := hall i hi
      obtain ⟨s, e, hsl, _⟩ := DataW.trod_string Tryd.underlying9 h2
      rw [cellsStr, Nat.mul_one] at h1
      obtain ⟨_, _, hcell⟩ := World.cells?_some h1
      have c0 := hcell 0 (by decide)
      rw [e] at c0
      refine ⟨s.data.toList, ?_, by rw [(Prod.mk.inj hsl).1]; simp only [Rows.uptoBulk]; omega⟩
      rw [← str_of]
      simpa [Addr.add] using c0
    obtain ⟨Q, hQ⟩ := choose_lt (α := List UInt8) (p := fun i s => W.cell? (x.add i) = some (.string ⟨s.toArray⟩) ∧ s.length ≤ Rows.uptoBulk (D i)) hz
    have hbk : len ≤ Rows.uptoBulk d := by
      rw [hx.1]
      refine Nat.le_trans ?_ (bulk_slice _ _)
      simp
    have hgq : ∀ i, i < len → ((List.range len).map Q).getD i [] = Q i := fun i hi => by
      rw [List.getD_eq_getElem?_getD, List.getElem?_map, List.getElem?_range hi]
      rfl
    have hln : ((List.range len).map Q).length = len := by simp
    refine ⟨some x, m, (List.range len).map Q, by rw [hln]; exact hcs, ⟨rfl, by rw [hln]; exact hl, ?_⟩, by rw [hln]; omega, by rw [hln]; exact hbk, fun e => (by cases e), fun y hy => by
      obtain ⟨i, hi, rfl⟩ := List.mem_map.1 hy
      have hi' := List.mem_range.1 hi
      have h1 := (hQ i (by omega)).2
      have h2 : Rows.uptoBulk (D i) ≤ Rows.uptoBulk d := by
        rw [hx.1]
        have := bulk_mem ((List.range len).map D) (D i) (List.mem_map.2 ⟨i, hi, rfl⟩)
        simp only [Rows.uptoBulk]
        omega
      omega⟩
    by_cases h0 : len = 0
    · subst h0; exact .inl (by simp)
    · obtain ⟨b, off, spot⟩ := x
      have hc := (hQ 0 (by omega)).1
      have hspot : spot = none := by simpa [Addr.add] using World.cell?_spot hc
      subst hspot
      refine .inr ⟨b, off, rfl, World.block_lt_of_cell? W _ (by simpa [Addr.add] using hc), fun j hj => ?_⟩
      rw [hln] at hj
      rw [hgq j hj]
      have h3 := (hQ j (by omega)).1
      rwa [Addr.add_lit] at h3

end Go.Proofs.YtapljedegjiliaaDoor
