import Derived.Test.YtiklijaabeaebaaDoorArg
import Derived.Test.YtiklijaabeaebaaDoorPieLaw
namespace Go.Proofs.YtiklijaabeaebaaDoor
open Go.ChangeShapes Go.WideShapes Go.ChangeAt Go.RowKit Go.Deep

/-- A slice of whole numbers that came in. -/
theorem open_rdi {H : Type} {enc : TypeId × Value → H} {W : World} {held : Bool} {v : Value} {d : DataW H} {p : List MemPlace} {fuel : Nat} {a : Option Addr} {len cap : Nat} (hv : v = .slice a len cap)
    (hf : DataW.trod enc Tryd.prog W 0 (fun _ => true) held fuel 36 v.cells.toList = some (d, p)) :
    ∃ l : List Int, l.length = len ∧ len ≤ cap ∧ cap ≤ Rows.uptoBulk d ∧ RdI W a l := by
  subst hv
  rcases open_slice1 Tryd.underlying36 cellsI hf with ⟨hcs, hx⟩ | ⟨x, len', cap', m, n, V, D, Pl, hcs, _, hl, hm, hmm, hx, hall⟩
  · simp [Value.cells] at hcs
    obtain ⟨rfl, rfl, rfl⟩ := hcs
    exact ⟨[], rfl, Nat.le_refl _, Nat.zero_le _, .inl rfl, fun x hx => by simp at hx⟩
  · simp [Value.cells] at hcs
    obtain ⟨rfl, rfl, rfl⟩ := hcs
    simp only [if_true] at hmm
    subst hmm
    simp only [Prod.mk.injEq] at hx
    have hbk : m ≤ Rows.uptoBulk d := by
      rw [hx.1]
      refine Nat.le_trans ?_ (bulk_slice _ _)
      simp
      omega
    have hz : ∀ i, i < m → ∃ z : Int, V i = .int .i64 z ∧ -9223372036854775808 ≤ z ∧ z ≤ 9223372036854775807 := fun i hi => by
      obtain ⟨z, h1, _, h3⟩ := DataW.trod_int Tryd.underlying3 (hall i hi).2
      simp at h1
      refine ⟨z, h1, ?_⟩
      simp only [Lit.wf, Bool.and_eq_true, decide_eq_true_eq] at h3
      rw [show IntKind.i64.min = -9223372036854775808 from by decide, show IntKind.i64.max = 9223372036854775807 from by decide] at h3
      omega
    refine ⟨(List.range len).map fun i => match V i with | .int _ z => z | _ => 0, by simp, hl, hbk, ?_, fun x hx => ?_⟩
    · by_cases h0 : len = 0
      · subst h0; exact .inl (by simp)
      · obtain ⟨b, off, spot⟩ := x
        have hc := (hall 0 (by omega)).1
        have hspot : spot = none := by simpa [Addr.add] using World.cell?_spot hc
        subst hspot
        refine .inr ⟨b, off, rfl, fun j hj => ?_⟩
        have hj' : j < len := by simpa using hj
        have hcj := (hall j (by omega)).1
        rw [Addr.add_lit] at hcj
        rw [hcj]
        obtain ⟨z, e, h1, h2⟩ := hz j (by omega)
        simp only [List.getD_eq_getElem?_getD, List.getElem?_map, List.getElem?_range hj', Option.map_some, Option.getD_some, e]
    · obtain ⟨i, hi, rfl⟩ := List.mem_map.1 hx
      obtain ⟨z, e, h1, h2⟩ := hz i (by have := List.mem_range.1 hi; omega)
      rw [e]
      exact ⟨h1, h2⟩

end Go.Proofs.YtiklijaabeaebaaDoor
