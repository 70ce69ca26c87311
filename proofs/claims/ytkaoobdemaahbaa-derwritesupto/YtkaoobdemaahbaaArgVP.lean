import Derived.Test.YtkaoobdemaahbaaArgP
import Derived.Deep.Strs
namespace Go.Proofs.Ytkaoobdemaahbaa
open Go.ChangeShapes Go.WideShapes Go.ChangeAt Go.RowKit Go.Deep

instance : Inhabited X := ⟨⟨⟨0, [], 0⟩, none, 0⟩⟩

theorem bounds_i64 {x : Int} (w : (Lit.int .i64 x).wf = true) : -9223372036854775808 ≤ x ∧ x ≤ 9223372036854775807 := by
  have h := w
  simp only [Lit.wf, Bool.and_eq_true, decide_eq_true_eq] at h
  rw [show IntKind.i64.min = -9223372036854775808 from by decide, show IntKind.i64.max = 9223372036854775807 from by decide] at h
  omega

/-- A slice of bytes, by its cell. -/
theorem open_bytesC {H : Type} {enc : TypeId × Value → H} {W : World} {held : Bool} {cs : List Value} {d : DataW H} {p : List MemPlace} {fuel : Nat}
    (hf : DataW.trod enc Try.prog W 0 (fun _ => true) held fuel 25 cs = some (d, p)) :
    ∃ (a : Option Addr) (l : List UInt8) (c : Nat), cs = [.slice a l.length c] ∧ (Rd W a l ∧ l.length ≤ c ∧ c ≤ 9223372036854775807) ∧ (a = none → c = 0) ∧ l.length + 1 ≤ Rows.uptoBulk d := by
  rcases open_slice1 Try.underlying25 cellsB hf with ⟨hcs, hx⟩ | ⟨x, len, cap, m, n, V, D, Pl, hcs, _, hl, hm, hmm, hx, hall⟩
  · exact ⟨none, [], 0, hcs, ⟨.inl rfl, Nat.le_refl _, by omega⟩, fun _ => rfl, bulk_pos d⟩
  · simp only [if_true] at hmm
    subst hmm
    have hf2 : DataW.trod enc Try.prog W 0 (fun _ => true) held fuel 25 (Value.slice (some x) len m).cells.toList = some (d, p) := by rw [hcs] at hf; exact hf
    obtain ⟨l, h1, h2, h3, h4, _⟩ := open_bytes rfl hf2
    have hbk : len + 1 ≤ Rows.uptoBulk d := by
      simp only [Prod.mk.injEq] at hx
      rw [hx.1]
      simp only [Rows.uptoBulk]
      have := bulk_len ((List.range len).map D)
      simp only [List.length_map, List.length_range] at this
      omega
    exact ⟨some x, l, m, by rw [hcs, h1], ⟨h4, by omega, by unfold maxLen at hm; omega⟩, (fun e => by cases e), by omega⟩

set_option maxRecDepth 100000 in
/-- An element, by its cells. -/
theorem open_tlv {H : Type} {enc : TypeId × Value → H} {W : World} {held : Bool} {cs : List Value} {d : DataW H} {p : List MemPlace} {fuel : Nat}
    (hf : DataW.trod enc Try.prog W 0 (fun _ => true) held fuel 32 cs = some (d, p)) :
    ∃ x : X, cs = xC x ∧ (XOk W x ∧ (x.a = none → x.c = 0)) ∧ x.e.data.length + 1 ≤ Rows.uptoBulk d := by
  obtain ⟨y0, y1, y2, n, hx, hl, h0, h1, h2⟩ := trod_struct3 Try.underlying32 hf
  have hc : Try.prog.cellsOf 32 = 3 := by kernel_rfl
  rw [hc] at hl
  match cs, hl with
  | [c0, c1, c2], _ =>
    simp only [cellsI, cellsBs, List.drop_zero, List.drop_succ_cons, List.take_succ_cons, List.take_zero] at h0 h1 h2
    obtain ⟨t, e0, _, _⟩ := DataW.trod_int Try.underlying3 h0
    obtain ⟨a, l, c, e1, hq, hn, hb⟩ := open_bytesC h1
    obtain ⟨k, e2, _, w2⟩ := DataW.trod_int Try.underlying3 h2
    have hi := bounds_i64 w2
    simp only [List.cons.injEq, and_true] at e0 e1 e2
    refine ⟨⟨⟨t, l, k⟩, a, c⟩, by rw [e0, e1, e2]; rfl, ⟨⟨hq.1, hq.2.1, hq.2.2, hi.1, hi.2⟩, hn⟩, ?_⟩
    simp only [Prod.mk.injEq] at hx
    rw [hx.1]
    simp only [Rows.uptoBulk, Rows.uptoBulkAll]
    show l.length + 1 ≤ _
    omega

theorem tot_ge {H : Type} (ps : List X) : ∀ ds : List (DataW H), ps.length ≤ ds.length → (∀ i, (h : i < ps.length) → (h2 : i < ds.length) → ps[i].e.data.length + 1 ≤ Rows.uptoBulk ds[i]) → tot (es ps) ≤ 10 * Rows.uptoBulkAll ds := by
  induction ps with
  | nil => intro ds _ _; exact Nat.zero_le _
  | cons p ps ih =>
    intro ds hl hh
    cases ds with
    | nil => simp at hl
    | cons d ds =>
      have h1 := hh 0 (by simp) (by simp)
      have h2 := ih ds (by simpa using hl) (fun i h h2 => by have := hh (i + 1) (by simpa using h) (by simpa using h2); simpa using this)
      have e : tot (es (p :: ps)) = p.e.data.length + 10 + tot (es ps) := rfl
      simp only [Rows.uptoBulkAll, e]
      simp at h1
      omega

theorem bulk_mem {H : Type} : ∀ (ds : List (DataW H)) (d : DataW H), d ∈ ds → Rows.uptoBulk d ≤ Rows.uptoBulkAll ds
  | [], _, h => by cases h
  | x :: r, d, h => by
    rcases List.mem_cons.1 h with rfl | h
    · simp only [Rows.uptoBulkAll]; omega
    · have := bulk_mem r d h
      simp only [Rows.uptoBulkAll]; omega

/-- A list of elements that came in. -/
theorem open_tlvs {H : Type} {enc : TypeId × Value → H} {W : World} {held : Bool} {v : Value} {d : DataW H} {p : List MemPlace} {fuel : Nat} {a : Option Addr} {len cap : Nat} (hv : v = .slice a len cap)
    (hf : DataW.trod enc Try.prog W 0 (fun _ => true) held fuel 22 v.cells.toList = some (d, p)) :
    ∃ os : List X, os.length = len ∧ len ≤ cap ∧ cap ≤ Rows.uptoBulk d ∧ (Row W a os ∧ (∀ x ∈ os, x.a = none → x.c = 0) ∧ tot (es os) ≤ 10 * Rows.uptoBulk d ∧ ∀ x ∈ os, x.e.data.length ≤ Rows.uptoBulk d) := by
  subst hv
  have hc3 : Try.prog.cellsOf 32 = 3 := by kernel_rfl
  rcases open_slice Try.underlying22 hf with ⟨hcs, hx⟩ | ⟨x, len', cap', m, n, D, Pl, hcs, _, hl, hm, hmm, hx, hall⟩
  · simp [Value.cells] at hcs
    obtain ⟨rfl, rfl, rfl⟩ := hcs
    exact ⟨[], rfl, Nat.le_refl _, Nat.zero_le _, ⟨.inl rfl, fun p hp => by cases hp⟩, (fun p hp => by cases hp), Nat.zero_le _, fun p hp => by cases hp⟩
  · simp [Value.cells] at hcs
    obtain ⟨rfl, rfl, rfl⟩ := hcs
    simp only [if_true] at hmm
    subst hmm
    simp only [Prod.mk.injEq] at hx
    have hz : ∀ i, i < m → ∃ s : X, (W.cell? (x.add (i * 3)) = some (.int .i64 s.e.tag) ∧ W.cell? (x.add (i * 3 + 1)) = some (xD s) ∧ W.cell? (x.add (i * 3 + 2)) = some (.int .i64 s.e.kids)) ∧ (XOk W s ∧ (s.a = none → s.c = 0)) ∧ s.e.data.length + 1 ≤ Rows.uptoBulk (D i) := fun i hi => by
      obtain ⟨cs, h1, h2⟩ := hall i hi
      obtain ⟨s, e, h3, h4⟩ := open_tlv h2
      rw [hc3] at h1
      obtain ⟨_, _, hcell⟩ := World.cells?_some h1
      rw [e] at hcell
      have c0 := hcell 0 (by omega)
      have c1 := hcell 1 (by omega)
      have c2 := hcell 2 (by omega)
      rw [add_add] at c0 c1 c2
      exact ⟨s, ⟨c0, c1, c2⟩, h3, h4⟩
    obtain ⟨Q, hQ⟩ := choose_lt (α := X) (p := fun i s => (W.cell? (x.add (i * 3)) = some (.int .i64 s.e.tag) ∧ W.cell? (x.add (i * 3 + 1)) = some (xD s) ∧ W.cell? (x.add (i * 3 + 2)) = some (.int .i64 s.e.kids)) ∧ (XOk W s ∧ (s.a = none → s.c = 0)) ∧ s.e.data.length + 1 ≤ Rows.uptoBulk (D i)) hz
    have hbk : m ≤ Rows.uptoBulk d := by
      rw [hx.1]
      refine Nat.le_trans ?_ (bulk_slice _ _)
      simp
      omega
    refine ⟨(List.range len).map Q, by simp, hl, hbk, ⟨?_, fun q hq => ?_⟩, (fun q hq => ?_), ?_, fun q hq => ?_⟩
    · by_cases h0 : len = 0
      · subst h0; exact .inl (by simp)
      · obtain ⟨b, off, spot⟩ := x
        have hc := (hQ 0 (by omega)).1.1
        have hspot : spot = none := by simpa [Addr.add] using World.cell?_spot hc
        subst hspot
        refine .inr ⟨b, off, rfl, World.block_lt_of_cell? W _ (by simpa [Addr.add] using hc), fun j hj => ?_⟩
        have hj' : j < len := by simpa using hj
        obtain ⟨c0, c1, c2⟩ := (hQ j (by omega)).1
        rw [Addr.add_lit] at c0 c1 c2
        simp only [List.getElem_map, List.getElem_range]
        exact ⟨c0, by rw [Nat.add_assoc]; exact c1, by rw [Nat.add_assoc]; exact c2⟩
    · obtain ⟨i, hi, rfl⟩ := List.mem_map.1 hq
      have := List.mem_range.1 hi
      exact (hQ i (by omega)).2.1.1
    · obtain ⟨i, hi, rfl⟩ := List.mem_map.1 hq
      have := List.mem_range.1 hi
      exact (hQ i (by omega)).2.1.2
    · have h1 := tot_ge ((List.range len).map Q) ((List.range len).map D) (by simp) (fun i h h2 => by
        have hi : i < len := by simpa using h
        simp only [List.getElem_map, List.getElem_range]
        exact (hQ i (by omega)).2.2)
      rw [hx.1]
      simp only [Rows.uptoBulk]
      omega
    · obtain ⟨i, hi, rfl⟩ := List.mem_map.1 hq
      have hi2 := List.mem_range.1 hi
      have h1 := (hQ i (by omega)).2.2
      have h2 := bulk_mem ((List.range len).map D) (D i) (List.mem_map.2 ⟨i, hi, rfl⟩)
      rw [hx.1]
      simp only [Rows.uptoBulk]
      omega

end Go.Proofs.Ytkaoobdemaahbaa
