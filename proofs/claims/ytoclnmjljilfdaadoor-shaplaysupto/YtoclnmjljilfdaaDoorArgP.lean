import Derived.Test.YtoclnmjljilfdaaDoorArg
namespace Go.Proofs.YtoclnmjljilfdaaDoor
open Go.ChangeShapes Go.WideShapes Go.ChangeAt Go.RowKit Go.Deep

instance : Inhabited Prt := ⟨⟨none, 0, []⟩⟩

/-- A slice of bytes, by its cell. -/
theorem open_bytesC {H : Type} {enc : TypeId × Value → H} {W : World} {held : Bool} {cs : List Value} {d : DataW H} {p : List MemPlace} {fuel : Nat}
    (hf : DataW.trod enc Tryd.prog W 0 (fun _ => true) held fuel 23 cs = some (d, p)) :
    ∃ q : Prt, cs = [prV q] ∧ prOk W q ∧ (q.a = none → q.l.length = 0 ∧ q.c = 0) ∧ q.l.length + 1 ≤ Rows.uptoBulk d := by
  rcases open_slice1 Tryd.underlying23 cellsB hf with ⟨hcs, hx⟩ | ⟨x, len, cap, m, n, V, D, Pl, hcs, _, hl, hm, hmm, hx, hall⟩
  · refine ⟨⟨none, 0, []⟩, hcs, ⟨.inl rfl, Nat.le_refl _, by simp⟩, fun _ => ⟨rfl, rfl⟩, ?_⟩
    exact bulk_pos d
  · simp only [if_true] at hmm
    subst hmm
    have hf2 : DataW.trod enc Tryd.prog W 0 (fun _ => true) held fuel 23 (Value.slice (some x) len m).cells.toList = some (d, p) := by rw [hcs] at hf; exact hf
    obtain ⟨l, h1, h2, h3, h4⟩ := open_bytes rfl hf2
    have hbk : len + 1 ≤ Rows.uptoBulk d := by
      simp only [Prod.mk.injEq] at hx
      rw [hx.1]
      simp only [Rows.uptoBulk]
      have := bulk_len ((List.range len).map D)
      simp only [List.length_map, List.length_range] at this
      omega
    refine ⟨⟨some x, m, l⟩, by rw [hcs]; unfold prV; rw [h1], ⟨h4, by show l.length ≤ m; omega, by show m ≤ _; unfold maxLen at hm; omega⟩, (fun e => by cases e), ?_⟩
    show l.length + 1 ≤ _
    omega

/-- A slice of bytes that came in: a nil one has no room. -/
theorem open_bytesN {H : Type} {enc : TypeId × Value → H} {W : World} {held : Bool} {v : Value} {d : DataW H} {p : List MemPlace} {fuel : Nat} {a : Option Addr} {len cap : Nat} (hv : v = .slice a len cap)
    (hf : DataW.trod enc Tryd.prog W 0 (fun _ => true) held fuel 23 v.cells.toList = some (d, p)) :
    ∃ l : List UInt8, l.length = len ∧ len ≤ cap ∧ cap ≤ Rows.uptoBulk d ∧ (Rd W a l ∧ (a = none → l.length = 0 ∧ cap = 0)) := by
  obtain ⟨l, h1, h2, h3, h4⟩ := open_bytes hv hf
  refine ⟨l, h1, h2, h3, h4, fun e => ?_⟩
  subst hv
  obtain ⟨q, hq, _, hn, _⟩ := open_bytesC hf
  simp [Value.cells, prV] at hq
  obtain ⟨e1, e2, e3⟩ := hq
  have := hn (by rw [← e1]; exact e)
  omega

theorem bulk_ge {H : Type} (ps : List Prt) : ∀ ds : List (DataW H), ps.length ≤ ds.length → (∀ i, (h : i < ps.length) → (h2 : i < ds.length) → ps[i].l.length + 1 ≤ Rows.uptoBulk ds[i]) → (cat ps).length + ps.length ≤ Rows.uptoBulkAll ds := by
  induction ps with
  | nil => intro ds _ _; exact Nat.zero_le _
  | cons p ps ih =>
    intro ds hl hh
    cases ds with
    | nil => simp at hl
    | cons d ds =>
      have h1 := hh 0 (by simp) (by simp)
      have h2 := ih ds (by simpa using hl) (fun i h h2 => by have := hh (i + 1) (by simpa using h) (by simpa using h2); simpa using this)
      have e : (cat (p :: ps)).length = p.l.length + (cat ps).length := by simp [cat]
      simp only [Rows.uptoBulkAll, List.length_cons, e]
      simp at h1
      omega

/-- A list of parts that came in. -/
theorem open_parts {H : Type} {enc : TypeId × Value → H} {W : World} {held : Bool} {v : Value} {d : DataW H} {p : List MemPlace} {fuel : Nat} {a : Option Addr} {len cap : Nat} (hv : v = .slice a len cap)
    (hf : DataW.trod enc Tryd.prog W 0 (fun _ => true) held fuel 34 v.cells.toList = some (d, p)) :
    ∃ ps : List Prt, ps.length = len ∧ len ≤ cap ∧ cap ≤ Rows.uptoBulk d ∧ (Pts W a ps ∧ (∀ p ∈ ps, p.a = none → p.l.length = 0 ∧ p.c = 0) ∧ (cat ps).length + ps.length ≤ Rows.uptoBulk d ∧ ∀ p ∈ ps, p.l.length ≤ (cat ps).length) := by
  have hcat : ∀ ps : List Prt, ∀ p ∈ ps, p.l.length ≤ (cat ps).length := fun ps p hp => by
    induction ps with
    | nil => cases hp
    | cons q ps ih =>
      have e : (cat (q :: ps)).length = q.l.length + (cat ps).length := by simp [cat]
      rcases List.mem_cons.1 hp with rfl | hp
      · omega
      · have := ih hp; omega
  subst hv
  rcases open_slice1 Tryd.underlying34 cellsBs hf with ⟨hcs, hx⟩ | ⟨x, len', cap', m, n, V, D, Pl, hcs, _, hl, hm, hmm, hx, hall⟩
  · simp [Value.cells] at hcs
    obtain ⟨rfl, rfl, rfl⟩ := hcs
    exact ⟨[], rfl, Nat.le_refl _, Nat.zero_le _, ⟨.inl rfl, fun p hp => by cases hp⟩, (fun p hp => by cases hp), Nat.zero_le _, fun p hp => by cases hp⟩
  · simp [Value.cells] at hcs
    obtain ⟨rfl, rfl, rfl⟩ := hcs
    simp only [if_true] at hmm
    subst hmm
    simp only [Prod.mk.injEq] at hx
    have hz : ∀ i, i < m → ∃ q : Prt, V i = prV q ∧ prOk W q ∧ (q.a = none → q.l.length = 0 ∧ q.c = 0) ∧ q.l.length + 1 ≤ Rows.uptoBulk (D i) := fun i hi => by
      obtain ⟨q, h1, h2⟩ := open_bytesC (hall i hi).2
      exact ⟨q, by simpa using h1, h2⟩
    obtain ⟨Q, hQ⟩ := choose_lt (α := Prt) (p := fun i q => V i = prV q ∧ prOk W q ∧ (q.a = none → q.l.length = 0 ∧ q.c = 0) ∧ q.l.length + 1 ≤ Rows.uptoBulk (D i)) hz
    have hbk : m ≤ Rows.uptoBulk d := by
      rw [hx.1]
      refine Nat.le_trans ?_ (bulk_slice _ _)
      simp
      omega
    refine ⟨(List.range len).map Q, by simp, hl, hbk, ⟨?_, fun q hq => ?_⟩, fun q hq => ?_, ?_, hcat _⟩
    · by_cases h0 : len = 0
      · subst h0; exact .inl (by simp)
      · obtain ⟨b, off, spot⟩ := x
        have hc := (hall 0 (by omega)).1
        have hspot : spot = none := by simpa [Addr.add] using World.cell?_spot hc
        subst hspot
        refine .inr ⟨b, off, rfl, fun j hj => ?_⟩
        have hj' : j < len := by simpa using hj
        have hcj := (hall j (by omega)).1
        rw [Addr.add_lit] at hcj
        rw [hcj, (hQ j (by omega)).1]
        simp
    · obtain ⟨i, hi, rfl⟩ := List.mem_map.1 hq
      have := List.mem_range.1 hi
      exact (hQ i (by omega)).2.1
    · obtain ⟨i, hi, rfl⟩ := List.mem_map.1 hq
      have := List.mem_range.1 hi
      exact (hQ i (by omega)).2.2.1
    · have h1 := bulk_ge ((List.range len).map Q) ((List.range len).map D) (by simp) (fun i h h2 => by
        have hi : i < len := by simpa using h
        simp only [List.getElem_map, List.getElem_range]
        exact (hQ i (by omega)).2.2.2)
      rw [hx.1]
      simp only [Rows.uptoBulk]
      omega

end Go.Proofs.YtoclnmjljilfdaaDoor
