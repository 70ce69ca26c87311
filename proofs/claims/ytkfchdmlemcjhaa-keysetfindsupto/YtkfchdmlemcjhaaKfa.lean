import Derived.Test.YtkfchdmlemcjhaaMArg
import Derived.Test.YtkfchdmlemcjhaaKf0
namespace Go.Proofs.Ytkfchdmlemcjhaa
open Go.ChangeShapes Go.WideShapes Go.ChangeAt Go.RowKit Go.Deep

instance : Inhabited Ex := ⟨zeroX⟩
theorem cellsEn : Try.prog.cellsOf 28 = 10 := by kernel_rfl
theorem open_nodesC {H : Type} {enc : TypeId × Value → H} {W : World} {held : Bool} {c : Value} {d : DataW H} {p : List MemPlace} {fuel : Nat}
    (hf : DataW.trod enc Try.prog W 0 (fun _ => true) held fuel 24 [c] = some (d, p)) :
    ∃ (ao : Option Addr) (cap : Nat) (l : List Nd), c = .slice ao l.length cap ∧ NR W (.slice ao l.length cap) l ao cap ∧ l.length ≤ Rows.uptoBulk d ∧ (ao = none → cap = 0) := by
  have hc : ∃ a len cap, c = .slice a len cap := by
    rcases open_slice Try.underlying24 hf with ⟨hcs, _⟩ | ⟨x, len, cap, m, n, D, Pl, hcs, _⟩
    · simp only [List.cons.injEq, and_true] at hcs
      exact ⟨_, _, _, hcs⟩
    · simp only [List.cons.injEq, and_true] at hcs
      exact ⟨_, _, _, hcs⟩
  obtain ⟨a, len, cap, rfl⟩ := hc
  obtain ⟨os, h1, h2, _, h4⟩ := open_nodes (v := .slice a len cap) rfl hf
  obtain ⟨e, _, _⟩ := id h1
  injection e with e1 e2 e3
  subst e2
  exact ⟨a, cap, os, rfl, h1, h2, h4⟩

set_option maxRecDepth 100000 in
/-- An entry, by its cells. -/
theorem open_entry {H : Type} {enc : TypeId × Value → H} {W : World} {held : Bool} {cs : List Value} {d : DataW H} {p : List MemPlace} {fuel : Nat}
    (hf : DataW.trod enc Try.prog W 0 (fun _ => true) held fuel 28 cs = some (d, p)) :
    ∃ x : Ex, cs = xC x ∧ XR W x ∧ x.e.val.length ≤ Rows.uptoBulk d ∧ x.e.ops.length ≤ Rows.uptoBulk d := by
  obtain ⟨xs, n, _, hx, hl, hlen, hff⟩ := DataW.trod_struct Try.underlying28 hf
  rw [cellsEn] at hl
  match xs, hlen with
  | [y0, y1, y2, y3, y4, y5, y6, y7, y8, y9], _ =>
    match cs, hl with
    | [c0, c1, c2, c3, c4, c5, c6, c7, c8, c9], _ =>
      have h0 : DataW.trod enc Try.prog W 0 (fun _ => true) held n 24 [c0] = some y0 := hff 0 _ rfl
      have h1 : DataW.trod enc Try.prog W 0 (fun _ => true) held n 25 [c1] = some y1 := hff 1 _ rfl
      have h2 : DataW.trod enc Try.prog W 0 (fun _ => true) held n 9 [c2] = some y2 := hff 2 _ rfl
      have h3 : DataW.trod enc Try.prog W 0 (fun _ => true) held n 4 [c3] = some y3 := hff 3 _ rfl
      have h4 : DataW.trod enc Try.prog W 0 (fun _ => true) held n 9 [c4] = some y4 := hff 4 _ rfl
      have h5 : DataW.trod enc Try.prog W 0 (fun _ => true) held n 4 [c5] = some y5 := hff 5 _ rfl
      have h6 : DataW.trod enc Try.prog W 0 (fun _ => true) held n 9 [c6] = some y6 := hff 6 _ rfl
      have h7 : DataW.trod enc Try.prog W 0 (fun _ => true) held n 4 [c7] = some y7 := hff 7 _ rfl
      have h8 : DataW.trod enc Try.prog W 0 (fun _ => true) held n 26 [c8] = some y8 := hff 8 _ rfl
      have h9 : DataW.trod enc Try.prog W 0 (fun _ => true) held n 4 [c9] = some y9 := hff 9 _ rfl
      obtain ⟨va, vc, val, e0, r0, b0, n0⟩ := open_nodesC (d := y0.1) (p := y0.2) h0
      obtain ⟨kty, e1, _, _⟩ := DataW.trod_int Try.underlying25 h1
      obtain ⟨kid, e2, _, _⟩ := DataW.trod_string Try.underlying9 h2
      obtain ⟨hKid, e3, _⟩ := DataW.trod_bool Try.underlying4 h3
      obtain ⟨use, e4, _, _⟩ := DataW.trod_string Try.underlying9 h4
      obtain ⟨hUse, e5, _⟩ := DataW.trod_bool Try.underlying4 h5
      obtain ⟨alg, e6, _, _⟩ := DataW.trod_string Try.underlying9 h6
      obtain ⟨hAlg, e7, _⟩ := DataW.trod_bool Try.underlying4 h7
      obtain ⟨aa, ac, ops, e8, r8, _, b8, n8, _⟩ := open_texts (d := y8.1) (p := y8.2) h8
      obtain ⟨hOps, e9, _⟩ := DataW.trod_bool Try.underlying4 h9
      simp only [List.cons.injEq, and_true] at e1 e2 e3 e4 e5 e6 e7 e9
      have hd := (Prod.mk.inj hx).1
      refine ⟨⟨⟨val, kty, kid.data.toList, hKid, use.data.toList, hUse, alg.data.toList, hAlg, ops, hOps⟩, va, vc, aa, ac⟩, by rw [e0, e1, e2, e3, e4, e5, e6, e7, e8, e9]; simp [xC], ⟨r0, r8, n0, n8⟩, ?_, ?_⟩
      · rw [hd]
        simp only [List.map_cons, Rows.uptoBulk, Rows.uptoBulkAll]
        omega
      · rw [hd]
        simp only [List.map_cons, Rows.uptoBulk, Rows.uptoBulkAll]
        omega

/-- A list of entries that came in. -/
theorem open_entries {H : Type} {enc : TypeId × Value → H} {W : World} {held : Bool} {v : Value} {d : DataW H} {p : List MemPlace} {fuel : Nat} {a : Option Addr} {len cap : Nat} (hv : v = .slice a len cap)
    (hf : DataW.trod enc Try.prog W 0 (fun _ => true) held fuel 22 v.cells.toList = some (d, p)) :
    ∃ os : List Ex, os.length = len ∧ LR W a cap os ∧ os.length ≤ Rows.uptoBulk d ∧ ∀ x ∈ os, x.e.val.length ≤ Rows.uptoBulk d ∧ x.e.ops.length ≤ Rows.uptoBulk d := by
  subst hv
  rcases open_slice Try.underlying22 hf with ⟨hcs, hx⟩ | ⟨x, len', cap', m, n, D, Pl, hcs, _, hl, hm, hmm, hx, hall⟩
  · simp [Value.cells] at hcs
    obtain ⟨rfl, rfl, rfl⟩ := hcs
    exact ⟨[], rfl, ⟨Nat.le_refl _, .inl rfl, fun x hx => by cases hx⟩, Nat.zero_le _, fun x hx => by cases hx⟩
  · simp [Value.cells] at hcs
    obtain ⟨rfl, rfl, rfl⟩ := hcs
    simp only [if_true] at hmm
    subst hmm
    simp only [Prod.mk.injEq] at hx
    have hz : ∀ i, i < m → ∃ s : Ex, (∀ j u, j < 10 → (xC s)[j]? = some u → W.cell? (x.add (i * 10 + j)) = some u) ∧ XR W s ∧ s.e.val.length ≤ Rows.uptoBulk (D i) ∧ s.e.ops.length ≤ Rows.uptoBulk (D i) := fun i hi => by
      obtain ⟨cs, h1, h2⟩ := hall i hi
      obtain ⟨s, e, h3⟩ := open_entry h2
      rw [cellsEn] at h1
      obtain ⟨_, _, hcell⟩ := World.cells?_some h1
      rw [e] at hcell
      refine ⟨s, fun j u hj hu => ?_, h3⟩
      have c0 := hcell j hj
      rw [add_add] at c0
      rw [c0]
      exact hu
    obtain ⟨Q, hQ⟩ := choose_lt (α := Ex) (p := fun i s => (∀ j u, j < 10 → (xC s)[j]? = some u → W.cell? (x.add (i * 10 + j)) = some u) ∧ XR W s ∧ s.e.val.length ≤ Rows.uptoBulk (D i) ∧ s.e.ops.length ≤ Rows.uptoBulk (D i)) hz
    have hbk : len ≤ Rows.uptoBulk d := by
      rw [hx.1]
      refine Nat.le_trans ?_ (bulk_slice _ _)
      simp
    have hmem : ∀ q ∈ (List.range len).map Q, ∃ i, i < len ∧ q = Q i := fun q hq => by
      obtain ⟨i, hi, rfl⟩ := List.mem_map.1 hq
      exact ⟨i, List.mem_range.1 hi, rfl⟩
    refine ⟨(List.range len).map Q, by simp, ⟨by simpa using hl, ?_, fun q hq => ?_⟩, by simpa using hbk, fun q hq => ?_⟩
    · by_cases h0 : len = 0
      · subst h0; exact .inl (by simp)
      · obtain ⟨b, off, spot⟩ := x
        have hc := (hQ 0 (by omega)).1 0 _ (by omega) rfl
        have hspot : spot = none := by simpa [Addr.add] using World.cell?_spot hc
        subst hspot
        refine .inr ⟨b, off, rfl, World.block_lt_of_cell? W _ (by simpa [Addr.add] using hc), fun k y hy => ?_⟩
        have hk : k < len := by
          have := (List.getElem?_eq_some_iff.1 hy).1
          simpa using this
        have hyk : y = Q k := by
          rw [List.getElem?_map, List.getElem?_range hk] at hy
          exact (Option.some.inj hy).symm
        subst hyk
        have hk2 : ∀ j u, j < 10 → (xC (Q k))[j]? = some u → W.cell? ⟨b, off + k * 10 + j, none⟩ = some u := fun j u hj hu => by
          have h3 := (hQ k (by omega)).1 j u hj hu
          rw [Addr.add_lit, ← Nat.add_assoc] at h3
          exact h3
        exact ⟨hk2 0 _ (by decide) rfl, hk2 1 _ (by decide) rfl, hk2 2 _ (by decide) rfl, hk2 3 _ (by decide) rfl, hk2 4 _ (by decide) rfl, hk2 5 _ (by decide) rfl, hk2 6 _ (by decide) rfl, hk2 7 _ (by decide) rfl, hk2 8 _ (by decide) rfl, hk2 9 _ (by decide) rfl⟩
    · obtain ⟨i, hi, rfl⟩ := hmem q hq
      exact (hQ i (by omega)).2.1
    · obtain ⟨i, hi, rfl⟩ := hmem q hq
      have h1 := (hQ i (by omega)).2.2
      have h2 : Rows.uptoBulk (D i) ≤ Rows.uptoBulk d := by
        rw [hx.1]
        have := bulk_mem ((List.range len).map D) (D i) (List.mem_map.2 ⟨i, List.mem_range.2 hi, rfl⟩)
        simp only [Rows.uptoBulk]
        omega
      omega

end Go.Proofs.Ytkfchdmlemcjhaa
