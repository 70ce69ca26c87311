import Derived.Test.YtkfchdmlemcjhaaCZ
import Derived.Test.YtkfchdmlemcjhaaWZ
import Derived.ProofKit
import Derived.OpenShut
import Derived.ShutString
import Derived.ChangeOld
import Derived.SizedLaws
import Derived.JoinedCond
import Derived.Deep.Slices
import Derived.Deep.Strs
import Derived.Carry
namespace Go.Proofs.Ytkfchdmlemcjhaa
open Go.ChangeShapes Go.WideShapes Go.ChangeAt Go.RowKit Go.Deep

theorem ownK : ownKnob Try.prog.godebug = none := by kernel_rfl
theorem laidO : laidOutB Try.prog = true := by kernel_rfl
theorem str_of (a : ByteArray) : a = ⟨a.data.toList.toArray⟩ := by cases a; simp

theorem cellsStr : Try.prog.cellsOf 9 = 1 := by kernel_rfl
theorem bulk_pos {H : Type} (d : DataW H) : 1 ≤ Rows.uptoBulk d := by
  cases d with
  | lit l => cases l <;> simp [Rows.uptoBulk]
  | _ => simp [Rows.uptoBulk]
theorem bulk_len {H : Type} : ∀ l : List (DataW H), l.length ≤ Rows.uptoBulkAll l
  | [] => by simp [Rows.uptoBulkAll]
  | d :: r => by
    have h1 := bulk_pos d
    have h2 := bulk_len r
    simp only [Rows.uptoBulkAll, List.length_cons]
    omega
theorem bulk_mem {H : Type} : ∀ (l : List (DataW H)) (d : DataW H), d ∈ l → Rows.uptoBulk d ≤ Rows.uptoBulkAll l
  | [], _, h => by simp at h
  | x :: r, d, h => by
    simp only [Rows.uptoBulkAll]
    rcases List.mem_cons.1 h with rfl | h
    · omega
    · have := bulk_mem r d h
      omega
theorem bulk_slice {H : Type} (es ss : List (DataW H)) : es.length + ss.length ≤ Rows.uptoBulk (.slice es ss) := by
  have := bulk_len es
  have := bulk_len ss
  simp only [Rows.uptoBulk]
  omega

instance : Inhabited Nd := ⟨nd0 0⟩

theorem cellsNd : Try.prog.cellsOf 37 = 6 := by kernel_rfl

set_option maxRecDepth 100000 in
/-- A node, by its cells. -/
theorem open_node {H : Type} {enc : TypeId × Value → H} {W : World} {held : Bool} {cs : List Value} {d : DataW H} {p : List MemPlace} {fuel : Nat}
    (hf : DataW.trod enc Try.prog W 0 (fun _ => true) held fuel 37 cs = some (d, p)) :
    ∃ x : Nd, cs = nC x ∧ x.text.length ≤ Rows.uptoBulk d ∧ x.key.length ≤ Rows.uptoBulk d := by
  obtain ⟨xs, n, _, hx, hl, hlen, hff⟩ := DataW.trod_struct Try.underlying37 hf
  rw [cellsNd] at hl
  match xs, hlen with
  | [y0, y1, y2, y3, y4, y5], _ =>
    have h0 := hff 0 _ rfl
    have h1 := hff 1 _ rfl
    have h2 := hff 2 _ rfl
    have h3 := hff 3 _ rfl
    have h4 := hff 4 _ rfl
    have h5 := hff 5 _ rfl
    match cs, hl with
    | [c0, c1, c2, c3, c4, c5], _ =>
      have h0 : DataW.trod enc Try.prog W 0 (fun _ => true) held n 35 [c0] = some y0 := h0
      have h1 : DataW.trod enc Try.prog W 0 (fun _ => true) held n 9 [c1] = some y1 := h1
      have h2 : DataW.trod enc Try.prog W 0 (fun _ => true) held n 9 [c2] = some y2 := h2
      have h3 : DataW.trod enc Try.prog W 0 (fun _ => true) held n 4 [c3] = some y3 := h3
      have h4 : DataW.trod enc Try.prog W 0 (fun _ => true) held n 2 [c4] = some y4 := h4
      have h5 : DataW.trod enc Try.prog W 0 (fun _ => true) held n 3 [c5] = some y5 := h5
      obtain ⟨k, e0, _, _⟩ := DataW.trod_int Try.underlying35 h0
      obtain ⟨s1, e1, f1, _⟩ := DataW.trod_string Try.underlying9 h1
      obtain ⟨s2, e2, f2, _⟩ := DataW.trod_string Try.underlying9 h2
      obtain ⟨b, e3, _⟩ := DataW.trod_bool Try.underlying4 h3
      obtain ⟨i, e4, _, _⟩ := DataW.trod_int Try.underlying2 h4
      obtain ⟨m, e5, _, _⟩ := DataW.trod_int Try.underlying3 h5
      simp only [List.cons.injEq, and_true] at e0 e1 e2 e3 e4 e5
      have hd := (Prod.mk.inj hx).1
      refine ⟨⟨k, s1.data.toList, s2.data.toList, b, i, m⟩, by rw [e0, e1, e2, e3, e4, e5]; simp [nC], ?_, ?_⟩
      · rw [hd]
        simp only [List.map_cons, Rows.uptoBulk, Rows.uptoBulkAll, f2]
        omega
      · rw [hd]
        simp only [List.map_cons, Rows.uptoBulk, Rows.uptoBulkAll, f1]
        omega

theorem nCs_ix {l : List Nd} {j : Nat} {u : Value} (h : (nCs l)[j]? = some u) : j / 6 < l.length ∧ (nC (l.getD (j / 6) (nd0 0)))[j % 6]? = some u := by
  induction l generalizing j with
  | nil => simp [nCs] at h
  | cons n l ih =>
    have e : nCs (n :: l) = nC n ++ nCs l := rfl
    rw [e] at h
    have h6 : (nC n).length = 6 := rfl
    by_cases hj : j < 6
    · rw [List.getElem?_append_left (by omega)] at h
      rw [Nat.div_eq_of_lt hj, Nat.mod_eq_of_lt hj]
      exact ⟨by simp, by simpa using h⟩
    · rw [List.getElem?_append_right (by omega), h6] at h
      obtain ⟨h1, h2⟩ := ih h
      have hd : j / 6 = (j - 6) / 6 + 1 := by omega
      have hm : j % 6 = (j - 6) % 6 := by omega
      rw [hd, hm]
      exact ⟨by simp; omega, by rw [List.getD_cons_succ]; exact h2⟩

/-- A list of nodes that came in. -/
theorem open_nodes {H : Type} {enc : TypeId × Value → H} {W : World} {held : Bool} {v : Value} {d : DataW H} {p : List MemPlace} {fuel : Nat} {a : Option Addr} {len cap : Nat} (hv : v = .slice a len cap)
    (hf : DataW.trod enc Try.prog W 0 (fun _ => true) held fuel 24 v.cells.toList = some (d, p)) :
    ∃ os : List Nd, NR W v os a cap ∧ os.length ≤ Rows.uptoBulk d ∧ (∀ x ∈ os, x.text.length ≤ Rows.uptoBulk d ∧ x.key.length ≤ Rows.uptoBulk d) ∧ (a = none → cap = 0) := by
  subst hv
  rcases open_slice Try.underlying24 hf with ⟨hcs, hx⟩ | ⟨x, len', cap', m, n, D, Pl, hcs, _, hl, hm, hmm, hx, hall⟩
  · simp [Value.cells] at hcs
    obtain ⟨rfl, rfl, rfl⟩ := hcs
    exact ⟨[], ⟨rfl, Nat.le_refl _, .inl rfl⟩, Nat.zero_le _, (fun p hp => by cases hp), fun _ => rfl⟩
  · simp [Value.cells] at hcs
    obtain ⟨rfl, rfl, rfl⟩ := hcs
    simp only [if_true] at hmm
    subst hmm
    simp only [Prod.mk.injEq] at hx
    have hz : ∀ i, i < m → ∃ s : Nd, (∀ j u, j < 6 → (nC s)[j]? = some u → W.cell? (x.add (i * 6 + j)) = some u) ∧ (s.text.length ≤ Rows.uptoBulk (D i) ∧ s.key.length ≤ Rows.uptoBulk (D i)) := fun i hi => by
      obtain ⟨cs, h1, h2⟩ := hall i hi
      obtain ⟨s, e, h3⟩ := open_node h2
      rw [cellsNd] at h1
      obtain ⟨_, _, hcell⟩ := World.cells?_some h1
      rw [e] at hcell
      refine ⟨s, fun j u hj hu => ?_, h3⟩
      have c0 := hcell j hj
      rw [add_add] at c0
      rw [c0]
      exact hu
    obtain ⟨Q, hQ⟩ := choose_lt (α := Nd) (p := fun i s => (∀ j u, j < 6 → (nC s)[j]? = some u → W.cell? (x.add (i * 6 + j)) = some u) ∧ (s.text.length ≤ Rows.uptoBulk (D i) ∧ s.key.length ≤ Rows.uptoBulk (D i))) hz
    have hbk : len ≤ Rows.uptoBulk d := by
      rw [hx.1]
      refine Nat.le_trans ?_ (bulk_slice _ _)
      simp
    have hgq : ∀ i, i < len → ((List.range len).map Q).getD i (nd0 0) = Q i := fun i hi => by
      rw [List.getD_eq_getElem?_getD, List.getElem?_map, List.getElem?_range hi]
      rfl
    refine ⟨(List.range len).map Q, ⟨by simp, by simpa using hl, ?_⟩, by simpa using hbk, fun q hq => ?_, fun e => by cases e⟩
    · by_cases h0 : len = 0
      · subst h0; exact .inl (by simp)
      · obtain ⟨b, off, spot⟩ := x
        have hc := (hQ 0 (by omega)).1 0 _ (by omega) rfl
        have hspot : spot = none := by simpa [Addr.add] using World.cell?_spot hc
        subst hspot
        refine .inr ⟨b, off, rfl, World.block_lt_of_cell? W _ (by simpa [Addr.add] using hc), fun j u hu => ?_⟩
        obtain ⟨h1, h2⟩ := nCs_ix hu
        have hj : j / 6 < len := by simpa using h1
        rw [hgq _ hj] at h2
        have h3 := (hQ (j / 6) (by omega)).1 (j % 6) u (Nat.mod_lt _ (by omega)) h2
        rw [Addr.add_lit, show j / 6 * 6 + j % 6 = j by omega] at h3
        exact h3
    · obtain ⟨i, hi, rfl⟩ := List.mem_map.1 hq
      have hi' := List.mem_range.1 hi
      have h1 := (hQ i (by omega)).2
      have h2 : Rows.uptoBulk (D i) ≤ Rows.uptoBulk d := by
        rw [hx.1]
        have := bulk_mem ((List.range len).map D) (D i) (List.mem_map.2 ⟨i, hi, rfl⟩)
        simp only [Rows.uptoBulk]
        omega
      omega

instance : Inhabited (List UInt8) := ⟨[]⟩

/-- Texts that came in. -/
theorem open_texts {H : Type} {enc : TypeId × Value → H} {W : World} {held : Bool} {c : Value} {d : DataW H} {p : List MemPlace} {fuel : Nat}
    (hf : DataW.trod enc Try.prog W 0 (fun _ => true) held fuel 26 [c] = some (d, p)) :
    ∃ (ao : Option Addr) (cap : Nat) (l : List (List UInt8)), c = .slice ao l.length cap ∧ TR W (.slice ao l.length cap) l ao cap ∧ l.length ≤ maxLen ∧ l.length ≤ Rows.uptoBulk d ∧ (ao = none → cap = 0) ∧ ∀ x ∈ l, x.length ≤ Rows.uptoBulk d := by
  rcases open_slice Try.underlying26 hf with ⟨hcs, hx⟩ | ⟨x, len, cap, m, n, D, Pl, hcs, _, hl, hm, hmm, hx, hall⟩
  · simp only [List.cons.injEq, and_true] at hcs
    exact ⟨none, 0, [], hcs, ⟨rfl, Nat.le_refl _, .inl rfl⟩, Nat.zero_le _, Nat.zero_le _, fun _ => rfl, fun x hx => by simp at hx⟩
  · simp only [List.cons.injEq, and_true] at hcs
    simp only [if_true] at hmm
    subst hmm
    simp only [Prod.mk.injEq] at hx
    have hz : ∀ i, i < m → ∃ s : List UInt8, W.cell? (x.add i) = some (.string ⟨s.toArray⟩) ∧ s.length ≤ Rows.uptoBulk (D i) := fun i hi => by
      obtain ⟨cs, h1, h2⟩ := hall i hi
      obtain ⟨s, e, hsl, _⟩ := DataW.trod_string Try.underlying9 h2
      rw [cellsStr, Nat.mul_one] at h1
      obtain ⟨_, _, hcell⟩ := World.cells?_some h1
      have c0 := hcell 0 (by decide)
      rw [e] at c0
      refine ⟨s.data.toList, ?_, by rw [(Prod.mk.inj hsl).1]; simp only [Rows.uptoBulk]; omega⟩
      rw [← str_of]
      simpa [Addr.add] using c0
    obtain ⟨Q, hQ⟩ := choose_lt (α := List UInt8) (p := fun i s => W.cell? (x.add i) = some (.string ⟨s.toArray⟩) ∧ s.length ≤ Rows.uptoBulk (D i)) hz
    have hbk : len ≤ Rows.uptoBulk d := by
      rw [hx.1]
      refine Nat.le_trans ?_ (bulk_slice _ _)
      simp
    have hgq : ∀ i, i < len → ((List.range len).map Q).getD i [] = Q i := fun i hi => by
      rw [List.getD_eq_getElem?_getD, List.getElem?_map, List.getElem?_range hi]
      rfl
    have hln : ((List.range len).map Q).length = len := by simp
    refine ⟨some x, m, (List.range len).map Q, by rw [hln]; exact hcs, ⟨rfl, by rw [hln]; exact hl, ?_⟩, by rw [hln]; omega, by rw [hln]; exact hbk, fun e => (by cases e), fun y hy => by
      obtain ⟨i, hi, rfl⟩ := List.mem_map.1 hy
      have hi' := List.mem_range.1 hi
      have h1 := (hQ i (by omega)).2
      have h2 : Rows.uptoBulk (D i) ≤ Rows.uptoBulk d := by
        rw [hx.1]
        have := bulk_mem ((List.range len).map D) (D i) (List.mem_map.2 ⟨i, hi, rfl⟩)
        simp only [Rows.uptoBulk]
        omega
      omega⟩
    by_cases h0 : len = 0
    · subst h0; exact .inl (by simp)
    · obtain ⟨b, off, spot⟩ := x
      have hc := (hQ 0 (by omega)).1
      have hspot : spot = none := by simpa [Addr.add] using World.cell?_spot hc
      subst hspot
      refine .inr ⟨b, off, rfl, World.block_lt_of_cell? W _ (by simpa [Addr.add] using hc), fun j hj => ?_⟩
      rw [hln] at hj
      rw [hgq j hj]
      have h3 := (hQ j (by omega)).1
      rwa [Addr.add_lit] at h3

end Go.Proofs.Ytkfchdmlemcjhaa
