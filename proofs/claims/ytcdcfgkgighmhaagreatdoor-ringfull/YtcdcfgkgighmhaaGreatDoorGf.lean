import Derived.Test.YtcdcfgkgighmhaaGreatDoorGc
namespace Go.Proofs.YtcdcfgkgighmhaaGreatDoor
open Go.RowKit Go.MuLone
set_option maxRecDepth 100000

theorem pred_any (s : Ks) (cb : Nat) (ver : Int) (w : World) (h : w.cell? ⟨cb, 0, none⟩ = some (.int .i64 ver)) :
    Calls Tryz.prog 18 #[.agg #[.string ⟨s.t.toArray⟩, .int .i64 s.ver, .int .i64 s.til, .bool s.endless], .pointer (some ⟨cb, 0, none⟩)] w fun e w' => e = .returned (.bool (s.ver == ver)) ∧ Below w.heap.size w w' := by
  obtain ⟨t, v, til, en⟩ := s
  dsimp only
  have h2 : (w.alloc (.cells #[.string ⟨t.toArray⟩, .int .i64 v, .int .i64 til, .bool en] 49)).cell? ⟨cb, 0, none⟩ = some (.int .i64 ver) := cell_but h fun hg => (alloc_below w _).block _ hg
  have q : (v == ver) = (v == ver) := rfl
  go_enter Tryz.func18, Tryz.ntmps18
  go_wp2_with fail
  go_ret
  exact ⟨by go_num, alloc_below _ _⟩
/-- The first set of a version. -/
def idxF (ver : Int) : List Ks → Int
  | [] => -1
  | s :: r => if s.ver = ver then 0 else if idxF ver r < 0 then -1 else idxF ver r + 1

set_option maxHeartbeats 4000000 in
theorem index_any (v : Value) (L : List Ks) (B0 cb : Nat) (ver : Int) (w : World) (h0 : Os w B0 v L) (h : w.cell? ⟨cb, 0, none⟩ = some (.int .i64 ver)) (hcb : cb < w.heap.size) (hL : L.length ≤ 1000) :
    Calls Tryz.prog 17 #[v, .func (.func 18) #[] #[.pointer (some ⟨cb, 0, none⟩)]] w fun e w' => (∃ i : Nat, i < L.length ∧ (L.getD i ks0).ver = ver ∧ (∀ j, j < i → (L.getD j ks0).ver ≠ ver) ∧ e = .returned (.int .i64 (i : Int)) ∧ Below w.heap.size w w') ∨ ((∀ s ∈ L, s.ver ≠ ver) ∧ e = .returned (.int .i64 (-1)) ∧ Below w.heap.size w w') := by
  obtain ⟨ao, cap, rfl, hrd'⟩ := h0.rd
  have hrd : Hid (L = [] ∨ ∃ g, ao = some ⟨g, 0, none⟩ ∧ B0 ≤ g ∧ g < w.heap.size ∧ ∀ i j, i < L.length → (hj : j < 4) → w.cell? ⟨g, i * 4 + j, none⟩ = some ((sC (L.getD i ks0))[j]'hj)) := hrd'
  have hc : Hid (w.cell? ⟨cb, 0, none⟩ = some (.int .i64 ver)) := h
  clear h0 hrd' h
  go_enter Tryz.func17, Tryz.ntmps17
  go_wp2_with fail
  go_loopw [8] (fun s wr => ∃ i : Nat, s = .int .i64 (i : Int) ∧ i ≤ L.length ∧ Hid (∀ j, j < i → (L.getD j ks0).ver ≠ ver) ∧ Below w.heap.size w wr) (fun s _ => L.length - (intOf s).toNat)
  case atStart => exact ⟨0, rfl, Nat.zero_le _, (fun j hj => by omega), Below.refl _ _⟩
  case round =>
    obtain ⟨i, rfl, hi, hno, hb'⟩ := hrel
    have hb : Hid (Below w.heap.size w wr) := hb'
    clear hb'
    by_cases hlt : i < L.length
    · rcases hrd.out with h0 | ⟨g, rfl, _, hg, hcc⟩
      · rw [h0] at hlt; simp at hlt
      have k : ∀ j, (hj : j < 4) → wr.cell? ⟨g, i * 4 + j, none⟩ = some ((sC (L.getD i ks0))[j]'hj) := fun j hj => cell_but (hcc i j hlt hj) fun _ => hb.out.block g hg
      have c0 := k 0 (by decide)
      have c1 := k 1 (by decide)
      have c2 := k 2 (by decide)
      have c3 := k 3 (by decide)
      rw [Nat.add_zero] at c0
      simp only [sC, List.getElem_cons_zero, List.getElem_cons_succ] at c0 c1 c2 c3
      have PC := pred_any (L.getD i ks0) cb ver wr (cell_but hc.out fun _ => hb.out.block _ hcb)
      have hvi : Hid (∀ x, (L.getD i ks0).ver = x → x = (L.getD i ks0).ver) := fun x h => h.symm
      obtain ⟨s, hs⟩ : ∃ s, L.getD i ks0 = s := ⟨_, rfl⟩
      have hsh : Hid (L.getD i ks0 = s) := hs
      rw [hs] at c0 c1 c2 c3 PC
      clear k hcc hvi hs
      obtain ⟨t, vr, tl, en⟩ := s
      dsimp only at c0 c1 c2 c3 PC
      have hii : (i : Int) < (L.length : Int) := by omega
      go_wp2_with fail
      refine PC.mono ?_
      rintro e w2 ⟨rfl, hb2'⟩
      have hb2 : Hid (Below w.heap.size w w2) := hb.out.trans (hb2'.mono hb.out.size)
      clear hb2' PC c0 c1 c2 c3 hb
      by_cases hv : vr = ver
      · have q : (vr == ver) = true := by simpa using hv
        have hvh : Hid (vr = ver) := hv
        clear hv
        go_wp2_with fail
        go_ret
        exact .inl ⟨i, hlt, by rw [hsh.out]; exact hvh.out, hno.out, rfl, hb2.out⟩
      · have q : (vr == ver) = false := by simpa using hv
        have hno2 : Hid (∀ j, j < i + 1 → (L.getD j ks0).ver ≠ ver) := fun j hj => by
          by_cases hji : j = i
          · subst hji; rw [hsh.out]; exact hv
          · exact hno.out j (by omega)
        clear hv hno hsh
        go_wp2_with fail
        go_roundw
        case rel => exact ⟨i + 1, by go_num, by omega, hno2, hb2.out⟩
        case measure => simp [intOf]; omega
    · obtain rfl : i = L.length := by omega
      have hall : Hid (∀ s ∈ L, s.ver ≠ ver) := fun s hs => by
        obtain ⟨j, hj, e⟩ := List.getElem_of_mem hs
        have := hno.out j hj
        rw [getD_eq _ _ hj, e] at this
        exact this
      clear hno
      go_wp2_with fail
      go_ret
      exact .inr ⟨hall.out, rfl, hb.out⟩

end Go.Proofs.YtcdcfgkgighmhaaGreatDoor
