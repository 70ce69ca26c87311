import Derived.Test.YtcdcfgkgighmhaaGreatDoorSe
namespace Go.Proofs.YtcdcfgkgighmhaaGreatDoor
open Go.RowKit Go.Shelf

theorem RS.node {B : Nat} {w : World} {b : Nat} {t : List UInt8} {s : JS} {nv ov : Value} {mb : Nat} {c q : Int} (h : RS B w b t s nv ov mb c q) {i : Nat} (hi : i < s.nodes.length) :
    ∃ g cap, nv = .slice (some ⟨g, 0, none⟩) s.nodes.length cap ∧ s.nodes.length ≤ cap ∧ (∀ j u, j < 6 → (nC (s.nodes.getD i (nd0 0)))[j]? = some u → w.cell? ⟨g, i * 6 + j, none⟩ = some u ∧ w.frozen? ⟨g, i * 6 + j, none⟩ = false) := by
  obtain ⟨a, cap, e, hc, hg⟩ := own_slice h.nod
  obtain ⟨g, rfl⟩ := hg (by omega)
  subst e
  refine ⟨g, cap, rfl, hc, fun j u hj hu => own_cell h.nod (i * 6 + j) u ?_⟩
  rw [nCs_at s.nodes i j hi hj]
  exact hu

theorem endF_nil {s : JS} (h : s.opn = []) : endF s = { s with aw := 7 } := by unfold endF; rw [if_pos h]
theorem endF_list {s : JS} {xs : List Nat} {i : Nat} (ho : s.opn = xs ++ [i]) (hk : (s.nodes.getD i (nd0 0)).kind = 6) : endF s = { s with aw := 5 } := by
  unfold endF
  rw [if_neg (by rw [ho]; simp), if_pos]
  unfold inm
  rw [ho, last_snoc]
  exact hk
theorem endF_obj {s : JS} {xs : List Nat} {i : Nat} (ho : s.opn = xs ++ [i]) (hk : (s.nodes.getD i (nd0 0)).kind ≠ 6) : endF s = { s with aw := 6 } := by
  unfold endF
  rw [if_neg (by rw [ho]; simp), if_neg]
  unfold inm
  rw [ho, last_snoc]
  exact hk

set_option maxHeartbeats 2000000 in
theorem ended_any {B : Nat} {w : World} {b : Nat} {t : List UInt8} {s : JS} {nv ov : Value} {mb : Nat} {c q : Int} (h : RS B w b t s nv ov mb c q) (hop : ∀ i ∈ s.opn, i < s.nodes.length) (hl : s.opn.length ≤ 32) (_hn : s.nodes.length ≤ 1073741824) :
    Calls Tryz.prog 64 #[.pointer (some ⟨b, 0, none⟩)] w fun e w' => e = .returned (.bool true) ∧ But w w' b ∧ RS B w' b t (endF s) nv ov mb c q := by
  have c4 := h.rb.c4
  have c2 := h.rb.c2
  have f2 := h.rb.fz 2
  have H : Hid (RS B w b t s nv ov mb c q) := h
  have HS : Hid (∀ (n a : Nat), RS B ((w.drewN n).setCell ⟨b, 2, none⟩ (.int .i64 (a : Int))) b t { s with aw := a } nv ov mb c q) := fun n a =>
    (h.drewN n).but ((But.refl _ _).set _ _) (by have := (h.rb.drewN n).s2 (.int .i64 (a : Int)); exact this) rfl rfl rfl
  by_cases ho : s.opn = []
  · have HE : Hid (endF s = { s with aw := 7 }) := endF_nil ho
    obtain ⟨a, cap, e, hc, _⟩ := own_slice h.opn
    rw [ho, List.length_nil] at e hc
    subst e
    clear h ho
    go_enter Tryz.func64, Tryz.ntmps64
    go_wp2
    go_ret
    rw [HE.out]
    exact ⟨rfl, (But.refl _ _).set _ _, HS.out 0 7⟩
  · obtain ⟨xs, i, hox⟩ := snoc_of ho
    have hi : i < s.nodes.length := hop i (by rw [hox]; simp)
    have hxl : xs.length ≤ 1000 := by rw [hox] at hl; simp at hl; omega
    have CI := fun n => innermost_any (h.drewN n) hox hxl
    have HCI : Hid (∀ n, Calls Tryz.prog 72 #[.pointer (some ⟨b, 0, none⟩)] (w.drewN n) fun e w' => e = .returned (.int .i64 (i : Int)) ∧ ∃ m, w' = (w.drewN n).drewN m) := CI
    obtain ⟨g, cap, rfl, hcap, hcell⟩ := h.node hi
    have hk := (hcell 0 (.int .i64 (s.nodes.getD i (nd0 0)).kind) (by omega) rfl).1
    rw [Nat.add_zero] at hk
    have c3 := h.rb.c3
    obtain ⟨go, co, rfl, hco, _⟩ := h.last hox
    have hE5 := @endF_list s xs i hox
    have hE6 := @endF_obj s xs i hox
    have HE5 : Hid ((s.nodes.getD i (nd0 0)).kind = 6 → endF s = { s with aw := 5 }) := hE5
    have HE6 : Hid ((s.nodes.getD i (nd0 0)).kind ≠ 6 → endF s = { s with aw := 6 }) := hE6
    have hq0 : (((xs.length + 1 : Nat) : Int) == 0) = false := by simp; omega
    generalize (s.nodes.getD i (nd0 0)).kind = K at *
    generalize s.nodes.length = N at *
    clear h ho hox CI hcell hE5 hE6 hop
    by_cases hk6 : K = 6
    · have HE := HE5.out hk6
      have HE' : Hid (endF s = { s with aw := 5 }) := HE
      have hkb : (K == 6) = true := by simpa using hk6
      clear HE HE5 HE6
      subst hk6
      go_enter Tryz.func64, Tryz.ntmps64
      go_wp2
      go_quiet (refine Calls.quiet_of (HCI.out _))
      go_wp2
      go_ret
      rw [HE'.out]
      exact ⟨rfl, ((But.refl _ _).drewN _).set _ _, HS.out _ 5⟩
    · have HE := HE6.out hk6
      have HE' : Hid (endF s = { s with aw := 6 }) := HE
      have hkb : (K == 6) = false := by simpa using hk6
      clear HE HE5 HE6
      go_enter Tryz.func64, Tryz.ntmps64
      go_wp2
      go_quiet (refine Calls.quiet_of (HCI.out _))
      go_wp2
      go_ret
      rw [HE'.out]
      exact ⟨rfl, ((But.refl _ _).drewN _).set _ _, HS.out _ 6⟩

end Go.Proofs.YtcdcfgkgighmhaaGreatDoor
