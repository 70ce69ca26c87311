import Derived.Test.YtidmjojlhcgedaaRk
namespace Go.Proofs.Ytidmjojlhcgedaa
open Go.RowKit Go.Maps
set_option maxRecDepth 100000

/-- A number that stands there; none: the bytes end in it. -/
def numF (l : List UInt8) (nx size : Nat) : Option Nat := if nx + size ≤ l.length then some (be (pieceF l nx size)) else none
theorem numF_some {l : List UInt8} {nx size : Nat} (h : nx + size ≤ l.length) : numF l nx size = some (be (pieceF l nx size)) := if_pos h
theorem numF_none {l : List UInt8} {nx size : Nat} (h : ¬ nx + size ≤ l.length) : numF l nx size = none := if_neg h

/-- Two's complement back. -/
def s64 (n : Nat) : Int := IntKind.i64.wrap (n : Int)

/-- An image's head: the clock, or the place of what cannot be. -/
def headR (l : List UInt8) : Except Nat (Bool × Int) :=
  match numF l 0 1 with
  | none => .error 0
  | some a => if a ≠ 82 then .error 0 else
    match numF l 1 1 with
    | none => .error 1
    | some v => if v ≠ 1 then .error 1 else
      match numF l 2 1 with
      | none => .error 2
      | some f => if 1 < f then .error 2 else
        match numF l 3 8 with
        | none => .error 3
        | some c => if f = 0 ∧ c ≠ 0 then .error 3 else .ok (f == 1, s64 c)

/-- What head leaves: the answer, the reader, the book. -/
def headP (w : World) (rb bb mb : Nat) (ao : Option Addr) (cap : Nat) (l : List UInt8) (e : Ending) (w' : World) : Except Nat (Bool × Int) → Prop
  | .error k => e = .returned (.bool false) ∧ ∃ nx, Rdr w' rb ao cap l k nx ∧ Chf (fun k => k = rb ∨ k = bb) w w'
  | .ok (h, c) => e = .returned (.bool true) ∧ Rdr w' rb ao cap l 3 11 ∧ Bok w' bb mb ⟨h, c, []⟩ ∧ Chf (fun k => k = rb ∨ k = bb) w w'

set_option maxHeartbeats 4000000 in
theorem head_any (rb bb mb : Nat) (ao : Option Addr) (cap : Nat) (l : List UInt8) (p : Nat) (w : World) (h : Rdr w rb ao cap l p 0) (hb : Bok w bb mb ⟨false, 0, []⟩) (hne : rb ≠ bb) (hnm : rb ≠ mb) (hao : l ≠ [] → ∀ a, ao = some a → a.block ≠ bb) (hl : l.length ≤ 1000000000000) :
    Calls Try.prog 36 #[.pointer (some ⟨rb, 0, none⟩), .pointer (some ⟨bb, 0, none⟩)] w fun e w' => headP w rb bb mb ao cap l e w' (headR l) := by
  have hRh : Hid (Rdr w rb ao cap l p 0) := h
  have hBh : Hid (Bok w bb mb ⟨false, 0, []⟩) := hb
  clear h hb
  have ix0 : ∀ w, (Instr.index 90 (.agg #[.int .u64 82, .int .u64 1]) (.int .i64 0)).run Try.prog w = .ok (.int .u64 82) w := fun w => by kernel_rfl
  have ix1 : ∀ w, (Instr.index 90 (.agg #[.int .u64 82, .int .u64 1]) (.int .i64 1)).run Try.prog w = .ok (.int .u64 1) w := fun w => by kernel_rfl
  by_cases k0 : 0 + 1 ≤ l.length
  case neg =>
    have HP : Hid (headR l = .error 0) := by show _ = _; unfold headR; rw [numF_none k0]
    generalize headR l = R at HP ⊢
    have N0 := fun w1 hR => number_no rb ao cap l p 0 1 w1 hR hl (by omega) (by omega)
    go_enter Try.func36, Try.ntmps36
    go_wp2_with fail
    refine wp_loop_rounds 3 ?_
    rw [rounds_succ]
    go_wp2_with fail
    refine (N0 _ hRh.out).mono ?_
    rintro e w1 ⟨rfl, hR1, hC1⟩
    have hD1 : Hid (Chf (fun k => k = rb) w w1) := hC1
    clear hC1
    go_wp2_with fail
    go_ret
    rw [HP.out]
    exact ⟨rfl, _, hR1, hD1.out.weak (fun k h => .inl h)⟩
  have N0 := fun w1 hR => number_ok rb ao cap l p 0 1 w1 hR hl k0 (by omega)
  have E0 := numF_some k0
  have L0 := be_lt (pieceF l 0 1)
  rw [pieceF_length k0] at L0
  generalize be (pieceF l 0 1) = a at N0 E0 L0
  by_cases b0 : a ≠ 82
  case pos =>
    have HP : Hid (headR l = .error 0) := by show _ = _; unfold headR; rw [E0]; exact if_pos b0
    generalize headR l = R at HP ⊢
    have q0 : ((a : Int) != 82) = true := by simp; omega
    clear E0
    go_enter Try.func36, Try.ntmps36
    go_wp2_with fail
    refine wp_loop_rounds 3 ?_
    rw [rounds_succ]
    go_wp2_with fail
    refine (N0 _ hRh.out).mono ?_
    rintro e w1 ⟨rfl, hR1, hC1⟩
    have hD1 : Hid (Chf (fun k => k = rb) w w1) := hC1
    clear hC1
    go_wp2_with fail
    go_ret
    rw [HP.out]
    exact ⟨rfl, _, hR1, hD1.out.weak (fun k h => .inl h)⟩
  obtain rfl : a = 82 := by omega
  by_cases k1 : 1 + 1 ≤ l.length
  case neg =>
    have HP : Hid (headR l = .error 1) := by show _ = _; unfold headR; rw [E0]; dsimp only; rw [if_neg (by omega)]; rw [numF_none k1]
    generalize headR l = R at HP ⊢
    have N1 := fun w1 hR => number_no rb ao cap l 0 1 1 w1 hR hl (by omega) (by omega)
    go_enter Try.func36, Try.ntmps36
    go_wp2_with fail
    refine wp_loop_rounds 3 ?_
    rw [rounds_succ]
    go_wp2_with fail
    refine (N0 _ hRh.out).mono ?_
    rintro e w1 ⟨rfl, hR1, hC1⟩
    have hD1 : Hid (Chf (fun k => k = rb) w w1) := hC1
    clear hC1
    go_wp2_with fail
    rw [rounds_succ]
    go_wp2_with fail
    refine (N1 _ hR1).mono ?_
    rintro e w2 ⟨rfl, hR2, hC2⟩
    have hD2 : Hid (Chf (fun k => k = rb) w w2) := hD1.out.trans hC2
    clear hC2
    go_wp2_with fail
    go_ret
    rw [HP.out]
    exact ⟨rfl, _, hR2, hD2.out.weak (fun k h => .inl h)⟩
  have N1 := fun w1 hR => number_ok rb ao cap l 0 1 1 w1 hR hl k1 (by omega)
  have E1 := numF_some k1
  have L1 := be_lt (pieceF l 1 1)
  rw [pieceF_length k1] at L1
  generalize be (pieceF l 1 1) = v at N1 E1 L1
  by_cases b1 : v ≠ 1
  case pos =>
    have HP : Hid (headR l = .error 1) := by show _ = _; unfold headR; rw [E0]; dsimp only; rw [if_neg (by omega)]; rw [E1]; exact if_pos b1
    generalize headR l = R at HP ⊢
    have q1 : ((v : Int) != 1) = true := by simp; omega
    clear E1
    go_enter Try.func36, Try.ntmps36
    go_wp2_with fail
    refine wp_loop_rounds 3 ?_
    rw [rounds_succ]
    go_wp2_with fail
    refine (N0 _ hRh.out).mono ?_
    rintro e w1 ⟨rfl, hR1, hC1⟩
    have hD1 : Hid (Chf (fun k => k = rb) w w1) := hC1
    clear hC1
    go_wp2_with fail
    rw [rounds_succ]
    go_wp2_with fail
    refine (N1 _ hR1).mono ?_
    rintro e w2 ⟨rfl, hR2, hC2⟩
    have hD2 : Hid (Chf (fun k => k = rb) w w2) := hD1.out.trans hC2
    clear hC2
    go_wp2_with fail
    go_ret
    rw [HP.out]
    exact ⟨rfl, _, hR2, hD2.out.weak (fun k h => .inl h)⟩
  obtain rfl : v = 1 := by omega
  by_cases k2 : 2 + 1 ≤ l.length
  case neg =>
    have HP : Hid (headR l = .error 2) := by show _ = _; unfold headR; rw [E0]; dsimp only; rw [if_neg (by omega)]; rw [E1]; dsimp only; rw [if_neg (by omega)]; rw [numF_none k2]
    generalize headR l = R at HP ⊢
    have N2 := fun w1 hR => number_no rb ao cap l 1 2 1 w1 hR hl (by omega) (by omega)
    go_enter Try.func36, Try.ntmps36
    go_wp2_with fail
    refine wp_loop_rounds 3 ?_
    rw [rounds_succ]
    go_wp2_with fail
    refine (N0 _ hRh.out).mono ?_
    rintro e w1 ⟨rfl, hR1, hC1⟩
    have hD1 : Hid (Chf (fun k => k = rb) w w1) := hC1
    clear hC1
    go_wp2_with fail
    rw [rounds_succ]
    go_wp2_with fail
    refine (N1 _ hR1).mono ?_
    rintro e w2 ⟨rfl, hR2, hC2⟩
    have hD2 : Hid (Chf (fun k => k = rb) w w2) := hD1.out.trans hC2
    clear hC2
    go_wp2_with fail
    rw [rounds_succ]
    go_wp2_with fail
    refine (N2 _ hR2).mono ?_
    rintro e w3 ⟨rfl, hR3, hC3⟩
    have hD3 : Hid (Chf (fun k => k = rb) w w3) := hD2.out.trans hC3
    clear hC3
    go_wp2_with fail
    go_ret
    rw [HP.out]
    exact ⟨rfl, _, hR3, hD3.out.weak (fun k h => .inl h)⟩
  have N2 := fun w1 hR => number_ok rb ao cap l 1 2 1 w1 hR hl k2 (by omega)
  have E2 := numF_some k2
  have L2 := be_lt (pieceF l 2 1)
  rw [pieceF_length k2] at L2
  generalize be (pieceF l 2 1) = f at N2 E2 L2
  by_cases b2 : 1 < f
  case pos =>
    have HP : Hid (headR l = .error 2) := by show _ = _; unfold headR; rw [E0]; dsimp only; rw [if_neg (by omega)]; rw [E1]; dsimp only; rw [if_neg (by omega)]; rw [E2]; exact if_pos b2
    generalize headR l = R at HP ⊢
    have q2 : decide ((f : Int) > 1) = true := by simp; omega
    clear E2
    go_enter Try.func36, Try.ntmps36
    go_wp2_with fail
    refine wp_loop_rounds 3 ?_
    rw [rounds_succ]
    go_wp2_with fail
    refine (N0 _ hRh.out).mono ?_
    rintro e w1 ⟨rfl, hR1, hC1⟩
    have hD1 : Hid (Chf (fun k => k = rb) w w1) := hC1
    clear hC1
    go_wp2_with fail
    rw [rounds_succ]
    go_wp2_with fail
    refine (N1 _ hR1).mono ?_
    rintro e w2 ⟨rfl, hR2, hC2⟩
    have hD2 : Hid (Chf (fun k => k = rb) w w2) := hD1.out.trans hC2
    clear hC2
    go_wp2_with fail
    rw [rounds_succ]
    go_wp2_with fail
    refine (N2 _ hR2).mono ?_
    rintro e w3 ⟨rfl, hR3, hC3⟩
    have hD3 : Hid (Chf (fun k => k = rb) w w3) := hD2.out.trans hC3
    clear hC3
    go_wp2_with fail
    go_ret
    rw [HP.out]
    exact ⟨rfl, _, hR3, hD3.out.weak (fun k h => .inl h)⟩
  by_cases k3 : 3 + 8 ≤ l.length
  case neg =>
    have HP : Hid (headR l = .error 3) := by show _ = _; unfold headR; rw [E0]; dsimp only; rw [if_neg (by omega)]; rw [E1]; dsimp only; rw [if_neg (by omega)]; rw [E2]; dsimp only; rw [if_neg (by omega)]; rw [numF_none k3]
    generalize headR l = R at HP ⊢
    have N3 := fun w1 hR => number_no rb ao cap l 2 3 8 w1 hR hl (by omega) (by omega)
    go_enter Try.func36, Try.ntmps36
    go_wp2_with fail
    refine wp_loop_rounds 3 ?_
    rw [rounds_succ]
    go_wp2_with fail
    refine (N0 _ hRh.out).mono ?_
    rintro e w1 ⟨rfl, hR1, hC1⟩
    have hD1 : Hid (Chf (fun k => k = rb) w w1) := hC1
    clear hC1
    go_wp2_with fail
    rw [rounds_succ]
    go_wp2_with fail
    refine (N1 _ hR1).mono ?_
    rintro e w2 ⟨rfl, hR2, hC2⟩
    have hD2 : Hid (Chf (fun k => k = rb) w w2) := hD1.out.trans hC2
    clear hC2
    go_wp2_with fail
    rw [rounds_succ]
    go_wp2_with fail
    refine (N2 _ hR2).mono ?_
    rintro e w3 ⟨rfl, hR3, hC3⟩
    have hD3 : Hid (Chf (fun k => k = rb) w w3) := hD2.out.trans hC3
    clear hC3
    go_wp2_with fail
    refine (N3 _ hR3).mono ?_
    rintro e w4 ⟨rfl, hR4, hC4⟩
    have hD4 : Hid (Chf (fun k => k = rb) w w4) := hD3.out.trans hC4
    clear hC4
    have hB4 := hBh.out.chf hD4.out (fun e => hne e.symm) (fun e => hnm e.symm)
    have d1 := hB4.cells.cell 1 (by simp)
    have d2 := hB4.cells.cell 2 (by simp)
    simp only [List.getElem_cons_zero, List.getElem_cons_succ] at d1 d2
    have f1 := hB4.cells.frozen 1
    have f2 := hB4.cells.frozen 2
    have hR4h : Hid (Rdr w4 rb ao cap l 3 3) := hR4
    clear hB4 hR4 hR1 hR2 hR3
    go_wp2_with fail
    all_goals go_ret
    all_goals rw [HP.out]
    all_goals refine ⟨rfl, _, hR4h.out.chf (Chf.set (f := fun k => k = bb) (Chf.set (f := fun k => k = bb) (Chf.refl _ w4) (.inl rfl) _) (.inl rfl) _) hne hao, (hD4.out.weak (g := fun k => k = rb ∨ k = bb) (fun k h => .inl h)).trans ((Chf.set (f := fun k => k = bb) (Chf.set (f := fun k => k = bb) (Chf.refl _ w4) (.inl rfl) _) (.inl rfl) _).weak (g := fun k => k = rb ∨ k = bb) (fun k h => .inr h))⟩
  have N3 := fun w1 hR => number_ok rb ao cap l 2 3 8 w1 hR hl k3 (by omega)
  have E3 := numF_some k3
  have L3 := be_lt (pieceF l 3 8)
  rw [pieceF_length k3] at L3
  generalize be (pieceF l 3 8) = c at N3 E3 L3
  have HS : Hid (IntKind.i64.wrap (c : Int) = s64 c) := rfl
  by_cases hf : f = 0
  · subst hf
    by_cases hc : c = 0
    · have HP : Hid (headR l = .ok (false, 0)) := by show _ = _; unfold headR; rw [E0]; dsimp only; rw [if_neg (by omega)]; rw [E1]; dsimp only; rw [if_neg (by omega)]; rw [E2]; dsimp only; rw [if_neg (by omega)]; rw [E3]; dsimp only; rw [if_neg (by omega), hc]; rfl
      generalize headR l = R at HP ⊢
      subst hc
      clear E3 HS
      go_enter Try.func36, Try.ntmps36
      go_wp2_with fail
      refine wp_loop_rounds 3 ?_
      rw [rounds_succ]
      go_wp2_with fail
      refine (N0 _ hRh.out).mono ?_
      rintro e w1 ⟨rfl, hR1, hC1⟩
      have hD1 : Hid (Chf (fun k => k = rb) w w1) := hC1
      clear hC1
      go_wp2_with fail
      rw [rounds_succ]
      go_wp2_with fail
      refine (N1 _ hR1).mono ?_
      rintro e w2 ⟨rfl, hR2, hC2⟩
      have hD2 : Hid (Chf (fun k => k = rb) w w2) := hD1.out.trans hC2
      clear hC2
      go_wp2_with fail
      rw [rounds_succ]
      go_wp2_with fail
      refine (N2 _ hR2).mono ?_
      rintro e w3 ⟨rfl, hR3, hC3⟩
      have hD3 : Hid (Chf (fun k => k = rb) w w3) := hD2.out.trans hC3
      clear hC3
      go_wp2_with fail
      refine (N3 _ hR3).mono ?_
      rintro e w4 ⟨rfl, hR4, hC4⟩
      have hD4 : Hid (Chf (fun k => k = rb) w w4) := hD3.out.trans hC4
      clear hC4
      have hB4 := hBh.out.chf hD4.out (fun e => hne e.symm) (fun e => hnm e.symm)
      have d1 := hB4.cells.cell 1 (by simp)
      have d2 := hB4.cells.cell 2 (by simp)
      simp only [List.getElem_cons_zero, List.getElem_cons_succ] at d1 d2
      have f1 := hB4.cells.frozen 1
      have f2 := hB4.cells.frozen 2
      have hB4h : Hid (Bok w4 bb mb ⟨false, 0, []⟩) := hB4
      have hR4h : Hid (Rdr w4 rb ao cap l 3 (3 + 8)) := hR4
      clear hB4 hR4 hR1 hR2 hR3
      go_wp2_with fail
      go_ret
      rw [HP.out]
      have hC5 : Chf (fun k => k = bb) w4 ((w4.setCell ⟨bb, 1, none⟩ (.int .i64 0)).setCell ⟨bb, 2, none⟩ (.bool false)) := Chf.set (f := fun k => k = bb) (Chf.set (f := fun k => k = bb) (Chf.refl _ w4) (.inl rfl) _) (.inl rfl) _
      have hC6 := (hD4.out.weak (g := fun k => k = rb ∨ k = bb) (fun k h => .inl h)).trans (hC5.weak (g := fun k => k = rb ∨ k = bb) (fun k h => .inr h))
      have hR5 := hR4h.out.chf hC5 hne hao
      exact ⟨rfl, hR5, ⟨((hB4h.out.cells.set 1 _).set 2 _), (hB4h.out.own.setCell (a := ⟨bb, 1, none⟩) (fun e => hB4h.out.ne e.symm) _).setCell (a := ⟨bb, 2, none⟩) (fun e => hB4h.out.ne e.symm) _, hB4h.out.ne⟩, hC6⟩
    · have HP : Hid (headR l = .error 3) := by show _ = _; unfold headR; rw [E0]; dsimp only; rw [if_neg (by omega)]; rw [E1]; dsimp only; rw [if_neg (by omega)]; rw [E2]; dsimp only; rw [if_neg (by omega)]; rw [E3]; dsimp only; exact if_pos ⟨rfl, hc⟩
      generalize headR l = R at HP ⊢
      have qc : ((c : Int) == 0) = false := by simp; omega
      have hw : IntKind.i64.wrap (c : Int) = s64 c := rfl
      generalize s64 c = sc at hw HP
      clear E3 HS
      go_enter Try.func36, Try.ntmps36
      go_wp2_with fail
      refine wp_loop_rounds 3 ?_
      rw [rounds_succ]
      go_wp2_with fail
      refine (N0 _ hRh.out).mono ?_
      rintro e w1 ⟨rfl, hR1, hC1⟩
      have hD1 : Hid (Chf (fun k => k = rb) w w1) := hC1
      clear hC1
      go_wp2_with fail
      rw [rounds_succ]
      go_wp2_with fail
      refine (N1 _ hR1).mono ?_
      rintro e w2 ⟨rfl, hR2, hC2⟩
      have hD2 : Hid (Chf (fun k => k = rb) w w2) := hD1.out.trans hC2
      clear hC2
      go_wp2_with fail
      rw [rounds_succ]
      go_wp2_with fail
      refine (N2 _ hR2).mono ?_
      rintro e w3 ⟨rfl, hR3, hC3⟩
      have hD3 : Hid (Chf (fun k => k = rb) w w3) := hD2.out.trans hC3
      clear hC3
      go_wp2_with fail
      refine (N3 _ hR3).mono ?_
      rintro e w4 ⟨rfl, hR4, hC4⟩
      have hD4 : Hid (Chf (fun k => k = rb) w w4) := hD3.out.trans hC4
      clear hC4
      have hB4 := hBh.out.chf hD4.out (fun e => hne e.symm) (fun e => hnm e.symm)
      have d1 := hB4.cells.cell 1 (by simp)
      have d2 := hB4.cells.cell 2 (by simp)
      simp only [List.getElem_cons_zero, List.getElem_cons_succ] at d1 d2
      have f1 := hB4.cells.frozen 1
      have f2 := hB4.cells.frozen 2
      have hB4h : Hid (Bok w4 bb mb ⟨false, 0, []⟩) := hB4
      have hR4h : Hid (Rdr w4 rb ao cap l 3 (3 + 8)) := hR4
      clear hB4 hR4 hR1 hR2 hR3
      go_wp2_with fail
      go_ret
      rw [HP.out]
      have hC5 : Chf (fun k => k = bb) w4 ((w4.setCell ⟨bb, 1, none⟩ (.int .i64 sc)).setCell ⟨bb, 2, none⟩ (.bool false)) := Chf.set (f := fun k => k = bb) (Chf.set (f := fun k => k = bb) (Chf.refl _ w4) (.inl rfl) _) (.inl rfl) _
      have hC6 := (hD4.out.weak (g := fun k => k = rb ∨ k = bb) (fun k h => .inl h)).trans (hC5.weak (g := fun k => k = rb ∨ k = bb) (fun k h => .inr h))
      have hR5 := hR4h.out.chf hC5 hne hao
      exact ⟨rfl, _, hR5, hC6⟩
  · obtain rfl : f = 1 := by omega
    have HP : Hid (headR l = .ok (true, s64 c)) := by show _ = _; unfold headR; rw [E0]; dsimp only; rw [if_neg (by omega)]; rw [E1]; dsimp only; rw [if_neg (by omega)]; rw [E2]; dsimp only; rw [if_neg (by omega)]; rw [E3]; dsimp only; rw [if_neg (by omega)]; rfl
    generalize headR l = R at HP ⊢
    have hw : IntKind.i64.wrap (c : Int) = s64 c := rfl
    generalize s64 c = sc at hw HP
    clear E3 HS
    go_enter Try.func36, Try.ntmps36
    go_wp2_with fail
    refine wp_loop_rounds 3 ?_
    rw [rounds_succ]
    go_wp2_with fail
    refine (N0 _ hRh.out).mono ?_
    rintro e w1 ⟨rfl, hR1, hC1⟩
    have hD1 : Hid (Chf (fun k => k = rb) w w1) := hC1
    clear hC1
    go_wp2_with fail
    rw [rounds_succ]
    go_wp2_with fail
    refine (N1 _ hR1).mono ?_
    rintro e w2 ⟨rfl, hR2, hC2⟩
    have hD2 : Hid (Chf (fun k => k = rb) w w2) := hD1.out.trans hC2
    clear hC2
    go_wp2_with fail
    rw [rounds_succ]
    go_wp2_with fail
    refine (N2 _ hR2).mono ?_
    rintro e w3 ⟨rfl, hR3, hC3⟩
    have hD3 : Hid (Chf (fun k => k = rb) w w3) := hD2.out.trans hC3
    clear hC3
    go_wp2_with fail
    refine (N3 _ hR3).mono ?_
    rintro e w4 ⟨rfl, hR4, hC4⟩
    have hD4 : Hid (Chf (fun k => k = rb) w w4) := hD3.out.trans hC4
    clear hC4
    have hB4 := hBh.out.chf hD4.out (fun e => hne e.symm) (fun e => hnm e.symm)
    have d1 := hB4.cells.cell 1 (by simp)
    have d2 := hB4.cells.cell 2 (by simp)
    simp only [List.getElem_cons_zero, List.getElem_cons_succ] at d1 d2
    have f1 := hB4.cells.frozen 1
    have f2 := hB4.cells.frozen 2
    have hB4h : Hid (Bok w4 bb mb ⟨false, 0, []⟩) := hB4
    have hR4h : Hid (Rdr w4 rb ao cap l 3 (3 + 8)) := hR4
    clear hB4 hR4 hR1 hR2 hR3
    go_wp2_with fail
    go_ret
    rw [HP.out]
    have hC5 : Chf (fun k => k = bb) w4 ((w4.setCell ⟨bb, 1, none⟩ (.int .i64 sc)).setCell ⟨bb, 2, none⟩ (.bool true)) := Chf.set (f := fun k => k = bb) (Chf.set (f := fun k => k = bb) (Chf.refl _ w4) (.inl rfl) _) (.inl rfl) _
    have hC6 := (hD4.out.weak (g := fun k => k = rb ∨ k = bb) (fun k h => .inl h)).trans (hC5.weak (g := fun k => k = rb ∨ k = bb) (fun k h => .inr h))
    have hR5 := hR4h.out.chf hC5 hne hao
    exact ⟨rfl, hR5, ⟨((hB4h.out.cells.set 1 _).set 2 _), (hB4h.out.own.setCell (a := ⟨bb, 1, none⟩) (fun e => hB4h.out.ne e.symm) _).setCell (a := ⟨bb, 2, none⟩) (fun e => hB4h.out.ne e.symm) _, hB4h.out.ne⟩, hC6⟩

end Go.Proofs.Ytidmjojlhcgedaa
