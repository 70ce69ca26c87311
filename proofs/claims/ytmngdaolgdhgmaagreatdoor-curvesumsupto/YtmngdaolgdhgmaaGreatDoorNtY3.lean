import Derived.Test.YtmngdaolgdhgmaaGreatDoorNtY2
import Derived.Deep.LoopGhost
import Derived.WalkMore
import Derived.ScopeJumps
import Derived.Test.YtmngdaolgdhgmaaGreatDoorNtZ7
namespace Go.Proofs.YtmngdaolgdhgmaaGreatDoor
open Go.RowKit

set_option maxHeartbeats 2000000 in
theorem begin_v (a m : Value) (A M : Nat) (w : World) (ha : Nu w a A) (hm : Nu w m M) (h0 : M ≠ 0) :
    Calls Tryz.prog 111 #[a, m] w fun e w' => ∃ m' l x, e = .returned (.agg #[m', l, x, m', .slice none 0 0]) ∧ Re w w' m' M ∧ Re w w' l (A % M) ∧ Re w w' x 1 := by
  have HA : Hid (Nu w a A) := ha
  have HB : Hid (Below w.heap.size w (w.alloc (.cells #[.slice none 0 0, .slice none 0 0, .slice none 0 0, .slice none 0 0, .slice none 0 0] 105))) := alloc_below _ _
  have HC : Hid (Bl 105 (w.alloc (.cells #[.slice none 0 0, .slice none 0 0, .slice none 0 0, .slice none 0 0, .slice none 0 0] 105)) w.heap.size [.slice none 0 0, .slice none 0 0, .slice none 0 0, .slice none 0 0, .slice none 0 0]) := alloc_bl _ _ _
  have C := proper_v m M _ (hm.below HB.out (Nat.le_refl _))
  clear ha hm
  go_enter Tryz.func111, Tryz.ntmps111
  go_wp2_with fail
  generalize w.alloc (.cells #[.slice none 0 0, .slice none 0 0, .slice none 0 0, .slice none 0 0, .slice none 0 0] 105) = w1 at *
  refine C.mono ?_
  clear C
  rintro e w2 ⟨m', rfl, hn⟩
  have HM : Hid (Re w1 w2 m' M) := hn
  clear hn
  have C := rest_v a m' A M w2 (((HA.out.below HB.out (Nat.le_refl _)).below HM.out.bel (Nat.le_refl _)).le (by decide)) HM.out.nu h0
  go_wp2_with fail
  refine C.mono ?_
  clear C
  rintro e w3 ⟨l, rfl, hn⟩
  have HM3 : Hid (Re w1 w3 m' M) := HM.out.keep hn.bel
  have HL3 : Hid (Re w1 w3 l (A % M)) := Re.later HM.out.bel hn
  clear hn HM HA
  go_wp2_with fail
  refine (one_v w3).mono ?_
  rintro e w4 ⟨p, rfl, hn⟩
  have HM4 : Hid (Re w1 w4 m' M) := HM3.out.keep hn.bel
  have HL4 : Hid (Re w1 w4 l (A % M)) := HL3.out.keep hn.bel
  have HP4 : Hid (Re w1 w4 p 1) := Re.later HM3.out.bel hn
  clear hn HM3 HL3
  obtain ⟨m0, m1, m2, rfl⟩ := HM4.out.nu.shape
  obtain ⟨l0, l1, l2, rfl⟩ := HL4.out.nu.shape
  obtain ⟨p0, p1, p2, rfl⟩ := HP4.out.nu.shape
  have HC4 : Hid (Bl 105 w4 w.heap.size [.slice none 0 0, .slice none 0 0, .slice none 0 0, .slice none 0 0, .slice none 0 0]) := HC.out.below HM4.out.bel HC.out.lt
  have g0 := HC4.out.cell 0 (by simp)
  have g1 := HC4.out.cell 1 (by simp)
  have g2 := HC4.out.cell 2 (by simp)
  have g3 := HC4.out.cell 3 (by simp)
  have g4 := HC4.out.cell 4 (by simp)
  have f0 := HC4.out.frozen 0
  have f1 := HC4.out.frozen 1
  have f2 := HC4.out.frozen 2
  have f3 := HC4.out.frozen 3
  have f4 := HC4.out.frozen 4
  simp only [List.getElem_cons_zero, List.getElem_cons_succ] at g0 g1 g2 g3 g4
  go_wp2
  have hc := ((((HC4.out.set 0 (.slice m0 m1 m2)).set 1 (.slice l0 l1 l2)).set 2 (.slice p0 p1 p2)).set 3 (.slice m0 m1 m2)).set 4 (.slice none 0 0)
  have hb4 : Below w.heap.size w (((((w4.setCell ⟨w.heap.size, 0, none⟩ (.slice m0 m1 m2)).setCell ⟨w.heap.size, 1, none⟩ (.slice l0 l1 l2)).setCell ⟨w.heap.size, 2, none⟩ (.slice p0 p1 p2)).setCell ⟨w.heap.size, 3, none⟩ (.slice m0 m1 m2)).setCell ⟨w.heap.size, 4, none⟩ (.slice none 0 0)) :=
    (HB.out.trans (HM4.out.bel.mono HB.out.size)).trans ((((((((But.refl w4 w.heap.size).set _ _).set _ _).set _ _).set _ _).set _ _)).below (Nat.le_of_lt HC4.out.lt) (Nat.le_refl _))
  have hbut : But w4 (((((w4.setCell ⟨w.heap.size, 0, none⟩ (.slice m0 m1 m2)).setCell ⟨w.heap.size, 1, none⟩ (.slice l0 l1 l2)).setCell ⟨w.heap.size, 2, none⟩ (.slice p0 p1 p2)).setCell ⟨w.heap.size, 3, none⟩ (.slice m0 m1 m2)).setCell ⟨w.heap.size, 4, none⟩ (.slice none 0 0)) w.heap.size := ((((((But.refl w4 w.heap.size).set _ _).set _ _).set _ _).set _ _).set _ _)
  have r1 := (Rw.of HM4.out HB.out.size HC.out.lt).but hbut
  have r2 := (Rw.of HL4.out HB.out.size HC.out.lt).but hbut
  have r3 := (Rw.of HP4.out HB.out.size HC.out.lt).but hbut
  (try simp only [Exit.inBlock, Exit.then])
  refine bodyPost_ret (results_cell_row rfl _ _ w.heap.size 105 _ (0, 0) _ rfl hc Tryz.underlying105 rfl (by kernel_rfl)) rfl ?_
  exact ⟨_, _, _, rfl, ⟨r1.1, r1.2.1, hb4⟩, ⟨r2.1, r2.2.1, hb4⟩, ⟨r3.1, r3.2.1, hb4⟩⟩

end Go.Proofs.YtmngdaolgdhgmaaGreatDoor

namespace Go.Proofs.YtmngdaolgdhgmaaGreatDoor
open Go.RowKit

theorem Rw.old {w w' : World} {v : Value} {V : Nat} (h : Re w w' v V) (o : Obj) : Rw (w'.alloc o) w.heap.size w'.heap.size v V := by
  refine ⟨h.1.below (alloc_below _ _) (Nat.le_refl _), h.2.1, fun g n c e => ?_⟩
  rcases h.1.2 with ⟨h1, _⟩ | ⟨g', cap, cur, e', hg, hh, _⟩
  · rw [h1] at e; cases e
  · rw [e'] at e
    cases e
    exact Nat.ne_of_lt (Array.getElem?_eq_some_iff.1 hh).1

/-- What Inv answers. -/
def AnsI (w w' : World) (e : Ending) (A M : Nat) : Prop :=
  (rcode M (Lg A) ≠ 0 ∧ e = .returned (.tuple #[.slice none 0 0, .int .i64 ((rcode M (Lg A) : Nat) : Int)]) ∧ Below w.heap.size w w') ∨
  (rcode M (Lg A) = 0 ∧ Nat.gcd A M ≠ 1 ∧ e = .returned (.tuple #[.slice none 0 0, .int .i64 61]) ∧ Below w.heap.size w w') ∨
  (rcode M (Lg A) = 0 ∧ ∃ Y r, Inz A M Y ∧ e = .returned (.tuple #[r, .int .i64 0]) ∧ Re w w' r Y)

theorem bl_one (D : Nat) (h : 0 < D) : decide (((bl D : Nat) : Int) > 1) = decide (D ≠ 1) := by
  by_cases h1 : D = 1
  · subst h1; decide
  · have h2 := bl_mono (show 2 ≤ D by omega)
    rw [show bl 2 = 2 by decide] at h2
    rw [decide_eq_true (show D ≠ 1 from h1), decide_eq_true (by omega)]

set_option maxHeartbeats 4000000 in
theorem minv_ref (a m : Value) (A M : Nat) (w : World) (ha : Nu w a A) (hm : Nu w m M) (h0 : rcode M (Lg A) ≠ 0) :
    Calls Tryz.prog 78 #[a, m] w fun e w' => AnsI w w' e A M := by
  obtain ⟨a0, a1, a2, rfl⟩ := ha.shape
  have C := refuse1 m _ M A w hm ha
  have hbel := alloc_below w (.cells #[.slice a0 a1 a2] 24)
  have HBl : Hid (Below w.heap.size w (w.alloc (.cells #[.slice a0 a1 a2] 24))) := hbel
  generalize hc0 : rcode M (Lg A) = c at C h0
  have hc : ((c : Int) != 0) = true := by simp; omega
  have Hc : Hid (rcode M (Lg A) = c ∧ c ≠ 0) := ⟨hc0, h0⟩
  clear ha hm h0 hbel hc0
  go_enter Tryz.func78, Tryz.ntmps78
  go_wp2
  go_step3
  go_wp2_with fail
  refine C.mono ?_
  rintro e w1 ⟨rfl, rfl⟩
  clear C
  go_wp2
  (try rw [Exit.noGoto_ret])
  go_ret2
  exact .inl ⟨by rw [Hc.out.1]; exact Hc.out.2, by rw [Hc.out.1]; rfl, HBl.out⟩

set_option maxHeartbeats 4000000 in
theorem minv_even (a m : Value) (A M : Nat) (w : World) (ha : Nu w a A) (hm : Nu w m M) (h0 : rcode M (Lg A) = 0) (hpar : M % 2 = 0) :
    Calls Tryz.prog 78 #[a, m] w fun e w' => AnsI w w' e A M := by
  obtain ⟨a0, a1, a2, rfl⟩ := ha.shape
  have C := refuse1 m _ M A w hm ha
  have hbel := alloc_below w (.cells #[.slice a0 a1 a2] 24)
  have HBl : Hid (Below w.heap.size w (w.alloc (.cells #[.slice a0 a1 a2] 24))) := hbel
  have hM : 2 ≤ M := (rcode_zero h0).2.2
  have HR0 : Hid (rcode M (Lg A) = 0) := h0
  rw [h0] at C
  have C2 := begin_v _ m A M _ (ha.below hbel (Nat.le_refl _)) (hm.below hbel (Nat.le_refl _)) (by omega)
  have HM : Hid (Nu w m M) := hm
  have Hpar : Hid (M % 2 = 0) := hpar
  clear ha hm h0 hbel hpar
  go_enter Tryz.func78, Tryz.ntmps78
  go_wp2
  go_step3
  go_wp2_with fail
  refine C.mono ?_
  rintro e w1 ⟨rfl, rfl⟩
  clear C
  go_wp2_with fail
  refine C2.mono ?_
  clear C2
  rintro e w2 ⟨m', l, x, rfl, hm', hl, hx⟩
  have H2m : Hid (Re w w2 m' M) := Re.later HBl.out hm'
  have H2l : Hid (Re w w2 l (A % M)) := Re.later HBl.out hl
  have H2x : Hid (Re w w2 x 1) := Re.later HBl.out hx
  clear hm' hl hx HBl
  obtain ⟨m0, m1, m2, rfl⟩ := H2m.out.nu.shape
  obtain ⟨l0, l1, l2, rfl⟩ := H2l.out.nu.shape
  obtain ⟨x0, x1, x2, rfl⟩ := H2x.out.nu.shape
  have HB3 : Hid (Below w.heap.size w (w2.alloc (.cells #[.slice m0 m1 m2, .slice l0 l1 l2, .slice x0 x1 x2, .slice m0 m1 m2, .slice none 0 0] 105))) := H2m.out.bel.trans ((alloc_below _ _).mono H2m.out.bel.size)
  have HS3 : Hid (Sch (w2.alloc (.cells #[.slice m0 m1 m2, .slice l0 l1 l2, .slice x0 x1 x2, .slice m0 m1 m2, .slice none 0 0] 105)) w.heap.size w2.heap.size M (A % M) 1 M 0) :=
    ⟨_, _, _, _, _, (alloc_bl w2 _ _).cl, Rw.old H2m.out _, Rw.old H2l.out _, Rw.old H2x.out _, Rw.old H2m.out _, by rw [dg_zero]; exact Ow.nil _ _, by rw [dg_zero]; exact Nat.zero_le _, fun _ _ _ e => by cases e⟩
  have Hbb : Hid (w.heap.size ≤ w2.heap.size) := H2m.out.bel.size
  have C := bit0_v m M _ _ (HM.out.below HB3.out (Nat.le_refl _))
  rw [decide_eq_false (by have := Hpar.out; omega)] at C
  clear H2m H2l H2x HM
  go_wp2_with fail
  generalize w2.alloc (.cells #[.slice m0 m1 m2, .slice l0 l1 l2, .slice x0 x1 x2, .slice m0 m1 m2, .slice none 0 0] 105) = w3 at *
  generalize w2.heap.size = b at *
  refine C.mono ?_
  clear C
  rintro e w3 ⟨rfl, rfl⟩
  go_wp2
  go_loopg [] (A % M) (fun k wr => ∃ L X D Y : Nat, Hid (Sch wr w.heap.size b M L X D Y) ∧ Hid (Inq A M L X D Y) ∧ Hid (But w3 wr b) ∧ Hid (L ≤ k))
  case atStart => exact ⟨A % M, 1, M, 0, HS3, Inq.start hM, But.refl _ _, Nat.le_refl _⟩
  case round =>
    obtain ⟨L, X, D, Y, HS, HI, HB, Hk⟩ := hrel
    have C := sdone _ b M L X D Y wr HS.out
    by_cases hL : L = 0
    · rw [decide_eq_true hL] at C
      subst hL
      go_wp2_with fail
      refine C.mono ?_
      clear C
      rintro e wf ⟨rfl, rfl⟩
      obtain ⟨vm, vl, vx, vd, vy, hst, hrm, hrl, hrx, hrd, hry⟩ := HS.out
      have g3 := hst.c3
      have g4 := hst.c4
      have C := vbits vd D _ wf hrd.nu (by decide)
      have hbd := bl_one D HI.out.hD
      have Hgcd : Hid (D = Nat.gcd A M) := HI.out.done
      have HBf : Hid (Below w.heap.size w wf) := HB3.out.trans (HB.out.below HB3.out.size Hbb.out)
      have HY : Hid (D = 1 → Inz A M Y) := fun e => by have h := HI.out; rw [e] at h; exact h.inz hM
      have HRy : Hid (Re w wf vy Y) := ⟨hry.1, hry.2.1, HBf.out⟩
      clear hst hrm hrl hrx hrd hry HS HI HB
      generalize bl D = n at C hbd
      by_cases hD : D = 1
      · rw [show decide (D ≠ 1) = false by simpa using hD] at hbd
        have HD : Hid (D = 1) := hD
        clear hD
        go_wp2_with fail
        go_step3
        go_wp2_with fail
        refine C.mono ?_
        clear C
        rintro e w9 ⟨rfl, rfl⟩
        go_wp2
        (try rw [Exit.noGoto_ret])
        go_ret2
        exact .inr (.inr ⟨HR0.out, Y, vy, HY.out HD.out, rfl, HRy.out⟩)
      · rw [show decide (D ≠ 1) = true from decide_eq_true hD] at hbd
        have HD : Hid (D ≠ 1) := hD
        clear hD
        go_wp2_with fail
        go_step3
        go_wp2_with fail
        refine C.mono ?_
        clear C
        rintro e w9 ⟨rfl, rfl⟩
        go_wp2
        (try rw [Exit.noGoto_ret])
        go_ret2
        exact .inr (.inl ⟨HR0.out, by rw [← Hgcd.out]; exact HD.out, rfl, HBf.out⟩)

    · rw [decide_eq_false hL] at C
      have HL : Hid (L ≠ 0) := hL
      clear hL
      have Hba : Hid (w.heap.size ≤ wr.heap.size) := Nat.le_trans HB3.out.size HB.out.size
      go_wp2_with fail
      refine C.mono ?_
      clear C
      rintro e wf ⟨rfl, rfl⟩
      go_wp2_with fail
      refine (divide_v _ b M L X D Y wf HS.out Hba.out HL.out HI.out.hx HI.out.hy).mono ?_
      rintro e w5 ⟨rfl, hs5, hb5⟩
      have HS5 : Hid (Sch w5 w.heap.size b M (D % L) (lessV M Y (D / L * X % M)) L X) := hs5
      have HI5 : Hid (Inq A M (D % L) (lessV M Y (D / L * X % M)) L X) := HI.out.divide (Nat.pos_of_ne_zero HL.out)
      have HB5 : Hid (But w3 w5 b) := HB.out.trans hb5
      have Hk5 : Hid (D % L < gk) := Nat.lt_of_lt_of_le (Nat.mod_lt D (Nat.pos_of_ne_zero HL.out)) Hk.out
      clear hs5 hb5 HS HI HB Hk
      go_wp2
      go_roundg (D % L)
      case measure => exact Hk5.out
      case rel => exact ⟨_, _, _, _, HS5, HI5, HB5, Nat.le_refl _⟩
set_option maxHeartbeats 4000000 in
theorem minv_odd (a m : Value) (A M : Nat) (w : World) (ha : Nu w a A) (hm : Nu w m M) (h0 : rcode M (Lg A) = 0) (hpar : M % 2 = 1) :
    Calls Tryz.prog 78 #[a, m] w fun e w' => AnsI w w' e A M := by
  obtain ⟨a0, a1, a2, rfl⟩ := ha.shape
  have C := refuse1 m _ M A w hm ha
  have hbel := alloc_below w (.cells #[.slice a0 a1 a2] 24)
  have HBl : Hid (Below w.heap.size w (w.alloc (.cells #[.slice a0 a1 a2] 24))) := hbel
  have hM : 2 ≤ M := (rcode_zero h0).2.2
  have HR0 : Hid (rcode M (Lg A) = 0) := h0
  rw [h0] at C
  have C2 := begin_v _ m A M _ (ha.below hbel (Nat.le_refl _)) (hm.below hbel (Nat.le_refl _)) (by omega)
  have HM : Hid (Nu w m M) := hm
  have Hpar : Hid (M % 2 = 1) := hpar
  clear ha hm h0 hbel hpar
  go_enter Tryz.func78, Tryz.ntmps78
  go_wp2
  refine wp_scope_jumps 0 (fun a' w' => ∃ (b X D Y : Nat) (u0 u1 u2 u3 u4 u5 u6 u8 u9 u10 u11 u12 u13 u14 u15 u16 u17 u18 u19 u20 u21 u22 u23 u24 u25 u26 u27 u28 u29 u30 u31 : Value), a' = { tmps := #[u0, u1, u2, u3, u4, u5, u6, .pointer (some ⟨b, 0, none⟩), u8, u9, u10, u11, u12, u13, u14, u15, u16, u17, u18, u19, u20, u21, u22, u23, u24, u25, u26, u27, u28, u29, u30, u31], defers := [] } ∧ Hid (Sch w' w.heap.size b M 0 X D Y) ∧ Hid (Inq A M 0 X D Y) ∧ Hid (Below w.heap.size w w')) (fun _ _ => 0) rfl ?first ?pass
  case first =>
    go_wp2_with fail
    refine C.mono ?_
    rintro e w1 ⟨rfl, rfl⟩
    clear C
    go_wp2_with fail
    refine C2.mono ?_
    clear C2
    rintro e w2 ⟨m', l, x, rfl, hm', hl, hx⟩
    have H2m : Hid (Re w w2 m' M) := Re.later HBl.out hm'
    have H2l : Hid (Re w w2 l (A % M)) := Re.later HBl.out hl
    have H2x : Hid (Re w w2 x 1) := Re.later HBl.out hx
    clear hm' hl hx HBl
    obtain ⟨m0, m1, m2, rfl⟩ := H2m.out.nu.shape
    obtain ⟨l0, l1, l2, rfl⟩ := H2l.out.nu.shape
    obtain ⟨x0, x1, x2, rfl⟩ := H2x.out.nu.shape
    have HB3 : Hid (Below w.heap.size w (w2.alloc (.cells #[.slice m0 m1 m2, .slice l0 l1 l2, .slice x0 x1 x2, .slice m0 m1 m2, .slice none 0 0] 105))) := H2m.out.bel.trans ((alloc_below _ _).mono H2m.out.bel.size)
    have HS3 : Hid (Sch (w2.alloc (.cells #[.slice m0 m1 m2, .slice l0 l1 l2, .slice x0 x1 x2, .slice m0 m1 m2, .slice none 0 0] 105)) w.heap.size w2.heap.size M (A % M) 1 M 0) :=
      ⟨_, _, _, _, _, (alloc_bl w2 _ _).cl, Rw.old H2m.out _, Rw.old H2l.out _, Rw.old H2x.out _, Rw.old H2m.out _, by rw [dg_zero]; exact Ow.nil _ _, by rw [dg_zero]; exact Nat.zero_le _, fun _ _ _ e => by cases e⟩
    have Hbb : Hid (w.heap.size ≤ w2.heap.size) := H2m.out.bel.size
    have C := bit0_v m M _ _ (HM.out.below HB3.out (Nat.le_refl _))
    rw [decide_eq_true Hpar.out] at C
    clear H2m H2l H2x HM
    go_wp2_with fail
    generalize w2.alloc (.cells #[.slice m0 m1 m2, .slice l0 l1 l2, .slice x0 x1 x2, .slice m0 m1 m2, .slice none 0 0] 105) = w3 at *
    generalize w2.heap.size = b at *
    refine C.mono ?_
    clear C
    rintro e w3 ⟨rfl, rfl⟩
    go_wp2
    go_loopg [] (A % M + M) (fun k wr => ∃ L X D Y : Nat, Hid (Sch wr w.heap.size b M L X D Y) ∧ Hid (Inq A M L X D Y) ∧ Hid (But w3 wr b) ∧ Hid (L + D ≤ k) ∧ Hid (D % 2 = 1))
    case atStart => exact ⟨A % M, 1, M, 0, HS3, Inq.start hM, But.refl _ _, Nat.le_refl _, Hpar⟩
    case round =>
      obtain ⟨L, X, D, Y, HS, HI, HB, Hk, HO⟩ := hrel
      have C := sdone _ b M L X D Y wr HS.out
      by_cases hL : L = 0
      · rw [decide_eq_true hL] at C
        subst hL
        go_wp2_with fail
        refine C.mono ?_
        clear C
        rintro e wf ⟨rfl, rfl⟩
        have HBf : Hid (Below w.heap.size w wf) := HB3.out.trans (HB.out.below HB3.out.size Hbb.out)
        go_wp2_with fail
        go_step3
        (try simp only [Exit.then])
        exact ⟨rfl, b, X, D, Y, _, _, _, _, _, _, _, _, _, _, _, _, _, _, _, _, _, _, _, _, _, _, _, _, _, _, _, _, _, _, _, rfl, HS, HI, HBf⟩
      · rw [decide_eq_false hL] at C
        have HL : Hid (L ≠ 0) := hL
        clear hL
        have Hba : Hid (w.heap.size ≤ wr.heap.size) := Nat.le_trans HB3.out.size HB.out.size
        go_wp2_with fail
        refine C.mono ?_
        clear C
        rintro e wf ⟨rfl, rfl⟩
        have Hpos : Hid (0 < L) := Nat.pos_of_ne_zero HL.out
        by_cases hev : L % 2 = 0
        · have C := halve_even _ b M L X D Y wf HS.out Hba.out hev HI.out.hx
          have HI5 : Hid (Inq A M (L / 2) (halfV M X) D Y) := HI.out.half Hpar.out HO.out hev
          have Hk5 : Hid (L / 2 + D < gk) := by show _ < _; have := Hk.out; have := Hpos.out; omega
          clear hev
          go_wp2_with fail
          refine C.mono ?_
          clear C
          rintro e w5 ⟨rfl, hs5, hb5⟩
          have HS5 : Hid (Sch w5 w.heap.size b M (L / 2) (halfV M X) D Y) := hs5
          have HB5 : Hid (But w3 w5 b) := HB.out.trans hb5
          clear hs5 hb5 HS HI HB Hk
          go_wp2
          go_roundg (L / 2 + D)
          case measure => exact Hk5.out
          case rel => exact ⟨_, _, _, _, HS5, HI5, HB5, Nat.le_refl _, HO⟩
        · have hod : L % 2 = 1 := by omega
          clear hev
          by_cases hlt : L < D
          · have C := halve_lt _ b M L X D Y wf HS.out Hba.out hod HI.out.hx HI.out.hy hlt
            have HI5 : Hid (Inq A M (D - L) (lessV M Y X) L X) := (HI.out.swap Hpos.out).sub (by omega)
            have Hk5 : Hid (D - L + L < gk) := by show _ < _; have := Hk.out; have := Hpos.out; omega
            have HO5 : Hid (L % 2 = 1) := hod
            clear hod hlt
            go_wp2_with fail
            refine C.mono ?_
            clear C
            rintro e w5 ⟨rfl, hs5, hb5⟩
            have HS5 : Hid (Sch w5 w.heap.size b M (D - L) (lessV M Y X) L X) := hs5
            have HB5 : Hid (But w3 w5 b) := HB.out.trans hb5
            clear hs5 hb5 HS HI HB Hk
            go_wp2
            go_roundg (D - L + L)
            case measure => exact Hk5.out
            case rel => exact ⟨_, _, _, _, HS5, HI5, HB5, Nat.le_refl _, HO5⟩
          · have C := halve_ge _ b M L X D Y wf HS.out Hba.out hod HI.out.hx HI.out.hy (by omega)
            have HI5 : Hid (Inq A M (L - D) (lessV M X Y) D Y) := HI.out.sub (by omega)
            have Hk5 : Hid (L - D + D < gk) := by show _ < _; have := Hk.out; have := HI.out.hD; omega
            clear hod hlt
            go_wp2_with fail
            refine C.mono ?_
            clear C
            rintro e w5 ⟨rfl, hs5, hb5⟩
            have HS5 : Hid (Sch w5 w.heap.size b M (L - D) (lessV M X Y) D Y) := hs5
            have HB5 : Hid (But w3 w5 b) := HB.out.trans hb5
            clear hs5 hb5 HS HI HB Hk
            go_wp2
            go_roundg (L - D + D)
            case measure => exact Hk5.out
            case rel => exact ⟨_, _, _, _, HS5, HI5, HB5, Nat.le_refl _, HO⟩
  case pass =>
    rintro a' wf ⟨b, X, D, Y, u0, u1, u2, u3, u4, u5, u6, u8, u9, u10, u11, u12, u13, u14, u15, u16, u17, u18, u19, u20, u21, u22, u23, u24, u25, u26, u27, u28, u29, u30, u31, rfl, HS, HI, HBf⟩
    obtain ⟨vm, vl, vx, vd, vy, hst, hrm, hrl, hrx, hrd, hry⟩ := HS.out
    have g3 := hst.c3
    have g4 := hst.c4
    have C := vbits vd D _ wf hrd.nu (by decide)
    have hbd := bl_one D HI.out.hD
    have Hgcd : Hid (D = Nat.gcd A M) := HI.out.done
    have HY : Hid (D = 1 → Inz A M Y) := fun e => by have h := HI.out; rw [e] at h; exact h.inz hM
    have HRy : Hid (Re w wf vy Y) := ⟨hry.1, hry.2.1, HBf.out⟩
    clear hst hrm hrl hrx hrd hry HS HI
    generalize bl D = n at C hbd
    by_cases hD : D = 1
    · rw [show decide (D ≠ 1) = false by simpa using hD] at hbd
      have HD : Hid (D = 1) := hD
      clear hD
      go_wp2_with fail
      refine C.mono ?_
      clear C
      rintro e w9 ⟨rfl, rfl⟩
      go_wp2
      (try simp only [Exit.jump])
      go_ret2
      exact .inr (.inr ⟨HR0.out, Y, vy, HY.out HD.out, rfl, HRy.out⟩)
    · rw [show decide (D ≠ 1) = true from decide_eq_true hD] at hbd
      have HD : Hid (D ≠ 1) := hD
      clear hD
      go_wp2_with fail
      refine C.mono ?_
      clear C
      rintro e w9 ⟨rfl, rfl⟩
      go_wp2
      (try simp only [Exit.jump])
      go_ret2
      exact .inr (.inl ⟨HR0.out, by rw [← Hgcd.out]; exact HD.out, rfl, HBf.out⟩)

theorem minv_v (a m : Value) (A M : Nat) (w : World) (ha : Nu w a A) (hm : Nu w m M) : Calls Tryz.prog 78 #[a, m] w fun e w' => AnsI w w' e A M := by
  by_cases h0 : rcode M (Lg A) = 0
  · rcases (by omega : M % 2 = 0 ∨ M % 2 = 1) with h | h
    · exact minv_even a m A M w ha hm h0 h
    · exact minv_odd a m A M w ha hm h0 h
  · exact minv_ref a m A M w ha hm h0

end Go.Proofs.YtmngdaolgdhgmaaGreatDoor

namespace Go.Proofs.YtmngdaolgdhgmaaGreatDoor
open Go.RowKit

theorem dg_small {v : Nat} (h0 : v ≠ 0) (h : v < 4294967296) : dg Bs v = [v] := by
  rw [dg_pos Bs_two h0, Bs_eq, Nat.mod_eq_of_lt h, Nat.div_eq_of_lt h, dg_zero]
/-- A number of the call's own. -/
def Om (w : World) (v : Value) (V : Nat) : Prop := Ow w 0 v (dg Bs V) ∧ (dg Bs V).length ≤ 3000000
theorem Om.nu {w : World} {v : Value} {V : Nat} (h : Om w v V) : Nu w v V := h.1.vl h.2
theorem Om.nm {w : World} {v : Value} {V : Nat} (h : Om w v V) : Nm w v (dg Bs V) := h.1.nm (dg_sm Bs_two V)
theorem Om.below {w w' : World} {v : Value} {V n : Nat} (h : Om w v V) (hb : Below n w w') (hn : w.heap.size ≤ n) : Om w' v V := ⟨h.1.below hb hn, h.2⟩
theorem Om.drewN {w : World} {v : Value} {V : Nat} (h : Om w v V) (q : Nat) : Om (w.drewN q) v V := h
end Go.Proofs.YtmngdaolgdhgmaaGreatDoor

namespace Go.Proofs.YtmngdaolgdhgmaaGreatDoor
open Go.RowKit

theorem rcode_ok {M : Nat} {b : Bool} (h1 : Lg M = false) (h2 : b = false) (h3 : 2 ≤ M) : rcode M b = 0 := by
  unfold rcode
  rw [h1, h2, if_neg (by simp), if_neg (by omega)]
theorem Ans.ok {w w' : World} {e : Ending} {c V : Nat} (h : Ans w w' e c V) (hc : c = 0) : ∃ r, e = .returned (.tuple #[r, .int .i64 0]) ∧ Re w w' r V := by
  rcases h with ⟨h, _⟩ | ⟨_, h⟩
  · exact absurd hc h
  · exact h
theorem Ans.bad {w w' : World} {e : Ending} {c V : Nat} (h : Ans w w' e c V) (hc : c ≠ 0) : e = .returned (.tuple #[.slice none 0 0, .int .i64 (c : Int)]) ∧ Below w.heap.size w w' := by
  rcases h with ⟨_, h⟩ | ⟨h, _⟩
  · exact h
  · exact absurd h hc

end Go.Proofs.YtmngdaolgdhgmaaGreatDoor

namespace Go.Proofs.YtmngdaolgdhgmaaGreatDoor
open Go.RowKit

theorem rc0 {M A B : Nat} (hM : 2 ≤ M) (lM : Lg M = false) (lA : Lg A = false) (lB : Lg B = false) : rcode M (Lg A || Lg B) = 0 := rcode_ok lM (by rw [lA, lB]; rfl) hM
end Go.Proofs.YtmngdaolgdhgmaaGreatDoor

namespace Go.Proofs.YtmngdaolgdhgmaaGreatDoor
open Go.RowKit

/-- What Inv answers where there is an inverse. -/
theorem AnsI.ok {w w' : World} {e : Ending} {A M Y : Nat} (h : AnsI w w' e A M) (hc : rcode M (Lg A) = 0) (hy : Inz A M Y) : ∃ r, e = .returned (.tuple #[r, .int .i64 0]) ∧ Re w w' r Y := by
  rcases h with ⟨h, _⟩ | ⟨_, h, _⟩ | ⟨_, Z, r, h1, h2, h3⟩
  · exact absurd hc h
  · exact absurd hy.gcd h
  · rw [hy.one h1]; exact ⟨r, h2, h3⟩
theorem AnsI.bad {w w' : World} {e : Ending} {A M : Nat} (h : AnsI w w' e A M) (hc : rcode M (Lg A) ≠ 0) : e = .returned (.tuple #[.slice none 0 0, .int .i64 ((rcode M (Lg A) : Nat) : Int)]) ∧ Below w.heap.size w w' := by
  rcases h with ⟨_, h⟩ | ⟨h, _⟩ | ⟨h, _⟩
  · exact h
  · exact absurd h hc
  · exact absurd h hc
end Go.Proofs.YtmngdaolgdhgmaaGreatDoor
