import Derived.Test.YtdhfjhdlimmjhaaGreatDoorQIZ
import Derived.Test.YtdhfjhdlimmjhaaGreatDoorQDZ
import Derived.Test.YtdhfjhdlimmjhaaGreatDoorRAll
namespace Go.Proofs.YtdhfjhdlimmjhaaGreatDoor
open Go.RowKit
set_option maxRecDepth 100000

theorem rhash22_any (a : Int) (w : World) : Calls Tryz.prog 14 #[.int .i64 a] w fun e w' => e = .returned (.int .i64 (hhF a)) ∧ w' = w := by
  rcases hh_cases a with h | ⟨h0, h⟩
  · rcases h with rfl | rfl | rfl | rfl | rfl | rfl | rfl | rfl | rfl | rfl | rfl | rfl <;>
    · go_enter Tryz.func14, Tryz.ntmps14
      go_wp2
      go_ret
      exact ⟨rfl, rfl⟩
  · rw [h0]
    have d1 := h 1 (by omega) (by omega)
    have d2 := h 2 (by omega) (by omega)
    have d3 := h 3 (by omega) (by omega)
    have d4 := h 4 (by omega) (by omega)
    have d5 := h 5 (by omega) (by omega)
    have d6 := h 6 (by omega) (by omega)
    have d7 := h 7 (by omega) (by omega)
    have d8 := h 8 (by omega) (by omega)
    have d9 := h 9 (by omega) (by omega)
    have d10 := h 10 (by omega) (by omega)
    have d11 := h 11 (by omega) (by omega)
    have d12 := h 12 (by omega) (by omega)
    clear h h0
    go_enter Tryz.func14, Tryz.ntmps14
    go_wp2
    go_ret
    exact ⟨rfl, rfl⟩


def checkD (q : Qs) : Int := if badF q = true then 12 else if (hhF q.alg == 0) = true then 111 else if lackQ q = true then 137 else if (!decide (q.client ∈ q.c.aud)) = true then 133 else if azpD q.c.val q.c.aud q.client = true then 151 else if (q.hasN && !sayF (nM q.c.val kNonce) q.nonce) = true then 150 else if hashD q.c.val q.alg q.access q.hasA q.code q.hasC = true then 152 else if (q.hasAge && oldD q.c.val q.age q.lee q.now) = true then 153 else 0

set_option maxRecDepth 100000 in
set_option maxHeartbeats 16000000 in
theorem rcheck22_any (c : Cm) (va : Option Addr) (vc : Nat) (aa : Option Addr) (ac : Nat) (tcl : List UInt8) (tno : List UInt8) (thN : Bool) (tac : List UInt8) (thA : Bool) (tco : List UInt8) (thC : Bool) (tag : Int) (thG : Bool) (tle : Int) (w : World) (H : LA w c va vc aa ac) (hs : shapedF c.val = true) (alg now : Int) (hF : ∀ (t : List UInt8) (wq : World), t.length ≤ 100000000 → Below w.heap.size w wq → Calls Tryz.prog 32 #[.int .i64 alg, .string ⟨t.toArray⟩] wq fun e w' => e = .returned (.tuple #[.string ⟨(halfF alg t).1.toArray⟩, .int .i64 ((halfF alg t).2 : Nat)]) ∧ Below wq.heap.size wq w') (h1 : tac.length ≤ 100000000) (h2 : tco.length ≤ 100000000) :
    Calls Tryz.prog 10 #[.agg #[.slice va c.val.length vc, .string ⟨c.iss.toArray⟩, .bool c.hIss, .string ⟨c.sub.toArray⟩, .bool c.hSub, .slice aa c.aud.length ac, .bool c.hAud, .string ⟨c.jti.toArray⟩, .bool c.hJti, .bool c.exp.has, .int .i64 c.exp.at_, .bool c.nbf.has, .int .i64 c.nbf.at_, .bool c.iat.has, .int .i64 c.iat.at_], .int .i64 alg, .agg #[.string ⟨tcl.toArray⟩, .string ⟨tno.toArray⟩, .bool thN, .string ⟨tac.toArray⟩, .bool thA, .string ⟨tco.toArray⟩, .bool thC, .int .i64 tag, .bool thG, .int .i64 tle], .int .i64 now] w fun e w' => e = .returned (.int .i64 (checkD (mkQ c va vc aa ac alg ⟨tcl, tno, thN, tac, thA, tco, thC, tag, thG, tle⟩ now))) ∧ Below w.heap.size w w' := by
  obtain ⟨W, hW⟩ : ∃ x, ((w.alloc (.cells #[.slice va c.val.length vc, .string ⟨c.iss.toArray⟩, .bool c.hIss, .string ⟨c.sub.toArray⟩, .bool c.hSub, .slice aa c.aud.length ac, .bool c.hAud, .string ⟨c.jti.toArray⟩, .bool c.hJti, .bool c.exp.has, .int .i64 c.exp.at_, .bool c.nbf.has, .int .i64 c.nbf.at_, .bool c.iat.has, .int .i64 c.iat.at_] 27)).alloc (.cells #[.string ⟨tcl.toArray⟩, .string ⟨tno.toArray⟩, .bool thN, .string ⟨tac.toArray⟩, .bool thA, .string ⟨tco.toArray⟩, .bool thC, .int .i64 tag, .bool thG, .int .i64 tle] 30)) = x := ⟨_, rfl⟩
  have HBW : Hid (Below w.heap.size w W) := by
    rw [← hW]
    have h1 := alloc_below9 w (.cells #[.slice va c.val.length vc, .string ⟨c.iss.toArray⟩, .bool c.hIss, .string ⟨c.sub.toArray⟩, .bool c.hSub, .slice aa c.aud.length ac, .bool c.hAud, .string ⟨c.jti.toArray⟩, .bool c.hJti, .bool c.exp.has, .int .i64 c.exp.at_, .bool c.nbf.has, .int .i64 c.nbf.at_, .bool c.iat.has, .int .i64 c.iat.at_] 27)
    exact h1.trans ((alloc_below9 _ _).mono h1.size)
  have HBc : Hid (∀ wq, Below W.heap.size W wq → Bl 27 wq w.heap.size [.slice va c.val.length vc, .string ⟨c.iss.toArray⟩, .bool c.hIss, .string ⟨c.sub.toArray⟩, .bool c.hSub, .slice aa c.aud.length ac, .bool c.hAud, .string ⟨c.jti.toArray⟩, .bool c.hJti, .bool c.exp.has, .int .i64 c.exp.at_, .bool c.nbf.has, .int .i64 c.nbf.at_, .bool c.iat.has, .int .i64 c.iat.at_]) := fun wq hq => by
    have h1 : Bl 27 _ w.heap.size [.slice va c.val.length vc, .string ⟨c.iss.toArray⟩, .bool c.hIss, .string ⟨c.sub.toArray⟩, .bool c.hSub, .slice aa c.aud.length ac, .bool c.hAud, .string ⟨c.jti.toArray⟩, .bool c.hJti, .bool c.exp.has, .int .i64 c.exp.at_, .bool c.nbf.has, .int .i64 c.nbf.at_, .bool c.iat.has, .int .i64 c.iat.at_] := alloc_bl w [.slice va c.val.length vc, .string ⟨c.iss.toArray⟩, .bool c.hIss, .string ⟨c.sub.toArray⟩, .bool c.hSub, .slice aa c.aud.length ac, .bool c.hAud, .string ⟨c.jti.toArray⟩, .bool c.hJti, .bool c.exp.has, .int .i64 c.exp.at_, .bool c.nbf.has, .int .i64 c.nbf.at_, .bool c.iat.has, .int .i64 c.iat.at_] 27
    have h2 : Bl 27 W w.heap.size [.slice va c.val.length vc, .string ⟨c.iss.toArray⟩, .bool c.hIss, .string ⟨c.sub.toArray⟩, .bool c.hSub, .slice aa c.aud.length ac, .bool c.hAud, .string ⟨c.jti.toArray⟩, .bool c.hJti, .bool c.exp.has, .int .i64 c.exp.at_, .bool c.nbf.has, .int .i64 c.nbf.at_, .bool c.iat.has, .int .i64 c.iat.at_] := by rw [← hW]; exact h1.below (alloc_below9 _ _) h1.lt
    exact h2.below hq h2.lt
  have HBt : Hid (∀ wq, Below W.heap.size W wq → Bl 30 wq (w.heap.size + 1) [.string ⟨tcl.toArray⟩, .string ⟨tno.toArray⟩, .bool thN, .string ⟨tac.toArray⟩, .bool thA, .string ⟨tco.toArray⟩, .bool thC, .int .i64 tag, .bool thG, .int .i64 tle]) := fun wq hq => by
    have h1 := alloc_bl (w.alloc (.cells #[.slice va c.val.length vc, .string ⟨c.iss.toArray⟩, .bool c.hIss, .string ⟨c.sub.toArray⟩, .bool c.hSub, .slice aa c.aud.length ac, .bool c.hAud, .string ⟨c.jti.toArray⟩, .bool c.hJti, .bool c.exp.has, .int .i64 c.exp.at_, .bool c.nbf.has, .int .i64 c.nbf.at_, .bool c.iat.has, .int .i64 c.iat.at_] 27)) [.string ⟨tcl.toArray⟩, .string ⟨tno.toArray⟩, .bool thN, .string ⟨tac.toArray⟩, .bool thA, .string ⟨tco.toArray⟩, .bool thC, .int .i64 tag, .bool thG, .int .i64 tle] 30
    rw [alloc_size] at h1
    have h2 : Bl 30 W (w.heap.size + 1) [.string ⟨tcl.toArray⟩, .string ⟨tno.toArray⟩, .bool thN, .string ⟨tac.toArray⟩, .bool thA, .string ⟨tco.toArray⟩, .bool thC, .int .i64 tag, .bool thG, .int .i64 tle] := by rw [← hW]; exact h1
    exact h2.below hq h2.lt
  have HW : Hid (((w.alloc (.cells #[.slice va c.val.length vc, .string ⟨c.iss.toArray⟩, .bool c.hIss, .string ⟨c.sub.toArray⟩, .bool c.hSub, .slice aa c.aud.length ac, .bool c.hAud, .string ⟨c.jti.toArray⟩, .bool c.hJti, .bool c.exp.has, .int .i64 c.exp.at_, .bool c.nbf.has, .int .i64 c.nbf.at_, .bool c.iat.has, .int .i64 c.iat.at_] 27)).alloc (.cells #[.string ⟨tcl.toArray⟩, .string ⟨tno.toArray⟩, .bool thN, .string ⟨tac.toArray⟩, .bool thA, .string ⟨tco.toArray⟩, .bool thC, .int .i64 tag, .bool thG, .int .i64 tle] 30)) = W) := hW
  have HLq : Hid (∀ wq, Below W.heap.size W wq → LA wq c va vc aa ac) := fun wq hq => H.below (HBW.out.trans (hq.mono HBW.out.size))
  have HSp : Hid (shapedF c.val = true) := hs
  clear hW H hs
  have HFq : Hid (∀ (t : List UInt8) (wq : World), t.length ≤ 100000000 → Below w.heap.size w wq → Calls Tryz.prog 32 #[.int .i64 alg, .string ⟨t.toArray⟩] wq fun e w' => e = .returned (.tuple #[.string ⟨(halfF alg t).1.toArray⟩, .int .i64 ((halfF alg t).2 : Nat)]) ∧ Below wq.heap.size wq w') := hF
  have HI : Hid (tac.length ≤ 100000000 ∧ tco.length ≤ 100000000) := ⟨h1, h2⟩
  clear hF h1 h2
  obtain ⟨b0, hb0⟩ : ∃ x, badF (mkQ c va vc aa ac alg ⟨tcl, tno, thN, tac, thA, tco, thC, tag, thG, tle⟩ now) = x := ⟨_, rfl⟩
  have HBo0 : Hid (badF (mkQ c va vc aa ac alg ⟨tcl, tno, thN, tac, thA, tco, thC, tag, thG, tle⟩ now) = b0) := hb0
  obtain ⟨b1, hb1⟩ : ∃ x, (hhF alg == 0) = x := ⟨_, rfl⟩
  have HBo1 : Hid ((hhF alg == 0) = b1) := hb1
  obtain ⟨b2, hb2⟩ : ∃ x, lackQ (mkQ c va vc aa ac alg ⟨tcl, tno, thN, tac, thA, tco, thC, tag, thG, tle⟩ now) = x := ⟨_, rfl⟩
  have HBo2 : Hid (lackQ (mkQ c va vc aa ac alg ⟨tcl, tno, thN, tac, thA, tco, thC, tag, thG, tle⟩ now) = b2) := hb2
  obtain ⟨b3, hb3⟩ : ∃ x, (!decide (tcl ∈ c.aud)) = x := ⟨_, rfl⟩
  have HBo3 : Hid ((!decide (tcl ∈ c.aud)) = b3) := hb3
  obtain ⟨b4, hb4⟩ : ∃ x, azpD c.val c.aud tcl = x := ⟨_, rfl⟩
  have HBo4 : Hid (azpD c.val c.aud tcl = b4) := hb4
  obtain ⟨b5, hb5⟩ : ∃ x, (thN && !sayF (nM c.val kNonce) tno) = x := ⟨_, rfl⟩
  have HBo5 : Hid ((thN && !sayF (nM c.val kNonce) tno) = b5) := hb5
  obtain ⟨b6, hb6⟩ : ∃ x, hashD c.val alg tac thA tco thC = x := ⟨_, rfl⟩
  have HBo6 : Hid (hashD c.val alg tac thA tco thC = b6) := hb6
  obtain ⟨b7, hb7⟩ : ∃ x, (thG && oldD c.val tag tle now) = x := ⟨_, rfl⟩
  have HBo7 : Hid ((thG && oldD c.val tag tle now) = b7) := hb7
  have HC : Hid (checkD (mkQ c va vc aa ac alg ⟨tcl, tno, thN, tac, thA, tco, thC, tag, thG, tle⟩ now) = (if b0 = true then 12 else if b1 = true then 111 else if b2 = true then 137 else if b3 = true then 133 else if b4 = true then 151 else if b5 = true then 150 else if b6 = true then 152 else if b7 = true then 153 else 0)) := by rw [← hb0, ← hb1, ← hb2, ← hb3, ← hb4, ← hb5, ← hb6, ← hb7]; rfl
  clear hb0 hb1 hb2 hb3 hb4 hb5 hb6 hb7
  have hwt : ∀ l : List Value, l.length = 10 → (Tryz.prog.info? 30).map (·.size) = some l.length := fun l hl => by rw [hl]; kernel_rfl
  have hcl : ∀ l : List Value, l.length = 15 → (Tryz.prog.info? 27).map (·.size) = some l.length := fun l hl => by rw [hl]; kernel_rfl
  have HBr : Hid (Below W.heap.size W W) := Below.refl _ _
  go_enter Tryz.func10, Tryz.ntmps10
  go_upto_region 1 with fail
  rw [HW.out]
  clear HW
  have y9 : W.cell? ⟨w.heap.size + 1, 9, none⟩ = some (.int .i64 tle) := (HBt.out W HBr.out).cell 9 (Nat.le_of_ble_eq_true rfl)
  have y8 : W.cell? ⟨w.heap.size + 1, 8, none⟩ = some (.bool thG) := (HBt.out W HBr.out).cell 8 (Nat.le_of_ble_eq_true rfl)
  have y7 : W.cell? ⟨w.heap.size + 1, 7, none⟩ = some (.int .i64 tag) := (HBt.out W HBr.out).cell 7 (Nat.le_of_ble_eq_true rfl)
  go_cut [32] from 11 to 32 (fun s wx => s = .bool b0 ∧ wx = W)
  case first =>
    have e := HBo0.out
    have e : (decide (tle < 0) || decide (600 < tle) || (thG && (decide (tag < 0) || decide (2147483648 < tag)))) = b0 := e
    clear HBo0 HBo1 HBo2 HBo3 HBo4 HBo5 HBo6 HBo7 HC
    by_cases q1 : tle < 0
    · have d1 : decide (tle < 0) = true := decide_eq_true q1
      rw [d1, Bool.true_or, Bool.true_or] at e
      subst e
      go_wp2
      go_meet
      exact ⟨rfl, rfl⟩
    · have d1 : decide (tle < 0) = false := decide_eq_false q1
      by_cases q2 : 600 < tle
      · have d2 : decide (600 < tle) = true := decide_eq_true q2
        have d2' : decide (tle > 600) = true := decide_eq_true q2
        rw [d1, d2, Bool.false_or, Bool.true_or] at e
        subst e
        go_wp2
        go_meet
        exact ⟨rfl, rfl⟩
      · have d2 : decide (600 < tle) = false := decide_eq_false q2
        have d2' : decide (tle > 600) = false := decide_eq_false q2
        rw [d1, d2, Bool.false_or, Bool.false_or] at e
        cases thG
        · rw [Bool.false_and] at e
          subst e
          go_wp2
          go_meet
          exact ⟨rfl, rfl⟩
        · rw [Bool.true_and] at e
          by_cases q3 : tag < 0
          · have d3 : decide (tag < 0) = true := decide_eq_true q3
            rw [d3, Bool.true_or] at e
            subst e
            go_wp2
            go_meet
            exact ⟨rfl, rfl⟩
          · have d3 : decide (tag < 0) = false := decide_eq_false q3
            rw [d3, Bool.false_or] at e
            have d4 : decide (tag > 2147483648) = b0 := e
            go_wp2
            go_meet
            exact ⟨by first | rfl | rw [e] | rw [d4] | (congr 1; done), rfl⟩
  case rest =>
  obtain ⟨rfl, hcw⟩ := hcut
  have hcw2 := hcw.symm
  subst hcw2
  clear y9 y8 y7
  cases b0
  rotate_left
  · go_wp2
    go_ret
    exact ⟨by rw [HC.out]; rfl, HBW.out.trans (HBr.out.mono HBW.out.size)⟩
  have CH := rhash22_any alg W
  go_wp2_with fail
  refine CH.mono ?_
  clear CH
  rintro e wd ⟨rfl, ew⟩
  obtain rfl := ew.symm
  have q1 := HBo1.out
  obtain ⟨hh, hhh⟩ : ∃ x, hhF alg = x := ⟨_, rfl⟩
  rw [hhh] at q1 ⊢
  go_upto_if 35 with fail
  clear q1
  cases b1
  rotate_left
  · go_wp2
    go_ret
    exact ⟨by rw [HC.out]; rfl, HBW.out.trans (HBr.out.mono HBW.out.size)⟩
  go_upto_region 5 with fail
  have y2 : W.cell? ⟨w.heap.size, 2, none⟩ = some (.bool c.hIss) := (HBc.out W HBr.out).cell 2 (Nat.le_of_ble_eq_true rfl)
  have y4 : W.cell? ⟨w.heap.size, 4, none⟩ = some (.bool c.hSub) := (HBc.out W HBr.out).cell 4 (Nat.le_of_ble_eq_true rfl)
  have y6 : W.cell? ⟨w.heap.size, 6, none⟩ = some (.bool c.hAud) := (HBc.out W HBr.out).cell 6 (Nat.le_of_ble_eq_true rfl)
  have y9 : W.cell? ⟨w.heap.size, 9, none⟩ = some (.bool c.exp.has) := (HBc.out W HBr.out).cell 9 (Nat.le_of_ble_eq_true rfl)
  have y13 : W.cell? ⟨w.heap.size, 13, none⟩ = some (.bool c.iat.has) := (HBc.out W HBr.out).cell 13 (Nat.le_of_ble_eq_true rfl)
  go_cut [60] from 36 to 60 (fun s wx => s = .bool b2 ∧ wx = W)
  case first =>
    have e := HBo2.out
    have e : (!c.hIss || !c.hSub || !c.hAud || !c.exp.has || !c.iat.has) = b2 := e
    clear HBo0 HBo1 HBo2 HBo3 HBo4 HBo5 HBo6 HBo7 HC
    obtain ⟨x1, hx1⟩ : ∃ x, c.hIss = x := ⟨_, rfl⟩
    rw [hx1] at e y2
    clear hx1
    obtain ⟨x2, hx2⟩ : ∃ x, c.hSub = x := ⟨_, rfl⟩
    rw [hx2] at e y4
    clear hx2
    obtain ⟨x3, hx3⟩ : ∃ x, c.hAud = x := ⟨_, rfl⟩
    rw [hx3] at e y6
    clear hx3
    obtain ⟨x4, hx4⟩ : ∃ x, c.exp.has = x := ⟨_, rfl⟩
    rw [hx4] at e y9
    clear hx4
    obtain ⟨x5, hx5⟩ : ∃ x, c.iat.has = x := ⟨_, rfl⟩
    rw [hx5] at e y13
    clear hx5
    cases x1
    · have e2 : true = b2 := by rw [← e]; simp
      subst e2
      go_wp2
      go_meet
      exact ⟨rfl, rfl⟩
    · skip
      cases x2
      · have e2 : true = b2 := by rw [← e]; simp
        subst e2
        go_wp2
        go_meet
        exact ⟨rfl, rfl⟩
      · skip
        cases x3
        · have e2 : true = b2 := by rw [← e]; simp
          subst e2
          go_wp2
          go_meet
          exact ⟨rfl, rfl⟩
        · skip
          cases x4
          · have e2 : true = b2 := by rw [← e]; simp
            subst e2
            go_wp2
            go_meet
            exact ⟨rfl, rfl⟩
          · skip
            cases x5
            · have e2 : true = b2 := by rw [← e]; simp
              subst e2
              go_wp2
              go_meet
              exact ⟨rfl, rfl⟩
            · skip
              have e2 : false = b2 := e
              subst e2
              go_wp2
              go_meet
              exact ⟨rfl, rfl⟩
  case rest =>
  obtain ⟨rfl, hcw⟩ := hcut
  have hcw2 := hcw.symm
  subst hcw2
  clear y2 y4 y6 y9 y13
  cases b2
  rotate_left
  · go_wp2
    go_ret
    exact ⟨by rw [HC.out]; rfl, HBW.out.trans (HBr.out.mono HBW.out.size)⟩
  go_wp2
  go_loopw [9, 10] (fun s9 s10 wx => ∃ i : Nat, s10 = .int .i64 i ∧ i ≤ c.aud.length ∧ s9 = .bool (decide (tcl ∈ c.aud.take i)) ∧ Hid (Below W.heap.size W wx)) (fun _ x _ => c.aud.length - (intOf x).toNat)
  case atStart => exact ⟨0, rfl, Nat.zero_le _, by simp, HBr⟩
  case round =>
  obtain ⟨i, rfl, hi, rfl, HSr⟩ := hrel
  have y5 : wr.cell? ⟨w.heap.size, 5, none⟩ = some (.slice aa c.aud.length ac) := (HBc.out wr HSr.out).cell 5 (Nat.le_of_ble_eq_true rfl)
  by_cases hlt : i < c.aud.length
  · have y0 : wr.cell? ⟨w.heap.size + 1, 0, none⟩ = some (.string ⟨tcl.toArray⟩) := (HBt.out wr HSr.out).cell 0 (Nat.le_of_ble_eq_true rfl)
    obtain ⟨gx, off, hax, hcx⟩ := (HLq.out wr HSr.out).tr.at hlt
    have q0 : decide ((i : Int) < (c.aud.length : Int)) = true := decide_eq_true (by omega)
    have q0' : (i : Int) < (c.aud.length : Int) := by omega
    have hal := (HLq.out wr HSr.out).la
    rw [hax] at y5
    obtain ⟨x, hx⟩ : ∃ x, c.aud.getD i [] = x := ⟨_, rfl⟩
    rw [hx] at hcx
    have HT : Hid (c.aud.take (i + 1) = c.aud.take i ++ [x]) := by
      show _ = _
      rw [List.take_add_one, ← hx, List.getD_eq_getElem?_getD, List.getElem?_eq_getElem hlt]
      rfl
    obtain ⟨mi, hmi⟩ : ∃ z, decide (tcl ∈ c.aud.take i) = z := ⟨_, rfl⟩
    have HM1 : Hid (decide (tcl ∈ c.aud.take (i + 1)) = (mi || decide (x = tcl))) := by
      show _ = _
      rw [HT.out, ← hmi]
      by_cases h1 : tcl ∈ c.aud.take i
      · rw [decide_eq_true h1, decide_eq_true (by simp [h1])]; rfl
      · rw [decide_eq_false h1, Bool.false_or]
        by_cases h2 : x = tcl
        · rw [decide_eq_true h2, decide_eq_true (by simp [h2])]
        · rw [decide_eq_false h2, decide_eq_false (by simp [h1]; exact fun h => h2 h.symm)]
    rw [hmi]
    clear hmi hx hax HT
    have HNX : Hid (∀ n, Hid (Below W.heap.size W (wr.drewN n))) := fun n => below_drewN HSr.out n
    clear HSr
    by_cases hxt : x = tcl
    · have qx : (x == tcl) = true := by simpa using hxt
      rw [decide_eq_true hxt] at HM1
      clear hxt
      cases mi
      all_goals
        go_wp2
        go_quiet (fail)
        go_wp2
        go_roundw
        case rel => exact ⟨i + 1, by go_num, by omega, by rw [HM1.out]; rfl, HNX.out _⟩
        case measure => simp [intOf]; omega
    · have qx : (x == tcl) = false := by simpa using hxt
      rw [decide_eq_false hxt] at HM1
      clear hxt
      cases mi
      all_goals
        go_wp2
        go_quiet (fail)
        go_wp2
        go_roundw
        case rel => exact ⟨i + 1, by go_num, by omega, by rw [HM1.out]; rfl, HNX.out _⟩
        case measure => simp [intOf]; omega
  have q0 : decide ((i : Int) < (c.aud.length : Int)) = false := decide_eq_false (by omega)
  have hil : i = c.aud.length := by omega
  rw [hil, List.take_length]
  clear hlt hil hi
  obtain ⟨mi, hmi⟩ : ∃ z, decide (tcl ∈ c.aud) = z := ⟨_, rfl⟩
  have qb := HBo3.out
  rw [hmi] at qb
  rw [hmi]
  clear hmi
  go_upto_if 80 with fail
  clear q0 y5 qb
  cases b3
  rotate_left
  · go_wp2
    go_ret
    exact ⟨by rw [HC.out]; rfl, HBW.out.trans (HSr.out.mono HBW.out.size)⟩
  have CZ : Calls Tryz.prog 15 #[.agg #[.slice va c.val.length vc, .string ⟨c.iss.toArray⟩, .bool c.hIss, .string ⟨c.sub.toArray⟩, .bool c.hSub, .slice aa c.aud.length ac, .bool c.hAud, .string ⟨c.jti.toArray⟩, .bool c.hJti, .bool c.exp.has, .int .i64 c.exp.at_, .bool c.nbf.has, .int .i64 c.nbf.at_, .bool c.iat.has, .int .i64 c.iat.at_], .agg #[.string ⟨tcl.toArray⟩, .string ⟨tno.toArray⟩, .bool thN, .string ⟨tac.toArray⟩, .bool thA, .string ⟨tco.toArray⟩, .bool thC, .int .i64 tag, .bool thG, .int .i64 tle]] wr fun e w' => e = .returned (.bool b4) ∧ Below wr.heap.size wr w' := by rw [← HBo4.out]; exact razp_any c va vc aa ac tcl tno thN tac thA tco thC tag thG tle wr (HLq.out wr HSr.out) HSp.out
  go_wp2_with (first | (refine wpList_load_mid rfl 27 (.tmp 4) rfl w.heap.size 0 rfl [.slice va c.val.length vc, .string ⟨c.iss.toArray⟩, .bool c.hIss, .string ⟨c.sub.toArray⟩, .bool c.hSub, .slice aa c.aud.length ac, .bool c.hAud, .string ⟨c.jti.toArray⟩, .bool c.hJti, .bool c.exp.has, .int .i64 c.exp.at_, .bool c.nbf.has, .int .i64 c.nbf.at_, .bool c.iat.has, .int .i64 c.iat.at_] _ (bl_rng9 (HBc.out wr HSr.out)) Tryz.underlying27 rfl (hcl _ rfl) ?_) | (refine wpList_load_mid rfl 30 (.tmp 6) rfl (w.heap.size + 1) 0 rfl [.string ⟨tcl.toArray⟩, .string ⟨tno.toArray⟩, .bool thN, .string ⟨tac.toArray⟩, .bool thA, .string ⟨tco.toArray⟩, .bool thC, .int .i64 tag, .bool thG, .int .i64 tle] _ (bl_rng9 (HBt.out wr HSr.out)) Tryz.underlying30 rfl (hwt _ rfl) ?_))
  refine CZ.mono ?_
  clear CZ
  rintro e ws ⟨rfl, hBs⟩
  have HBs : Hid (Below W.heap.size W ws) := HSr.out.trans (hBs.mono HSr.out.size)
  clear hBs HSr
  cases b4
  rotate_left
  · go_wp2
    go_ret
    exact ⟨by rw [HC.out]; rfl, HBW.out.trans (HBs.out.mono HBW.out.size)⟩
  go_upto_region 16 with fail
  have y2 : ws.cell? ⟨w.heap.size + 1, 2, none⟩ = some (.bool thN) := (HBt.out ws HBs.out).cell 2 (Nat.le_of_ble_eq_true rfl)
  go_cut [93] from 84 to 93 (fun s wx => s = .bool b5 ∧ Hid (Below W.heap.size W wx))
  case first =>
    have e := HBo5.out
    have CS : Calls Tryz.prog 16 #[.slice va c.val.length vc, .string ⟨#[110, 111, 110, 99, 101]⟩, .string ⟨tno.toArray⟩] ws fun e w' => e = .returned (.bool (sayF (nM c.val kNonce) tno)) ∧ Below ws.heap.size ws w' := rsaid_any c.val va vc kNonce tno ws (HLq.out ws HBs.out).nr (HLq.out ws HBs.out).ln HSp.out
    obtain ⟨sd, hsd⟩ : ∃ x, sayF (nM c.val kNonce) tno = x := ⟨_, rfl⟩
    rw [hsd] at CS e
    clear hsd HC HBo5 HBo6 HBo7
    have y0 : ws.cell? ⟨w.heap.size, 0, none⟩ = some (.slice va c.val.length vc) := (HBc.out ws HBs.out).cell 0 (Nat.le_of_ble_eq_true rfl)
    have y1 : ws.cell? ⟨w.heap.size + 1, 1, none⟩ = some (.string ⟨tno.toArray⟩) := (HBt.out ws HBs.out).cell 1 (Nat.le_of_ble_eq_true rfl)
    cases thN
    · have e2 : false = b5 := by simpa using e
      subst e2
      clear e
      go_wp2
      go_meet
      exact ⟨rfl, HBs⟩
    · go_wp2_with fail
      refine CS.mono ?_
      clear CS y0 y1 y2
      rintro e' wf ⟨rfl, hBf⟩
      have HBf : Hid (Below W.heap.size W wf) := HBs.out.trans (hBf.mono HBs.out.size)
      clear hBf HBs
      cases sd
      · have e2 : true = b5 := by simpa using e
        subst e2
        clear e
        go_wp2
        go_meet
        exact ⟨rfl, HBf⟩
      · have e2 : false = b5 := by simpa using e
        subst e2
        clear e
        go_wp2
        go_meet
        exact ⟨rfl, HBf⟩
  case rest =>
  clear HBs y2
  obtain ⟨rfl, HBs⟩ := hcut
  cases b5
  rotate_left
  · go_wp2
    go_ret
    exact ⟨by rw [HC.out]; rfl, HBW.out.trans (HBs.out.mono HBW.out.size)⟩
  have CX : Calls Tryz.prog 17 #[.agg #[.slice va c.val.length vc, .string ⟨c.iss.toArray⟩, .bool c.hIss, .string ⟨c.sub.toArray⟩, .bool c.hSub, .slice aa c.aud.length ac, .bool c.hAud, .string ⟨c.jti.toArray⟩, .bool c.hJti, .bool c.exp.has, .int .i64 c.exp.at_, .bool c.nbf.has, .int .i64 c.nbf.at_, .bool c.iat.has, .int .i64 c.iat.at_], .int .i64 alg, .agg #[.string ⟨tcl.toArray⟩, .string ⟨tno.toArray⟩, .bool thN, .string ⟨tac.toArray⟩, .bool thA, .string ⟨tco.toArray⟩, .bool thC, .int .i64 tag, .bool thG, .int .i64 tle]] wc fun e w' => e = .returned (.bool b6) ∧ Below wc.heap.size wc w' := by rw [← HBo6.out]; exact rhashes_any c alg va vc aa ac tcl tno thN tac thA tco thC tag thG tle wc (HLq.out wc HBs.out) HSp.out (fun t wq ht hq => HFq.out t wq ht (HBW.out.trans ((HBs.out.trans (hq.mono HBs.out.size)).mono HBW.out.size))) HI.out.1 HI.out.2
  go_wp2_with (first | (refine wpList_load_mid rfl 27 (.tmp 4) rfl w.heap.size 0 rfl [.slice va c.val.length vc, .string ⟨c.iss.toArray⟩, .bool c.hIss, .string ⟨c.sub.toArray⟩, .bool c.hSub, .slice aa c.aud.length ac, .bool c.hAud, .string ⟨c.jti.toArray⟩, .bool c.hJti, .bool c.exp.has, .int .i64 c.exp.at_, .bool c.nbf.has, .int .i64 c.nbf.at_, .bool c.iat.has, .int .i64 c.iat.at_] _ (bl_rng9 (HBc.out wc HBs.out)) Tryz.underlying27 rfl (hcl _ rfl) ?_) | (refine wpList_load_mid rfl 30 (.tmp 6) rfl (w.heap.size + 1) 0 rfl [.string ⟨tcl.toArray⟩, .string ⟨tno.toArray⟩, .bool thN, .string ⟨tac.toArray⟩, .bool thA, .string ⟨tco.toArray⟩, .bool thC, .int .i64 tag, .bool thG, .int .i64 tle] _ (bl_rng9 (HBt.out wc HBs.out)) Tryz.underlying30 rfl (hwt _ rfl) ?_))
  refine CX.mono ?_
  clear CX
  rintro e wt ⟨rfl, hBt⟩
  have HBu : Hid (Below W.heap.size W wt) := HBs.out.trans (hBt.mono HBs.out.size)
  clear hBt HBs
  cases b6
  rotate_left
  · go_wp2
    go_ret
    exact ⟨by rw [HC.out]; rfl, HBW.out.trans (HBu.out.mono HBW.out.size)⟩
  obtain ⟨od, hod⟩ : ∃ x, oldD c.val tag tle now = x := ⟨_, rfl⟩
  have HE7 : Hid ((thG && od) = b7) := by rw [← hod]; exact HBo7.out
  have CO : Calls Tryz.prog 18 #[.agg #[.slice va c.val.length vc, .string ⟨c.iss.toArray⟩, .bool c.hIss, .string ⟨c.sub.toArray⟩, .bool c.hSub, .slice aa c.aud.length ac, .bool c.hAud, .string ⟨c.jti.toArray⟩, .bool c.hJti, .bool c.exp.has, .int .i64 c.exp.at_, .bool c.nbf.has, .int .i64 c.nbf.at_, .bool c.iat.has, .int .i64 c.iat.at_], .agg #[.string ⟨tcl.toArray⟩, .string ⟨tno.toArray⟩, .bool thN, .string ⟨tac.toArray⟩, .bool thA, .string ⟨tco.toArray⟩, .bool thC, .int .i64 tag, .bool thG, .int .i64 tle], .int .i64 now] wt fun e w' => e = .returned (.bool od) ∧ Below wt.heap.size wt w' := by rw [← hod]; exact rold_any c va vc aa ac tcl tno thN tac thA tco thC tag thG tle wt (HLq.out wt HBu.out) HSp.out now
  clear hod
  have y8 : wt.cell? ⟨w.heap.size + 1, 8, none⟩ = some (.bool thG) := (HBt.out wt HBu.out).cell 8 (Nat.le_of_ble_eq_true rfl)
  cases thG
  · have e2 : false = b7 := HE7.out
    subst e2
    have HZ : Hid (Below w.heap.size w wt) := HBW.out.trans (HBu.out.mono HBW.out.size)
    go_wp2
    go_ret
    exact ⟨by rw [HC.out]; rfl, HZ.out⟩
  · have e2 : od = b7 := by have h := HE7.out; rwa [Bool.true_and] at h
    subst e2
    go_wp2_with (first | (refine wpList_load_midZ rfl 27 (.tmp 4) rfl w.heap.size 0 rfl [.slice va c.val.length vc, .string ⟨c.iss.toArray⟩, .bool c.hIss, .string ⟨c.sub.toArray⟩, .bool c.hSub, .slice aa c.aud.length ac, .bool c.hAud, .string ⟨c.jti.toArray⟩, .bool c.hJti, .bool c.exp.has, .int .i64 c.exp.at_, .bool c.nbf.has, .int .i64 c.nbf.at_, .bool c.iat.has, .int .i64 c.iat.at_] _ (bl_rng9 (HBc.out wt HBu.out)) Tryz.underlying27 rfl (hcl _ rfl) ?_) | (refine wpList_load_midZ rfl 30 (.tmp 6) rfl (w.heap.size + 1) 0 rfl [.string ⟨tcl.toArray⟩, .string ⟨tno.toArray⟩, .bool thN, .string ⟨tac.toArray⟩, .bool thA, .string ⟨tco.toArray⟩, .bool thC, .int .i64 tag, .bool true, .int .i64 tle] _ (bl_rng9 (HBt.out wt HBu.out)) Tryz.underlying30 rfl (hwt _ rfl) ?_))
    refine CO.mono ?_
    clear CO
    rintro e wv ⟨rfl, hBv⟩
    have HZ : Hid (Below w.heap.size w wv) := HBW.out.trans ((HBu.out.trans (hBv.mono HBu.out.size)).mono HBW.out.size)
    clear hBv
    cases od
    · go_wp2
      go_ret
      exact ⟨by rw [HC.out]; rfl, HZ.out⟩
    · go_wp2
      go_ret
      exact ⟨by rw [HC.out]; rfl, HZ.out⟩

end Go.Proofs.YtdhfjhdlimmjhaaGreatDoor

namespace Go.Proofs.YtdhfjhdlimmjhaaGreatDoor
open Go.RowKit
set_option maxRecDepth 100000

theorem azp_doc (q : Qs) (hs : q.sh = true) : azpD q.c.val q.c.aud q.client = azpQ q := by
  unfold azpD azpQ
  rw [mQ_M q hs, nM_Q q hs]
  by_cases h : 0 ≤ memF q.c.val 0 kAzp
  · rw [decide_eq_true h, if_pos h, Bool.true_and, Bool.not_true, Bool.false_and, Bool.or_false]
  · rw [decide_eq_false h, if_neg h, Bool.false_and, Bool.not_false, Bool.true_and, Bool.false_or]
    rfl
theorem non_doc (q : Qs) (hs : q.sh = true) : (q.hasN && !sayF (nM q.c.val kNonce) q.nonce) = nonceF q := by
  unfold nonceF
  rw [nM_Q q hs]
theorem hash_doc (q : Qs) (hs : q.sh = true) (hh : (hhF q.alg == 0) = false) : hashD q.c.val q.alg q.access q.hasA q.code q.hasC = hashQ q := by
  have h0 : hhF q.alg ≠ 0 := by simpa using hh
  have e : ∀ t, (halfF q.alg t).2 = 0 := fun t => by unfold halfF; rw [if_neg h0]
  unfold hashD hashQ sayH
  rw [nM_Q q hs, nM_Q q hs, e, e]
  simp only [decide_true, Bool.true_and]
theorem old_doc (q : Qs) (hs : q.sh = true) (hsh : shapedF q.c.val = true) (hi : ∀ x ∈ q.c.val, I64 x.int) (hb : badF q = false) : (q.hasAge && oldD q.c.val q.age q.lee q.now) = oldQ q := by
  unfold oldD oldQ
  rw [mQ_M q hs, nM_Q q hs]
  have hbn := bad_not q hb
  cases hg : q.hasAge
  · simp only [Bool.false_and]
  · have ha := hbn.2 hg
    simp only [Bool.true_and]
    rcases mem_in q.c.val kAuth with h | ⟨i, hk, h, _⟩
    · rw [h]; simp
    · have hil : i < q.c.val.length := kidsF_lt i hk
      have hn : nM q.c.val kAuth = q.c.val.getD i (nd0 0) := by unfold nM; rw [h, if_neg (by omega), Int.toNat_natCast]
      rw [hn, h, decide_eq_false (by omega : ¬ (i : Int) < 0), decide_eq_true (by omega : (0 : Int) ≤ i), Bool.false_or, Bool.not_true, Bool.false_or]
      cases hw : (q.c.val.getD i (nd0 0)).whole
      · simp
      · have hk4 := shaped_whole hsh hil hw
        have hI : I64 (q.c.val.getD i (nd0 0)).int := by
          refine hi _ ?_
          rw [List.getD_eq_getElem?_getD, List.getElem?_eq_getElem hil]
          exact List.getElem_mem hil
        rw [decide_eq_true hk4, late_in _ _ _ _ hI ha hbn.1]
        rfl

theorem check_doc (q : Qs) (hs : q.sh = true) (hsh : shapedF q.c.val = true) (hi : ∀ x ∈ q.c.val, I64 x.int) : checkD q = checkQ q := by
  unfold checkD checkQ
  rw [azp_doc q hs, non_doc q hs]
  cases h0 : badF q
  · rw [old_doc q hs hsh hi h0]
    cases h1 : (hhF q.alg == 0)
    · rw [hash_doc q hs h1]
    · rfl
  · rfl

end Go.Proofs.YtdhfjhdlimmjhaaGreatDoor

namespace Go.Proofs.YtdhfjhdlimmjhaaGreatDoor
open Go.RowKit
set_option maxRecDepth 100000

def turnX (n : Nd) : Nd := if n.kind = 5 then { n with text := n.text ++ [120] } else n
theorem turnX_key (n : Nd) : (turnX n).key = n.key := by unfold turnX; split <;> rfl
theorem turnX_kids (n : Nd) : (turnX n).kids = n.kids := by unfold turnX; split <;> rfl
theorem turnX_kind (n : Nd) : (turnX n).kind = n.kind := by unfold turnX; split <;> rfl
theorem turnX_int (n : Nd) : (turnX n).int = n.int := by unfold turnX; split <;> rfl
theorem wm_turn {n : Nd} {d : Int} (h : wmF n d = true) : wmF (turnX n) d = true := by
  by_cases h5 : n.kind = 5
  · unfold turnX
    rw [if_pos h5]
    unfold wmF at h ⊢
    rw [if_neg (by omega), if_neg (by omega), if_pos h5, Bool.and_eq_true, decide_eq_true_eq] at h
    dsimp only
    rw [if_neg (by omega), if_neg (by omega), if_pos h5, Bool.and_eq_true, decide_eq_true_eq]
    refine ⟨valid_app h.1 [120] (by decide) _ (Nat.le_refl _), ?_⟩
    have e := h.2
    generalize n.text = tx at *
    generalize n.key = ky at *
    subst e
    rfl
  · unfold turnX
    rw [if_neg h5]
    exact h
theorem Sq.turn {d : Int} {ks : List (List UInt8)} {l : List Nd} (h : Sq d ks l) : Sq d ks (l.map turnX) := by
  induction h with
  | nil d => exact Sq.nil d
  | cons hw h1 hn hk h2 ih1 ih2 =>
    rename_i d n ks ks' r r'
    have := Sq.cons (wm_turn hw) ih1 (by rw [turnX_kids]; exact hn) (by rw [turnX_kind]; exact hk) ih2
    rw [turnX_key] at this
    rw [List.map_cons, List.map_append]
    exact this
theorem shaped_turn {l : List Nd} (h : shapedF l = true) : shapedF (l.map turnX) = true := (shaped_sq h).turn.shaped

end Go.Proofs.YtdhfjhdlimmjhaaGreatDoor
