import Derived.Test.YtpfdaclmchcbiaaGreatDoorQG0
import Derived.Test.YtpfdaclmchcbiaaGreatDoorOrk
namespace Go.Proofs.YtpfdaclmchcbiaaGreatDoor
open Go.RowKit
set_option maxRecDepth 100000

structure SL (w wx : World) (cs tc : List Value) (es : List Int) : Prop where
  bel : Below w.heap.size w wx
  cl : Bl 27 wx w.heap.size cs
  wt : Bl 30 wx (w.heap.size + 1) tc
  ls : Bl 36 wx (w.heap.size + 2) (es.map fun e => .int .i64 e)
theorem SL.below {w wx w' : World} {cs tc : List Value} {es : List Int} (h : SL w wx cs tc es) (hb : Below wx.heap.size wx w') : SL w w' cs tc es :=
  ⟨h.bel.trans (hb.mono h.bel.size), h.cl.below hb h.cl.lt, h.wt.below hb h.wt.lt, h.ls.below hb h.ls.lt⟩
theorem SL.set {w wx : World} {cs tc : List Value} {es es' : List Int} (h : SL w wx cs tc es) (j : Nat) (v : Int) (e : es.set j v = es') : SL w (wx.setCell ⟨w.heap.size + 2, j, none⟩ (.int .i64 v)) cs tc es' := by
  refine ⟨h.bel.setCell (by show w.heap.size ≤ w.heap.size + 2; omega) _, bl_setCell h.cl (by omega), bl_setCell h.wt (by omega), ?_⟩
  have := h.ls.set j (.int .i64 v)
  rw [← List.map_set, e] at this
  exact this

theorem made8 (w : World) : (Instr.makeSlice 54 (.int .i64 8) (.int .i64 8)).run Tryz.prog w = .ok (.slice (some ⟨w.heap.size, 0, none⟩) 8 8) (w.alloc (.cells #[.int .i64 0, .int .i64 0, .int .i64 0, .int .i64 0, .int .i64 0, .int .i64 0, .int .i64 0, .int .i64 0] 36)) := by
  have hz : (Tryz.prog.info? 36).map (fun i => (i.zero, i.size, i.bytes)) = some (some (.int .i64 0), 1, 8) := by kernel_rfl
  cases hi : Tryz.prog.info? 36 with
  | none => rw [hi] at hz; cases hz
  | some i0 =>
    rw [hi] at hz
    simp only [Option.map_some, Option.some.injEq, Prod.mk.injEq] at hz
    obtain ⟨hz0, hz1, hz2⟩ := hz
    rw [run_make w 54 36 i0 (.int .i64 0) Tryz.underlying54 hi hz0 .i64 .i64 8 8 (by omega) (by omega) (by rw [hz2]; decide) (by omega), hz1]
    have e : madeCells (Value.cells (.int .i64 0)) (Int.toNat 8 * 1) = #[.int .i64 0, .int .i64 0, .int .i64 0, .int .i64 0, .int .i64 0, .int .i64 0, .int .i64 0, .int .i64 0] := by
      apply Array.toList_inj.1
      exact toList_madeCells_one (.int .i64 0) 8
    rw [e]
    rfl

def anyO (l : List (List UInt8)) (t : List UInt8) : Bool := decide (∃ x ∈ l, x ≠ t)
theorem anyO_snoc (l : List (List UInt8)) (x t : List UInt8) : anyO (l ++ [x]) t = (anyO l t || !decide (x = t)) := by
  unfold anyO
  by_cases h1 : ∃ y ∈ l, y ≠ t
  · rw [decide_eq_true h1, decide_eq_true (by obtain ⟨y, hy, hn⟩ := h1; exact ⟨y, List.mem_append_left _ hy, hn⟩)]; rfl
  · rw [decide_eq_false h1, Bool.false_or]
    by_cases h2 : x = t
    · rw [decide_eq_true h2, decide_eq_false (by
        rintro ⟨y, hy, hn⟩
        rcases List.mem_append.1 hy with hy | hy
        · exact h1 ⟨y, hy, hn⟩
        · simp only [List.mem_singleton] at hy; exact hn (hy.trans h2))]; rfl
    · rw [decide_eq_false h2, decide_eq_true ⟨x, by simp, h2⟩]; rfl
def hashL (q : Qs) : Bool := (q.hasA && !sayF (nM q.c.val kAt) (halfF q.alg q.access).1) || (q.hasC && !sayF (nM q.c.val kCh) (halfF q.alg q.code).1)
def oldL (q : Qs) : Bool := q.hasAge && (decide (memF q.c.val 0 kAuth < 0) || (!decide ((nM q.c.val kAuth).kind = 4)) || !(nM q.c.val kAuth).whole || lateF (nM q.c.val kAuth).int q.age q.lee q.now)
def azpL (q : Qs) : Bool := (decide (0 ≤ memF q.c.val 0 kAzp) && !sayF (nM q.c.val kAzp) q.client) || (!decide (0 ≤ memF q.c.val 0 kAzp) && anyO q.c.aud q.client)
def nonL (q : Qs) : Bool := q.hasN && !sayF (nM q.c.val kNonce) q.nonce
def cdI (b : Bool) (c : Int) : Int := if b = true then c else 0

set_option maxRecDepth 100000 in
set_option maxHeartbeats 16000000 in
theorem steps22_any (c : Cm) (va : Option Addr) (vc : Nat) (aa : Option Addr) (ac : Nat) (alg : Int) (tcl : List UInt8) (tno : List UInt8) (thN : Bool) (tac : List UInt8) (thA : Bool) (tco : List UInt8) (thC : Bool) (tag : Int) (thG : Bool) (tle : Int) (now : Int) (w : World) (H : LA w c va vc aa ac) (h1 : tac.length ≤ 1000000000) (h2 : tco.length ≤ 1000000000) (hn : I64 now) :
    Calls Tryz.prog 21 #[.agg #[.slice va c.val.length vc, .string ⟨c.iss.toArray⟩, .bool c.hIss, .string ⟨c.sub.toArray⟩, .bool c.hSub, .slice aa c.aud.length ac, .bool c.hAud, .string ⟨c.jti.toArray⟩, .bool c.hJti, .bool c.exp.has, .int .i64 c.exp.at_, .bool c.nbf.has, .int .i64 c.nbf.at_, .bool c.iat.has, .int .i64 c.iat.at_], .int .i64 alg, .agg #[.string ⟨tcl.toArray⟩, .string ⟨tno.toArray⟩, .bool thN, .string ⟨tac.toArray⟩, .bool thA, .string ⟨tco.toArray⟩, .bool thC, .int .i64 tag, .bool thG, .int .i64 tle], .int .i64 now] w fun e w' => (e = .returned (.slice (some ⟨w.heap.size + 2, 0, none⟩) 8 8) ∧ Bl 36 w' (w.heap.size + 2) (([cdI (badF (mkQ c va vc aa ac alg ⟨tcl, tno, thN, tac, thA, tco, thC, tag, thG, tle⟩ now)) 12, cdI ((hhF alg == 0)) 111, cdI (lackQ (mkQ c va vc aa ac alg ⟨tcl, tno, thN, tac, thA, tco, thC, tag, thG, tle⟩ now)) 137, cdI ((!decide (tcl ∈ c.aud))) 133, cdI (azpL (mkQ c va vc aa ac alg ⟨tcl, tno, thN, tac, thA, tco, thC, tag, thG, tle⟩ now)) 151, cdI (nonL (mkQ c va vc aa ac alg ⟨tcl, tno, thN, tac, thA, tco, thC, tag, thG, tle⟩ now)) 150, cdI (hashL (mkQ c va vc aa ac alg ⟨tcl, tno, thN, tac, thA, tco, thC, tag, thG, tle⟩ now)) 152, cdI (oldL (mkQ c va vc aa ac alg ⟨tcl, tno, thN, tac, thA, tco, thC, tag, thG, tle⟩ now)) 153] : List Int).map fun e => .int .i64 e)) ∧ Below w.heap.size w w' := by
  obtain ⟨wc, hW⟩ : ∃ x, (((w.alloc (.cells #[.slice va c.val.length vc, .string ⟨c.iss.toArray⟩, .bool c.hIss, .string ⟨c.sub.toArray⟩, .bool c.hSub, .slice aa c.aud.length ac, .bool c.hAud, .string ⟨c.jti.toArray⟩, .bool c.hJti, .bool c.exp.has, .int .i64 c.exp.at_, .bool c.nbf.has, .int .i64 c.nbf.at_, .bool c.iat.has, .int .i64 c.iat.at_] 27)).alloc (.cells #[.string ⟨tcl.toArray⟩, .string ⟨tno.toArray⟩, .bool thN, .string ⟨tac.toArray⟩, .bool thA, .string ⟨tco.toArray⟩, .bool thC, .int .i64 tag, .bool thG, .int .i64 tle] 30)).alloc (.cells #[.int .i64 0, .int .i64 0, .int .i64 0, .int .i64 0, .int .i64 0, .int .i64 0, .int .i64 0, .int .i64 0] 36)) = x := ⟨_, rfl⟩
  have HS : Hid (SL w wc (clC (.slice va c.val.length vc) (.slice aa c.aud.length ac) c) (wtC ⟨tcl, tno, thN, tac, thA, tco, thC, tag, thG, tle⟩) [0, 0, 0, 0, 0, 0, 0, 0]) := by
    rw [← hW]
    have h1 := alloc_below9 w (.cells #[.slice va c.val.length vc, .string ⟨c.iss.toArray⟩, .bool c.hIss, .string ⟨c.sub.toArray⟩, .bool c.hSub, .slice aa c.aud.length ac, .bool c.hAud, .string ⟨c.jti.toArray⟩, .bool c.hJti, .bool c.exp.has, .int .i64 c.exp.at_, .bool c.nbf.has, .int .i64 c.nbf.at_, .bool c.iat.has, .int .i64 c.iat.at_] 27)
    have h2 := alloc_below9 (w.alloc (.cells #[.slice va c.val.length vc, .string ⟨c.iss.toArray⟩, .bool c.hIss, .string ⟨c.sub.toArray⟩, .bool c.hSub, .slice aa c.aud.length ac, .bool c.hAud, .string ⟨c.jti.toArray⟩, .bool c.hJti, .bool c.exp.has, .int .i64 c.exp.at_, .bool c.nbf.has, .int .i64 c.nbf.at_, .bool c.iat.has, .int .i64 c.iat.at_] 27)) (.cells #[.string ⟨tcl.toArray⟩, .string ⟨tno.toArray⟩, .bool thN, .string ⟨tac.toArray⟩, .bool thA, .string ⟨tco.toArray⟩, .bool thC, .int .i64 tag, .bool thG, .int .i64 tle] 30)
    have h3 := alloc_below9 ((w.alloc (.cells #[.slice va c.val.length vc, .string ⟨c.iss.toArray⟩, .bool c.hIss, .string ⟨c.sub.toArray⟩, .bool c.hSub, .slice aa c.aud.length ac, .bool c.hAud, .string ⟨c.jti.toArray⟩, .bool c.hJti, .bool c.exp.has, .int .i64 c.exp.at_, .bool c.nbf.has, .int .i64 c.nbf.at_, .bool c.iat.has, .int .i64 c.iat.at_] 27)).alloc (.cells #[.string ⟨tcl.toArray⟩, .string ⟨tno.toArray⟩, .bool thN, .string ⟨tac.toArray⟩, .bool thA, .string ⟨tco.toArray⟩, .bool thC, .int .i64 tag, .bool thG, .int .i64 tle] 30)) (.cells #[.int .i64 0, .int .i64 0, .int .i64 0, .int .i64 0, .int .i64 0, .int .i64 0, .int .i64 0, .int .i64 0] 36)
    have k1 : Bl 27 _ w.heap.size [.slice va c.val.length vc, .string ⟨c.iss.toArray⟩, .bool c.hIss, .string ⟨c.sub.toArray⟩, .bool c.hSub, .slice aa c.aud.length ac, .bool c.hAud, .string ⟨c.jti.toArray⟩, .bool c.hJti, .bool c.exp.has, .int .i64 c.exp.at_, .bool c.nbf.has, .int .i64 c.nbf.at_, .bool c.iat.has, .int .i64 c.iat.at_] := alloc_bl w [.slice va c.val.length vc, .string ⟨c.iss.toArray⟩, .bool c.hIss, .string ⟨c.sub.toArray⟩, .bool c.hSub, .slice aa c.aud.length ac, .bool c.hAud, .string ⟨c.jti.toArray⟩, .bool c.hJti, .bool c.exp.has, .int .i64 c.exp.at_, .bool c.nbf.has, .int .i64 c.nbf.at_, .bool c.iat.has, .int .i64 c.iat.at_] 27
    have k2 := alloc_bl (w.alloc (.cells #[.slice va c.val.length vc, .string ⟨c.iss.toArray⟩, .bool c.hIss, .string ⟨c.sub.toArray⟩, .bool c.hSub, .slice aa c.aud.length ac, .bool c.hAud, .string ⟨c.jti.toArray⟩, .bool c.hJti, .bool c.exp.has, .int .i64 c.exp.at_, .bool c.nbf.has, .int .i64 c.nbf.at_, .bool c.iat.has, .int .i64 c.iat.at_] 27)) [.string ⟨tcl.toArray⟩, .string ⟨tno.toArray⟩, .bool thN, .string ⟨tac.toArray⟩, .bool thA, .string ⟨tco.toArray⟩, .bool thC, .int .i64 tag, .bool thG, .int .i64 tle] 30
    have k3 := alloc_bl ((w.alloc (.cells #[.slice va c.val.length vc, .string ⟨c.iss.toArray⟩, .bool c.hIss, .string ⟨c.sub.toArray⟩, .bool c.hSub, .slice aa c.aud.length ac, .bool c.hAud, .string ⟨c.jti.toArray⟩, .bool c.hJti, .bool c.exp.has, .int .i64 c.exp.at_, .bool c.nbf.has, .int .i64 c.nbf.at_, .bool c.iat.has, .int .i64 c.iat.at_] 27)).alloc (.cells #[.string ⟨tcl.toArray⟩, .string ⟨tno.toArray⟩, .bool thN, .string ⟨tac.toArray⟩, .bool thA, .string ⟨tco.toArray⟩, .bool thC, .int .i64 tag, .bool thG, .int .i64 tle] 30)) [.int .i64 0, .int .i64 0, .int .i64 0, .int .i64 0, .int .i64 0, .int .i64 0, .int .i64 0, .int .i64 0] 36
    refine ⟨h1.trans ((h2.trans (h3.mono h2.size)).mono h1.size), k1.below (h2.trans (h3.mono h2.size)) k1.lt, ?_, ?_⟩
    · have := k2.below h3 k2.lt
      rw [alloc_size] at this
      exact this
    · simp only [alloc_size, Nat.add_assoc] at k3
      exact k3
  have HW : Hid ((((w.alloc (.cells #[.slice va c.val.length vc, .string ⟨c.iss.toArray⟩, .bool c.hIss, .string ⟨c.sub.toArray⟩, .bool c.hSub, .slice aa c.aud.length ac, .bool c.hAud, .string ⟨c.jti.toArray⟩, .bool c.hJti, .bool c.exp.has, .int .i64 c.exp.at_, .bool c.nbf.has, .int .i64 c.nbf.at_, .bool c.iat.has, .int .i64 c.iat.at_] 27)).alloc (.cells #[.string ⟨tcl.toArray⟩, .string ⟨tno.toArray⟩, .bool thN, .string ⟨tac.toArray⟩, .bool thA, .string ⟨tco.toArray⟩, .bool thC, .int .i64 tag, .bool thG, .int .i64 tle] 30)).alloc (.cells #[.int .i64 0, .int .i64 0, .int .i64 0, .int .i64 0, .int .i64 0, .int .i64 0, .int .i64 0, .int .i64 0] 36)) = wc) := hW
  have HLq : Hid (∀ wq, Below w.heap.size w wq → LA wq c va vc aa ac) := fun wq hq => H.below hq
  have HI : Hid (I64 now ∧ tac.length ≤ 1000000000 ∧ tco.length ≤ 1000000000) := ⟨hn, h1, h2⟩
  have hmk := made8 ((w.alloc (.cells #[.slice va c.val.length vc, .string ⟨c.iss.toArray⟩, .bool c.hIss, .string ⟨c.sub.toArray⟩, .bool c.hSub, .slice aa c.aud.length ac, .bool c.hAud, .string ⟨c.jti.toArray⟩, .bool c.hJti, .bool c.exp.has, .int .i64 c.exp.at_, .bool c.nbf.has, .int .i64 c.nbf.at_, .bool c.iat.has, .int .i64 c.iat.at_] 27)).alloc (.cells #[.string ⟨tcl.toArray⟩, .string ⟨tno.toArray⟩, .bool thN, .string ⟨tac.toArray⟩, .bool thA, .string ⟨tco.toArray⟩, .bool thC, .int .i64 tag, .bool thG, .int .i64 tle] 30))
  rw [hW] at hmk
  simp only [alloc_size, Nat.add_assoc] at hmk
  clear hW H hn h1 h2 HW
  obtain ⟨b0, hb0⟩ : ∃ x, badF (mkQ c va vc aa ac alg ⟨tcl, tno, thN, tac, thA, tco, thC, tag, thG, tle⟩ now) = x := ⟨_, rfl⟩
  have HBo0 : Hid (badF (mkQ c va vc aa ac alg ⟨tcl, tno, thN, tac, thA, tco, thC, tag, thG, tle⟩ now) = b0) := hb0
  clear hb0
  obtain ⟨b1, hb1⟩ : ∃ x, (hhF alg == 0) = x := ⟨_, rfl⟩
  have HBo1 : Hid ((hhF alg == 0) = b1) := hb1
  clear hb1
  obtain ⟨b2, hb2⟩ : ∃ x, lackQ (mkQ c va vc aa ac alg ⟨tcl, tno, thN, tac, thA, tco, thC, tag, thG, tle⟩ now) = x := ⟨_, rfl⟩
  have HBo2 : Hid (lackQ (mkQ c va vc aa ac alg ⟨tcl, tno, thN, tac, thA, tco, thC, tag, thG, tle⟩ now) = b2) := hb2
  clear hb2
  obtain ⟨b3, hb3⟩ : ∃ x, (!decide (tcl ∈ c.aud)) = x := ⟨_, rfl⟩
  have HBo3 : Hid ((!decide (tcl ∈ c.aud)) = b3) := hb3
  clear hb3
  obtain ⟨b4, hb4⟩ : ∃ x, azpL (mkQ c va vc aa ac alg ⟨tcl, tno, thN, tac, thA, tco, thC, tag, thG, tle⟩ now) = x := ⟨_, rfl⟩
  have HBo4 : Hid (azpL (mkQ c va vc aa ac alg ⟨tcl, tno, thN, tac, thA, tco, thC, tag, thG, tle⟩ now) = b4) := hb4
  clear hb4
  obtain ⟨b5, hb5⟩ : ∃ x, nonL (mkQ c va vc aa ac alg ⟨tcl, tno, thN, tac, thA, tco, thC, tag, thG, tle⟩ now) = x := ⟨_, rfl⟩
  have HBo5 : Hid (nonL (mkQ c va vc aa ac alg ⟨tcl, tno, thN, tac, thA, tco, thC, tag, thG, tle⟩ now) = b5) := hb5
  clear hb5
  obtain ⟨b6, hb6⟩ : ∃ x, hashL (mkQ c va vc aa ac alg ⟨tcl, tno, thN, tac, thA, tco, thC, tag, thG, tle⟩ now) = x := ⟨_, rfl⟩
  have HBo6 : Hid (hashL (mkQ c va vc aa ac alg ⟨tcl, tno, thN, tac, thA, tco, thC, tag, thG, tle⟩ now) = b6) := hb6
  clear hb6
  obtain ⟨b7, hb7⟩ : ∃ x, oldL (mkQ c va vc aa ac alg ⟨tcl, tno, thN, tac, thA, tco, thC, tag, thG, tle⟩ now) = x := ⟨_, rfl⟩
  have HBo7 : Hid (oldL (mkQ c va vc aa ac alg ⟨tcl, tno, thN, tac, thA, tco, thC, tag, thG, tle⟩ now) = b7) := hb7
  clear hb7
  go_enter Tryz.func21, Tryz.ntmps21
  go_upto_region 2 with fail
  clear hmk
  have y9 : wc.cell? ⟨w.heap.size + 1, 9, none⟩ = some (.int .i64 tle) := HS.out.wt.cell 9 (Nat.le_of_ble_eq_true rfl)
  have y8 : wc.cell? ⟨w.heap.size + 1, 8, none⟩ = some (.bool thG) := HS.out.wt.cell 8 (Nat.le_of_ble_eq_true rfl)
  have y7 : wc.cell? ⟨w.heap.size + 1, 7, none⟩ = some (.int .i64 tag) := HS.out.wt.cell 7 (Nat.le_of_ble_eq_true rfl)
  go_cut [41] from 20 to 41 (fun s wx => s = .bool b0 ∧ wx = wc)
  case first =>
    have e := HBo0.out
    have e : (decide (tle < 0) || decide (600 < tle) || (thG && (decide (tag < 0) || decide (2147483648 < tag)))) = b0 := e
    clear HBo0 HBo1 HBo2 HBo3 HBo4 HBo5 HBo6 HBo7 HS
    by_cases q1 : tle < 0
    · have d1 : decide (tle < 0) = true := decide_eq_true q1
      rw [d1, Bool.true_or, Bool.true_or] at e
      subst e
      go_wp2
      go_meet
      exact ⟨rfl, rfl⟩
    · have d1 : decide (tle < 0) = false := decide_eq_false q1
      by_cases q2 : 600 < tle
      · have d2 : decide (600 < tle) = true := decide_eq_true q2
        have d2' : decide (tle > 600) = true := decide_eq_true q2
        rw [d1, d2, Bool.false_or, Bool.true_or] at e
        subst e
        go_wp2
        go_meet
        exact ⟨rfl, rfl⟩
      · have d2 : decide (600 < tle) = false := decide_eq_false q2
        have d2' : decide (tle > 600) = false := decide_eq_false q2
        rw [d1, d2, Bool.false_or, Bool.false_or] at e
        cases thG
        · rw [Bool.false_and] at e
          subst e
          go_wp2
          go_meet
          exact ⟨rfl, rfl⟩
        · rw [Bool.true_and] at e
          by_cases q3 : tag < 0
          · have d3 : decide (tag < 0) = true := decide_eq_true q3
            rw [d3, Bool.true_or] at e
            subst e
            go_wp2
            go_meet
            exact ⟨rfl, rfl⟩
          · have d3 : decide (tag < 0) = false := decide_eq_false q3
            rw [d3, Bool.false_or] at e
            have d4 : decide (tag > 2147483648) = b0 := e
            go_wp2
            go_meet
            exact ⟨by first | rfl | rw [e] | rw [d4] | (congr 1; done), rfl⟩
  case rest =>
  obtain ⟨rfl, hcw⟩ := hcut
  have hcw2 := hcw.symm
  subst hcw2
  clear y9 y8 y7
  obtain ⟨e0, he0⟩ : ∃ x, cdI b0 12 = x := ⟨_, rfl⟩
  have HE0 : Hid (cdI b0 12 = e0) := he0
  clear he0
  go_upto_if 41 with fail
  go_cut [] from 42 to 43 (fun wx => Hid (SL w wx (clC (.slice va c.val.length vc) (.slice aa c.aud.length ac) c) (wtC ⟨tcl, tno, thN, tac, thA, tco, thC, tag, thG, tle⟩) [e0, 0, 0, 0, 0, 0, 0, 0]))
  case first =>
    have e := HE0.out
    cases b0
    · have e : (0 : Int) = e0 := e
      subst e
      go_wp2
      go_meet
      exact HS
    · have e : (12 : Int) = e0 := e
      have HS2 : Hid (SL w (wc.setCell ⟨w.heap.size + 2, 0, none⟩ (.int .i64 12)) (clC (.slice va c.val.length vc) (.slice aa c.aud.length ac) c) (wtC ⟨tcl, tno, thN, tac, thA, tco, thC, tag, thG, tle⟩) [e0, 0, 0, 0, 0, 0, 0, 0]) := by rw [← e]; exact HS.out.set 0 12 rfl
      have kv : wc.cell? ⟨w.heap.size + 2, 0, none⟩ = some (.int .i64 0) := HS.out.ls.cell 0 (by simp)
      have fv : wc.frozen? ⟨w.heap.size + 2, 0, none⟩ = false := HS.out.ls.frozen 0
      clear HS e
      go_wp2
      go_meet
      exact HS2
  case rest =>
  clear HS
  have HS := hcut
  clear hcut
  have CH := lhash_any alg wc
  go_wp2_with fail
  refine CH.mono ?_
  clear CH
  rintro e wd ⟨rfl, ew⟩
  obtain rfl := ew.symm
  have q1 := HBo1.out
  obtain ⟨hh, hhh⟩ : ∃ x, hhF alg = x := ⟨_, rfl⟩
  rw [hhh] at q1 ⊢
  obtain ⟨e1, he1⟩ : ∃ x, cdI b1 111 = x := ⟨_, rfl⟩
  have HE1 : Hid (cdI b1 111 = e1) := he1
  clear he1
  go_upto_if 46 with fail
  clear q1
  go_cut [] from 47 to 48 (fun wx => Hid (SL w wx (clC (.slice va c.val.length vc) (.slice aa c.aud.length ac) c) (wtC ⟨tcl, tno, thN, tac, thA, tco, thC, tag, thG, tle⟩) [e0, e1, 0, 0, 0, 0, 0, 0]))
  case first =>
    have e := HE1.out
    cases b1
    · have e : (0 : Int) = e1 := e
      subst e
      go_wp2
      go_meet
      exact HS
    · have e : (111 : Int) = e1 := e
      have HS2 : Hid (SL w (wc.setCell ⟨w.heap.size + 2, 1, none⟩ (.int .i64 111)) (clC (.slice va c.val.length vc) (.slice aa c.aud.length ac) c) (wtC ⟨tcl, tno, thN, tac, thA, tco, thC, tag, thG, tle⟩) [e0, e1, 0, 0, 0, 0, 0, 0]) := by rw [← e]; exact HS.out.set 1 111 rfl
      have kv : wc.cell? ⟨w.heap.size + 2, 1, none⟩ = some (.int .i64 0) := HS.out.ls.cell 1 (by simp)
      have fv : wc.frozen? ⟨w.heap.size + 2, 1, none⟩ = false := HS.out.ls.frozen 1
      clear HS e
      go_wp2
      go_meet
      exact HS2
  case rest =>
  clear HS
  have HS := hcut
  clear hcut
  go_upto_region 6 with fail
  have y2 : wc.cell? ⟨w.heap.size, 2, none⟩ = some (.bool c.hIss) := HS.out.cl.cell 2 (Nat.le_of_ble_eq_true rfl)
  have y4 : wc.cell? ⟨w.heap.size, 4, none⟩ = some (.bool c.hSub) := HS.out.cl.cell 4 (Nat.le_of_ble_eq_true rfl)
  have y6 : wc.cell? ⟨w.heap.size, 6, none⟩ = some (.bool c.hAud) := HS.out.cl.cell 6 (Nat.le_of_ble_eq_true rfl)
  have y9 : wc.cell? ⟨w.heap.size, 9, none⟩ = some (.bool c.exp.has) := HS.out.cl.cell 9 (Nat.le_of_ble_eq_true rfl)
  have y13 : wc.cell? ⟨w.heap.size, 13, none⟩ = some (.bool c.iat.has) := HS.out.cl.cell 13 (Nat.le_of_ble_eq_true rfl)
  go_cut [73] from 49 to 73 (fun s wx => s = .bool b2 ∧ wx = wc)
  case first =>
    have e := HBo2.out
    have e : (!c.hIss || !c.hSub || !c.hAud || !c.exp.has || !c.iat.has) = b2 := e
    clear HBo0 HBo1 HBo2 HBo3 HBo4 HBo5 HBo6 HBo7 HS
    obtain ⟨x1, hx1⟩ : ∃ x, c.hIss = x := ⟨_, rfl⟩
    rw [hx1] at e y2
    clear hx1
    obtain ⟨x2, hx2⟩ : ∃ x, c.hSub = x := ⟨_, rfl⟩
    rw [hx2] at e y4
    clear hx2
    obtain ⟨x3, hx3⟩ : ∃ x, c.hAud = x := ⟨_, rfl⟩
    rw [hx3] at e y6
    clear hx3
    obtain ⟨x4, hx4⟩ : ∃ x, c.exp.has = x := ⟨_, rfl⟩
    rw [hx4] at e y9
    clear hx4
    obtain ⟨x5, hx5⟩ : ∃ x, c.iat.has = x := ⟨_, rfl⟩
    rw [hx5] at e y13
    clear hx5
    cases x1
    · have e2 : true = b2 := by rw [← e]; simp
      subst e2
      go_wp2
      go_meet
      exact ⟨rfl, rfl⟩
    · skip
      cases x2
      · have e2 : true = b2 := by rw [← e]; simp
        subst e2
        go_wp2
        go_meet
        exact ⟨rfl, rfl⟩
      · skip
        cases x3
        · have e2 : true = b2 := by rw [← e]; simp
          subst e2
          go_wp2
          go_meet
          exact ⟨rfl, rfl⟩
        · skip
          cases x4
          · have e2 : true = b2 := by rw [← e]; simp
            subst e2
            go_wp2
            go_meet
            exact ⟨rfl, rfl⟩
          · skip
            cases x5
            · have e2 : true = b2 := by rw [← e]; simp
              subst e2
              go_wp2
              go_meet
              exact ⟨rfl, rfl⟩
            · skip
              have e2 : false = b2 := e
              subst e2
              go_wp2
              go_meet
              exact ⟨rfl, rfl⟩
  case rest =>
  obtain ⟨rfl, hcw⟩ := hcut
  have hcw2 := hcw.symm
  subst hcw2
  clear y2 y4 y6 y9 y13
  obtain ⟨e2, he2⟩ : ∃ x, cdI b2 137 = x := ⟨_, rfl⟩
  have HE2 : Hid (cdI b2 137 = e2) := he2
  clear he2
  go_upto_if 73 with fail
  go_cut [] from 74 to 75 (fun wx => Hid (SL w wx (clC (.slice va c.val.length vc) (.slice aa c.aud.length ac) c) (wtC ⟨tcl, tno, thN, tac, thA, tco, thC, tag, thG, tle⟩) [e0, e1, e2, 0, 0, 0, 0, 0]))
  case first =>
    have e := HE2.out
    cases b2
    · have e : (0 : Int) = e2 := e
      subst e
      go_wp2
      go_meet
      exact HS
    · have e : (137 : Int) = e2 := e
      have HS2 : Hid (SL w (wc.setCell ⟨w.heap.size + 2, 2, none⟩ (.int .i64 137)) (clC (.slice va c.val.length vc) (.slice aa c.aud.length ac) c) (wtC ⟨tcl, tno, thN, tac, thA, tco, thC, tag, thG, tle⟩) [e0, e1, e2, 0, 0, 0, 0, 0]) := by rw [← e]; exact HS.out.set 2 137 rfl
      have kv : wc.cell? ⟨w.heap.size + 2, 2, none⟩ = some (.int .i64 0) := HS.out.ls.cell 2 (by simp)
      have fv : wc.frozen? ⟨w.heap.size + 2, 2, none⟩ = false := HS.out.ls.frozen 2
      clear HS e
      go_wp2
      go_meet
      exact HS2
  case rest =>
  clear HS
  have HS := hcut
  clear hcut
  go_wp2
  go_loopw [10, 11, 12] (fun s10 s11 s12 wx => ∃ i : Nat, s12 = .int .i64 i ∧ i ≤ c.aud.length ∧ s10 = .bool (decide (tcl ∈ c.aud.take i)) ∧ s11 = .bool (anyO (c.aud.take i) tcl) ∧ Hid (SL w wx (clC (.slice va c.val.length vc) (.slice aa c.aud.length ac) c) (wtC ⟨tcl, tno, thN, tac, thA, tco, thC, tag, thG, tle⟩) [e0, e1, e2, 0, 0, 0, 0, 0])) (fun _ _ x _ => c.aud.length - (intOf x).toNat)
  case atStart => exact ⟨0, rfl, Nat.zero_le _, by simp, rfl, HS⟩
  case round =>
  obtain ⟨i, rfl, hi, rfl, rfl, HSr⟩ := hrel
  have y5 : wr.cell? ⟨w.heap.size, 5, none⟩ = some (.slice aa c.aud.length ac) := HSr.out.cl.cell 5 (Nat.le_of_ble_eq_true rfl)
  by_cases hlt : i < c.aud.length
  · have y0 : wr.cell? ⟨w.heap.size + 1, 0, none⟩ = some (.string ⟨tcl.toArray⟩) := HSr.out.wt.cell 0 (Nat.le_of_ble_eq_true rfl)
    obtain ⟨gx, off, hax, hcx⟩ := (HLq.out wr HSr.out.bel).tr.at hlt
    have q0 : decide ((i : Int) < (c.aud.length : Int)) = true := decide_eq_true (by omega)
    have q0' : (i : Int) < (c.aud.length : Int) := by omega
    have hal := (HLq.out wr HSr.out.bel).la
    rw [hax] at y5
    obtain ⟨x, hx⟩ : ∃ x, c.aud.getD i [] = x := ⟨_, rfl⟩
    rw [hx] at hcx
    have HT : Hid (c.aud.take (i + 1) = c.aud.take i ++ [x]) := by
      show _ = _
      rw [List.take_add_one, ← hx, List.getD_eq_getElem?_getD, List.getElem?_eq_getElem hlt]
      rfl
    obtain ⟨mi, hmi⟩ : ∃ z, decide (tcl ∈ c.aud.take i) = z := ⟨_, rfl⟩
    obtain ⟨ot, hot⟩ : ∃ z, anyO (c.aud.take i) tcl = z := ⟨_, rfl⟩
    have HM1 : Hid (decide (tcl ∈ c.aud.take (i + 1)) = (mi || decide (x = tcl))) := by
      show _ = _
      rw [HT.out, ← hmi]
      by_cases h1 : tcl ∈ c.aud.take i
      · rw [decide_eq_true h1, decide_eq_true (by simp [h1])]; rfl
      · rw [decide_eq_false h1, Bool.false_or]
        by_cases h2 : x = tcl
        · rw [decide_eq_true h2, decide_eq_true (by simp [h2])]
        · rw [decide_eq_false h2, decide_eq_false (by simp [h1]; exact fun h => h2 h.symm)]
    have HO1 : Hid (anyO (c.aud.take (i + 1)) tcl = (ot || !decide (x = tcl))) := by
      show _ = _
      rw [HT.out, ← hot]
      exact anyO_snoc _ _ _
    rw [hmi, hot]
    clear hmi hot hx hax HT
    have HNX : Hid (∀ n, SL w (wr.drewN n) (clC (.slice va c.val.length vc) (.slice aa c.aud.length ac) c) (wtC ⟨tcl, tno, thN, tac, thA, tco, thC, tag, thG, tle⟩) [e0, e1, e2, 0, 0, 0, 0, 0]) := fun n => HSr.out.below (below_drewN (Below.refl _ _) n)
    clear HSr
    by_cases hxt : x = tcl
    · have qx : (x == tcl) = true := by simpa using hxt
      have qn : (x != tcl) = false := by simp [hxt]
      rw [decide_eq_true hxt] at HM1 HO1
      clear hxt
      cases mi <;> cases ot
      all_goals
        go_wp2
        go_quiet (fail)
        go_wp2
        go_quiet (fail)
        go_wp2
        go_roundw
        case rel => exact ⟨i + 1, by go_num, by omega, by rw [HM1.out]; rfl, by rw [HO1.out]; rfl, HNX.out _⟩
        case measure => simp [intOf]; omega
    · have qx : (x == tcl) = false := by simpa using hxt
      have qn : (x != tcl) = true := by simpa using hxt
      rw [decide_eq_false hxt] at HM1 HO1
      clear hxt
      cases mi <;> cases ot
      all_goals
        go_wp2
        go_quiet (fail)
        go_wp2
        go_quiet (fail)
        go_wp2
        go_roundw
        case rel => exact ⟨i + 1, by go_num, by omega, by rw [HM1.out]; rfl, by rw [HO1.out]; rfl, HNX.out _⟩
        case measure => simp [intOf]; omega
  have q0 : decide ((i : Int) < (c.aud.length : Int)) = false := decide_eq_false (by omega)
  have hil : i = c.aud.length := by omega
  rw [hil, List.take_length]
  have HS : Hid (SL w wr (clC (.slice va c.val.length vc) (.slice aa c.aud.length ac) c) (wtC ⟨tcl, tno, thN, tac, thA, tco, thC, tag, thG, tle⟩) [e0, e1, e2, 0, 0, 0, 0, 0]) := HSr
  clear HSr hlt hil hi
  obtain ⟨mi, hmi⟩ : ∃ z, decide (tcl ∈ c.aud) = z := ⟨_, rfl⟩
  obtain ⟨ot, hot⟩ : ∃ z, anyO c.aud tcl = z := ⟨_, rfl⟩
  have HOT : Hid (anyO c.aud tcl = ot) := hot
  have qb := HBo3.out
  rw [hmi] at qb
  rw [hmi, hot]
  clear hmi hot
  obtain ⟨wc, hwc⟩ : ∃ x, wr = x := ⟨_, rfl⟩
  subst hwc
  obtain ⟨e3, he3⟩ : ∃ x, cdI b3 133 = x := ⟨_, rfl⟩
  have HE3 : Hid (cdI b3 133 = e3) := he3
  clear he3
  go_upto_if 106 with fail
  clear q0 y5 qb
  go_cut [] from 107 to 108 (fun wx => Hid (SL w wx (clC (.slice va c.val.length vc) (.slice aa c.aud.length ac) c) (wtC ⟨tcl, tno, thN, tac, thA, tco, thC, tag, thG, tle⟩) [e0, e1, e2, e3, 0, 0, 0, 0]))
  case first =>
    have e := HE3.out
    cases b3
    · have e : (0 : Int) = e3 := e
      subst e
      go_wp2
      go_meet
      exact HS
    · have e : (133 : Int) = e3 := e
      have HS2 : Hid (SL w (wr.setCell ⟨w.heap.size + 2, 3, none⟩ (.int .i64 133)) (clC (.slice va c.val.length vc) (.slice aa c.aud.length ac) c) (wtC ⟨tcl, tno, thN, tac, thA, tco, thC, tag, thG, tle⟩) [e0, e1, e2, e3, 0, 0, 0, 0]) := by rw [← e]; exact HS.out.set 3 133 rfl
      have kv : wr.cell? ⟨w.heap.size + 2, 3, none⟩ = some (.int .i64 0) := HS.out.ls.cell 3 (by simp)
      have fv : wr.frozen? ⟨w.heap.size + 2, 3, none⟩ = false := HS.out.ls.frozen 3
      clear HS e
      go_wp2
      go_meet
      exact HS2
  case rest =>
  clear HS
  have HS := hcut
  clear hcut
  have y0 : wc.cell? ⟨w.heap.size, 0, none⟩ = some (.slice va c.val.length vc) := HS.out.cl.cell 0 (Nat.le_of_ble_eq_true rfl)
  have CM : Calls Tryz.prog 38 #[.slice va c.val.length vc, .int .i64 0, .string ⟨#[97, 122, 112]⟩] wc fun e w' => e = .returned (.int .i64 (memF c.val 0 kAzp)) ∧ Below wc.heap.size wc w' := member_any _ c.val va vc 0 kAzp wc (HLq.out wc HS.out.bel).nr (by have := (HLq.out wc HS.out.bel).ln; omega)
  obtain ⟨th, hth⟩ : ∃ x, decide (0 ≤ memF c.val 0 kAzp) = x := ⟨_, rfl⟩
  have e4x : ((decide (0 ≤ memF c.val 0 kAzp) && !sayF (nM c.val kAzp) tcl) || (!decide (0 ≤ memF c.val 0 kAzp) && anyO c.aud tcl)) = b4 := HBo4.out
  rw [hth, HOT.out] at e4x
  have HX4 : Hid (((th && !sayF (nM c.val kAzp) tcl) || (!th && ot)) = b4) := e4x
  clear e4x
  obtain ⟨M, hM⟩ : ∃ x, memF c.val 0 kAzp = x := ⟨_, rfl⟩
  rw [hM] at CM hth
  have hth2 : decide (M ≥ 0) = th := hth
  clear hM
  go_wp2_with fail
  refine CM.mono ?_
  clear CM y0
  rintro e wd ⟨rfl, hBd⟩
  have HSd : Hid (SL w wd (clC (.slice va c.val.length vc) (.slice aa c.aud.length ac) c) (wtC ⟨tcl, tno, thN, tac, thA, tco, thC, tag, thG, tle⟩) [e0, e1, e2, e3, 0, 0, 0, 0]) := HS.out.below hBd
  clear hBd HS
  go_upto_region 18 with fail
  clear hth hth2
  go_cut [128] from 113 to 128 (fun s wx => s = .bool b4 ∧ Hid (SL w wx (clC (.slice va c.val.length vc) (.slice aa c.aud.length ac) c) (wtC ⟨tcl, tno, thN, tac, thA, tco, thC, tag, thG, tle⟩) [e0, e1, e2, e3, 0, 0, 0, 0]))
  case first =>
    have e := HX4.out
    clear HX4
    cases th
    · have e2 : ot = b4 := by simpa using e
      subst e2
      clear e
      go_wp2
      go_meet
      exact ⟨rfl, HSd⟩
    · have CS : Calls Tryz.prog 39 #[.slice va c.val.length vc, .string ⟨#[97, 122, 112]⟩, .string ⟨tcl.toArray⟩] wd fun e w' => e = .returned (.bool (sayF (nM c.val kAzp) tcl)) ∧ Below wd.heap.size wd w' := lsaid_any c.val va vc kAzp tcl wd (HLq.out wd HSd.out.bel).nr (by have := (HLq.out wd HSd.out.bel).ln; omega)
      obtain ⟨sd, hsd⟩ : ∃ x, sayF (nM c.val kAzp) tcl = x := ⟨_, rfl⟩
      rw [hsd] at CS e
      clear hsd
      have y0 : wd.cell? ⟨w.heap.size, 0, none⟩ = some (.slice va c.val.length vc) := HSd.out.cl.cell 0 (Nat.le_of_ble_eq_true rfl)
      have y1 : wd.cell? ⟨w.heap.size + 1, 0, none⟩ = some (.string ⟨tcl.toArray⟩) := HSd.out.wt.cell 0 (Nat.le_of_ble_eq_true rfl)
      go_wp2_with fail
      refine CS.mono ?_
      clear CS y0 y1
      rintro e' wf ⟨rfl, hBf⟩
      have HSf : Hid (SL w wf (clC (.slice va c.val.length vc) (.slice aa c.aud.length ac) c) (wtC ⟨tcl, tno, thN, tac, thA, tco, thC, tag, thG, tle⟩) [e0, e1, e2, e3, 0, 0, 0, 0]) := HSd.out.below hBf
      clear hBf HSd
      cases sd
      · have e2 : true = b4 := by simpa using e
        subst e2
        clear e
        go_wp2
        go_meet
        exact ⟨rfl, HSf⟩
      · have e2 : false = b4 := by simpa using e
        subst e2
        clear e
        go_wp2
        go_meet
        exact ⟨rfl, HSf⟩
  case rest =>
  obtain ⟨rfl, HS⟩ := hcut
  clear HSd HX4
  obtain ⟨e4, he4⟩ : ∃ x, cdI b4 151 = x := ⟨_, rfl⟩
  have HE4 : Hid (cdI b4 151 = e4) := he4
  clear he4
  go_upto_if 128 with fail
  go_cut [] from 129 to 130 (fun wx => Hid (SL w wx (clC (.slice va c.val.length vc) (.slice aa c.aud.length ac) c) (wtC ⟨tcl, tno, thN, tac, thA, tco, thC, tag, thG, tle⟩) [e0, e1, e2, e3, e4, 0, 0, 0]))
  case first =>
    have e := HE4.out
    cases b4
    · have e : (0 : Int) = e4 := e
      subst e
      go_wp2
      go_meet
      exact HS
    · have e : (151 : Int) = e4 := e
      have HS2 : Hid (SL w (wc.setCell ⟨w.heap.size + 2, 4, none⟩ (.int .i64 151)) (clC (.slice va c.val.length vc) (.slice aa c.aud.length ac) c) (wtC ⟨tcl, tno, thN, tac, thA, tco, thC, tag, thG, tle⟩) [e0, e1, e2, e3, e4, 0, 0, 0]) := by rw [← e]; exact HS.out.set 4 151 rfl
      have kv : wc.cell? ⟨w.heap.size + 2, 4, none⟩ = some (.int .i64 0) := HS.out.ls.cell 4 (by simp)
      have fv : wc.frozen? ⟨w.heap.size + 2, 4, none⟩ = false := HS.out.ls.frozen 4
      clear HS e
      go_wp2
      go_meet
      exact HS2
  case rest =>
  clear HS
  have HS := hcut
  clear hcut
  go_upto_region 20 with fail
  have y2 : wc.cell? ⟨w.heap.size + 1, 2, none⟩ = some (.bool thN) := HS.out.wt.cell 2 (Nat.le_of_ble_eq_true rfl)
  go_cut [140] from 131 to 140 (fun s wx => s = .bool b5 ∧ Hid (SL w wx (clC (.slice va c.val.length vc) (.slice aa c.aud.length ac) c) (wtC ⟨tcl, tno, thN, tac, thA, tco, thC, tag, thG, tle⟩) [e0, e1, e2, e3, e4, 0, 0, 0]))
  case first =>
    have e : (thN && !sayF (nM c.val kNonce) tno) = b5 := HBo5.out
    clear HBo5 HBo6 HBo7 HBo0
    have CS : Calls Tryz.prog 39 #[.slice va c.val.length vc, .string ⟨#[110, 111, 110, 99, 101]⟩, .string ⟨tno.toArray⟩] wc fun e w' => e = .returned (.bool (sayF (nM c.val kNonce) tno)) ∧ Below wc.heap.size wc w' := lsaid_any c.val va vc kNonce tno wc (HLq.out wc HS.out.bel).nr (by have := (HLq.out wc HS.out.bel).ln; omega)
    obtain ⟨sd, hsd⟩ : ∃ x, sayF (nM c.val kNonce) tno = x := ⟨_, rfl⟩
    rw [hsd] at CS e
    clear hsd
    have y0 : wc.cell? ⟨w.heap.size, 0, none⟩ = some (.slice va c.val.length vc) := HS.out.cl.cell 0 (Nat.le_of_ble_eq_true rfl)
    have y1 : wc.cell? ⟨w.heap.size + 1, 1, none⟩ = some (.string ⟨tno.toArray⟩) := HS.out.wt.cell 1 (Nat.le_of_ble_eq_true rfl)
    cases thN
    · have e2 : false = b5 := by simpa using e
      subst e2
      clear e
      go_wp2
      go_meet
      exact ⟨rfl, HS⟩
    · go_wp2_with fail
      refine CS.mono ?_
      clear CS y0 y1
      rintro e' wf ⟨rfl, hBf⟩
      have HSf := HS.out.below hBf
      have HSg : Hid _ := HSf
      clear hBf HS HSf
      cases sd
      · have e2 : true = b5 := by simpa using e
        subst e2
        clear e
        go_wp2
        go_meet
        exact ⟨rfl, HSg⟩
      · have e2 : false = b5 := by simpa using e
        subst e2
        clear e
        go_wp2
        go_meet
        exact ⟨rfl, HSg⟩
  case rest =>
  clear HS y2
  obtain ⟨rfl, HS⟩ := hcut
  obtain ⟨e5, he5⟩ : ∃ x, cdI b5 150 = x := ⟨_, rfl⟩
  have HE5 : Hid (cdI b5 150 = e5) := he5
  clear he5
  go_upto_if 140 with fail
  go_cut [] from 141 to 142 (fun wx => Hid (SL w wx (clC (.slice va c.val.length vc) (.slice aa c.aud.length ac) c) (wtC ⟨tcl, tno, thN, tac, thA, tco, thC, tag, thG, tle⟩) [e0, e1, e2, e3, e4, e5, 0, 0]))
  case first =>
    have e := HE5.out
    cases b5
    · have e : (0 : Int) = e5 := e
      subst e
      go_wp2
      go_meet
      exact HS
    · have e : (150 : Int) = e5 := e
      have HS2 : Hid (SL w (wc.setCell ⟨w.heap.size + 2, 5, none⟩ (.int .i64 150)) (clC (.slice va c.val.length vc) (.slice aa c.aud.length ac) c) (wtC ⟨tcl, tno, thN, tac, thA, tco, thC, tag, thG, tle⟩) [e0, e1, e2, e3, e4, e5, 0, 0]) := by rw [← e]; exact HS.out.set 5 150 rfl
      have kv : wc.cell? ⟨w.heap.size + 2, 5, none⟩ = some (.int .i64 0) := HS.out.ls.cell 5 (by simp)
      have fv : wc.frozen? ⟨w.heap.size + 2, 5, none⟩ = false := HS.out.ls.frozen 5
      clear HS e
      go_wp2
      go_meet
      exact HS2
  case rest =>
  clear HS
  have HS := hcut
  clear hcut
  obtain ⟨A1, hA1⟩ : ∃ x, (halfF alg tac).1 = x := ⟨_, rfl⟩
  obtain ⟨A2, hA2⟩ : ∃ x, (halfF alg tco).1 = x := ⟨_, rfl⟩
  obtain ⟨N1, hN1⟩ : ∃ x, ((halfF alg tac).2 : Int) = x := ⟨_, rfl⟩
  obtain ⟨N2, hN2⟩ : ∃ x, ((halfF alg tco).2 : Int) = x := ⟨_, rfl⟩
  have HX6 : Hid (((thA && !sayF (nM c.val kAt) A1) || (thC && !sayF (nM c.val kCh) A2)) = b6) := by rw [← hA1, ← hA2]; exact HBo6.out
  have HH1 : Hid (∀ wq, Below w.heap.size w wq → Calls Tryz.prog 16 #[.int .i64 alg, .string ⟨tac.toArray⟩] wq fun e w' => e = .returned (.tuple #[.string ⟨A1.toArray⟩, .int .i64 N1]) ∧ Below wq.heap.size wq w') := fun wq hq => by rw [← hA1, ← hN1]; exact half_any alg tac wq (HLq.out wq hq).tb HI.out.2.1
  have HH2 : Hid (∀ wq, Below w.heap.size w wq → Calls Tryz.prog 16 #[.int .i64 alg, .string ⟨tco.toArray⟩] wq fun e w' => e = .returned (.tuple #[.string ⟨A2.toArray⟩, .int .i64 N2]) ∧ Below wq.heap.size wq w') := fun wq hq => by rw [← hA2, ← hN2]; exact half_any alg tco wq (HLq.out wq hq).tb HI.out.2.2
  clear hA1 hA2 hN1 hN2
  have C1 := HH1.out wc HS.out.bel
  have y3 : wc.cell? ⟨w.heap.size + 1, 3, none⟩ = some (.string ⟨tac.toArray⟩) := HS.out.wt.cell 3 (Nat.le_of_ble_eq_true rfl)
  clear HH1
  go_wp2_with fail
  refine C1.mono ?_
  clear C1 y3
  rintro e wd ⟨rfl, hBd⟩
  have HSd : Hid (SL w wd (clC (.slice va c.val.length vc) (.slice aa c.aud.length ac) c) (wtC ⟨tcl, tno, thN, tac, thA, tco, thC, tag, thG, tle⟩) [e0, e1, e2, e3, e4, e5, 0, 0]) := HS.out.below hBd
  have C2 := HH2.out wd HSd.out.bel
  have y5 : wd.cell? ⟨w.heap.size + 1, 5, none⟩ = some (.string ⟨tco.toArray⟩) := HSd.out.wt.cell 5 (Nat.le_of_ble_eq_true rfl)
  clear HH2 hBd HS
  go_wp2_with fail
  refine C2.mono ?_
  clear C2 y5
  rintro e we ⟨rfl, hBe⟩
  have HSe : Hid (SL w we (clC (.slice va c.val.length vc) (.slice aa c.aud.length ac) c) (wtC ⟨tcl, tno, thN, tac, thA, tco, thC, tag, thG, tle⟩) [e0, e1, e2, e3, e4, e5, 0, 0]) := HSd.out.below hBe
  clear hBe HSd
  go_upto_region 24 with fail
  have y4 : we.cell? ⟨w.heap.size + 1, 4, none⟩ = some (.bool thA) := HSe.out.wt.cell 4 (Nat.le_of_ble_eq_true rfl)
  go_cut [176] from 157 to 176 (fun s wx => s = .bool b6 ∧ Hid (SL w wx (clC (.slice va c.val.length vc) (.slice aa c.aud.length ac) c) (wtC ⟨tcl, tno, thN, tac, thA, tco, thC, tag, thG, tle⟩) [e0, e1, e2, e3, e4, e5, 0, 0]))
  case first =>
    have e := HX6.out
    have CS : Calls Tryz.prog 39 #[.slice va c.val.length vc, .string ⟨#[97, 116, 95, 104, 97, 115, 104]⟩, .string ⟨A1.toArray⟩] we fun e w' => e = .returned (.bool (sayF (nM c.val kAt) A1)) ∧ Below we.heap.size we w' := lsaid_any c.val va vc kAt A1 we (HLq.out we HSe.out.bel).nr (by have := (HLq.out we HSe.out.bel).ln; omega)
    have HC2 : Hid (∀ wq, SL w wq (clC (.slice va c.val.length vc) (.slice aa c.aud.length ac) c) (wtC ⟨tcl, tno, thN, tac, thA, tco, thC, tag, thG, tle⟩) [e0, e1, e2, e3, e4, e5, 0, 0] → Calls Tryz.prog 39 #[.slice va c.val.length vc, .string ⟨#[99, 95, 104, 97, 115, 104]⟩, .string ⟨A2.toArray⟩] wq fun e w' => e = .returned (.bool (sayF (nM c.val kCh) A2)) ∧ Below wq.heap.size wq w') := fun wq hq => lsaid_any c.val va vc kCh A2 wq (HLq.out wq hq.bel).nr (by have := (HLq.out wq hq.bel).ln; omega)
    obtain ⟨s1, hs1⟩ : ∃ x, sayF (nM c.val kAt) A1 = x := ⟨_, rfl⟩
    obtain ⟨s2, hs2⟩ : ∃ x, sayF (nM c.val kCh) A2 = x := ⟨_, rfl⟩
    rw [hs1] at CS e
    rw [hs2] at HC2 e
    clear hs1 hs2 HX6 HBo0 HBo1 HBo2 HBo3 HBo4 HBo5 HBo6 HBo7 HE0 HE1 HE2 HE3 HE4 HE5
    have y0 : we.cell? ⟨w.heap.size, 0, none⟩ = some (.slice va c.val.length vc) := HSe.out.cl.cell 0 (Nat.le_of_ble_eq_true rfl)
    have y6 : we.cell? ⟨w.heap.size + 1, 6, none⟩ = some (.bool thC) := HSe.out.wt.cell 6 (Nat.le_of_ble_eq_true rfl)
    cases thA
    · cases thC
      · have e2 : false = b6 := by simpa using e
        subst e2
        clear e
        go_wp2
        go_meet
        exact ⟨rfl, HSe⟩
      · have C2 := HC2.out we HSe.out
        go_wp2_with fail
        refine C2.mono ?_
        clear C2 y0 y4 y6 CS
        rintro e' wf ⟨rfl, hBf⟩
        have HSg : Hid _ := HSe.out.below hBf
        clear hBf HSe
        cases s2
        · have e2 : true = b6 := by simpa using e
          subst e2
          clear e
          go_wp2
          go_meet
          exact ⟨rfl, HSg⟩
        · have e2 : false = b6 := by simpa using e
          subst e2
          clear e
          go_wp2
          go_meet
          exact ⟨rfl, HSg⟩
    · go_wp2_with fail
      refine CS.mono ?_
      clear CS y0 y4 y6
      rintro e' wf ⟨rfl, hBf⟩
      have HSg : Hid _ := HSe.out.below hBf
      have y0 : wf.cell? ⟨w.heap.size, 0, none⟩ = some (.slice va c.val.length vc) := HSg.out.cl.cell 0 (Nat.le_of_ble_eq_true rfl)
      have y6 : wf.cell? ⟨w.heap.size + 1, 6, none⟩ = some (.bool thC) := HSg.out.wt.cell 6 (Nat.le_of_ble_eq_true rfl)
      clear hBf HSe
      cases s1
      · have e2 : true = b6 := by simpa using e
        subst e2
        clear e
        go_wp2
        go_meet
        exact ⟨rfl, HSg⟩
      · cases thC
        · have e2 : false = b6 := by simpa using e
          subst e2
          clear e
          go_wp2
          go_meet
          exact ⟨rfl, HSg⟩
        · have C2 := HC2.out wf HSg.out
          go_wp2_with fail
          refine C2.mono ?_
          clear C2 y0 y6
          rintro e' wh ⟨rfl, hBh⟩
          have HSh : Hid _ := HSg.out.below hBh
          clear hBh HSg
          cases s2
          · have e2 : true = b6 := by simpa using e
            subst e2
            clear e
            go_wp2
            go_meet
            exact ⟨rfl, HSh⟩
          · have e2 : false = b6 := by simpa using e
            subst e2
            clear e
            go_wp2
            go_meet
            exact ⟨rfl, HSh⟩
  case rest =>
  clear HSe y4 HX6
  obtain ⟨rfl, HS⟩ := hcut
  obtain ⟨e6, he6⟩ : ∃ x, cdI b6 152 = x := ⟨_, rfl⟩
  have HE6 : Hid (cdI b6 152 = e6) := he6
  clear he6
  go_upto_if 176 with fail
  go_cut [] from 177 to 178 (fun wx => Hid (SL w wx (clC (.slice va c.val.length vc) (.slice aa c.aud.length ac) c) (wtC ⟨tcl, tno, thN, tac, thA, tco, thC, tag, thG, tle⟩) [e0, e1, e2, e3, e4, e5, e6, 0]))
  case first =>
    have e := HE6.out
    cases b6
    · have e : (0 : Int) = e6 := e
      subst e
      go_wp2
      go_meet
      exact HS
    · have e : (152 : Int) = e6 := e
      have HS2 : Hid (SL w (wc.setCell ⟨w.heap.size + 2, 6, none⟩ (.int .i64 152)) (clC (.slice va c.val.length vc) (.slice aa c.aud.length ac) c) (wtC ⟨tcl, tno, thN, tac, thA, tco, thC, tag, thG, tle⟩) [e0, e1, e2, e3, e4, e5, e6, 0]) := by rw [← e]; exact HS.out.set 6 152 rfl
      have kv : wc.cell? ⟨w.heap.size + 2, 6, none⟩ = some (.int .i64 0) := HS.out.ls.cell 6 (by simp)
      have fv : wc.frozen? ⟨w.heap.size + 2, 6, none⟩ = false := HS.out.ls.frozen 6
      clear HS e
      go_wp2
      go_meet
      exact HS2
  case rest =>
  clear HS
  have HS := hcut
  clear hcut
  have y0 : wc.cell? ⟨w.heap.size, 0, none⟩ = some (.slice va c.val.length vc) := HS.out.cl.cell 0 (Nat.le_of_ble_eq_true rfl)
  have CM : Calls Tryz.prog 38 #[.slice va c.val.length vc, .int .i64 0, .string ⟨#[97, 117, 116, 104, 95, 116, 105, 109, 101]⟩] wc fun e w' => e = .returned (.int .i64 (memF c.val 0 kAuth)) ∧ Below wc.heap.size wc w' := member_any _ c.val va vc 0 kAuth wc (HLq.out wc HS.out.bel).nr (by have := (HLq.out wc HS.out.bel).ln; omega)
  obtain ⟨M, hM⟩ : ∃ x, memF c.val 0 kAuth = x := ⟨_, rfl⟩
  have HX7 : Hid ((thG && (decide (M < 0) || (!decide ((nM c.val kAuth).kind = 4)) || !(nM c.val kAuth).whole || lateF (nM c.val kAuth).int tag tle now)) = b7) := by rw [← hM]; exact HBo7.out
  have HMi : Hid (M = -1 ∨ ∃ i : Nat, M = (i : Int) ∧ i < c.val.length ∧ nM c.val kAuth = c.val.getD i (nd0 0)) := by
    rcases mem_in c.val kAuth with h | ⟨i, hi, h, _⟩
    · exact .inl (by rw [← hM]; exact h)
    · refine .inr ⟨i, by rw [← hM]; exact h, kidsF_lt i hi, ?_⟩
      unfold nM
      rw [h, if_neg (by omega), Int.toNat_natCast]
  rw [hM] at CM
  clear hM
  go_wp2_with fail
  refine CM.mono ?_
  clear CM y0
  rintro e wd ⟨rfl, hBd⟩
  have HSd : Hid (SL w wd (clC (.slice va c.val.length vc) (.slice aa c.aud.length ac) c) (wtC ⟨tcl, tno, thN, tac, thA, tco, thC, tag, thG, tle⟩) [e0, e1, e2, e3, e4, e5, e6, 0]) := HS.out.below hBd
  clear hBd HS
  go_upto_region 27 with fail
  go_cut [219] from 182 to 219 (fun s wx => s = .bool b7 ∧ Hid (SL w wx (clC (.slice va c.val.length vc) (.slice aa c.aud.length ac) c) (wtC ⟨tcl, tno, thN, tac, thA, tco, thC, tag, thG, tle⟩) [e0, e1, e2, e3, e4, e5, e6, 0]))
  case first =>
    have e := HX7.out
    have HNX : Hid (∀ n, Hid (SL w (wd.drewN n) (clC (.slice va c.val.length vc) (.slice aa c.aud.length ac) c) (wtC ⟨tcl, tno, thN, tac, thA, tco, thC, tag, thG, tle⟩) [e0, e1, e2, e3, e4, e5, e6, 0])) := fun n => HSd.out.below (below_drewN (Below.refl _ _) n)
    have HND : Hid (Hid (SL w wd.drew (clC (.slice va c.val.length vc) (.slice aa c.aud.length ac) c) (wtC ⟨tcl, tno, thN, tac, thA, tco, thC, tag, thG, tle⟩) [e0, e1, e2, e3, e4, e5, e6, 0])) := HSd.out.below ((Below.refl _ _).drew)
    have y8 : wd.cell? ⟨w.heap.size + 1, 8, none⟩ = some (.bool thG) := HSd.out.wt.cell 8 (Nat.le_of_ble_eq_true rfl)
    have y0 : wd.cell? ⟨w.heap.size, 0, none⟩ = some (.slice va c.val.length vc) := HSd.out.cl.cell 0 (Nat.le_of_ble_eq_true rfl)
    have y7 : wd.cell? ⟨w.heap.size + 1, 7, none⟩ = some (.int .i64 tag) := HSd.out.wt.cell 7 (Nat.le_of_ble_eq_true rfl)
    have y9 : wd.cell? ⟨w.heap.size + 1, 9, none⟩ = some (.int .i64 tle) := HSd.out.wt.cell 9 (Nat.le_of_ble_eq_true rfl)
    clear HX7 HBo0 HBo1 HBo2 HBo3 HBo4 HBo5 HBo6 HBo7 HE0 HE1 HE2 HE3 HE4 HE5 HE6
    cases thG
    · have e2 : false = b7 := by simpa using e
      subst e2
      clear e
      go_quiet (fail)
      go_wp2_with fail
      go_meet
      exact ⟨rfl, HNX.out _⟩
    · rcases HMi.out with hm | ⟨i, hm, hil, hn⟩
      · subst hm
        have e2 : true = b7 := by simpa using e
        subst e2
        clear e
        go_quiet (fail)
        go_wp2_with fail
        go_meet
        exact ⟨rfl, HNX.out _⟩
      · subst hm
        obtain ⟨n, hnn⟩ : ∃ n, c.val.getD i (nd0 0) = n := ⟨_, rfl⟩
        rw [hn, hnn] at e
        obtain ⟨gv, off, hav, hc2⟩ := (HLq.out wd HSd.out.bel).nr.at hil
        have hit : I64 n.int := by
          refine (HLq.out wd HSd.out.bel).it n ?_
          rw [← hnn, List.getD_eq_getElem?_getD, List.getElem?_eq_getElem hil]
          exact List.getElem_mem hil
        rw [hnn] at hc2
        rw [hav] at y0
        have z0 : wd.cell? ⟨gv, off + i * 6, none⟩ = some (.int .i64 n.kind) := hc2 0 _ (by omega) rfl
        have z3 : wd.cell? ⟨gv, off + i * 6 + 3, none⟩ = some (.bool n.whole) := hc2 3 _ (by omega) rfl
        have z4 : wd.cell? ⟨gv, off + i * 6 + 4, none⟩ = some (.int .i64 n.int) := hc2 4 _ (by omega) rfl
        have q0 : decide ((i : Int) < 0) = false := decide_eq_false (by omega)
        have q1 : (i : Int) < (c.val.length : Int) := by omega
        rw [q0, Bool.false_or] at e
        clear hc2 hav hn hnn HMi HSd
        obtain ⟨NI, hNI⟩ : ∃ x, n.int = x := ⟨_, rfl⟩
        obtain ⟨NK, hNK⟩ : ∃ x, n.kind = x := ⟨_, rfl⟩
        obtain ⟨NW, hNW⟩ : ∃ x, n.whole = x := ⟨_, rfl⟩
        rw [hNI] at e z4 hit
        rw [hNK] at e z0
        rw [hNW] at e z3
        clear hNI hNK hNW
        by_cases k4 : NK = 4
        · subst k4
          cases NW
          · have e2 : true = b7 := by simpa using e
            subst e2
            clear e
            go_quiet (fail)
            go_wp2_with fail
            go_meet
            exact ⟨rfl, HNX.out _⟩
          · have CL : ∀ wq, Calls Tryz.prog 40 #[.int .i64 NI, .int .i64 tag, .int .i64 tle, .int .i64 now] wq fun e w' => e = .returned (.bool (lateF NI tag tle now)) ∧ w' = wq := fun wq => llate_any NI tag tle now wq hit HI.out.1
            obtain ⟨lt, hlt⟩ : ∃ x, lateF NI tag tle now = x := ⟨_, rfl⟩
            rw [hlt] at CL e
            clear hlt
            have e2 : lt = b7 := by simpa using e
            subst e2
            have HSS : Hid ((fun (w' : World) => w'.cell? ⟨w.heap.size + 1, 8, none⟩ = some (.bool true) ∧ w'.cell? ⟨w.heap.size, 0, none⟩ = some (.slice (some ⟨gv, off, none⟩) c.val.length vc) ∧ w'.cell? ⟨gv, off + i * 6, none⟩ = some (.int .i64 4) ∧ w'.cell? ⟨gv, off + i * 6 + 3, none⟩ = some (.bool true) ∧ w'.cell? ⟨gv, off + i * 6 + 4, none⟩ = some (.int .i64 NI) ∧ w'.cell? ⟨w.heap.size + 1, 7, none⟩ = some (.int .i64 tag) ∧ w'.cell? ⟨w.heap.size + 1, 9, none⟩ = some (.int .i64 tle)) wd.drew) := ⟨y8, y0, z0, z3, z4, y7, y9⟩
            clear e y8 y0 z0 z3 z4 y7 y9
            refine wp_region_K 37 (fun (w' : World) => w'.cell? ⟨w.heap.size + 1, 8, none⟩ = some (.bool true) ∧ w'.cell? ⟨w.heap.size, 0, none⟩ = some (.slice (some ⟨gv, off, none⟩) c.val.length vc) ∧ w'.cell? ⟨gv, off + i * 6, none⟩ = some (.int .i64 4) ∧ w'.cell? ⟨gv, off + i * 6 + 3, none⟩ = some (.bool true) ∧ w'.cell? ⟨gv, off + i * 6 + 4, none⟩ = some (.int .i64 NI) ∧ w'.cell? ⟨w.heap.size + 1, 7, none⟩ = some (.int .i64 tag) ∧ w'.cell? ⟨w.heap.size + 1, 9, none⟩ = some (.int .i64 tle)) (by kernel_rfl) ?_
            have hHeld : ((fun (w' : World) => w'.cell? ⟨w.heap.size + 1, 8, none⟩ = some (.bool true) ∧ w'.cell? ⟨w.heap.size, 0, none⟩ = some (.slice (some ⟨gv, off, none⟩) c.val.length vc) ∧ w'.cell? ⟨gv, off + i * 6, none⟩ = some (.int .i64 4) ∧ w'.cell? ⟨gv, off + i * 6 + 3, none⟩ = some (.bool true) ∧ w'.cell? ⟨gv, off + i * 6 + 4, none⟩ = some (.int .i64 NI) ∧ w'.cell? ⟨w.heap.size + 1, 7, none⟩ = some (.int .i64 tag) ∧ w'.cell? ⟨w.heap.size + 1, 9, none⟩ = some (.int .i64 tle))) (World.drew _) := HSS.out
            refine wpAnyK_take0 0 (v := ?v1) rfl (by kernel_rfl) (fun _ _ _ h => h) (Or.inl ⟨by rfl, ?hy1⟩) (fun _ => hHeld) ?_
            case hy1 => (intro w hSw; go_simp; try with_reducible rfl)
            try simp only [Act.put, List.setIfInBounds_toArray, List.set_cons_zero, List.set_cons_succ]
            refine wpAnyK_take 1 [2, 37] (v := ?v2) rfl (by kernel_rfl) (fun _ _ _ h => h) (Or.inl ⟨by rfl, ?hy2⟩) hHeld ?_
            case hy2 => (intro w hSw; (try dsimp only at hSw); go_simp; try with_reducible rfl)
            try simp only [Act.put, List.setIfInBounds_toArray, List.set_cons_zero, List.set_cons_succ]
            refine wpAnyK_take0 2 (v := ?v3) rfl (by kernel_rfl) (fun _ _ _ h => h) (Or.inl ⟨by rfl, ?hy3⟩) (fun _ => hHeld) ?_
            case hy3 => (intro w hSw; go_simp; try with_reducible rfl)
            try simp only [Act.put, List.setIfInBounds_toArray, List.set_cons_zero, List.set_cons_succ]
            refine wpAnyK_take0 3 (v := ?v4) rfl (by kernel_rfl) (fun _ _ _ h => h) (Or.inl ⟨by rfl, ?hy4⟩) (fun _ => hHeld) ?_
            case hy4 => (intro w hSw; go_simp; try with_reducible rfl)
            try simp only [Act.put, List.setIfInBounds_toArray, List.set_cons_zero, List.set_cons_succ]
            refine wpAnyK_take0 4 (v := ?v5) rfl (by kernel_rfl) (fun _ _ _ h => h) (Or.inl ⟨by rfl, ?hy5⟩) (fun _ => hHeld) ?_
            case hy5 => (intro w hSw; go_simp; try with_reducible rfl)
            try simp only [Act.put, List.setIfInBounds_toArray, List.set_cons_zero, List.set_cons_succ]
            refine wpAnyK_take0 5 (v := ?v6) rfl (by kernel_rfl) (fun _ _ _ h => h) (Or.inl ⟨by rfl, ?hy6⟩) (fun _ => hHeld) ?_
            case hy6 => (intro w hSw; go_simp; try with_reducible rfl)
            try simp only [Act.put, List.setIfInBounds_toArray, List.set_cons_zero, List.set_cons_succ]
            refine wpAnyK_take0 6 (v := ?v7) rfl (by kernel_rfl) (fun _ _ _ h => h) (Or.inl ⟨by rfl, ?hy7⟩) (fun _ => hHeld) ?_
            case hy7 => (intro w hSw; go_simp; try with_reducible rfl)
            try simp only [Act.put, List.setIfInBounds_toArray, List.set_cons_zero, List.set_cons_succ]
            refine wpAnyK_take 7 [9, 10, 11, 12, 13, 14, 22, 23, 36, 37] (v := ?v8) rfl (by kernel_rfl) (fun _ _ _ h => h) (Or.inl ⟨by rfl, ?hy8⟩) hHeld ?_
            case hy8 => (intro w hSw; (try dsimp only at hSw); go_simp; try with_reducible rfl)
            try simp only [Act.put, List.setIfInBounds_toArray, List.set_cons_zero, List.set_cons_succ]
            refine wpAnyK_take0 8 (v := ?v9) rfl (by kernel_rfl) (fun _ _ _ h => h) (Or.inl ⟨by rfl, ?hy9⟩) (fun _ => hHeld) ?_
            case hy9 => (intro w hSw; go_simp; try with_reducible rfl)
            try simp only [Act.put, List.setIfInBounds_toArray, List.set_cons_zero, List.set_cons_succ]
            refine wpAnyK_take0 9 (v := ?v10) rfl (by kernel_rfl) (fun _ _ _ h => h) (Or.inl ⟨by rfl, ?hy10⟩) (fun _ => hHeld) ?_
            case hy10 => (intro w hSw; go_simp; try with_reducible rfl)
            try simp only [Act.put, List.setIfInBounds_toArray, List.set_cons_zero, List.set_cons_succ]
            refine wpAnyK_take0 10 (v := ?v11) rfl (by kernel_rfl) (fun _ _ _ h => h) (Or.inl ⟨by rfl, ?hy11⟩) (fun _ => hHeld) ?_
            case hy11 => (intro w hSw; go_simp; try with_reducible rfl)
            try simp only [Act.put, List.setIfInBounds_toArray, List.set_cons_zero, List.set_cons_succ]
            refine wpAnyK_take 11 [12, 13, 14, 22, 23, 36, 37] (v := ?v12) rfl (by kernel_rfl) (fun _ _ _ h => h) (Or.inl ⟨by rfl, ?hy12⟩) hHeld ?_
            case hy12 => (intro w hSw; (try dsimp only at hSw); go_simp; try with_reducible rfl)
            try simp only [Act.put, List.setIfInBounds_toArray, List.set_cons_zero, List.set_cons_succ]
            refine wpAnyK_take0 12 (v := ?v13) rfl (by kernel_rfl) (fun _ _ _ h => h) (Or.inl ⟨by rfl, ?hy13⟩) (fun _ => hHeld) ?_
            case hy13 => (intro w hSw; go_simp; try with_reducible rfl)
            try simp only [Act.put, List.setIfInBounds_toArray, List.set_cons_zero, List.set_cons_succ]
            refine wpAnyK_take0 13 (v := ?v14) rfl (by kernel_rfl) (fun _ _ _ h => h) (Or.inl ⟨by rfl, ?hy14⟩) (fun _ => hHeld) ?_
            case hy14 => (intro w hSw; go_simp; try with_reducible rfl)
            try simp only [Act.put, List.setIfInBounds_toArray, List.set_cons_zero, List.set_cons_succ]
            refine wpAnyK_take0 14 (v := ?v15) rfl (by kernel_rfl) (fun _ _ _ h => h) (Or.inl ⟨by rfl, ?hy15⟩) (fun _ => hHeld) ?_
            case hy15 => (intro w hSw; go_simp; try with_reducible rfl)
            try simp only [Act.put, List.setIfInBounds_toArray, List.set_cons_zero, List.set_cons_succ]
            refine wpAnyK_take0 15 (v := ?v16) rfl (by kernel_rfl) (fun _ _ _ h => h) (Or.inl ⟨by rfl, ?hy16⟩) (fun _ => hHeld) ?_
            case hy16 => (intro w hSw; go_simp; try with_reducible rfl)
            try simp only [Act.put, List.setIfInBounds_toArray, List.set_cons_zero, List.set_cons_succ]
            refine wpAnyK_take 16 [18, 19, 20, 21, 22, 23, 36, 37] (v := ?v17) rfl (by kernel_rfl) (fun _ _ _ h => h) (Or.inl ⟨by rfl, ?hy17⟩) hHeld ?_
            case hy17 => (intro w hSw; (try dsimp only at hSw); go_simp; try with_reducible rfl)
            try simp only [Act.put, List.setIfInBounds_toArray, List.set_cons_zero, List.set_cons_succ]
            refine wpAnyK_take0 17 (v := ?v18) rfl (by kernel_rfl) (fun _ _ _ h => h) (Or.inl ⟨by rfl, ?hy18⟩) (fun _ => hHeld) ?_
            case hy18 => (intro w hSw; go_simp; try with_reducible rfl)
            try simp only [Act.put, List.setIfInBounds_toArray, List.set_cons_zero, List.set_cons_succ]
            refine wpAnyK_take0 18 (v := ?v19) rfl (by kernel_rfl) (fun _ _ _ h => h) (Or.inl ⟨by rfl, ?hy19⟩) (fun _ => hHeld) ?_
            case hy19 => (intro w hSw; go_simp; try with_reducible rfl)
            try simp only [Act.put, List.setIfInBounds_toArray, List.set_cons_zero, List.set_cons_succ]
            refine wpAnyK_take0 19 (v := ?v20) rfl (by kernel_rfl) (fun _ _ _ h => h) (Or.inl ⟨by rfl, ?hy20⟩) (fun _ => hHeld) ?_
            case hy20 => (intro w hSw; go_simp; try with_reducible rfl)
            try simp only [Act.put, List.setIfInBounds_toArray, List.set_cons_zero, List.set_cons_succ]
            refine wpAnyK_take 20 [21, 22, 23, 36, 37] (v := ?v21) rfl (by kernel_rfl) (fun _ _ _ h => h) (Or.inl ⟨by rfl, ?hy21⟩) hHeld ?_
            case hy21 => (intro w hSw; (try dsimp only at hSw); go_simp; try with_reducible rfl)
            try simp only [Act.put, List.setIfInBounds_toArray, List.set_cons_zero, List.set_cons_succ]
            refine wpAnyK_take0 21 (v := ?v22) rfl (by kernel_rfl) (fun _ _ _ h => h) (Or.inl ⟨by rfl, ?hy22⟩) (fun _ => hHeld) ?_
            case hy22 => (intro w hSw; go_simp; try with_reducible rfl)
            try simp only [Act.put, List.setIfInBounds_toArray, List.set_cons_zero, List.set_cons_succ]
            refine wpAnyK_take0 22 (v := ?v23) rfl (by kernel_rfl) (fun _ _ _ h => h) (Or.inl ⟨by rfl, ?hy23⟩) (fun _ => hHeld) ?_
            case hy23 => (intro w hSw; go_simp; try with_reducible rfl)
            try simp only [Act.put, List.setIfInBounds_toArray, List.set_cons_zero, List.set_cons_succ]
            refine wpAnyK_take0 23 (v := ?v24) rfl (by kernel_rfl) (fun _ _ _ h => h) (Or.inl ⟨by rfl, ?hy24⟩) (fun _ => hHeld) ?_
            case hy24 => (intro w hSw; go_simp; try with_reducible rfl)
            try simp only [Act.put, List.setIfInBounds_toArray, List.set_cons_zero, List.set_cons_succ]
            refine wpAnyK_take0 24 (v := ?v25) rfl (by kernel_rfl) (fun _ _ _ h => h) (Or.inl ⟨by rfl, ?hy25⟩) (fun _ => hHeld) ?_
            case hy25 => (intro w hSw; go_simp; try with_reducible rfl)
            try simp only [Act.put, List.setIfInBounds_toArray, List.set_cons_zero, List.set_cons_succ]
            refine wpAnyK_take 25 [27, 28, 29, 35, 36, 37] (v := ?v26) rfl (by kernel_rfl) (fun _ _ _ h => h) (Or.inl ⟨by rfl, ?hy26⟩) hHeld ?_
            case hy26 => (intro w hSw; (try dsimp only at hSw); go_simp; try with_reducible rfl)
            try simp only [Act.put, List.setIfInBounds_toArray, List.set_cons_zero, List.set_cons_succ]
            refine wpAnyK_take0 26 (v := ?v27) rfl (by kernel_rfl) (fun _ _ _ h => h) (Or.inl ⟨by rfl, ?hy27⟩) (fun _ => hHeld) ?_
            case hy27 => (intro w hSw; go_simp; try with_reducible rfl)
            try simp only [Act.put, List.setIfInBounds_toArray, List.set_cons_zero, List.set_cons_succ]
            refine wpAnyK_take0 27 (v := ?v28) rfl (by kernel_rfl) (fun _ _ _ h => h) (Or.inl ⟨by rfl, ?hy28⟩) (fun _ => hHeld) ?_
            case hy28 => (intro w hSw; go_simp; try with_reducible rfl)
            try simp only [Act.put, List.setIfInBounds_toArray, List.set_cons_zero, List.set_cons_succ]
            refine wpAnyK_take0 28 (v := ?v29) rfl (by kernel_rfl) (fun _ _ _ h => h) (Or.inl ⟨by rfl, ?hy29⟩) (fun _ => hHeld) ?_
            case hy29 => (intro w hSw; go_simp; try with_reducible rfl)
            try simp only [Act.put, List.setIfInBounds_toArray, List.set_cons_zero, List.set_cons_succ]
            refine wpAnyK_take 29 [35, 36, 37] (v := ?v30) rfl (by kernel_rfl) (fun _ _ _ h => h) (Or.inl ⟨by rfl, ?hy30⟩) hHeld ?_
            case hy30 => (intro w hSw; (try dsimp only at hSw); go_simp; try with_reducible rfl)
            try simp only [Act.put, List.setIfInBounds_toArray, List.set_cons_zero, List.set_cons_succ]
            refine wpAnyK_take0 30 (v := ?v31) rfl (by kernel_rfl) (fun _ _ _ h => h) (Or.inl ⟨by rfl, ?hy31⟩) (fun _ => hHeld) ?_
            case hy31 => (intro w hSw; go_simp; try with_reducible rfl)
            try simp only [Act.put, List.setIfInBounds_toArray, List.set_cons_zero, List.set_cons_succ]
            refine wpAnyK_take 31 [35, 36, 37] (v := ?v32) rfl (by kernel_rfl) (fun _ _ _ h => h) (Or.inl ⟨by rfl, ?hy32⟩) hHeld ?_
            case hy32 => (intro w hSw; (try dsimp only at hSw); go_simp; try with_reducible rfl)
            try simp only [Act.put, List.setIfInBounds_toArray, List.set_cons_zero, List.set_cons_succ]
            refine wpAnyK_take0 32 (v := ?v33) rfl (by kernel_rfl) (fun _ _ _ h => h) (Or.inl ⟨by rfl, ?hy33⟩) (fun _ => hHeld) ?_
            case hy33 => (intro w hSw; go_simp; try with_reducible rfl)
            try simp only [Act.put, List.setIfInBounds_toArray, List.set_cons_zero, List.set_cons_succ]
            refine wpAnyK_take 33 [35, 36, 37] (v := ?v34) rfl (by kernel_rfl) (fun _ _ _ h => h) (Or.inl ⟨by rfl, ?hy34⟩) hHeld ?_
            case hy34 => (intro w hSw; (try dsimp only at hSw); go_simp; try with_reducible rfl)
            try simp only [Act.put, List.setIfInBounds_toArray, List.set_cons_zero, List.set_cons_succ]
            refine wpAnyK_take0 34 (v := ?v35) rfl (by kernel_rfl) (fun _ _ _ h => h) (Or.inl ⟨by rfl, ?hy35⟩) (fun _ => hHeld) ?_
            case hy35 => (intro w hSw; go_simp; try with_reducible rfl)
            try simp only [Act.put, List.setIfInBounds_toArray, List.set_cons_zero, List.set_cons_succ]
            refine wpAnyK_step 35 rfl (by kernel_rfl) (fun K36 hK => ?_)
            go_simp
            refine (CL _).mono ?_
            rintro r w5 ⟨rfl, rfl⟩
            dsimp only
            refine hK.out _ _ ?hk36 ?_
            case hk36 => exact fun _ => HSS.out
            clear hHeld hK K36
            have hHeld : ((fun (w' : World) => w'.cell? ⟨w.heap.size + 1, 8, none⟩ = some (.bool true) ∧ w'.cell? ⟨w.heap.size, 0, none⟩ = some (.slice (some ⟨gv, off, none⟩) c.val.length vc) ∧ w'.cell? ⟨gv, off + i * 6, none⟩ = some (.int .i64 4) ∧ w'.cell? ⟨gv, off + i * 6 + 3, none⟩ = some (.bool true) ∧ w'.cell? ⟨gv, off + i * 6 + 4, none⟩ = some (.int .i64 NI) ∧ w'.cell? ⟨w.heap.size + 1, 7, none⟩ = some (.int .i64 tag) ∧ w'.cell? ⟨w.heap.size + 1, 9, none⟩ = some (.int .i64 tle))) _ := HSS.out
            try simp only [Act.put, List.setIfInBounds_toArray, List.set_cons_zero, List.set_cons_succ]
            refine wpAnyK_take0 36 (v := ?v37) rfl (by kernel_rfl) (fun _ _ _ h => h) (Or.inl ⟨by rfl, ?hy37⟩) (fun _ => hHeld) ?_
            case hy37 => (intro w hSw; go_simp; try with_reducible rfl)
            try simp only [Act.put, List.setIfInBounds_toArray, List.set_cons_zero, List.set_cons_succ]
            refine wpAnyK_step 37 rfl (by kernel_rfl) (fun K38 hK => ?_)
            go_simp
            refine hK.out _ _ (fun h => nomatch (h.symm.trans (show _ = true by kernel_rfl))) ?_
            clear hK K38
            try simp only [Act.put, List.setIfInBounds_toArray, List.set_cons_zero, List.set_cons_succ]
            refine wpAnyK_done (by kernel_rfl) ?_ _
            clear hHeld
            go_wp2_with fail
            go_meet
            exact ⟨rfl, HND.out⟩
        · have k4' : (NK != 4) = true := by simpa using k4
          have k4'' : decide (NK = 4) = false := decide_eq_false k4
          rw [k4''] at e
          clear k4 k4''
          have e2 : true = b7 := by simpa using e
          subst e2
          clear e
          go_quiet (fail)
          go_wp2_with fail
          go_meet
          exact ⟨rfl, HNX.out _⟩
  case rest =>
  clear HSd HX7 HMi
  obtain ⟨rfl, HS⟩ := hcut
  obtain ⟨e7, he7⟩ : ∃ x, cdI b7 153 = x := ⟨_, rfl⟩
  have HE7 : Hid (cdI b7 153 = e7) := he7
  clear he7
  go_upto_if 219 with fail
  go_cut [] from 220 to 221 (fun wx => Hid (SL w wx (clC (.slice va c.val.length vc) (.slice aa c.aud.length ac) c) (wtC ⟨tcl, tno, thN, tac, thA, tco, thC, tag, thG, tle⟩) [e0, e1, e2, e3, e4, e5, e6, e7]))
  case first =>
    have e := HE7.out
    cases b7
    · have e : (0 : Int) = e7 := e
      subst e
      go_wp2
      go_meet
      exact HS
    · have e : (153 : Int) = e7 := e
      have HS2 : Hid (SL w (wc.setCell ⟨w.heap.size + 2, 7, none⟩ (.int .i64 153)) (clC (.slice va c.val.length vc) (.slice aa c.aud.length ac) c) (wtC ⟨tcl, tno, thN, tac, thA, tco, thC, tag, thG, tle⟩) [e0, e1, e2, e3, e4, e5, e6, e7]) := by rw [← e]; exact HS.out.set 7 153 rfl
      have kv : wc.cell? ⟨w.heap.size + 2, 7, none⟩ = some (.int .i64 0) := HS.out.ls.cell 7 (by simp)
      have fv : wc.frozen? ⟨w.heap.size + 2, 7, none⟩ = false := HS.out.ls.frozen 7
      clear HS e
      go_wp2
      go_meet
      exact HS2
  case rest =>
  clear HS
  have HS := hcut
  clear hcut
  have HZ : Hid (Bl 36 wc (w.heap.size + 2) (([cdI (badF (mkQ c va vc aa ac alg ⟨tcl, tno, thN, tac, thA, tco, thC, tag, thG, tle⟩ now)) 12, cdI ((hhF alg == 0)) 111, cdI (lackQ (mkQ c va vc aa ac alg ⟨tcl, tno, thN, tac, thA, tco, thC, tag, thG, tle⟩ now)) 137, cdI ((!decide (tcl ∈ c.aud))) 133, cdI (azpL (mkQ c va vc aa ac alg ⟨tcl, tno, thN, tac, thA, tco, thC, tag, thG, tle⟩ now)) 151, cdI (nonL (mkQ c va vc aa ac alg ⟨tcl, tno, thN, tac, thA, tco, thC, tag, thG, tle⟩ now)) 150, cdI (hashL (mkQ c va vc aa ac alg ⟨tcl, tno, thN, tac, thA, tco, thC, tag, thG, tle⟩ now)) 152, cdI (oldL (mkQ c va vc aa ac alg ⟨tcl, tno, thN, tac, thA, tco, thC, tag, thG, tle⟩ now)) 153] : List Int).map fun e => .int .i64 e)) := by
    have h := HS.out.ls
    rw [← HE0.out, ← HE1.out, ← HE2.out, ← HE3.out, ← HE4.out, ← HE5.out, ← HE6.out, ← HE7.out, ← HBo0.out, ← HBo1.out, ← HBo2.out, ← HBo3.out, ← HBo4.out, ← HBo5.out, ← HBo6.out, ← HBo7.out] at h
    exact h
  have HB : Hid (Below w.heap.size w wc) := HS.out.bel
  clear HS HE0 HBo0 HE1 HBo1 HE2 HBo2 HE3 HBo3 HE4 HBo4 HE5 HBo5 HE6 HBo6 HE7 HBo7
  go_wp2
  go_ret
  exact ⟨⟨rfl, HZ.out⟩, HB.out⟩

end Go.Proofs.YtpfdaclmchcbiaaGreatDoor
