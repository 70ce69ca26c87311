import Derived.Test.YtpfdaclmchcbiaaGreatDoorQG1
namespace Go.Proofs.YtpfdaclmchcbiaaGreatDoor
open Go.RowKit
set_option maxRecDepth 100000

def firstNZ : List Int → Int
  | [] => 0
  | x :: r => if x = 0 then firstNZ r else x
theorem fn_at : ∀ (E : List Int) (i : Nat), (∀ j, j < i → E.getD j 0 = 0) → E.getD i 0 ≠ 0 → firstNZ E = E.getD i 0
  | [], i, _, hx => by simp at hx
  | x :: r, 0, _, hx => by
    have hx : x ≠ 0 := hx
    show (if x = 0 then firstNZ r else x) = x
    rw [if_neg hx]
  | x :: r, i + 1, h, hx => by
    have h0 : x = 0 := h 0 (by omega)
    show (if x = 0 then firstNZ r else x) = r.getD i 0
    rw [if_pos h0]
    exact fn_at r i (fun j hj => h (j + 1) (by omega)) hx
theorem fn_none : ∀ (E : List Int), (∀ j, j < E.length → E.getD j 0 = 0) → firstNZ E = 0
  | [], _ => rfl
  | x :: r, h => by
    have h0 : x = 0 := h 0 (by simp)
    show (if x = 0 then firstNZ r else x) = 0
    rw [if_pos h0]
    exact fn_none r (fun j hj => h (j + 1) (by simp; omega))

theorem azp_is (q : Qs) (hs : q.sh = true) : azpL q = azpQ q := by
  unfold azpL azpQ
  rw [mQ_M q hs, nM_Q q hs]
  by_cases h : 0 ≤ memF q.c.val 0 kAzp
  · rw [decide_eq_true h, if_pos h, Bool.true_and, Bool.not_true, Bool.false_and, Bool.or_false]
  · rw [decide_eq_false h, if_neg h, Bool.false_and, Bool.not_false, Bool.true_and, Bool.false_or]
    rfl
theorem non_is (q : Qs) (hs : q.sh = true) : nonL q = nonceF q := by
  unfold nonL nonceF
  rw [nM_Q q hs]
theorem hash_is (q : Qs) (hs : q.sh = true) (hh : (hhF q.alg == 0) = false) : hashL q = hashQ q := by
  have h0 : hhF q.alg ≠ 0 := by simpa using hh
  have e : ∀ t, (halfF q.alg t).2 = 0 := fun t => by unfold halfF; rw [if_neg h0]
  unfold hashL hashQ sayH
  rw [nM_Q q hs, nM_Q q hs, e, e]
  simp only [decide_true, Bool.true_and]
theorem old_is (q : Qs) (hs : q.sh = true) (hsh : shapedF q.c.val = true) (hi : ∀ x ∈ q.c.val, I64 x.int) (hb : badF q = false) : oldL q = oldQ q := by
  unfold oldL oldQ
  rw [mQ_M q hs, nM_Q q hs]
  have hbn := bad_not q hb
  cases hg : q.hasAge
  · simp only [Bool.false_and]
  · have ha := hbn.2 hg
    simp only [Bool.true_and]
    rcases mem_in q.c.val kAuth with h | ⟨i, hk, h, _⟩
    · rw [h]; simp
    · have hil : i < q.c.val.length := kidsF_lt i hk
      have hn : nM q.c.val kAuth = q.c.val.getD i (nd0 0) := by unfold nM; rw [h, if_neg (by omega), Int.toNat_natCast]
      rw [hn, h, decide_eq_false (by omega : ¬ (i : Int) < 0), decide_eq_true (by omega : (0 : Int) ≤ i), Bool.false_or, Bool.not_true, Bool.false_or]
      cases hw : (q.c.val.getD i (nd0 0)).whole
      · simp
      · have hk4 := shaped_whole hsh hil hw
        have hI : I64 (q.c.val.getD i (nd0 0)).int := by
          refine hi _ ?_
          rw [List.getD_eq_getElem?_getD, List.getElem?_eq_getElem hil]
          exact List.getElem_mem hil
        rw [decide_eq_true hk4, late_in _ _ _ _ hI ha hbn.1]
        rfl

theorem just_list (q : Qs) (hs : q.sh = true) (hsh : shapedF q.c.val = true) (hi : ∀ x ∈ q.c.val, I64 x.int) :
    checkQ q = firstNZ [cdI (badF q) 12, cdI (hhF q.alg == 0) 111, cdI (lackQ q) 137, cdI (!decide (q.client ∈ q.c.aud)) 133, cdI (azpL q) 151, cdI (nonL q) 150, cdI (hashL q) 152, cdI (oldL q) 153] := by
  rw [azp_is q hs, non_is q hs]
  unfold checkQ
  cases h0 : badF q
  · rw [old_is q hs hsh hi h0]
    cases h1 : (hhF q.alg == 0)
    · rw [hash_is q hs h1]
      generalize lackQ q = x2
      generalize (!decide (q.client ∈ q.c.aud)) = x3
      generalize azpQ q = x4
      generalize nonceF q = x5
      generalize hashQ q = x6
      generalize oldQ q = x7
      cases x2 <;> cases x3 <;> cases x4 <;> cases x5 <;> cases x6 <;> cases x7 <;> rfl
    · simp [firstNZ, cdI]
  · simp [firstNZ, cdI]

set_option maxRecDepth 100000 in
set_option maxHeartbeats 16000000 in
theorem just_any (c : Cm) (va : Option Addr) (vc : Nat) (aa : Option Addr) (ac : Nat) (alg : Int) (tcl : List UInt8) (tno : List UInt8) (thN : Bool) (tac : List UInt8) (thA : Bool) (tco : List UInt8) (thC : Bool) (tag : Int) (thG : Bool) (tle : Int) (now : Int) (w : World) (H : LA w c va vc aa ac) (h1 : tac.length ≤ 1000000000) (h2 : tco.length ≤ 1000000000) (hn : I64 now) :
    Calls Tryz.prog 7 #[.agg #[.slice va c.val.length vc, .string ⟨c.iss.toArray⟩, .bool c.hIss, .string ⟨c.sub.toArray⟩, .bool c.hSub, .slice aa c.aud.length ac, .bool c.hAud, .string ⟨c.jti.toArray⟩, .bool c.hJti, .bool c.exp.has, .int .i64 c.exp.at_, .bool c.nbf.has, .int .i64 c.nbf.at_, .bool c.iat.has, .int .i64 c.iat.at_], .int .i64 alg, .agg #[.string ⟨tcl.toArray⟩, .string ⟨tno.toArray⟩, .bool thN, .string ⟨tac.toArray⟩, .bool thA, .string ⟨tco.toArray⟩, .bool thC, .int .i64 tag, .bool thG, .int .i64 tle], .int .i64 now] w fun e w' => e = .returned (.bool true) ∧ Below w.heap.size w w' := by
  have HQ0 := ((QL.first w [.slice va c.val.length vc, .string ⟨c.iss.toArray⟩, .bool c.hIss, .string ⟨c.sub.toArray⟩, .bool c.hSub, .slice aa c.aud.length ac, .bool c.hAud, .string ⟨c.jti.toArray⟩, .bool c.hJti, .bool c.exp.has, .int .i64 c.exp.at_, .bool c.nbf.has, .int .i64 c.nbf.at_, .bool c.iat.has, .int .i64 c.iat.at_]).push [.string ⟨tcl.toArray⟩, .string ⟨tno.toArray⟩, .bool thN, .string ⟨tac.toArray⟩, .bool thA, .string ⟨tco.toArray⟩, .bool thC, .int .i64 tag, .bool thG, .int .i64 tle])
  obtain ⟨W, hW⟩ : ∃ x, ((w.alloc (.cells #[.slice va c.val.length vc, .string ⟨c.iss.toArray⟩, .bool c.hIss, .string ⟨c.sub.toArray⟩, .bool c.hSub, .slice aa c.aud.length ac, .bool c.hAud, .string ⟨c.jti.toArray⟩, .bool c.hJti, .bool c.exp.has, .int .i64 c.exp.at_, .bool c.nbf.has, .int .i64 c.nbf.at_, .bool c.iat.has, .int .i64 c.iat.at_] 27)).alloc (.cells #[.string ⟨tcl.toArray⟩, .string ⟨tno.toArray⟩, .bool thN, .string ⟨tac.toArray⟩, .bool thA, .string ⟨tco.toArray⟩, .bool thC, .int .i64 tag, .bool thG, .int .i64 tle] 30)) = x := ⟨_, rfl⟩
  have HQ : QL w W (clC (.slice va c.val.length vc) (.slice aa c.aud.length ac) c) [(w.heap.size + 1, wtC ⟨tcl, tno, thN, tac, thA, tco, thC, tag, thG, tle⟩)] := by rw [← hW]; have h := HQ0; simp only [alloc_size] at h; exact h
  have HW : Hid (((w.alloc (.cells #[.slice va c.val.length vc, .string ⟨c.iss.toArray⟩, .bool c.hIss, .string ⟨c.sub.toArray⟩, .bool c.hSub, .slice aa c.aud.length ac, .bool c.hAud, .string ⟨c.jti.toArray⟩, .bool c.hJti, .bool c.exp.has, .int .i64 c.exp.at_, .bool c.nbf.has, .int .i64 c.nbf.at_, .bool c.iat.has, .int .i64 c.iat.at_] 27)).alloc (.cells #[.string ⟨tcl.toArray⟩, .string ⟨tno.toArray⟩, .bool thN, .string ⟨tac.toArray⟩, .bool thA, .string ⟨tco.toArray⟩, .bool thC, .int .i64 tag, .bool thG, .int .i64 tle] 30)) = W) := hW
  have HLq : Hid (∀ wq, Below w.heap.size w wq → LA wq c va vc aa ac) := fun wq hq => H.below hq
  have CA := (HLq.out W HQ.bel).awk
  have HQW : Hid (QL w W (clC (.slice va c.val.length vc) (.slice aa c.aud.length ac) c) [(w.heap.size + 1, wtC ⟨tcl, tno, thN, tac, thA, tco, thC, tag, thG, tle⟩)]) := HQ
  have hwt : ∀ l : List Value, l.length = 10 → (Tryz.prog.info? 30).map (·.size) = some l.length := fun l hl => by rw [hl]; kernel_rfl
  have hcl : ∀ l : List Value, l.length = 15 → (Tryz.prog.info? 27).map (·.size) = some l.length := fun l hl => by rw [hl]; kernel_rfl
  clear HQ0 hW HQ H
  go_enter Tryz.func7, Tryz.ntmps7
  go_upto_region 1 with fail
  rw [HW.out]
  clear HW
  go_wp2_with fail
  refine CA.mono ?_
  clear CA
  rintro e w1 ⟨rfl, hB1⟩
  have HQ1 : Hid (QL w w1 (clC (.slice va c.val.length vc) (.slice aa c.aud.length ac) c) [(w.heap.size + 1, wtC ⟨tcl, tno, thN, tac, thA, tco, thC, tag, thG, tle⟩)]) := HQW.out.below hB1
  have k0 : w1.cell? ⟨w.heap.size, 0, none⟩ = some (.slice va c.val.length vc) := HQ1.out.cl.cell 0 (Nat.le_of_ble_eq_true rfl)
  have CB := (HLq.out w1 HQ1.out.bel).bey
  clear hB1 HQW
  go_wp2_with fail
  refine CB.mono ?_
  clear CB k0
  rintro e w2 ⟨hB2, b, rfl⟩
  have HQ2 : Hid (QL w w2 (clC (.slice va c.val.length vc) (.slice aa c.aud.length ac) c) [(w.heap.size + 1, wtC ⟨tcl, tno, thN, tac, thA, tco, thC, tag, thG, tle⟩)]) := HQ1.out.below hB2
  clear hB2 HQ1
  cases b
  · have k0 : w2.cell? ⟨w.heap.size, 0, none⟩ = some (.slice va c.val.length vc) := HQ2.out.cl.cell 0 (Nat.le_of_ble_eq_true rfl)
    have CS := (HLq.out w2 HQ2.out.bel).shp
    obtain ⟨sh, hsh⟩ : ∃ x, shapedF c.val = x := ⟨_, rfl⟩
    rw [hsh] at CS
    have HSH : Hid (shapedF c.val = sh) := hsh
    clear hsh
    go_wp2_with fail
    refine CS.mono ?_
    clear CS k0
    rintro e w3 ⟨rfl, hB3⟩
    have HQ3 : Hid (QL w w3 (clC (.slice va c.val.length vc) (.slice aa c.aud.length ac) c) [(w.heap.size + 1, wtC ⟨tcl, tno, thN, tac, thA, tco, thC, tag, thG, tle⟩)]) := HQ2.out.below hB3
    clear hB3 HQ2
    cases sh
    · clear HSH
      have CA := (HLq.out _ HQ3.out.bel).awk
      go_wp2_with fail
      refine CA.mono ?_
      clear CA
      rintro e w4 ⟨rfl, hB4⟩
      have HB4 : Hid (Below w.heap.size w w4) := (HQ3.out.below hB4).bel
      clear hB4
      go_wp2
      go_ret
      exact ⟨rfl, HB4.out⟩
    · skip
      obtain ⟨X, hX⟩ : ∃ x, checkQ (mkQ c va vc aa ac alg ⟨tcl, tno, thN, tac, thA, tco, thC, tag, thG, tle⟩ now) = x := ⟨_, rfl⟩
      obtain ⟨E, hE⟩ : ∃ x, ([cdI (badF (mkQ c va vc aa ac alg ⟨tcl, tno, thN, tac, thA, tco, thC, tag, thG, tle⟩ now)) 12, cdI ((hhF alg == 0)) 111, cdI (lackQ (mkQ c va vc aa ac alg ⟨tcl, tno, thN, tac, thA, tco, thC, tag, thG, tle⟩ now)) 137, cdI ((!decide (tcl ∈ c.aud))) 133, cdI (azpL (mkQ c va vc aa ac alg ⟨tcl, tno, thN, tac, thA, tco, thC, tag, thG, tle⟩ now)) 151, cdI (nonL (mkQ c va vc aa ac alg ⟨tcl, tno, thN, tac, thA, tco, thC, tag, thG, tle⟩ now)) 150, cdI (hashL (mkQ c va vc aa ac alg ⟨tcl, tno, thN, tac, thA, tco, thC, tag, thG, tle⟩ now)) 152, cdI (oldL (mkQ c va vc aa ac alg ⟨tcl, tno, thN, tac, thA, tco, thC, tag, thG, tle⟩ now)) 153] : List Int) = x := ⟨_, rfl⟩
      have HJ : Hid (X = firstNZ E ∧ E.length = 8) := by
        refine ⟨?_, by rw [← hE]; rfl⟩
        rw [← hX, ← hE]
        exact just_list (mkQ c va vc aa ac alg ⟨tcl, tno, thN, tac, thA, tco, thC, tag, thG, tle⟩ now) HSH.out HSH.out (HLq.out w3 HQ3.out.bel).it
      have HC1 : Hid (∀ wq, Below w.heap.size w wq → Calls Tryz.prog 10 #[.agg #[.slice va c.val.length vc, .string ⟨c.iss.toArray⟩, .bool c.hIss, .string ⟨c.sub.toArray⟩, .bool c.hSub, .slice aa c.aud.length ac, .bool c.hAud, .string ⟨c.jti.toArray⟩, .bool c.hJti, .bool c.exp.has, .int .i64 c.exp.at_, .bool c.nbf.has, .int .i64 c.nbf.at_, .bool c.iat.has, .int .i64 c.iat.at_], .int .i64 alg, .agg #[.string ⟨tcl.toArray⟩, .string ⟨tno.toArray⟩, .bool thN, .string ⟨tac.toArray⟩, .bool thA, .string ⟨tco.toArray⟩, .bool thC, .int .i64 tag, .bool thG, .int .i64 tle], .int .i64 now] wq fun e w' => e = .returned (.int .i64 X) ∧ Below wq.heap.size wq w') := fun wq hq => by rw [← hX]; exact (HLq.out wq hq).chk alg ⟨tcl, tno, thN, tac, thA, tco, thC, tag, thG, tle⟩ now h1 h2 hn.2
      have HC2 : Hid (∀ wq, Below w.heap.size w wq → Calls Tryz.prog 21 #[.agg #[.slice va c.val.length vc, .string ⟨c.iss.toArray⟩, .bool c.hIss, .string ⟨c.sub.toArray⟩, .bool c.hSub, .slice aa c.aud.length ac, .bool c.hAud, .string ⟨c.jti.toArray⟩, .bool c.hJti, .bool c.exp.has, .int .i64 c.exp.at_, .bool c.nbf.has, .int .i64 c.nbf.at_, .bool c.iat.has, .int .i64 c.iat.at_], .int .i64 alg, .agg #[.string ⟨tcl.toArray⟩, .string ⟨tno.toArray⟩, .bool thN, .string ⟨tac.toArray⟩, .bool thA, .string ⟨tco.toArray⟩, .bool thC, .int .i64 tag, .bool thG, .int .i64 tle], .int .i64 now] wq fun e w' => (e = .returned (.slice (some ⟨wq.heap.size + 2, 0, none⟩) 8 8) ∧ Bl 36 w' (wq.heap.size + 2) (E.map fun e => .int .i64 e)) ∧ Below wq.heap.size wq w') := fun wq hq => by rw [← hE]; exact steps22_any c va vc aa ac alg tcl tno thN tac thA tco thC tag thG tle now wq (HLq.out wq hq) h1 h2 hn
      clear hX hE HSH
      have CK1 := HC1.out w3 HQ3.out.bel
      clear HC1
      go_wp2_with (first | (refine wpList_load_mid rfl 27 (.tmp 4) rfl w.heap.size 0 rfl [.slice va c.val.length vc, .string ⟨c.iss.toArray⟩, .bool c.hIss, .string ⟨c.sub.toArray⟩, .bool c.hSub, .slice aa c.aud.length ac, .bool c.hAud, .string ⟨c.jti.toArray⟩, .bool c.hJti, .bool c.exp.has, .int .i64 c.exp.at_, .bool c.nbf.has, .int .i64 c.nbf.at_, .bool c.iat.has, .int .i64 c.iat.at_] _ (bl_rng9 (HQ3.out.cl)) Tryz.underlying27 rfl (hcl _ rfl) ?_) | (refine wpList_load_mid rfl 30 (.tmp 6) rfl (w.heap.size + 1) 0 rfl [.string ⟨tcl.toArray⟩, .string ⟨tno.toArray⟩, .bool thN, .string ⟨tac.toArray⟩, .bool thA, .string ⟨tco.toArray⟩, .bool thC, .int .i64 tag, .bool thG, .int .i64 tle] _ (bl_rng9 (HQ3.out.at 0 rfl)) Tryz.underlying30 rfl (hwt _ rfl) ?_))
      refine CK1.mono ?_
      clear CK1
      rintro e w4 ⟨rfl, hB4⟩
      have HQ4 : Hid (QL w w4 (clC (.slice va c.val.length vc) (.slice aa c.aud.length ac) c) [(w.heap.size + 1, wtC ⟨tcl, tno, thN, tac, thA, tco, thC, tag, thG, tle⟩)]) := HQ3.out.below hB4
      have CK2 := HC2.out w4 HQ4.out.bel
      clear hB4 HQ3 HC2
      obtain ⟨g, hg⟩ : ∃ x, w4.heap.size + 2 = x := ⟨_, rfl⟩
      rw [hg] at CK2
      clear hg
      go_wp2_with (first | (refine wpList_load_mid rfl 27 (.tmp 4) rfl w.heap.size 0 rfl [.slice va c.val.length vc, .string ⟨c.iss.toArray⟩, .bool c.hIss, .string ⟨c.sub.toArray⟩, .bool c.hSub, .slice aa c.aud.length ac, .bool c.hAud, .string ⟨c.jti.toArray⟩, .bool c.hJti, .bool c.exp.has, .int .i64 c.exp.at_, .bool c.nbf.has, .int .i64 c.nbf.at_, .bool c.iat.has, .int .i64 c.iat.at_] _ (bl_rng9 (HQ4.out.cl)) Tryz.underlying27 rfl (hcl _ rfl) ?_) | (refine wpList_load_mid rfl 30 (.tmp 6) rfl (w.heap.size + 1) 0 rfl [.string ⟨tcl.toArray⟩, .string ⟨tno.toArray⟩, .bool thN, .string ⟨tac.toArray⟩, .bool thA, .string ⟨tco.toArray⟩, .bool thC, .int .i64 tag, .bool thG, .int .i64 tle] _ (bl_rng9 (HQ4.out.at 0 rfl)) Tryz.underlying30 rfl (hwt _ rfl) ?_))
      refine CK2.mono ?_
      clear CK2
      rintro e w5 ⟨⟨rfl, hbl⟩, hB5⟩
      have HB5 : Hid (Below w.heap.size w w5) := (HQ4.out.below hB5).bel
      have HCe : Hid (∀ i, i < 8 → w5.cell? ⟨g, i, none⟩ = some (.int .i64 (E.getD i 0))) := fun i hi => by
        have hl := HJ.out.2
        have h := hbl.cell i (by rw [List.length_map]; omega)
        rw [h, List.getElem_map, List.getD_eq_getElem?_getD, List.getElem?_eq_getElem (by omega)]
        rfl
      clear hbl hB5 HQ4
      go_wp2
      go_loopw [11] (fun s wx => ∃ i : Nat, s = .int .i64 i ∧ i ≤ 8 ∧ Hid (∀ j, j < i → E.getD j 0 = 0) ∧ wx = w5) (fun x _ => 8 - (intOf x).toNat)
      case atStart => exact ⟨0, rfl, by omega, (fun j hj => by omega), rfl⟩
      case round =>
      obtain ⟨i, rfl, hi, HZ, rfl⟩ := hrel
      by_cases hlt : i < 8
      · have q0 : decide ((i : Int) < 8) = true := decide_eq_true (by omega)
        have c0 := HCe.out i hlt
        have HX : Hid (E.getD i 0 = E.getD i 0) := rfl
        by_cases hx : E.getD i 0 = 0
        · have HZ2 : Hid (∀ j, j < i + 1 → E.getD j 0 = 0) := fun j hj => by
            rcases Nat.lt_or_ge j i with h | h
            · exact HZ.out j h
            · obtain rfl : j = i := by omega
              exact hx
          rw [hx] at c0
          clear hx HX HZ
          go_wp2
          go_roundw
          case rel => exact ⟨i + 1, by go_num, by omega, HZ2, by trivial⟩
          case measure => simp [intOf]; omega
        · have HE : Hid (X = E.getD i 0) := by show _ = _; rw [HJ.out.1]; exact fn_at E i HZ.out hx
          obtain ⟨y, hy⟩ : ∃ y, E.getD i 0 = y := ⟨_, rfl⟩
          rw [hy] at c0 hx HE
          have qy : (y != 0) = true := by simpa using hx
          have ey := HE.out
          subst ey
          clear hy hx HE HX HZ
          go_wp2
          go_ret
          exact ⟨by simp, HB5.out⟩
      · have q0 : decide ((i : Int) < 8) = false := decide_eq_false (by omega)
        have HE : Hid (X = 0) := by
          show _ = _
          rw [HJ.out.1]
          have hl := HJ.out.2
          exact fn_none E (fun j hj => HZ.out j (by omega))
        have ey := HE.out
        subst ey
        clear HE HZ
        go_wp2
        go_ret
        exact ⟨rfl, HB5.out⟩
  · skip
    have CA := (HLq.out _ HQ2.out.bel).awk
    go_wp2_with fail
    refine CA.mono ?_
    clear CA
    rintro e w4 ⟨rfl, hB4⟩
    have HB4 : Hid (Below w.heap.size w w4) := (HQ2.out.below hB4).bel
    clear hB4
    go_wp2
    go_ret
    exact ⟨rfl, HB4.out⟩

theorem just_top (c : Cm) (va : Option Addr) (vc : Nat) (aa : Option Addr) (ac : Nat) (alg : Int) (t : Wt) (now : Int) (w : World) (H : LA w c va vc aa ac) (h1 : t.access.length ≤ 1000000000) (h2 : t.code.length ≤ 1000000000) (hn : I64 now) :
    Calls Tryz.prog 7 #[clV (.slice va c.val.length vc) (.slice aa c.aud.length ac) c, .int .i64 alg, wtV t, .int .i64 now] w fun e w' => e = .returned (.bool true) ∧ Below w.heap.size w w' :=
  just_any c va vc aa ac alg t.client t.nonce t.hasN t.access t.hasA t.code t.hasC t.age t.hasAge t.lee now w H h1 h2 hn

end Go.Proofs.YtpfdaclmchcbiaaGreatDoor
