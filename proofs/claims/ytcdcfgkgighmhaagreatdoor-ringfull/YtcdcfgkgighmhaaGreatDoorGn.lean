import Derived.Test.YtcdcfgkgighmhaaGreatDoorGm
namespace Go.Proofs.YtcdcfgkgighmhaaGreatDoor
open Go.RowKit Go.MuLone
set_option maxRecDepth 100000

set_option maxHeartbeats 16000000 in
theorem ringFull_any (now grace drop : Int) (W : World) (hG : GL W.heap.size W) (b0 : -9223372036854775808 ≤ now ∧ now ≤ 9223372036854775807) :
    Calls Tryz.prog 3 #[.int .i64 now, .int .i64 grace, .int .i64 drop] W fun e w' => e = .returned (.bool true) ∧ Below W.heap.size W w' := by
  by_cases hg1 : grace < 1
  · have p1 : decide (grace < 1) = true := by simpa using hg1
    clear hg1
    go_enter Tryz.func3, Tryz.ntmps3
    go_wp2_with fail
    refine (alive_any W W hG (Below.refl _ _)).mono ?_
    rintro e w1 ⟨rfl, hb1'⟩
    have hb1 : Hid (Below W.heap.size W w1) := hb1'
    clear hb1'
    go_wp2_with fail
    go_ret
    exact ⟨rfl, hb1.out⟩
  have p1 : decide (grace < 1) = false := by simpa using hg1
  by_cases hg2 : grace > 4294967296
  · have p2 : decide (grace > 4294967296) = true := by simpa using hg2
    clear hg1 hg2
    go_enter Tryz.func3, Tryz.ntmps3
    go_wp2_with fail
    refine (alive_any W W hG (Below.refl _ _)).mono ?_
    rintro e w1 ⟨rfl, hb1'⟩
    have hb1 : Hid (Below W.heap.size W w1) := hb1'
    clear hb1'
    go_wp2_with fail
    go_ret
    exact ⟨rfl, hb1.out⟩
  have p2 : decide (grace > 4294967296) = false := by simpa using hg2
  by_cases hg3 : now > 4611686018427387904
  · have p3 : decide (now > 4611686018427387904) = true := by simpa using hg3
    clear hg1 hg2 hg3
    go_enter Tryz.func3, Tryz.ntmps3
    go_wp2_with fail
    refine (alive_any W W hG (Below.refl _ _)).mono ?_
    rintro e w1 ⟨rfl, hb1'⟩
    have hb1 : Hid (Below W.heap.size W w1) := hb1'
    clear hb1'
    go_wp2_with fail
    go_ret
    exact ⟨rfl, hb1.out⟩
  have p3 : decide (now > 4611686018427387904) = false := by simpa using hg3
  obtain ⟨till, ht⟩ : ∃ t, now + grace = t := ⟨_, rfl⟩
  obtain ⟨till1, ht0⟩ : ∃ t, till - 1 = t := ⟨_, rfl⟩
  have hnt : now < till := by omega
  have ht1 : till1 < till := by omega
  have htil : Hid (tilF now grace = till) := by show _ = _; rw [tilF_eq (by omega), ht]
  have hwr : IntKind.i64.wrap (now + grace) = till := by rw [ht]; simp [IntKind.wrap, IntKind.bits, IntKind.signed]; omega
  have hwr1 : IntKind.i64.wrap (till - 1) = till1 := by rw [ht0]; simp [IntKind.wrap, IntKind.bits, IntKind.signed]; omega
  have q0 : (true && decide (now < now)) = false := by simp
  have q1 : (true && decide (till1 < now)) = false := by simp; omega
  have q2 : (true && decide (till < till1)) = false := by simp; omega
  have hr1 : -9223372036854775808 ≤ till1 ∧ till1 ≤ 9223372036854775807 := by omega
  have hr2 : -9223372036854775808 ≤ till ∧ till ≤ 9223372036854775807 := by omega
  have hN : topL till 8 = ⟨noneT, 8, 0, true⟩ :: oldL till 7 := rfl
  have hgr : 0 ≤ grace ∧ grace ≤ 4294967296 := by omega
  have hth : Hid (now + grace = till) := ht
  clear ht ht0 hg1 hg2 hg3
  have Hq0 : Hid ((true && decide (now < now)) = false) := q0
  have Hq1 : Hid ((true && decide (till1 < now)) = false) := q1
  have Hq2 : Hid ((true && decide (till < till1)) = false) := q2
  have HN : Hid (topL till 8 = ⟨noneT, 8, 0, true⟩ :: oldL till 7) := hN
  have Hnt : Hid (now < till) := hnt
  have Ht1 : Hid (till1 < till) := ht1
  clear q0 q1 q2 hN hnt ht1
  go_enter Tryz.func3, Tryz.ntmps3
  go_wp2_with fail
  refine (alive_any W W hG (Below.refl _ _)).mono ?_
  rintro e w1 ⟨rfl, hb1'⟩
  have hb1 : Hid (Below W.heap.size W w1) := hb1'
  clear hb1'
  go_wp2_with fail
  refine (rr_new W w1 hb1.out).mono ?_
  rintro e w2 ⟨rb, rfl, h2'⟩
  have h2 : Hid (RR W w2 rb [] 0 0 false) := h2'
  clear h2' hb1
  go_wp2_with fail
  go_loopw [8] (fun s wr => ∃ i : Nat, s = .int .i64 (i : Int) ∧ i ≤ 8 ∧ Hid (∃ clk has, (has && decide (now < clk)) = false ∧ RR W wr rb (topL till i) i clk has ∧ (i = 8 → clk = now ∧ has = true))) (fun s _ => 8 - (intOf s).toNat)
  case atStart => exact ⟨0, rfl, by decide, 0, false, rfl, h2.out, by intro h; cases h⟩
  case round =>
    obtain ⟨i, rfl, hi, hX⟩ := hrel
    by_cases hlt : i < 8
    · have hii : decide ((i : Int) < 8) = true := by simp; omega
      obtain ⟨clk, has, hp, h3, _⟩ := hX.out
      have RC := rr_ok hG h3 now grace (oldL till i) (by rw [topL_len]; omega) hp hgr.1 hgr.2 b0 ⟨by omega, by omega⟩ (by rw [htil.out]; exact topL_out Hnt.out i) (by rw [oldL_len]; exact hlt)
      clear hX h3 hp
      have hil : (i : Int) < 8 := by omega
      have hwi : IntKind.i64.wrap ((i : Int) + 1) = (i : Int) + 1 := by simp [IntKind.wrap, IntKind.bits, IntKind.signed]; omega
      go_wp2_with fail
      refine RC.mono ?_
      clear RC
      rintro e w3 ⟨rfl, h4'⟩
      have h4 : Hid (RR W w3 rb (topL till (i + 1)) ((i + 1 : Nat) : Int) now true) := h4'
      clear h4'
      go_wp2_with fail
      go_roundw
      case rel => exact ⟨i + 1, by go_num, by omega, now, true, Hq0.out, h4.out, fun _ => ⟨rfl, rfl⟩⟩
      case measure => simp [intOf]; omega
    · obtain rfl : i = 8 := by omega
      obtain ⟨clk, has, _, h3', hz⟩ := hX.out
      obtain ⟨z1, z2⟩ := hz rfl
      rw [z1, z2] at h3'
      have h3 : Hid (RR W wr rb (topL till 8) 8 now true) := h3'
      clear hX h3' hz z1 z2
      go_wp2_with fail
      refine (rr_full hG h3.out now grace (oldL till 8) (by rw [topL_len]; decide) Hq0.out hgr.1 hgr.2 b0 (by rw [htil.out]; exact topL_out Hnt.out 8) (by rw [oldL_len]; decide)).mono ?_
      rintro e w3 ⟨rfl, h4'⟩
      have h4 : Hid (RR W w3 rb (topL till 8) 8 now true) := h4'
      clear h4' h3
      go_wp2_with fail
      refine (rr_vers h4.out now (8 :: versF now (oldL till 7)) 8 (by rw [topL_len]; decide) (by rw [maxF, if_neg (Int.lt_irrefl _), HN.out, vers_cons]; rfl) (by rw [List.length_cons, oldL_vers Hnt.out])).mono ?_
      rintro e w4 ⟨⟨a4, c4, rfl, o4⟩, h5', hc4, _⟩
      have h4 : Hid (RR W w4 rb (topL till 8) 8 now true) := h5'
      clear h5' hc4 o4
      by_cases d1 : drop ≥ 1
      · have e1 : decide (drop ≥ 1) = true := by simpa using d1
        by_cases d8 : drop ≤ 8
        · have e8 : decide (drop ≤ 8) = true := by simpa using d8
          have hdd : Hid (1 ≤ drop ∧ drop ≤ 8) := ⟨d1, d8⟩
          clear d1 d8
          go_wp2_with fail
          refine (rr_drop h4.out drop (by rw [topL_len]; decide) (top_has till drop hdd.out.1 hdd.out.2)).mono ?_
          rintro e w5 ⟨rfl, i, hi, hv, h5'⟩
          rw [topL_len] at hi
          have hd : drop = 8 - (i : Int) := by rw [← hv, top_ver till i hi]
          have h5 : Hid (RR W w5 rb ((topL till 8).eraseIdx i) 8 now true) := h5'
          have hdh : Hid (drop = 8 - (i : Int)) := hd
          clear h5' h4 hv hd
          go_wp2_with fail
          refine (rr_dropn h5.out drop (by rw [top_erase_len till i hi]; decide) (by rw [hdh.out]; exact top_erase_none till i hi)).mono ?_
          rintro e w6 ⟨rfl, h6'⟩
          have h6 : Hid (RR W w6 rb ((topL till 8).eraseIdx i) 8 now true) := h6'
          clear h6' h5
          go_wp2_with fail
          refine (rr_ok hG h6.out now grace ((oldL till 8).eraseIdx i) (by rw [top_erase_len till i hi]; decide) Hq0.out hgr.1 hgr.2 b0 (by decide) (by rw [htil.out]; exact erase_out Hnt.out i hi) (by rw [erase_len till i hi]; decide)).mono ?_
          rintro e w7 ⟨rfl, h7'⟩
          have h7 : Hid (RR W w7 rb (⟨noneT, 9, 0, true⟩ :: (oldL till 8).eraseIdx i) 9 now true) := h7'
          clear h7' h6
          go_wp2_with fail
          refine (rr_full hG h7.out now grace (⟨noneT, 9, till, false⟩ :: (oldL till 8).eraseIdx i) (by rw [List.length_cons, erase_len till i hi]; decide) Hq0.out hgr.1 hgr.2 b0 (by rw [htil.out]; exact erase_again Hnt.out i hi) (by rw [List.length_cons, erase_len till i hi]; decide)).mono ?_
          rintro e w8 ⟨rfl, h8'⟩
          have h8 : Hid (RR W w8 rb (⟨noneT, 9, 0, true⟩ :: (oldL till 8).eraseIdx i) 9 now true) := h8'
          clear h8' h7
          go_wp2_with fail
          refine (rr_vers h8.out now (9 :: ((oldL till 8).eraseIdx i).map (·.ver)) 8 (by rw [List.length_cons, erase_len till i hi]; decide) (by rw [maxF, if_neg (Int.lt_irrefl _), erase_vers Hnt.out i hi]) (by rw [List.length_cons, List.length_map, erase_len till i hi])).mono ?_
          rintro e w9 ⟨⟨a9, c9, rfl, o9⟩, h9', hc9, _⟩
          obtain ⟨g9, rfl, _, _, k9⟩ := (o9.at (by rw [List.length_cons, List.length_map, erase_len till i hi])).resolve_left (by decide)
          have n0 : w9.cell? ⟨g9, 0, none⟩ = some (.int .i64 9) := k9 0 (by decide)
          have hb9 : Hid (Below W.heap.size W w9) := h9'.bel
          clear h9' hc9 o9 k9 h8
          go_wp2_with fail
          go_ret
          exact ⟨rfl, hb9.out⟩
        · have e8 : decide (drop ≤ 8) = false := by simpa using d8
          clear d8 d1
          go_wp2_with fail
          refine (rr_vers h4.out till [8] 1 (by rw [topL_len]; decide) (by rw [maxF, if_neg (Int.not_lt.2 (Int.le_of_lt Hnt.out)), HN.out, vers_cons, oldL_gone (Int.le_refl _)]; rfl) rfl).mono ?_
          rintro e w5 ⟨⟨a5, c5, rfl, o5⟩, h5', hc5, _⟩
          obtain ⟨g5, rfl, _, _, k5⟩ := (o5.at rfl).resolve_left (by decide)
          have n0 : w5.cell? ⟨g5, 0, none⟩ = some (.int .i64 8) := k5 0 (by decide)
          have h5 : Hid (RR W w5 rb (topL till 8) 8 now true) := h5'
          clear h5' hc5 o5 k5 h4
          go_wp2_with fail
          refine (rr_ok hG h5.out till1 0 (oldL till 7) (by rw [topL_len]; decide) Hq1.out (by decide) (by decide) hr1 (by decide) (by rw [tilF_eq (by omega), Int.add_zero, HN.out, out_cons, oldL_out Ht1.out, if_neg (by simp [closeK, liveK])]; rfl) (by rw [oldL_len]; decide)).mono ?_
          rintro e w6 ⟨rfl, h6'⟩
          have h6 : Hid (RR W w6 rb (⟨noneT, 8 + 1, 0, true⟩ :: oldL till 7) (8 + 1) till1 true) := h6'
          clear h6' h5 n0
          go_wp2_with fail
          refine (rr_vers h6.out till1 (9 :: versF till1 (oldL till 7)) 8 (by simp [oldL_len]) (by rw [maxF, if_neg (Int.lt_irrefl _), vers_cons]; rfl) (by rw [List.length_cons, oldL_vers Ht1.out])).mono ?_
          rintro e w7 ⟨⟨a7, c7, rfl, o7⟩, h7', hc7, _⟩
          have h7 : Hid (RR W w7 rb (⟨noneT, 8 + 1, 0, true⟩ :: oldL till 7) (8 + 1) till1 true) := h7'
          clear h7' hc7 o7 h6
          go_wp2_with fail
          refine (rr_ok hG h7.out till 0 [] (by simp [oldL_len]) Hq2.out (by decide) (by decide) hr2 (by decide) (by rw [tilF_eq (by omega), Int.add_zero, out_cons, oldL_dead (Int.le_refl _), if_neg (by simp [closeK, liveK])]; rfl) (by decide)).mono ?_
          rintro e w8 ⟨rfl, h8'⟩
          have h8 : Hid (RR W w8 rb [⟨noneT, 8 + 1 + 1, 0, true⟩] (8 + 1 + 1) till true) := h8'
          clear h8' h7
          go_wp2_with fail
          refine (rr_vers h8.out till [10] 1 (by decide) (by rw [maxF, if_neg (Int.lt_irrefl _)]; rfl) rfl).mono ?_
          rintro e w9 ⟨⟨a9, c9, rfl, o9⟩, h9', hc9, _⟩
          have h9 : Hid (RR W w9 rb [⟨noneT, 8 + 1 + 1, 0, true⟩] (8 + 1 + 1) till true) := h9'
          clear h9' hc9 o9 h8
          go_wp2_with fail
          go_ret
          exact ⟨rfl, h9.out.bel⟩
      · have e1 : decide (drop ≥ 1) = false := by simpa using d1
        clear d1
        go_wp2_with fail
        refine (rr_vers h4.out till [8] 1 (by rw [topL_len]; decide) (by rw [maxF, if_neg (Int.not_lt.2 (Int.le_of_lt Hnt.out)), HN.out, vers_cons, oldL_gone (Int.le_refl _)]; rfl) rfl).mono ?_
        rintro e w5 ⟨⟨a5, c5, rfl, o5⟩, h5', hc5, _⟩
        obtain ⟨g5, rfl, _, _, k5⟩ := (o5.at rfl).resolve_left (by decide)
        have n0 : w5.cell? ⟨g5, 0, none⟩ = some (.int .i64 8) := k5 0 (by decide)
        have h5 : Hid (RR W w5 rb (topL till 8) 8 now true) := h5'
        clear h5' hc5 o5 k5 h4
        go_wp2_with fail
        refine (rr_ok hG h5.out till1 0 (oldL till 7) (by rw [topL_len]; decide) Hq1.out (by decide) (by decide) hr1 (by decide) (by rw [tilF_eq (by omega), Int.add_zero, HN.out, out_cons, oldL_out Ht1.out, if_neg (by simp [closeK, liveK])]; rfl) (by rw [oldL_len]; decide)).mono ?_
        rintro e w6 ⟨rfl, h6'⟩
        have h6 : Hid (RR W w6 rb (⟨noneT, 8 + 1, 0, true⟩ :: oldL till 7) (8 + 1) till1 true) := h6'
        clear h6' h5 n0
        go_wp2_with fail
        refine (rr_vers h6.out till1 (9 :: versF till1 (oldL till 7)) 8 (by simp [oldL_len]) (by rw [maxF, if_neg (Int.lt_irrefl _), vers_cons]; rfl) (by rw [List.length_cons, oldL_vers Ht1.out])).mono ?_
        rintro e w7 ⟨⟨a7, c7, rfl, o7⟩, h7', hc7, _⟩
        have h7 : Hid (RR W w7 rb (⟨noneT, 8 + 1, 0, true⟩ :: oldL till 7) (8 + 1) till1 true) := h7'
        clear h7' hc7 o7 h6
        go_wp2_with fail
        refine (rr_ok hG h7.out till 0 [] (by simp [oldL_len]) Hq2.out (by decide) (by decide) hr2 (by decide) (by rw [tilF_eq (by omega), Int.add_zero, out_cons, oldL_dead (Int.le_refl _), if_neg (by simp [closeK, liveK])]; rfl) (by decide)).mono ?_
        rintro e w8 ⟨rfl, h8'⟩
        have h8 : Hid (RR W w8 rb [⟨noneT, 8 + 1 + 1, 0, true⟩] (8 + 1 + 1) till true) := h8'
        clear h8' h7
        go_wp2_with fail
        refine (rr_vers h8.out till [10] 1 (by decide) (by rw [maxF, if_neg (Int.lt_irrefl _)]; rfl) rfl).mono ?_
        rintro e w9 ⟨⟨a9, c9, rfl, o9⟩, h9', hc9, _⟩
        have h9 : Hid (RR W w9 rb [⟨noneT, 8 + 1 + 1, 0, true⟩] (8 + 1 + 1) till true) := h9'
        clear h9' hc9 o9 h8
        go_wp2_with fail
        go_ret
        exact ⟨rfl, h9.out.bel⟩

end Go.Proofs.YtcdcfgkgighmhaaGreatDoor
