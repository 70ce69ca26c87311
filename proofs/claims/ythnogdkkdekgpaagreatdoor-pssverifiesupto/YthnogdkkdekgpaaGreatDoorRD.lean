import Derived.Test.YthnogdkkdekgpaaGreatDoorRC
namespace Go.Proofs.YthnogdkkdekgpaaGreatDoor
open Go.RowKit

set_option maxRecDepth 100000 in
set_option maxHeartbeats 8000000 in
theorem rholds_any (h : Int) (a1 a2 : Option Addr) (c1 c2 : Nat) (d em : List UInt8) (bits : Int) (w : World) (R0 : Sha.Rt w) (r1 : Rd w a1 d) (r2 : Rd w a2 em) (n1 : a1 = none → d.length = 0 ∧ c1 = 0) (k2 : em.length ≤ c2) (_k2' : c2 ≤ 9223372036854775807) (l1 : d.length ≤ 10000000) (l2 : em.length ≤ 10000000) :
    Calls Tryz.prog 26 #[.int .i64 h, .slice a1 d.length c1, .slice a2 em.length c2, .int .i64 bits] w fun e w' => e = .returned (.bool (holdsV h d em bits)) ∧ Below w.heap.size w w' := by
  have CZ := Sha.rsize_any h w
  obtain ⟨hv, HV⟩ : ∃ hv, Hid (holdsV h d em bits = hv) := ⟨_, rfl⟩
  rw [HV.out]
  have HNo : Hid (pcode h d.length (Sha.siz h) bits ≠ 0 → hv = false) := fun hp => by
    rw [← HV.out]; unfold holdsV; rw [decide_eq_false]; rintro ⟨x, _⟩; exact hp x
  by_cases hh : isHB h = true
  case neg =>
    have hh2 : isHB h = false := by simpa using hh
    obtain rfl := HNo.out (by unfold pcode; rw [if_pos hh2]; decide)
    have C0 : Calls Tryz.prog 19 #[.int .i64 h] w fun e w' => e = .returned (.int .i64 0) ∧ w' = w := by rw [siz_zero hh2] at CZ; exact CZ
    clear hh hh2 CZ R0 r1 r2 n1 HV HNo
    go_enter Tryz.func26, Tryz.ntmps26
    go_wp2_with fail
    refine C0.mono ?_
    rintro e w' ⟨rfl, rfl⟩
    clear C0
    go_wp2
    go_ret
    exact ⟨rfl, Below.refl _ _⟩
  have hs0 := isHB_pos hh
  have hs64 := siz_le64 h
  have dz : ((Sha.siz h : Int) == 0) = false := by rw [beq_eq_false_iff_ne]; omega
  by_cases h1 : bits < 0
  case pos =>
    have d1 : decide (bits < 0) = true := decide_eq_true h1
    obtain rfl := HNo.out (by unfold pcode; rw [if_neg (by rw [hh]; simp), if_pos (.inl h1)]; decide)
    clear HNo HV
    generalize Sha.siz h = S at *
    clear hh R0 r1 r2 n1 h1
    go_enter Tryz.func26, Tryz.ntmps26
    go_wp2_with fail
    refine CZ.mono ?_
    rintro e w' ⟨rfl, rfl⟩
    clear CZ
    go_wp2
    go_ret
    exact ⟨rfl, Below.refl _ _⟩
  have d1 : decide (bits < 0) = false := decide_eq_false h1
  by_cases h2 : 65536 < bits
  case pos =>
    have d2 : decide (65536 < bits) = true := decide_eq_true h2
    have d2' : decide (bits > 65536) = true := decide_eq_true h2
    obtain rfl := HNo.out (by unfold pcode; rw [if_neg (by rw [hh]; simp), if_pos (.inr h2)]; decide)
    clear HNo HV
    generalize Sha.siz h = S at *
    clear hh R0 r1 r2 n1 h1 h2
    go_enter Tryz.func26, Tryz.ntmps26
    go_wp2_with fail
    refine CZ.mono ?_
    rintro e w' ⟨rfl, rfl⟩
    clear CZ
    go_wp2
    go_ret
    exact ⟨rfl, Below.refl _ _⟩
  have d2 : decide (65536 < bits) = false := decide_eq_false h2
  have d2' : decide (bits > 65536) = false := decide_eq_false h2
  obtain ⟨b, rfl⟩ : ∃ b : Nat, bits = (b : Int) := ⟨bits.toNat, by omega⟩
  have hb65 : b ≤ 65536 := by omega
  obtain ⟨S, HS⟩ : ∃ S, Hid (Sha.siz h = S) := ⟨_, rfl⟩
  obtain ⟨W, HW⟩ : ∃ W, Hid (wid b = W) := ⟨_, rfl⟩
  obtain ⟨b7, Hb7⟩ : ∃ x, Hid (b + 7 = x) := ⟨_, rfl⟩
  obtain ⟨E, HE⟩ : ∃ E, Hid (em.length = E) := ⟨_, rfl⟩
  have hW1 : 8 * W ≤ b + 7 ∧ b ≤ 8 * W := by rw [← HW.out]; unfold wid; omega
  have hWb : W ≤ 8192 := by omega
  have hb7 : b7 ≤ 66000 := by rw [← Hb7.out]; omega
  have e1 : (b : Int) + 7 = (b7 : Int) := by rw [← Hb7.out]; omega
  have e2 : Int.tdiv (b7 : Int) 8 = (W : Int) := by rw [Int.tdiv_eq_ediv_of_nonneg (by omega), ← HW.out, ← Hb7.out]; unfold wid; omega
  have e3 : (b7 : Int) / 8 = (W : Int) := by rw [← HW.out, ← Hb7.out]; unfold wid; omega
  rw [HS.out] at CZ hs0 hs64 dz HNo
  rw [HE.out] at k2 l2
  rw [HE.out]
  have hpc : pcode h d.length S (b : Int) = if d.length ≠ S ∨ W < S + S + 2 then 90 else 0 := by
    unfold pcode; rw [if_neg (by rw [hh]; simp), if_neg (by omega), Int.toNat_natCast, HS.out, HW.out]
  clear h1 h2 hW1
  by_cases hd : d.length = S
  case neg =>
    have d3 : ((d.length : Int) != (S : Int)) = true := by simp; omega
    obtain rfl := HNo.out (by rw [hpc, if_pos (.inl hd)]; decide)
    clear hh R0 r1 r2 n1 hd hpc HNo HV
    go_enter Tryz.func26, Tryz.ntmps26
    go_wp2_with fail
    refine CZ.mono ?_
    rintro e w' ⟨rfl, rfl⟩
    clear CZ
    go_wp2
    go_ret
    exact ⟨rfl, Below.refl _ _⟩
  have d3 : ((d.length : Int) != (S : Int)) = false := by rw [hd]; simp
  by_cases hEW : E = W
  case neg =>
    have d4 : ((E : Int) != (W : Int)) = true := by simp; omega
    obtain rfl : hv = false := by
      rw [← HV.out]; unfold holdsV; rw [decide_eq_false]; rintro ⟨_, x, _⟩; rw [HE.out, Int.toNat_natCast, HW.out] at x; exact hEW x
    clear hh R0 r1 r2 n1 hd hpc HNo HV hEW
    go_enter Tryz.func26, Tryz.ntmps26
    go_wp2_with fail
    refine CZ.mono ?_
    rintro e w' ⟨rfl, rfl⟩
    clear CZ
    go_wp2
    go_ret
    exact ⟨rfl, Below.refl _ _⟩
  obtain rfl := hEW
  have d4 : ((E : Int) != (E : Int)) = false := by simp
  by_cases hwl : E < 2 * S + 2
  case pos =>
    have d5 : decide ((E : Int) < 2 * (S : Int) + 2) = true := decide_eq_true (by omega)
    obtain rfl := HNo.out (by rw [hpc, if_pos (.inr (by omega))]; decide)
    clear hh R0 r1 r2 n1 hd hpc HNo HV hwl
    go_enter Tryz.func26, Tryz.ntmps26
    go_wp2_with fail
    refine CZ.mono ?_
    rintro e w' ⟨rfl, rfl⟩
    clear CZ
    go_wp2
    go_ret
    exact ⟨rfl, Below.refl _ _⟩
  have d5 : decide ((E : Int) < 2 * (S : Int) + 2) = false := decide_eq_false (by omega)
  obtain ⟨P, eP⟩ : ∃ P : Nat, (E : Int) - (S : Int) - 1 = (P : Int) := ⟨E - S - 1, by omega⟩
  obtain ⟨Q, eQ⟩ : ∃ Q : Nat, (E : Int) - 1 = (Q : Int) := ⟨E - 1, by omega⟩
  obtain ⟨R, eR⟩ : ∃ R : Nat, (P : Int) - (S : Int) = (R : Int) := ⟨P - S, by omega⟩
  have hX : Q + 1 = E ∧ P + S = Q ∧ R + S = P := ⟨by omega, by omega, by omega⟩
  obtain ⟨ge, off, rfl, hge, hcell⟩ := r2.resolve_left (fun e => by rw [e] at HE; have := HE.out; simp at this; omega)
  have hr0 : Rd w (some ⟨ge, off, none⟩) em := .inr ⟨ge, off, rfl, hge, hcell⟩
  have hRP := (hr0.dropP P).takeP S
  have hl1 : ((em.drop P).take S).length = Q - P := by rw [List.length_take, List.length_drop, HE.out]; omega
  have CM := rmask_any h (some ⟨ge, off + P, none⟩) (c2 - P) ((em.drop P).take S) P w hh R0 hRP (fun e => by cases e) (by omega) (by rw [hl1]; omega)
  rw [hl1] at CM
  obtain ⟨mk, hmk⟩ : ∃ mk, maskF h ((em.drop P).take S) P = mk := ⟨_, rfl⟩
  have hml : mk.length = P := by rw [← hmk]; exact maskF_length _ _ _ (by rw [HS.out]; exact hs0)
  obtain ⟨bk, hbk⟩ : ∃ bk, xorL (em.take P) mk = bk := ⟨_, rfl⟩
  have hbkl : bk.length = P := by rw [← hbk, xorL_length, List.length_take, HE.out, hml]; omega
  have Hbk : Hid (∀ k (hk : k < bk.length), bk[k] = em.getD k 0 ^^^ mk.getD k 0) := fun k hk => by
    subst hbk
    rw [xorL_get _ _ k hk (by rw [List.length_take, HE.out]; omega) (by omega), List.getElem_take]
    rw [List.getD_eq_getElem?_getD, List.getD_eq_getElem?_getD, List.getElem?_eq_getElem (by rw [HE.out]; omega), List.getElem?_eq_getElem (by omega)]
    rfl
  have hsa : bk.drop R = saltF h em := by
    rw [← hbk, xorL_drop, List.drop_take, show P - R = S by omega]
    unfold saltF
    rw [HS.out, HE.out, show E - 1 - 2 * S = R by omega, show E - 1 - S = P by omega, hmk]
  have Hsa : Hid (bk.drop R = saltF h em) := hsa
  have hp0 : pcode h d.length S (b : Int) = 0 := by rw [hpc, if_neg (by omega)]
  have hsl : (saltF h em).length = S := by rw [← hsa, List.length_drop, hbkl]; omega
  have HP0 : Hid (pcode h d.length S (b : Int) = 0) := hp0
  have Hwl : Hid (((encF h d (saltF h em) b)).length = E) := by
    show _ = _
    obtain ⟨q1, _, _, _, q5⟩ := pcode_ok hp0
    rw [Int.toNat_natCast] at q5
    rw [encF_length h d _ b (isHB_pos q1) (by rw [hsl]; exact q5)]
    exact HW.out
  have HVd : Hid (hv = decide (encF h d (saltF h em) b = em)) := by
    show _ = _
    rw [← HV.out]
    unfold holdsV
    apply decide_eq_decide.2
    rw [Int.toNat_natCast, HS.out]
    exact ⟨fun x => x.2.2, fun x => ⟨hp0, by rw [HE.out]; exact HW.out.symm, x⟩⟩
  have Hsl : Hid ((saltF h em).length = S) := hsl
  have Hml : Hid (mk.length = P) := hml
  have Hbkl : Hid (bk.length = P) := hbkl
  have HX : Hid (Q + 1 = E ∧ P + S = Q ∧ R + S = P) := hX
  have HR : Hid (Sha.Rt w) := R0
  have H1 : Hid (Rd w a1 d) := r1
  have H2 : Hid (Rd w (some ⟨ge, off, none⟩) em) := hr0
  rw [hmk] at CM
  have o1 : P ≤ Q := by omega
  have o2 : Q ≤ c2 := by omega
  have o3 : ¬ c2 = P := by omega
  have o4 : 1 ≤ P := by omega
  clear R0 r1 r2 hh hd hwl hpc hX hcell hr0 hRP hl1 hmk hml hbk hbkl hsa hp0 hsl HNo HV
  go_enter Tryz.func26, Tryz.ntmps26
  go_wp2_with fail
  refine CZ.mono ?_
  rintro e w' ⟨rfl, rfl⟩
  clear CZ
  go_wp2_with fail
  refine CM.mono ?_
  rintro e w1 ⟨aM, cM, rfl, _, _, hRM, _, hb1⟩
  clear CM d1 d2 d2' d3 d4 d5 dz e1 e2 e3
  obtain ⟨gm, om, rfl, hgm1, hcm⟩ := hRM.resolve_left (fun e => by have := Hml.out; rw [e] at this; simp at this; omega)
  have HRm : Hid (Rd w1 (some ⟨gm, om, none⟩) mk) := hRM
  have B1 : Hid (Below w'.heap.size w' w1) := hb1
  have hge1 : ge < w1.heap.size := Nat.lt_of_lt_of_le hge hb1.size
  have HEm : Hid (Rd w1 (some ⟨ge, off, none⟩) em) := H2.out.below hb1 (Nat.le_refl _)
  have HN0 : Hid (OBb w1.heap.size w1 w1 (.slice none 0 0) (bk.take 0)) := ⟨Owb.nil _ _, Below.refl _ _⟩
  clear hRM hcm hb1
  go_wp2
  go_loopw [12, 13] (fun s3 s4 wr => ∃ k : Nat, s4 = .int .i64 (k : Int) ∧ k ≤ P ∧ Hid (OBb w1.heap.size w1 wr s3 (bk.take k))) (fun _ s _ => P - (intOf s).toNat)
  case atStart => exact ⟨0, rfl, by omega, HN0⟩
  case round =>
    clear HN0
    obtain ⟨i, rfl, hk, HO⟩ := hrel
    obtain ⟨a6, n6, c6, e6⟩ : ∃ a n c, u12 = .slice a n c := by obtain ⟨a, c, e, _⟩ := HO.out.own.nb; exact ⟨a, _, c, e⟩
    subst e6
    by_cases hlt : i < P
    · obtain ⟨g1, o1', e1, _, hc1⟩ := HEm.out.resolve_left (fun e => by have := HE.out; rw [e] at this; simp at this; omega)
      cases e1
      obtain ⟨g2, o2', e2, _, hc2⟩ := HRm.out.resolve_left (fun e => by have := Hml.out; rw [e] at this; simp at this; omega)
      cases e2
      have hiE0 : i < E := by have := HX.out; omega
      have gx1 := hc1 i (by rw [HE.out]; exact hiE0)
      have gy1 := hc2 i (by rw [Hml.out]; omega)
      have hz := Hbk.out i (by rw [Hbkl.out]; exact hlt)
      have Htk : Hid (bk.take i ++ [em.getD i 0 ^^^ mk.getD i 0] = bk.take (i + 1)) := by
        show _ = _
        rw [List.take_succ_eq_append_getElem (by rw [Hbkl.out]; exact hlt), hz]
      clear hz hc1 hc2
      generalize em.getD i 0 = x at *
      generalize mk.getD i 0 = y at *
      have hxo := xor_b x y
      obtain ⟨z, hz⟩ : ∃ z, x ^^^ y = z := ⟨_, rfl⟩
      rw [hz] at hxo Htk
      clear hz
      unfold B at gx1 gy1
      have gx : wr.cell? ⟨ge, off + i, none⟩ = some (.int .u8 (x.toNat : Int)) := cell_but gx1 fun hg => HO.out.bel.block ge hge1
      have gy : wr.cell? ⟨gm, om + i, none⟩ = some (.int .u8 (y.toNat : Int)) := cell_but gy1 fun hg => HO.out.bel.block gm hgm1
      have Hgx1 : Hid (w1.cell? ⟨ge, off + i, none⟩ = some (.int .u8 (x.toNat : Int))) := gx1
      have Hgy1 : Hid (w1.cell? ⟨gm, om + i, none⟩ = some (.int .u8 (y.toNat : Int))) := gy1
      clear gx1 gy1
      have hiP : (i : Int) < (P : Int) := by omega
      have hiE : (i : Int) < (E : Int) := by omega
      have d2 : decide ((i : Int) < (P : Int)) = true := decide_eq_true hiP
      have hlk : (bk.take i).length ≤ 8192 := by rw [List.length_take]; omega
      obtain ⟨n7, hn7⟩ : ∃ n, (bk.take i).length = n := ⟨_, rfl⟩
      have Hn7 : Hid ((bk.take i).length = n7) := hn7
      rw [hn7] at hlk
      clear hn7
      have Hown : Hid (wr.ownsRow w1.heap.size 5 1 (.slice a6 n6 c6) n7 ((bk.take i).map B)) := by
        have := HO.out.own
        unfold Owb at this
        rw [Hn7.out] at this
        exact this
      have hsw : w1.heap.size ≤ wr.heap.size := HO.out.bel.size
      have HBr : Hid (Below w1.heap.size w1 wr) := HO.out.bel
      obtain ⟨i0, hi0, hz0, hz1, hz2⟩ := info_parts infoB
      clear HO
      go_wp2
      go_region_held_law (fun w'' => w''.cell? ⟨ge, off + i, none⟩ = some (.int .u8 (x.toNat : Int)) ∧ w''.cell? ⟨gm, om + i, none⟩ = some (.int .u8 (y.toNat : Int))) (first | assumption | (refine ⟨?_, ?_⟩ <;> first | assumption | go_keep)) ((
        refine Sha.step_append_own rfl (.tmp 70) (.tmp 80) 23 rfl w1.heap.size 5 i0 (.int .u8 0) 1 1 Tryz.underlying23 hi0 hz0 hz1 hz2 rfl (by decide) (.slice a6 n6 c6) n7 ((bk.take i).map B) (by simp [Act.eval]) (Hown.out.alloc _) ⟨wr.heap.size, 0, none⟩ 1 1 [.int .u8 (z.toNat : Int)] (by simp [Act.eval]) rfl (by intro t u ht; match t, ht with | 0, ht => (simp at ht; subst ht; simp [Addr.add])) (by intro u hu; simp at hu; subst hu; rfl) (by unfold maxLen; omega) (by omega) (by simp; omega) ?_
        intro v5 w5 hown5 hgrow5 _
        have HB5 : Hid (Below w1.heap.size w1 w5) := HBr.out.trans (Below.grown (Below.drew ((alloc_below wr _).mono hsw)) hgrow5 (by simp; omega) (own_block Hown.out))
        have hS5 : w5.cell? ⟨ge, off + i, none⟩ = some (.int .u8 (x.toNat : Int)) ∧ w5.cell? ⟨gm, om + i, none⟩ = some (.int .u8 (y.toNat : Int)) := ⟨cell_but Hgx1.out fun hg => HB5.out.block ge hge1, cell_but Hgy1.out fun hg => HB5.out.block gm hgm1⟩))
      have HO5 : Hid (OBb w1.heap.size w1 w5 v5 (bk.take (i + 1))) := by
        refine ⟨?_, HB5.out⟩
        rw [← Htk.out]
        unfold Owb
        rw [List.length_append, Hn7.out, List.map_append]
        exact hown5
      clear hown5 hgrow5 hS5 HB5 Hown HBr
      go_wp2
      exact ⟨⟨i + 1, by go_num, by omega, HO5⟩, by simp [intOf]; omega⟩
    · obtain rfl : i = P := by omega
      have d2 : decide ((i : Int) < (i : Int)) = false := decide_eq_false (by omega)
      have HOf : OBb w1.heap.size w1 wr (.slice a6 n6 c6) bk := by
        have := HO.out
        rw [List.take_of_length_le (by rw [Hbkl.out]; exact Nat.le_refl _)] at this
        exact this
      have HBr : Hid (Below w'.heap.size w' wr) := B1.out.trans (HOf.bel.mono B1.out.size)
      obtain ⟨gB, cB, eS, hgB, hcB, hcB2, hRB⟩ := HOf.sliceP (by rw [Hbkl.out]; omega)
      rw [Hbkl.out] at eS hcB
      injection eS with e1 e2 e3
      subst e1; subst e2; subst e3
      unfold maxLen at hcB2
      have hx := HX.out
      have hRd := hRB.dropP R
      rw [Hsa.out] at hRd
      have CE := rpencode_any h a1 (some ⟨gB, 0 + R, none⟩) c1 (c6 - R) d (saltF h em) (b : Int) wr (RtB HR.out HBr.out (Nat.le_refl _)) (H1.out.below HBr.out (Nat.le_refl _)) hRd n1 (fun e => by cases e) l1 (by rw [Hsl.out]; omega)
      rw [Hsl.out, HP0.out, Nat.zero_add] at CE
      have hev : pencV h d (saltF h em) (b : Int) = encF h d (saltF h em) b := by unfold pencV; rw [Hsl.out, HP0.out, if_pos rfl, Int.toNat_natCast]
      rw [hev] at CE
      rw [show S = n6 - R by omega] at CE
      have o5 : R ≤ n6 := by omega
      have o6 : ¬ c6 = R := by omega
      clear HO HOf hRB hRd hev hlt hk hx
      go_wp2_with fail
      refine CE.mono ?_
      rintro e w5 ⟨r, rfl, hO⟩
      clear CE
      obtain ⟨want, hwant⟩ : ∃ x, encF h d (saltF h em) b = x := ⟨_, rfl⟩
      rw [hwant] at hO Hwl HVd
      obtain ⟨aW, cW, eW, _, hRW⟩ := hO.own.nb
      rw [Hwl.out] at eW
      subst eW
      have HB5 : Hid (Below w'.heap.size w' w5) := HBr.out.trans (hO.bel.mono HBr.out.size)
      obtain ⟨gw, ow, rfl, _, hcw⟩ := hRW.resolve_left (fun e => by have := Hwl.out; rw [e] at this; simp at this; omega)
      obtain ⟨ge', oe', ee, _, hce⟩ := (H2.out.below HB5.out (Nat.le_refl _)).resolve_left (fun e => by have := HE.out; rw [e] at this; simp at this; omega)
      cases ee
      have HCw : Hid (∀ k, k < E → w5.cell? ⟨gw, ow + k, none⟩ = some (.int .u8 ((want.getD k 0).toNat : Int))) := fun k hk => hcw k (by rw [Hwl.out]; exact hk)
      have HCe : Hid (∀ k, k < E → w5.cell? ⟨ge, off + k, none⟩ = some (.int .u8 ((em.getD k 0).toNat : Int))) := fun k hk => hce k (by rw [HE.out]; exact hk)
      clear hO hRW hwant hcw hce HBr d2 o1 o2 o3 o4 o5 o6
      go_wp2
      go_loopw [17] (fun s' wx => ∃ k q : Nat, s' = .int .i64 (k : Int) ∧ k ≤ E ∧ Hid (want.take k = em.take k) ∧ wx = w5.drewN q) (fun s' _ => E - (intOf s').toNat)
      case atStart => exact ⟨0, 0, rfl, by omega, rfl, rfl⟩
      case round =>
        obtain ⟨k, q, rfl, hk, Ht, rfl⟩ := hrel
        by_cases hlt : k < E
        · have g1 := HCw.out k hlt
          have g2 := HCe.out k hlt
          have hlw : k < want.length := by rw [Hwl.out]; exact hlt
          have hle : k < em.length := by rw [HE.out]; exact hlt
          rw [List.getD_eq_getElem?_getD, List.getElem?_eq_getElem hlw, Option.getD_some] at g1
          rw [List.getD_eq_getElem?_getD, List.getElem?_eq_getElem hle, Option.getD_some] at g2
          have Hx : Hid (want[k] = em[k] ↔ want.take (k + 1) = em.take (k + 1)) := ptake_iff hlw hle Ht.out
          generalize want[k] = x at g1 Hx
          generalize em[k] = y at g2 Hx
          have hltI : (k : Int) < (E : Int) := by omega
          have d6 : decide ((k : Int) < (E : Int)) = true := decide_eq_true hltI
          have hne := pne_byte x y
          by_cases hxy : x = y
          · have hd : ((x.toNat : Int) != (y.toNat : Int)) = false := by rw [hne]; simp [hxy]
            have Ht1 : Hid (want.take (k + 1) = em.take (k + 1)) := Hx.out.1 hxy
            clear hne hxy Hx hlw hle
            go_wp2
            go_quiet (fail)
            go_wp2
            go_roundw
            case rel => exact ⟨k + 1, _, by go_num, by omega, Ht1, rfl⟩
            case measure => simp [intOf]; omega
          · have hd : ((x.toNat : Int) != (y.toNat : Int)) = true := by rw [hne]; simp [hxy]
            obtain rfl : hv = false := by
              rw [HVd.out, decide_eq_false_iff_not]
              intro e
              exact hxy (Hx.out.2 (by rw [e]))
            clear hne hxy Hx hlw hle HVd
            go_wp2
            go_quiet (fail)
            go_wp2
            go_ret
            refine ⟨rfl, ?_⟩
            rw [World.drewN_drewN]
            exact below_drewN HB5.out _
        · obtain rfl : hv = true := by
            rw [HVd.out, decide_eq_true_iff]
            have h1 := Ht.out
            rw [List.take_of_length_le (by rw [Hwl.out]; omega), List.take_of_length_le (by rw [HE.out]; omega)] at h1
            exact h1
          have d6 : decide ((k : Int) < (E : Int)) = false := decide_eq_false (by omega)
          clear HVd Ht
          go_wp2
          go_ret
          exact ⟨rfl, below_drewN HB5.out _⟩

end Go.Proofs.YthnogdkkdekgpaaGreatDoor
