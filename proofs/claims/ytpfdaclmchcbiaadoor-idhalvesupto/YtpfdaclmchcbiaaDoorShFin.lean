import Derived.Test.YtpfdaclmchcbiaaDoorShWrite
namespace Go.Proofs.YtpfdaclmchcbiaaDoor.Sha
open Go.RowKit
set_option maxRecDepth 100000

/-- The last block: how many bits there were, in its last eight bytes. -/
def lastF (K : Nat) (tl : List UInt8) (ct : Nat) : List UInt8 := tl.take (K - 8) ++ tobe 8 (ct * 8) ++ tl.drop (K - 8 + (tobe 8 (ct * 8)).length)
/-- The chain behind the filling. -/
def finF (h : Int) (m : List UInt8) : List Int :=
  if blk h - blk h / 8 ≤ m.length % blk h then mixF h (mixF h (cF h m) ((tF h m).set (m.length % blk h) 128)) (lastF (blk h) Z128 m.length)
  else mixF h (cF h m) (lastF (blk h) ((tF h m).set (m.length % blk h) 128) m.length)

theorem lastF_length (K : Nat) (tl : List UInt8) (ct : Nat) (h1 : tl.length = 128) (h2 : 8 ≤ K) (h3 : K ≤ 128) : (lastF K tl ct).length = 128 := by
  unfold lastF; simp [tobe_length]; omega
theorem Z128_length : Z128.length = 128 := by simp [Z128]
theorem stV_settail1 (h : Int) (ch : List Int) (ct : Nat) (tl : List UInt8) (h8 : ch.length = 8) (f : Nat) (x : UInt8) : (stV h ch ct tl).set (10 + f) (B x) = stV h ch ct (tl.set f x) := by
  unfold stV
  rw [show 10 + f = (9 + f) + 1 by omega, List.set_cons_succ, List.set_append_right _ _ (by simp [h8]; omega)]
  simp only [List.length_map, h8, show 9 + f - 8 = f + 1 by omega, List.set_cons_succ, List.map_set]
theorem stV_put {w : World} {b : Nat} {h : Int} {ch : List Int} {ct : Nat} {tl : List UInt8} (K : Nat) (h8 : ch.length = 8) (hK : 8 ≤ K) (N : Nat) (hN : N = ct * 8) (H : Cl w b (spl (stV h ch ct tl) (2 + K) ((tobe 8 N).map B))) : Cl w b (stV h ch ct (lastF K tl ct)) := by
  subst hN
  rw [show 2 + K = 10 + (K - 8) by omega, spl_tail h ch ct tl h8] at H
  exact H

set_option maxRecDepth 100000 in
set_option maxHeartbeats 2000000 in
theorem finish_64 (b : Nat) (h : Int) (m : List UInt8) (w : World) (H : Sta w b h m) (hh : isH h) (T : Tb w) (hb7 : 7 ≤ b) (hm : m.length < 2305843009213693952) (hK : blk h = 64) :
    Calls Tryd.prog 22 #[.pointer (some ⟨b, 0, none⟩)] w fun e w' => e = .returned (.tuple #[]) ∧ Cl w' b (stV h (finF h m) m.length Z128) ∧ But w w' b := by
  have g0 := stV_hash H
  have HH : Hid (Sta w b h m) := H
  have HT : Hid (Tb w) := T
  have HK : Hid (True → blk h = 64) := fun _ => hK
  have CB := block_any h w
  rw [hK] at CB
  have CF := filled_any b h (cF h m) m.length (tF h m) w H (cF_length h m) (by omega) (by omega)
  rw [hK] at CF
  obtain ⟨f, hf⟩ : ∃ f, m.length % 64 = f := ⟨_, rfl⟩
  have hf1 : f < 64 := by omega
  rw [hf] at CF
  have Hf : Hid (True → m.length % 64 = f) := fun _ => hf
  clear H T hK hf
  have gf := HH.out.frozen (10 + f)
  have gt := stV_tail HH.out (cF_length h m) f (by rw [tF_length hh]; omega)
  generalize (tF h m)[f]'_ = old at gt
  go_enter Tryd.func22, Tryd.ntmps22
  go_wp2_with fail
  refine CB.mono ?_
  rintro e w1 ⟨rfl, rfl⟩
  go_wp2_with fail
  refine CF.mono ?_
  rintro e w2 ⟨rfl, rfl⟩
  clear CB CF
  rename World => w
  obtain ⟨t1, ht1⟩ : ∃ t1, t1 = (tF h m).set f 128 := ⟨_, rfl⟩
  have HC1 : Hid (Cl ((w.drewN 1).setCell ⟨b, 10 + f, none⟩ (.int .u8 128)) b (stV h (cF h m) m.length t1)) := by
    have h1 := (Cl.drewN HH.out 1).set (10 + f) (B 128)
    rw [stV_settail1 _ _ _ _ (cF_length h m), ← ht1] at h1
    exact h1
  have HB1 : Hid (But w ((w.drewN 1).setCell ⟨b, 10 + f, none⟩ (.int .u8 128)) b) := ((But.refl w b).drewN 1).set _ _
  have ht1l : t1.length = 128 := by rw [ht1, List.length_set, tF_length hh]
  have Ht1 : Hid (True → t1 = (tF h m).set f 128) := fun _ => ht1
  clear ht1
  by_cases hc : 56 ≤ f
  · have Hfin : Hid (True → finF h m = mixF h (mixF h (cF h m) t1) (lastF 64 Z128 m.length)) := fun _ => by
      unfold finF
      rw [HK.out trivial, Hf.out trivial, if_pos (by omega), Ht1.out trivial]
    go_wp2_with fail
    clear g0 gf gt
    generalize (w.drewN 1).setCell ⟨b, 10 + f, none⟩ (.int .u8 128) = wa at *
    refine (mix_any b h (cF h m) m.length t1 wa HC1.out (cF_length h m) ht1l (HT.out.but HB1.out hb7) hb7).mono ?_
    rintro e w3 ⟨rfl, hc3, hb3⟩
    have HC3 : Hid (Cl w3 b (stV h (mixF h (cF h m) t1) m.length Z128)) := hc3
    have HB3 : Hid (But w w3 b) := HB1.out.trans hb3
    have hl3 := mixF_length h (cF h m) t1 (cF_length h m)
    generalize mixF h (cF h m) t1 = c3 at *
    have hz3 := Z128_length
    generalize Z128 = z3 at HC3 hz3 Hfin
    have g9 := stV_count HC3.out hl3
    have hsl : ∀ q, (Instr.sliceAt 44 (.pointer (some ⟨b, 10, none⟩)) (some (.int .i64 56)) (some (.int .i64 64)) none).run Tryd.prog (w3.drewN q) = .ok (.slice (some ⟨b, 66, none⟩) 8 (72)) (w3.drewN q) := fun q => tail_slice b 56 64 (w3.drewN q) 56 64 rfl rfl (by omega) (by omega) (by omega)
    have hwm : IntKind.u64.wrap ((m.length : Int) * 8) = ((m.length * 8 : Nat) : Int) := by rw [IntKind.wrap_u64]; omega
    clear hc3 hb3 HC1 HB1 hc
    go_wp2
    refine wp_region_tail 12 (by kernel_rfl) (by kernel_rfl) ?_
    simp only [List.take_succ_cons, List.take_zero, List.drop_succ_cons, List.drop_zero]
    repeat (first | go_big_quiet_skip | (go_big_quiet_want; go_big_quiet_op; go_big_quiet_on))
    refine wpQuiet_nil ?_
    go_wp2_with fail
    have P := put_any b 66 8 72 (m.length * 8) (stV h c3 m.length z3) (w3.drewN 1) (HC3.out.drewN 1) (by rw [stV_length, hl3, hz3]; omega) (by rw [stV_length, hl3, hz3]; omega) (by omega) (by omega)
    rw [show ((m.length * 8 : Nat) : Int) = (m.length : Int) * 8 by omega] at P
    refine P.mono ?_
    rintro e w4 ⟨rfl, hc4, hb4, _⟩
    clear P hsl g9 hwm
    have HC4 : Hid (Cl w4 b (stV h c3 m.length (lastF 64 z3 m.length))) := stV_put 64 hl3 (by omega) _ rfl hc4
    have HB4 : Hid (But w w4 b) := (HB3.out.drewN 1).trans hb4
    clear hc4 hb4
    go_wp2_with fail
    refine (mix_any b h c3 m.length (lastF 64 z3 m.length) w4 HC4.out hl3 (lastF_length 64 z3 m.length hz3 (by omega) (by omega)) (HT.out.but HB4.out hb7) hb7).mono ?_
    rintro e w5 ⟨rfl, hc5, hb5⟩
    have HC5 : Hid (Cl w5 b (stV h (mixF h c3 (lastF 64 z3 m.length)) m.length Z128)) := hc5
    have HB5 : Hid (But w w5 b) := HB4.out.trans hb5
    clear hc5 hb5
    go_wp2
    go_end0
    refine ⟨rfl, ?_, HB5.out⟩
    rw [Hfin.out trivial]
    exact HC5.out
  · have Hfin : Hid (True → finF h m = mixF h (cF h m) (lastF 64 t1 m.length)) := fun _ => by
      unfold finF
      rw [HK.out trivial, Hf.out trivial, if_neg (by omega), Ht1.out trivial]
    have HC3 := HC1
    have HB3 := HB1
    have hl3 := cF_length h m
    have hz3 := ht1l
    clear HC1 HB1
    generalize cF h m = c3 at *
    generalize t1 = z3 at *
    go_wp2
    clear g0 gf gt
    generalize (w.drewN 1).setCell ⟨b, 10 + f, none⟩ (.int .u8 128) = w3 at *
    have hc3 := 0
    have hb3 := 0
    have HC1 := 0
    have HB1 := 0
    have g9 := stV_count HC3.out hl3
    have hsl : ∀ q, (Instr.sliceAt 44 (.pointer (some ⟨b, 10, none⟩)) (some (.int .i64 56)) (some (.int .i64 64)) none).run Tryd.prog (w3.drewN q) = .ok (.slice (some ⟨b, 66, none⟩) 8 (72)) (w3.drewN q) := fun q => tail_slice b 56 64 (w3.drewN q) 56 64 rfl rfl (by omega) (by omega) (by omega)
    have hwm : IntKind.u64.wrap ((m.length : Int) * 8) = ((m.length * 8 : Nat) : Int) := by rw [IntKind.wrap_u64]; omega
    clear hc3 hb3 HC1 HB1 hc
    go_wp2
    refine wp_region_tail 12 (by kernel_rfl) (by kernel_rfl) ?_
    simp only [List.take_succ_cons, List.take_zero, List.drop_succ_cons, List.drop_zero]
    repeat (first | go_big_quiet_skip | (go_big_quiet_want; go_big_quiet_op; go_big_quiet_on))
    refine wpQuiet_nil ?_
    go_wp2_with fail
    have P := put_any b 66 8 72 (m.length * 8) (stV h c3 m.length z3) (w3.drewN 1) (HC3.out.drewN 1) (by rw [stV_length, hl3, hz3]; omega) (by rw [stV_length, hl3, hz3]; omega) (by omega) (by omega)
    rw [show ((m.length * 8 : Nat) : Int) = (m.length : Int) * 8 by omega] at P
    refine P.mono ?_
    rintro e w4 ⟨rfl, hc4, hb4, _⟩
    clear P hsl g9 hwm
    have HC4 : Hid (Cl w4 b (stV h c3 m.length (lastF 64 z3 m.length))) := stV_put 64 hl3 (by omega) _ rfl hc4
    have HB4 : Hid (But w w4 b) := (HB3.out.drewN 1).trans hb4
    clear hc4 hb4
    go_wp2_with fail
    refine (mix_any b h c3 m.length (lastF 64 z3 m.length) w4 HC4.out hl3 (lastF_length 64 z3 m.length hz3 (by omega) (by omega)) (HT.out.but HB4.out hb7) hb7).mono ?_
    rintro e w5 ⟨rfl, hc5, hb5⟩
    have HC5 : Hid (Cl w5 b (stV h (mixF h c3 (lastF 64 z3 m.length)) m.length Z128)) := hc5
    have HB5 : Hid (But w w5 b) := HB4.out.trans hb5
    clear hc5 hb5
    go_wp2
    go_end0
    refine ⟨rfl, ?_, HB5.out⟩
    rw [Hfin.out trivial]
    exact HC5.out

set_option maxRecDepth 100000 in
set_option maxHeartbeats 2000000 in
theorem finish_128 (b : Nat) (h : Int) (m : List UInt8) (w : World) (H : Sta w b h m) (hh : isH h) (T : Tb w) (hb7 : 7 ≤ b) (hm : m.length < 2305843009213693952) (hK : blk h = 128) :
    Calls Tryd.prog 22 #[.pointer (some ⟨b, 0, none⟩)] w fun e w' => e = .returned (.tuple #[]) ∧ Cl w' b (stV h (finF h m) m.length Z128) ∧ But w w' b := by
  have g0 := stV_hash H
  have HH : Hid (Sta w b h m) := H
  have HT : Hid (Tb w) := T
  have HK : Hid (True → blk h = 128) := fun _ => hK
  have CB := block_any h w
  rw [hK] at CB
  have CF := filled_any b h (cF h m) m.length (tF h m) w H (cF_length h m) (by omega) (by omega)
  rw [hK] at CF
  obtain ⟨f, hf⟩ : ∃ f, m.length % 128 = f := ⟨_, rfl⟩
  have hf1 : f < 128 := by omega
  rw [hf] at CF
  have Hf : Hid (True → m.length % 128 = f) := fun _ => hf
  clear H T hK hf
  have gf := HH.out.frozen (10 + f)
  have gt := stV_tail HH.out (cF_length h m) f (by rw [tF_length hh]; omega)
  generalize (tF h m)[f]'_ = old at gt
  go_enter Tryd.func22, Tryd.ntmps22
  go_wp2_with fail
  refine CB.mono ?_
  rintro e w1 ⟨rfl, rfl⟩
  go_wp2_with fail
  refine CF.mono ?_
  rintro e w2 ⟨rfl, rfl⟩
  clear CB CF
  rename World => w
  obtain ⟨t1, ht1⟩ : ∃ t1, t1 = (tF h m).set f 128 := ⟨_, rfl⟩
  have HC1 : Hid (Cl ((w.drewN 1).setCell ⟨b, 10 + f, none⟩ (.int .u8 128)) b (stV h (cF h m) m.length t1)) := by
    have h1 := (Cl.drewN HH.out 1).set (10 + f) (B 128)
    rw [stV_settail1 _ _ _ _ (cF_length h m), ← ht1] at h1
    exact h1
  have HB1 : Hid (But w ((w.drewN 1).setCell ⟨b, 10 + f, none⟩ (.int .u8 128)) b) := ((But.refl w b).drewN 1).set _ _
  have ht1l : t1.length = 128 := by rw [ht1, List.length_set, tF_length hh]
  have Ht1 : Hid (True → t1 = (tF h m).set f 128) := fun _ => ht1
  clear ht1
  by_cases hc : 112 ≤ f
  · have Hfin : Hid (True → finF h m = mixF h (mixF h (cF h m) t1) (lastF 128 Z128 m.length)) := fun _ => by
      unfold finF
      rw [HK.out trivial, Hf.out trivial, if_pos (by omega), Ht1.out trivial]
    go_wp2_with fail
    clear g0 gf gt
    generalize (w.drewN 1).setCell ⟨b, 10 + f, none⟩ (.int .u8 128) = wa at *
    refine (mix_any b h (cF h m) m.length t1 wa HC1.out (cF_length h m) ht1l (HT.out.but HB1.out hb7) hb7).mono ?_
    rintro e w3 ⟨rfl, hc3, hb3⟩
    have HC3 : Hid (Cl w3 b (stV h (mixF h (cF h m) t1) m.length Z128)) := hc3
    have HB3 : Hid (But w w3 b) := HB1.out.trans hb3
    have hl3 := mixF_length h (cF h m) t1 (cF_length h m)
    generalize mixF h (cF h m) t1 = c3 at *
    have hz3 := Z128_length
    generalize Z128 = z3 at HC3 hz3 Hfin
    have g9 := stV_count HC3.out hl3
    have hsl : ∀ q, (Instr.sliceAt 44 (.pointer (some ⟨b, 10, none⟩)) (some (.int .i64 120)) (some (.int .i64 128)) none).run Tryd.prog (w3.drewN q) = .ok (.slice (some ⟨b, 130, none⟩) 8 (8)) (w3.drewN q) := fun q => tail_slice b 120 128 (w3.drewN q) 120 128 rfl rfl (by omega) (by omega) (by omega)
    have hwm : IntKind.u64.wrap ((m.length : Int) * 8) = ((m.length * 8 : Nat) : Int) := by rw [IntKind.wrap_u64]; omega
    clear hc3 hb3 HC1 HB1 hc
    go_wp2
    refine wp_region_tail 12 (by kernel_rfl) (by kernel_rfl) ?_
    simp only [List.take_succ_cons, List.take_zero, List.drop_succ_cons, List.drop_zero]
    repeat (first | go_big_quiet_skip | (go_big_quiet_want; go_big_quiet_op; go_big_quiet_on))
    refine wpQuiet_nil ?_
    go_wp2_with fail
    have P := put_any b 130 8 8 (m.length * 8) (stV h c3 m.length z3) (w3.drewN 1) (HC3.out.drewN 1) (by rw [stV_length, hl3, hz3]; omega) (by rw [stV_length, hl3, hz3]; omega) (by omega) (by omega)
    rw [show ((m.length * 8 : Nat) : Int) = (m.length : Int) * 8 by omega] at P
    refine P.mono ?_
    rintro e w4 ⟨rfl, hc4, hb4, _⟩
    clear P hsl g9 hwm
    have HC4 : Hid (Cl w4 b (stV h c3 m.length (lastF 128 z3 m.length))) := stV_put 128 hl3 (by omega) _ rfl hc4
    have HB4 : Hid (But w w4 b) := (HB3.out.drewN 1).trans hb4
    clear hc4 hb4
    go_wp2_with fail
    refine (mix_any b h c3 m.length (lastF 128 z3 m.length) w4 HC4.out hl3 (lastF_length 128 z3 m.length hz3 (by omega) (by omega)) (HT.out.but HB4.out hb7) hb7).mono ?_
    rintro e w5 ⟨rfl, hc5, hb5⟩
    have HC5 : Hid (Cl w5 b (stV h (mixF h c3 (lastF 128 z3 m.length)) m.length Z128)) := hc5
    have HB5 : Hid (But w w5 b) := HB4.out.trans hb5
    clear hc5 hb5
    go_wp2
    go_end0
    refine ⟨rfl, ?_, HB5.out⟩
    rw [Hfin.out trivial]
    exact HC5.out
  · have Hfin : Hid (True → finF h m = mixF h (cF h m) (lastF 128 t1 m.length)) := fun _ => by
      unfold finF
      rw [HK.out trivial, Hf.out trivial, if_neg (by omega), Ht1.out trivial]
    have HC3 := HC1
    have HB3 := HB1
    have hl3 := cF_length h m
    have hz3 := ht1l
    clear HC1 HB1
    generalize cF h m = c3 at *
    generalize t1 = z3 at *
    go_wp2
    clear g0 gf gt
    generalize (w.drewN 1).setCell ⟨b, 10 + f, none⟩ (.int .u8 128) = w3 at *
    have hc3 := 0
    have hb3 := 0
    have HC1 := 0
    have HB1 := 0
    have g9 := stV_count HC3.out hl3
    have hsl : ∀ q, (Instr.sliceAt 44 (.pointer (some ⟨b, 10, none⟩)) (some (.int .i64 120)) (some (.int .i64 128)) none).run Tryd.prog (w3.drewN q) = .ok (.slice (some ⟨b, 130, none⟩) 8 (8)) (w3.drewN q) := fun q => tail_slice b 120 128 (w3.drewN q) 120 128 rfl rfl (by omega) (by omega) (by omega)
    have hwm : IntKind.u64.wrap ((m.length : Int) * 8) = ((m.length * 8 : Nat) : Int) := by rw [IntKind.wrap_u64]; omega
    clear hc3 hb3 HC1 HB1 hc
    go_wp2
    refine wp_region_tail 12 (by kernel_rfl) (by kernel_rfl) ?_
    simp only [List.take_succ_cons, List.take_zero, List.drop_succ_cons, List.drop_zero]
    repeat (first | go_big_quiet_skip | (go_big_quiet_want; go_big_quiet_op; go_big_quiet_on))
    refine wpQuiet_nil ?_
    go_wp2_with fail
    have P := put_any b 130 8 8 (m.length * 8) (stV h c3 m.length z3) (w3.drewN 1) (HC3.out.drewN 1) (by rw [stV_length, hl3, hz3]; omega) (by rw [stV_length, hl3, hz3]; omega) (by omega) (by omega)
    rw [show ((m.length * 8 : Nat) : Int) = (m.length : Int) * 8 by omega] at P
    refine P.mono ?_
    rintro e w4 ⟨rfl, hc4, hb4, _⟩
    clear P hsl g9 hwm
    have HC4 : Hid (Cl w4 b (stV h c3 m.length (lastF 128 z3 m.length))) := stV_put 128 hl3 (by omega) _ rfl hc4
    have HB4 : Hid (But w w4 b) := (HB3.out.drewN 1).trans hb4
    clear hc4 hb4
    go_wp2_with fail
    refine (mix_any b h c3 m.length (lastF 128 z3 m.length) w4 HC4.out hl3 (lastF_length 128 z3 m.length hz3 (by omega) (by omega)) (HT.out.but HB4.out hb7) hb7).mono ?_
    rintro e w5 ⟨rfl, hc5, hb5⟩
    have HC5 : Hid (Cl w5 b (stV h (mixF h c3 (lastF 128 z3 m.length)) m.length Z128)) := hc5
    have HB5 : Hid (But w w5 b) := HB4.out.trans hb5
    clear hc5 hb5
    go_wp2
    go_end0
    refine ⟨rfl, ?_, HB5.out⟩
    rw [Hfin.out trivial]
    exact HC5.out

theorem finish_any (b : Nat) (h : Int) (m : List UInt8) (w : World) (H : Sta w b h m) (hh : isH h) (T : Tb w) (hb7 : 7 ≤ b) (hm : m.length < 2305843009213693952) :
    Calls Tryd.prog 22 #[.pointer (some ⟨b, 0, none⟩)] w fun e w' => e = .returned (.tuple #[]) ∧ Cl w' b (stV h (finF h m) m.length Z128) ∧ But w w' b := by
  rcases hh with rfl | rfl | rfl
  · exact finish_64 b 1 m w H (.inl rfl) T hb7 hm rfl
  · exact finish_128 b 2 m w H (.inr (.inl rfl)) T hb7 hm rfl
  · exact finish_128 b 3 m w H (.inr (.inr rfl)) T hb7 hm rfl

end Go.Proofs.YtpfdaclmchcbiaaDoor.Sha