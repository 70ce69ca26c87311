import Derived.Test.YtdhfjhdlimmjhaaGreatDoorShZd
import Derived.Laws.MakeOwn
namespace Go.Proofs.YtdhfjhdlimmjhaaGreatDoor.Sha
open Go.RowKit
set_option maxRecDepth 100000

def lastF (K : Nat) (tl : List UInt8) (ct : Nat) : List UInt8 := tl.take (K - 8) ++ tobe 8 (ct * 8) ++ tl.drop (K - 8 + (tobe 8 (ct * 8)).length)
def finF (h : Int) (m : List UInt8) : List Int :=
  if blk h - blk h / 8 ≤ m.length % blk h then mixF h (mixF h (cF h m) ((tF h m).set (m.length % blk h) 128)) (lastF (blk h) Z128 m.length)
  else mixF h (cF h m) (lastF (blk h) ((tF h m).set (m.length % blk h) 128) m.length)

theorem lastF_length (K : Nat) (tl : List UInt8) (ct : Nat) (h1 : tl.length = 128) (h2 : 8 ≤ K) (h3 : K ≤ 128) : (lastF K tl ct).length = 128 := by
  unfold lastF; simp [tobe_length]; omega
theorem Z128_length : Z128.length = 128 := by simp [Z128]
theorem stV_settail1 (h : Int) (ch : List Int) (ct : Nat) (tl : List UInt8) (h8 : ch.length = 8) (f : Nat) (x : UInt8) : (stV h ch ct tl).set (10 + f) (B x) = stV h ch ct (tl.set f x) := by
  unfold stV
  rw [show 10 + f = (9 + f) + 1 by omega, List.set_cons_succ, List.set_append_right _ _ (by simp [h8]; omega)]
  simp only [List.length_map, h8, show 9 + f - 8 = f + 1 by omega, List.set_cons_succ, List.map_set]
theorem stV_put {w : World} {b : Nat} {h : Int} {ch : List Int} {ct : Nat} {tl : List UInt8} (K : Nat) (h8 : ch.length = 8) (hK : 8 ≤ K) (N : Nat) (hN : N = ct * 8) (H : Cl w b (spl (stV h ch ct tl) (2 + K) ((tobe 8 N).map B))) : Cl w b (stV h ch ct (lastF K tl ct)) := by
  subst hN
  rw [show 2 + K = 10 + (K - 8) by omega, spl_tail h ch ct tl h8] at H
  exact H

set_option maxRecDepth 100000 in
set_option maxHeartbeats 2000000 in
theorem finish_64 (b : Nat) (h : Int) (m : List UInt8) (w : World) (H : Sta w b h m) (hh : isH h) (T : Tb w) (hb7 : 11 ≤ b) (hm : m.length < 2305843009213693952) (hK : blk h = 64) :
    Calls Tryz.prog 94 #[.pointer (some ⟨b, 0, none⟩)] w fun e w' => e = .returned (.tuple #[]) ∧ Cl w' b (stV h (finF h m) m.length Z128) ∧ But w w' b := by
  have g0 := stV_hash H
  have HH : Hid (Sta w b h m) := H
  have HT : Hid (Tb w) := T
  have HK : Hid (True → blk h = 64) := fun _ => hK
  have CB := block_any h w
  rw [hK] at CB
  have CF := filled_any b h (cF h m) m.length (tF h m) w H (cF_length h m) (by omega) (by omega)
  rw [hK] at CF
  obtain ⟨f, hf⟩ : ∃ f, m.length % 64 = f := ⟨_, rfl⟩
  have hf1 : f < 64 := by omega
  rw [hf] at CF
  have Hf : Hid (True → m.length % 64 = f) := fun _ => hf
  clear H T hK hf
  have gf := HH.out.frozen (10 + f)
  have gt := stV_tail HH.out (cF_length h m) f (by rw [tF_length hh]; omega)
  generalize (tF h m)[f]'_ = old at gt
  go_enter Tryz.func94, Tryz.ntmps94
  go_wp2_with fail
  refine CB.mono ?_
  rintro e w1 ⟨rfl, rfl⟩
  go_wp2_with fail
  refine CF.mono ?_
  rintro e w2 ⟨rfl, rfl⟩
  clear CB CF
  rename World => w
  obtain ⟨t1, ht1⟩ : ∃ t1, t1 = (tF h m).set f 128 := ⟨_, rfl⟩
  have HC1 : Hid (Cl ((w.drewN 1).setCell ⟨b, 10 + f, none⟩ (.int .u8 128)) b (stV h (cF h m) m.length t1)) := by
    have h1 := (Cl.drewN HH.out 1).set (10 + f) (B 128)
    rw [stV_settail1 _ _ _ _ (cF_length h m), ← ht1] at h1
    exact h1
  have HB1 : Hid (But w ((w.drewN 1).setCell ⟨b, 10 + f, none⟩ (.int .u8 128)) b) := ((But.refl w b).drewN 1).set _ _
  have ht1l : t1.length = 128 := by rw [ht1, List.length_set, tF_length hh]
  have Ht1 : Hid (True → t1 = (tF h m).set f 128) := fun _ => ht1
  clear ht1
  by_cases hc : 56 ≤ f
  · have Hfin : Hid (True → finF h m = mixF h (mixF h (cF h m) t1) (lastF 64 Z128 m.length)) := fun _ => by
      unfold finF
      rw [HK.out trivial, Hf.out trivial, if_pos (by omega), Ht1.out trivial]
    go_wp2_with fail
    clear g0 gf gt
    generalize (w.drewN 1).setCell ⟨b, 10 + f, none⟩ (.int .u8 128) = wa at *
    refine (mix_any b h (cF h m) m.length t1 wa HC1.out (cF_length h m) ht1l (HT.out.but HB1.out hb7) hb7).mono ?_
    rintro e w3 ⟨rfl, hc3, hb3⟩
    have HC3 : Hid (Cl w3 b (stV h (mixF h (cF h m) t1) m.length Z128)) := hc3
    have HB3 : Hid (But w w3 b) := HB1.out.trans hb3
    have hl3 := mixF_length h (cF h m) t1 (cF_length h m)
    generalize mixF h (cF h m) t1 = c3 at *
    have hz3 := Z128_length
    generalize Z128 = z3 at HC3 hz3 Hfin
    have g9 := stV_count HC3.out hl3
    have hsl : ∀ q, (Instr.sliceAt 145 (.pointer (some ⟨b, 10, none⟩)) (some (.int .i64 56)) (some (.int .i64 64)) none).run Tryz.prog (w3.drewN q) = .ok (.slice (some ⟨b, 66, none⟩) 8 (72)) (w3.drewN q) := fun q => tail_slice b 56 64 (w3.drewN q) 56 64 rfl rfl (by omega) (by omega) (by omega)
    have hwm : IntKind.u64.wrap ((m.length : Int) * 8) = ((m.length * 8 : Nat) : Int) := by rw [IntKind.wrap_u64]; omega
    clear hc3 hb3 HC1 HB1 hc
    go_wp2
    refine wp_region_tail 12 (by kernel_rfl) (by kernel_rfl) ?_
    simp only [List.take_succ_cons, List.take_zero, List.drop_succ_cons, List.drop_zero]
    repeat (first | go_big_quiet_skip | (go_big_quiet_want; go_big_quiet_op; go_big_quiet_on))
    refine wpQuiet_nil ?_
    go_wp2_with fail
    have P := put_any b 66 8 72 (m.length * 8) (stV h c3 m.length z3) (w3.drewN 1) (HC3.out.drewN 1) (by rw [stV_length, hl3, hz3]; omega) (by rw [stV_length, hl3, hz3]; omega) (by omega) (by omega)
    rw [show ((m.length * 8 : Nat) : Int) = (m.length : Int) * 8 by omega] at P
    refine P.mono ?_
    rintro e w4 ⟨rfl, hc4, hb4, _⟩
    clear P hsl g9 hwm
    have HC4 : Hid (Cl w4 b (stV h c3 m.length (lastF 64 z3 m.length))) := stV_put 64 hl3 (by omega) _ rfl hc4
    have HB4 : Hid (But w w4 b) := (HB3.out.drewN 1).trans hb4
    clear hc4 hb4
    go_wp2_with fail
    refine (mix_any b h c3 m.length (lastF 64 z3 m.length) w4 HC4.out hl3 (lastF_length 64 z3 m.length hz3 (by omega) (by omega)) (HT.out.but HB4.out hb7) hb7).mono ?_
    rintro e w5 ⟨rfl, hc5, hb5⟩
    have HC5 : Hid (Cl w5 b (stV h (mixF h c3 (lastF 64 z3 m.length)) m.length Z128)) := hc5
    have HB5 : Hid (But w w5 b) := HB4.out.trans hb5
    clear hc5 hb5
    go_wp2
    go_end0
    refine ⟨rfl, ?_, HB5.out⟩
    rw [Hfin.out trivial]
    exact HC5.out
  · have Hfin : Hid (True → finF h m = mixF h (cF h m) (lastF 64 t1 m.length)) := fun _ => by
      unfold finF
      rw [HK.out trivial, Hf.out trivial, if_neg (by omega), Ht1.out trivial]
    have HC3 := HC1
    have HB3 := HB1
    have hl3 := cF_length h m
    have hz3 := ht1l
    clear HC1 HB1
    generalize cF h m = c3 at *
    generalize t1 = z3 at *
    go_wp2
    clear g0 gf gt
    generalize (w.drewN 1).setCell ⟨b, 10 + f, none⟩ (.int .u8 128) = w3 at *
    have hc3 := 0
    have hb3 := 0
    have HC1 := 0
    have HB1 := 0
    have g9 := stV_count HC3.out hl3
    have hsl : ∀ q, (Instr.sliceAt 145 (.pointer (some ⟨b, 10, none⟩)) (some (.int .i64 56)) (some (.int .i64 64)) none).run Tryz.prog (w3.drewN q) = .ok (.slice (some ⟨b, 66, none⟩) 8 (72)) (w3.drewN q) := fun q => tail_slice b 56 64 (w3.drewN q) 56 64 rfl rfl (by omega) (by omega) (by omega)
    have hwm : IntKind.u64.wrap ((m.length : Int) * 8) = ((m.length * 8 : Nat) : Int) := by rw [IntKind.wrap_u64]; omega
    clear hc3 hb3 HC1 HB1 hc
    go_wp2
    refine wp_region_tail 12 (by kernel_rfl) (by kernel_rfl) ?_
    simp only [List.take_succ_cons, List.take_zero, List.drop_succ_cons, List.drop_zero]
    repeat (first | go_big_quiet_skip | (go_big_quiet_want; go_big_quiet_op; go_big_quiet_on))
    refine wpQuiet_nil ?_
    go_wp2_with fail
    have P := put_any b 66 8 72 (m.length * 8) (stV h c3 m.length z3) (w3.drewN 1) (HC3.out.drewN 1) (by rw [stV_length, hl3, hz3]; omega) (by rw [stV_length, hl3, hz3]; omega) (by omega) (by omega)
    rw [show ((m.length * 8 : Nat) : Int) = (m.length : Int) * 8 by omega] at P
    refine P.mono ?_
    rintro e w4 ⟨rfl, hc4, hb4, _⟩
    clear P hsl g9 hwm
    have HC4 : Hid (Cl w4 b (stV h c3 m.length (lastF 64 z3 m.length))) := stV_put 64 hl3 (by omega) _ rfl hc4
    have HB4 : Hid (But w w4 b) := (HB3.out.drewN 1).trans hb4
    clear hc4 hb4
    go_wp2_with fail
    refine (mix_any b h c3 m.length (lastF 64 z3 m.length) w4 HC4.out hl3 (lastF_length 64 z3 m.length hz3 (by omega) (by omega)) (HT.out.but HB4.out hb7) hb7).mono ?_
    rintro e w5 ⟨rfl, hc5, hb5⟩
    have HC5 : Hid (Cl w5 b (stV h (mixF h c3 (lastF 64 z3 m.length)) m.length Z128)) := hc5
    have HB5 : Hid (But w w5 b) := HB4.out.trans hb5
    clear hc5 hb5
    go_wp2
    go_end0
    refine ⟨rfl, ?_, HB5.out⟩
    rw [Hfin.out trivial]
    exact HC5.out

set_option maxRecDepth 100000 in
set_option maxHeartbeats 2000000 in
theorem finish_128 (b : Nat) (h : Int) (m : List UInt8) (w : World) (H : Sta w b h m) (hh : isH h) (T : Tb w) (hb7 : 11 ≤ b) (hm : m.length < 2305843009213693952) (hK : blk h = 128) :
    Calls Tryz.prog 94 #[.pointer (some ⟨b, 0, none⟩)] w fun e w' => e = .returned (.tuple #[]) ∧ Cl w' b (stV h (finF h m) m.length Z128) ∧ But w w' b := by
  have g0 := stV_hash H
  have HH : Hid (Sta w b h m) := H
  have HT : Hid (Tb w) := T
  have HK : Hid (True → blk h = 128) := fun _ => hK
  have CB := block_any h w
  rw [hK] at CB
  have CF := filled_any b h (cF h m) m.length (tF h m) w H (cF_length h m) (by omega) (by omega)
  rw [hK] at CF
  obtain ⟨f, hf⟩ : ∃ f, m.length % 128 = f := ⟨_, rfl⟩
  have hf1 : f < 128 := by omega
  rw [hf] at CF
  have Hf : Hid (True → m.length % 128 = f) := fun _ => hf
  clear H T hK hf
  have gf := HH.out.frozen (10 + f)
  have gt := stV_tail HH.out (cF_length h m) f (by rw [tF_length hh]; omega)
  generalize (tF h m)[f]'_ = old at gt
  go_enter Tryz.func94, Tryz.ntmps94
  go_wp2_with fail
  refine CB.mono ?_
  rintro e w1 ⟨rfl, rfl⟩
  go_wp2_with fail
  refine CF.mono ?_
  rintro e w2 ⟨rfl, rfl⟩
  clear CB CF
  rename World => w
  obtain ⟨t1, ht1⟩ : ∃ t1, t1 = (tF h m).set f 128 := ⟨_, rfl⟩
  have HC1 : Hid (Cl ((w.drewN 1).setCell ⟨b, 10 + f, none⟩ (.int .u8 128)) b (stV h (cF h m) m.length t1)) := by
    have h1 := (Cl.drewN HH.out 1).set (10 + f) (B 128)
    rw [stV_settail1 _ _ _ _ (cF_length h m), ← ht1] at h1
    exact h1
  have HB1 : Hid (But w ((w.drewN 1).setCell ⟨b, 10 + f, none⟩ (.int .u8 128)) b) := ((But.refl w b).drewN 1).set _ _
  have ht1l : t1.length = 128 := by rw [ht1, List.length_set, tF_length hh]
  have Ht1 : Hid (True → t1 = (tF h m).set f 128) := fun _ => ht1
  clear ht1
  by_cases hc : 112 ≤ f
  · have Hfin : Hid (True → finF h m = mixF h (mixF h (cF h m) t1) (lastF 128 Z128 m.length)) := fun _ => by
      unfold finF
      rw [HK.out trivial, Hf.out trivial, if_pos (by omega), Ht1.out trivial]
    go_wp2_with fail
    clear g0 gf gt
    generalize (w.drewN 1).setCell ⟨b, 10 + f, none⟩ (.int .u8 128) = wa at *
    refine (mix_any b h (cF h m) m.length t1 wa HC1.out (cF_length h m) ht1l (HT.out.but HB1.out hb7) hb7).mono ?_
    rintro e w3 ⟨rfl, hc3, hb3⟩
    have HC3 : Hid (Cl w3 b (stV h (mixF h (cF h m) t1) m.length Z128)) := hc3
    have HB3 : Hid (But w w3 b) := HB1.out.trans hb3
    have hl3 := mixF_length h (cF h m) t1 (cF_length h m)
    generalize mixF h (cF h m) t1 = c3 at *
    have hz3 := Z128_length
    generalize Z128 = z3 at HC3 hz3 Hfin
    have g9 := stV_count HC3.out hl3
    have hsl : ∀ q, (Instr.sliceAt 145 (.pointer (some ⟨b, 10, none⟩)) (some (.int .i64 120)) (some (.int .i64 128)) none).run Tryz.prog (w3.drewN q) = .ok (.slice (some ⟨b, 130, none⟩) 8 (8)) (w3.drewN q) := fun q => tail_slice b 120 128 (w3.drewN q) 120 128 rfl rfl (by omega) (by omega) (by omega)
    have hwm : IntKind.u64.wrap ((m.length : Int) * 8) = ((m.length * 8 : Nat) : Int) := by rw [IntKind.wrap_u64]; omega
    clear hc3 hb3 HC1 HB1 hc
    go_wp2
    refine wp_region_tail 12 (by kernel_rfl) (by kernel_rfl) ?_
    simp only [List.take_succ_cons, List.take_zero, List.drop_succ_cons, List.drop_zero]
    repeat (first | go_big_quiet_skip | (go_big_quiet_want; go_big_quiet_op; go_big_quiet_on))
    refine wpQuiet_nil ?_
    go_wp2_with fail
    have P := put_any b 130 8 8 (m.length * 8) (stV h c3 m.length z3) (w3.drewN 1) (HC3.out.drewN 1) (by rw [stV_length, hl3, hz3]; omega) (by rw [stV_length, hl3, hz3]; omega) (by omega) (by omega)
    rw [show ((m.length * 8 : Nat) : Int) = (m.length : Int) * 8 by omega] at P
    refine P.mono ?_
    rintro e w4 ⟨rfl, hc4, hb4, _⟩
    clear P hsl g9 hwm
    have HC4 : Hid (Cl w4 b (stV h c3 m.length (lastF 128 z3 m.length))) := stV_put 128 hl3 (by omega) _ rfl hc4
    have HB4 : Hid (But w w4 b) := (HB3.out.drewN 1).trans hb4
    clear hc4 hb4
    go_wp2_with fail
    refine (mix_any b h c3 m.length (lastF 128 z3 m.length) w4 HC4.out hl3 (lastF_length 128 z3 m.length hz3 (by omega) (by omega)) (HT.out.but HB4.out hb7) hb7).mono ?_
    rintro e w5 ⟨rfl, hc5, hb5⟩
    have HC5 : Hid (Cl w5 b (stV h (mixF h c3 (lastF 128 z3 m.length)) m.length Z128)) := hc5
    have HB5 : Hid (But w w5 b) := HB4.out.trans hb5
    clear hc5 hb5
    go_wp2
    go_end0
    refine ⟨rfl, ?_, HB5.out⟩
    rw [Hfin.out trivial]
    exact HC5.out
  · have Hfin : Hid (True → finF h m = mixF h (cF h m) (lastF 128 t1 m.length)) := fun _ => by
      unfold finF
      rw [HK.out trivial, Hf.out trivial, if_neg (by omega), Ht1.out trivial]
    have HC3 := HC1
    have HB3 := HB1
    have hl3 := cF_length h m
    have hz3 := ht1l
    clear HC1 HB1
    generalize cF h m = c3 at *
    generalize t1 = z3 at *
    go_wp2
    clear g0 gf gt
    generalize (w.drewN 1).setCell ⟨b, 10 + f, none⟩ (.int .u8 128) = w3 at *
    have hc3 := 0
    have hb3 := 0
    have HC1 := 0
    have HB1 := 0
    have g9 := stV_count HC3.out hl3
    have hsl : ∀ q, (Instr.sliceAt 145 (.pointer (some ⟨b, 10, none⟩)) (some (.int .i64 120)) (some (.int .i64 128)) none).run Tryz.prog (w3.drewN q) = .ok (.slice (some ⟨b, 130, none⟩) 8 (8)) (w3.drewN q) := fun q => tail_slice b 120 128 (w3.drewN q) 120 128 rfl rfl (by omega) (by omega) (by omega)
    have hwm : IntKind.u64.wrap ((m.length : Int) * 8) = ((m.length * 8 : Nat) : Int) := by rw [IntKind.wrap_u64]; omega
    clear hc3 hb3 HC1 HB1 hc
    go_wp2
    refine wp_region_tail 12 (by kernel_rfl) (by kernel_rfl) ?_
    simp only [List.take_succ_cons, List.take_zero, List.drop_succ_cons, List.drop_zero]
    repeat (first | go_big_quiet_skip | (go_big_quiet_want; go_big_quiet_op; go_big_quiet_on))
    refine wpQuiet_nil ?_
    go_wp2_with fail
    have P := put_any b 130 8 8 (m.length * 8) (stV h c3 m.length z3) (w3.drewN 1) (HC3.out.drewN 1) (by rw [stV_length, hl3, hz3]; omega) (by rw [stV_length, hl3, hz3]; omega) (by omega) (by omega)
    rw [show ((m.length * 8 : Nat) : Int) = (m.length : Int) * 8 by omega] at P
    refine P.mono ?_
    rintro e w4 ⟨rfl, hc4, hb4, _⟩
    clear P hsl g9 hwm
    have HC4 : Hid (Cl w4 b (stV h c3 m.length (lastF 128 z3 m.length))) := stV_put 128 hl3 (by omega) _ rfl hc4
    have HB4 : Hid (But w w4 b) := (HB3.out.drewN 1).trans hb4
    clear hc4 hb4
    go_wp2_with fail
    refine (mix_any b h c3 m.length (lastF 128 z3 m.length) w4 HC4.out hl3 (lastF_length 128 z3 m.length hz3 (by omega) (by omega)) (HT.out.but HB4.out hb7) hb7).mono ?_
    rintro e w5 ⟨rfl, hc5, hb5⟩
    have HC5 : Hid (Cl w5 b (stV h (mixF h c3 (lastF 128 z3 m.length)) m.length Z128)) := hc5
    have HB5 : Hid (But w w5 b) := HB4.out.trans hb5
    clear hc5 hb5
    go_wp2
    go_end0
    refine ⟨rfl, ?_, HB5.out⟩
    rw [Hfin.out trivial]
    exact HC5.out

theorem finish_any (b : Nat) (h : Int) (m : List UInt8) (w : World) (H : Sta w b h m) (hh : isH h) (T : Tb w) (hb7 : 11 ≤ b) (hm : m.length < 2305843009213693952) :
    Calls Tryz.prog 94 #[.pointer (some ⟨b, 0, none⟩)] w fun e w' => e = .returned (.tuple #[]) ∧ Cl w' b (stV h (finF h m) m.length Z128) ∧ But w w' b := by
  rcases hh with rfl | rfl | rfl
  · exact finish_64 b 1 m w H (.inl rfl) T hb7 hm rfl
  · exact finish_128 b 2 m w H (.inr (.inl rfl)) T hb7 hm rfl
  · exact finish_128 b 3 m w H (.inr (.inr rfl)) T hb7 hm rfl

end Go.Proofs.YtdhfjhdlimmjhaaGreatDoor.Sha
namespace Go.Proofs.YtdhfjhdlimmjhaaGreatDoor.Sha
open Go.RowKit
set_option maxRecDepth 100000

def outF (w n : Nat) (ch : List Int) : List UInt8 := (List.range n).flatMap fun i => tobe w (ch.getD i 0).toNat
def sumF (h : Int) (m : List UInt8) : List UInt8 := if h = 1 then outF 4 8 (finF h m) else if h = 2 then outF 8 6 (finF h m) else if h = 3 then outF 8 8 (finF h m) else []

theorem outF_succ (w n : Nat) (ch : List Int) : outF w (n + 1) ch = outF w n ch ++ tobe w (ch.getD n 0).toNat := by simp [outF, List.range_succ]
theorem outF_length (w n : Nat) (ch : List Int) : (outF w n ch).length = w * n := by
  induction n with
  | zero => rfl
  | succ n ih => rw [outF_succ, List.length_append, ih, tobe_length, Nat.mul_succ]
theorem sumF_length (h : Int) (m : List UInt8) : (sumF h m).length = siz h := by
  unfold sumF siz
  (repeat' split) <;> simp [outF_length]

theorem zip_bd (f : Int → Int → Int) (hf : ∀ x y, 0 ≤ f x y ∧ f x y < 18446744073709551616) (a b : List Int) (k : Nat) : 0 ≤ (List.zipWith f a b).getD k 0 ∧ (List.zipWith f a b).getD k 0 < 18446744073709551616 := by
  rw [List.getD_eq_getElem?_getD, List.getElem?_zipWith]
  cases a[k]? <;> cases b[k]? <;> simp [hf]
theorem mixF_bd (h : Int) (ch : List Int) (tl : List UInt8) (k : Nat) : 0 ≤ (mixF h ch tl).getD k 0 ∧ (mixF h ch tl).getD k 0 < 18446744073709551616 := by
  unfold mixF
  split
  · unfold mixN; exact zip_bd _ (fun x y => by omega) _ _ _
  · unfold mixW; exact zip_bd _ (fun x y => by omega) _ _ _
theorem finF_bd (h : Int) (m : List UInt8) (k : Nat) : 0 ≤ (finF h m).getD k 0 ∧ (finF h m).getD k 0 < 18446744073709551616 := by
  unfold finF
  split <;> exact mixF_bd _ _ _ _
theorem finF_length (h : Int) (m : List UInt8) : (finF h m).length = 8 := by
  unfold finF
  split
  · exact mixF_length _ _ _ (mixF_length _ _ _ (cF_length h m))
  · exact mixF_length _ _ _ (cF_length h m)

theorem spl_out (w n k N : Nat) (ch : List Int) (_h : w * k + w ≤ n) :
    spl ((outF w k ch ++ List.replicate (n - w * k) 0).map B) (w * k) ((tobe w N).map B) = (outF w k ch ++ tobe w N ++ List.replicate (n - (w * k + w)) 0).map B := by
  unfold spl
  rw [← List.map_take, ← List.map_drop, List.take_append_of_le_length (by rw [outF_length]; omega), List.take_of_length_le (by rw [outF_length]; omega), List.length_map, tobe_length, List.drop_append, List.drop_of_length_le (by rw [outF_length]; omega), outF_length, show w * k + w - w * k = w by omega, List.drop_replicate]
  simp
  omega

theorem alloc_bl (w : World) (vs : List Value) (t : TypeId) : Bl t (w.alloc (.cells vs.toArray t)) w.heap.size vs := by unfold Bl World.alloc; simp

theorem made (w : World) (n : Nat) (hn : n ≤ 140737488355328) : ∃ wm, (Instr.makeSlice 81 (.int .i64 (n : Int)) (.int .i64 (n : Int))).run Tryz.prog w = .ok (.slice (some ⟨w.heap.size, 0, none⟩) n n) wm ∧ Bl 5 wm w.heap.size ((List.replicate n (0 : UInt8)).map B) ∧ Below w.heap.size w wm := by
  obtain ⟨i0, hi, hz0, hz1, hz2⟩ := info_parts infoB
  refine ⟨w.alloc (.cells ((List.replicate n (0 : UInt8)).map B).toArray 5), ?_, alloc_bl _ _ _, alloc_below _ _⟩
  rw [run_make w 81 5 i0 (.int .u8 0) Tryz.underlying81 hi hz0 .i64 .i64 (n : Int) (n : Int) (by omega) (by omega) (by rw [hz2]; omega) (by omega)]
  have e : madeCells (Value.cells (.int .u8 0)) ((n : Int).toNat * i0.size) = ((List.replicate n (0 : UInt8)).map B).toArray := by
    rw [hz1, Int.toNat_natCast, Nat.mul_one]
    apply Array.toList_inj.1
    have := toList_madeCells_one (.int .u8 0) n
    rw [List.map_replicate]
    exact this
  rw [e]
  simp

theorem slice_mid (g cap l h n : Nat) (w : World) (lo hi : Int) (el : lo = (l : Int)) (eh : hi = (h : Int)) (h1 : h = l + n) (h2 : h ≤ cap) (h3 : 0 < n) :
    (Instr.sliceAt 81 (.slice (some ⟨g, 0, none⟩) cap cap) (some (.int .i64 lo)) (some (.int .i64 hi)) none).run Tryz.prog w = .ok (.slice (some ⟨g, l, none⟩) n (cap - l)) w := by
  subst el eh
  have e0 : Tryz.prog.elem 81 = 5 := by kernel_rfl
  have e2 := run_size1 (P := Tryz.prog) (e := 5) (by kernel_rfl)
  rw [run_sliceAt_slice _ _ _ _ _ _ Tryz.underlying81, run_slice_lh w 81 (some ⟨g, 0, none⟩) cap cap Tryz.underlying81 .i64 .i64 (l : Int) (h : Int) (by omega) (by omega) (by omega), e0, e2]
  show Result.ok (sliced _ _ _ _ 1) w = _
  unfold sliced
  rw [if_neg (by simp; omega)]
  simp only [Int.toNat_natCast, Nat.mul_one, Option.map_some, Addr.add_mid, Nat.zero_add]
  rw [show h - l = n by omega]

set_option maxRecDepth 100000 in
set_option maxHeartbeats 2000000 in
theorem sum_1 (b : Nat) (m : List UInt8) (w : World) (H : Sta w b 1 m) (T : Tb w) (hm : m.length < 2305843009213693952) :
    Calls Tryz.prog 85 #[.pointer (some ⟨b, 0, none⟩)] w fun e w' => ∃ g, e = .returned (.slice (some ⟨g, 0, none⟩) 32 32) ∧ w.heap.size ≤ g ∧ Bl 5 w' g ((sumF 1 m).map B) ∧ Below w.heap.size w w' := by
  have hh : isH 1 := by unfold isH; omega
  have g0 := stV_hash H
  have HH : Hid (Sta w b 1 m) := H
  have HT : Hid (Tb w) := T
  have hbs : b < w.heap.size := Cl.lt H
  have hg7 : 11 ≤ w.heap.size := by
    rcases Nat.lt_or_ge 10 w.heap.size with h1 | h1
    · exact h1
    · exfalso
      have := T.k 0 (by omega)
      unfold World.cell? at this
      simp [Array.getElem?_eq_none h1] at this
  obtain ⟨Z, hZ, hz⟩ := zero138
  obtain ⟨S, hS⟩ : ∃ S, S = stV 1 (cF 1 m) m.length (tF 1 m) := ⟨_, rfl⟩
  have hSl : S.length = 138 := by rw [hS, stV_length, cF_length, tF_length hh]
  have HR : Hid (w.rangeAt b 0 S) := fun j v hj => by
    obtain ⟨hj1, hj2⟩ := List.getElem?_eq_some_iff.1 hj
    have := HH.out
    unfold Sta at this
    rw [← hS] at this
    rw [Nat.zero_add, this.cell j hj1, hj2]
  have HI : Hid ((Tryz.prog.info? 147).map (·.size) = some S.length) := by
    show _ = _
    rw [hSl]; kernel_rfl
  obtain ⟨d, hu, hd⟩ := descState
  have Hu : Hid (Tryz.prog.underlying 147 = some d) := hu
  have Hd : Hid (d.isRow = true) := hd
  have HO : Hid (S.toArray.all (·.oneCell') = true) := by
    show _ = _
    rw [hS]
    exact all_oneCell_toArray (oneS _ _ _ _)
  have hA : Hid (Cl (w.alloc (.cells (.int .i64 0 :: Z : List Value).toArray 147)) w.heap.size (.int .i64 0 :: Z)) := alloc_cl _ _ _
  have hB : Hid (Below w.heap.size w (w.alloc (.cells (.int .i64 0 :: Z : List Value).toArray 147))) := alloc_below _ _
  have hZl : (.int .i64 0 :: Z : List Value).length = 138 := by rw [hZ]; simp [stR, Z128]
  have hth : Hid ((w.alloc (.cells (.int .i64 0 :: Z : List Value).toArray 147)).there w.heap.size 0 S.toArray.size) := hA.out.there 0 _ (by rw [hZl, List.size_toArray, hSl]; omega)
  have hI2 : Hid ((Tryz.prog.info? 147).map (·.size) = some S.toArray.size) := HI
  have hc0 : Hid (Sta ((w.alloc (.cells (.int .i64 0 :: Z : List Value).toArray 147)).setCells w.heap.size 0 S) w.heap.size 1 m) := by
    have hc := Cl.cells S 0 _ _ hA.out (by rw [hZl, hSl]; omega)
    have e : spl (.int .i64 0 :: Z) 0 S = S := by
      unfold spl
      rw [List.take_zero, List.nil_append, List.drop_of_length_le (by rw [hZl, hSl]; omega), List.append_nil]
    rw [e] at hc
    show Cl _ _ _
    rw [← hS]
    exact hc
  have hB0 : Hid (Below w.heap.size w ((w.alloc (.cells (.int .i64 0 :: Z : List Value).toArray 147)).setCells w.heap.size 0 S)) := hB.out.trans ((But.cells S 0 _ _ (But.refl _ _)).below hB.out.size (Nat.le_refl _))
  clear H T hZ hS hSl hZl hu hd
  go_enter Tryz.func85, Tryz.ntmps85
  go_wp2_with (first | refine wpList_load_mid rfl 147 _ rfl b 0 rfl S d HR.out Hu.out Hd.out HI.out ?_ | refine wpList_store_mid rfl 147 _ _ rfl w.heap.size 0 S.toArray rfl rfl hth.out hI2.out HO.out ?_ | fail)
  generalize (w.alloc (.cells (.int .i64 0 :: Z : List Value).toArray 147)).setCells w.heap.size 0 S = wa at hc0 hB0 ⊢
  refine (finish_any w.heap.size 1 m wa hc0.out hh (HT.out.below hB0.out) hg7 hm).mono ?_
  rintro e w1 ⟨rfl, hc1, hb1⟩
  have HC1 : Hid (Cl w1 w.heap.size (stV 1 (finF 1 m) m.length Z128)) := hc1
  have HB1 : Hid (Below w.heap.size w w1) := hB0.out.trans (hb1.below hB0.out.size (Nat.le_refl _))
  clear hc1 hb1 hc0 hB0 hA hB hth HO HR HI hI2 Hu Hd hz
  have g1 : w1.cell? ⟨b, 0, none⟩ = some (.int .i64 1) := stV_hash (Cl.below HH.out HB1.out hbs)
  clear g0
  go_wp2_with fail
  have CB : Calls Tryz.prog 91 #[.int .i64 1] w1 fun e w' => e = .returned (.int .i64 64) ∧ w' = w1 := block_any 1 w1
  refine CB.mono ?_
  rintro e w2 ⟨rfl, rfl⟩
  clear CB
  rename World => w1
  have CS : Calls Tryz.prog 95 #[.int .i64 1] w1 fun e w' => e = .returned (.int .i64 32) ∧ w' = w1 := size_any 1 w1
  go_wp2_with fail
  refine CS.mono ?_
  rintro e w2 ⟨rfl, rfl⟩
  clear CS g1
  rename World => w1
  obtain ⟨wm, hmk0, hcm, hbm⟩ := made w1 32 (by omega)
  have hmk : (Instr.makeSlice 81 (.int .i64 32) (.int .i64 32)).run Tryz.prog w1 = .ok (.slice (some ⟨w1.heap.size, 0, none⟩) 32 32) wm := hmk0
  clear hmk0
  have HC2 : Hid (Cl wm w.heap.size (stV 1 (finF 1 m) m.length Z128)) := HC1.out.below hbm HC1.out.lt
  have HB2 : Hid (Below w.heap.size w wm) := HB1.out.trans (hbm.mono HB1.out.size)
  have HCm : Hid (Bl 5 wm w1.heap.size ((outF 4 0 (finF 1 m) ++ List.replicate (32 - 4 * 0) 0).map B)) := hcm
  have hlt1 : w.heap.size < w1.heap.size := HC1.out.lt
  have hF := finF_length 1 m
  have HF : Hid (∀ k, 0 ≤ (finF 1 m).getD k 0 ∧ (finF 1 m).getD k 0 < 18446744073709551616) := finF_bd 1 m
  have Hs : Hid (True → sumF 1 m = outF 4 8 (finF 1 m)) := fun _ => rfl
  generalize finF 1 m = F at *
  clear hcm hbm HC1 HB1
  go_wp2
  clear hmk
  generalize w1.heap.size = g at *
  go_loopw [27] (fun s ws => ∃ k : Nat, s = .int .i64 (k : Int) ∧ k ≤ 8 ∧ Hid (Bl 5 ws g ((outF 4 k F ++ List.replicate (32 - 4 * k) 0).map B)) ∧ Hid (Cl ws w.heap.size (stV 1 F m.length Z128)) ∧ Hid (Below w.heap.size w ws)) (fun s _ => 8 - (intOf s).toNat)
  case atStart => exact ⟨0, rfl, by omega, HCm, HC2, HB2⟩
  case round =>
    clear HCm HC2 HB2
    obtain ⟨k, rfl, hk, hcg, hcs, hbel⟩ := hrel
    by_cases hlt : k < 8
    · have gk := stV_chain hcs.out k (by omega)
      have hF1 : F[k]'(by omega) = F.getD k 0 := by rw [List.getD_eq_getElem?_getD, List.getElem?_eq_getElem (by omega)]; rfl
      rw [hF1] at gk
      obtain ⟨N, hN⟩ : ∃ N : Nat, F.getD k 0 = (N : Int) := ⟨(F.getD k 0).toNat, by have := (HF.out k).1; omega⟩
      have hN2 : N < 18446744073709551616 := by have := (HF.out k).2; omega
      have HN : Hid (True → outF 4 (k + 1) F = outF 4 k F ++ tobe 4 N) := fun _ => by rw [outF_succ, hN]; rfl
      rw [hN] at gk
      clear hF1 hN
      unfold V at gk
      have hlen : ((outF 4 k F ++ List.replicate (32 - 4 * k) 0).map B).length = 32 := by rw [List.length_map, List.length_append, outF_length, List.length_replicate]; omega
      have P := put_bl 5 g (4 * k) 4 (32 - 4 * k) N _ (wr.drewN 1) (hcg.out.drewN 1) (by rw [hlen]; omega) (by rw [hlen]; omega) (by omega) hN2
      have hs3 : ∀ W, (Instr.sliceAt 81 (.slice (some ⟨g, 0, none⟩) 32 32) (some (.int .i64 ((k : Int) * 4))) (some (.int .i64 (((k : Int) + 1) * 4))) none).run Tryz.prog W = .ok (.slice (some ⟨g, 4 * k, none⟩) 4 (32 - 4 * k)) W := fun W => slice_mid g 32 (4 * k) (4 * k + 4) 4 W _ _ (by omega) (by omega) (by omega) (by omega) (by omega)
      go_wp2
      refine wp_region_tail 13 (by kernel_rfl) (by kernel_rfl) ?_
      simp only [List.take_succ_cons, List.take_zero, List.drop_succ_cons, List.drop_zero]
      repeat (first | go_big_quiet_skip | (go_big_quiet_want; go_big_quiet_op; go_big_quiet_on))
      refine wpQuiet_nil ?_
      go_wp2_with fail
      refine P.mono ?_
      rintro e w4 ⟨rfl, hc4, hb4, _⟩
      rw [spl_out 4 32 k N F (by omega), ← HN.out trivial] at hc4
      have HC4 : Hid (Bl 5 w4 g ((outF 4 (k + 1) F ++ List.replicate (32 - 4 * (k + 1)) 0).map B)) := hc4
      have HS4 : Hid (Cl w4 w.heap.size (stV 1 F m.length Z128)) := hb4.other hcs.out (by omega)
      have HB4 : Hid (Below w.heap.size w w4) := (below_drewN hbel.out 1).trans (hb4.below hbel.out.size (by omega))
      clear P hc4 hb4 hs3
      go_wp2
      exact ⟨⟨k + 1, by go_num, by omega, HC4, HS4, HB4⟩, by simp [intOf]; omega⟩
    · obtain rfl : k = 8 := by omega
      go_wp2
      go_ret
      refine ⟨g, rfl, by omega, ?_, hbel.out⟩
      rw [Hs.out trivial]
      simpa using hcg.out

set_option maxRecDepth 100000 in
set_option maxHeartbeats 2000000 in
theorem sum_2 (b : Nat) (m : List UInt8) (w : World) (H : Sta w b 2 m) (T : Tb w) (hm : m.length < 2305843009213693952) :
    Calls Tryz.prog 85 #[.pointer (some ⟨b, 0, none⟩)] w fun e w' => ∃ g, e = .returned (.slice (some ⟨g, 0, none⟩) 48 48) ∧ w.heap.size ≤ g ∧ Bl 5 w' g ((sumF 2 m).map B) ∧ Below w.heap.size w w' := by
  have hh : isH 2 := by unfold isH; omega
  have g0 := stV_hash H
  have HH : Hid (Sta w b 2 m) := H
  have HT : Hid (Tb w) := T
  have hbs : b < w.heap.size := Cl.lt H
  have hg7 : 11 ≤ w.heap.size := by
    rcases Nat.lt_or_ge 10 w.heap.size with h1 | h1
    · exact h1
    · exfalso
      have := T.k 0 (by omega)
      unfold World.cell? at this
      simp [Array.getElem?_eq_none h1] at this
  obtain ⟨Z, hZ, hz⟩ := zero138
  obtain ⟨S, hS⟩ : ∃ S, S = stV 2 (cF 2 m) m.length (tF 2 m) := ⟨_, rfl⟩
  have hSl : S.length = 138 := by rw [hS, stV_length, cF_length, tF_length hh]
  have HR : Hid (w.rangeAt b 0 S) := fun j v hj => by
    obtain ⟨hj1, hj2⟩ := List.getElem?_eq_some_iff.1 hj
    have := HH.out
    unfold Sta at this
    rw [← hS] at this
    rw [Nat.zero_add, this.cell j hj1, hj2]
  have HI : Hid ((Tryz.prog.info? 147).map (·.size) = some S.length) := by
    show _ = _
    rw [hSl]; kernel_rfl
  obtain ⟨d, hu, hd⟩ := descState
  have Hu : Hid (Tryz.prog.underlying 147 = some d) := hu
  have Hd : Hid (d.isRow = true) := hd
  have HO : Hid (S.toArray.all (·.oneCell') = true) := by
    show _ = _
    rw [hS]
    exact all_oneCell_toArray (oneS _ _ _ _)
  have hA : Hid (Cl (w.alloc (.cells (.int .i64 0 :: Z : List Value).toArray 147)) w.heap.size (.int .i64 0 :: Z)) := alloc_cl _ _ _
  have hB : Hid (Below w.heap.size w (w.alloc (.cells (.int .i64 0 :: Z : List Value).toArray 147))) := alloc_below _ _
  have hZl : (.int .i64 0 :: Z : List Value).length = 138 := by rw [hZ]; simp [stR, Z128]
  have hth : Hid ((w.alloc (.cells (.int .i64 0 :: Z : List Value).toArray 147)).there w.heap.size 0 S.toArray.size) := hA.out.there 0 _ (by rw [hZl, List.size_toArray, hSl]; omega)
  have hI2 : Hid ((Tryz.prog.info? 147).map (·.size) = some S.toArray.size) := HI
  have hc0 : Hid (Sta ((w.alloc (.cells (.int .i64 0 :: Z : List Value).toArray 147)).setCells w.heap.size 0 S) w.heap.size 2 m) := by
    have hc := Cl.cells S 0 _ _ hA.out (by rw [hZl, hSl]; omega)
    have e : spl (.int .i64 0 :: Z) 0 S = S := by
      unfold spl
      rw [List.take_zero, List.nil_append, List.drop_of_length_le (by rw [hZl, hSl]; omega), List.append_nil]
    rw [e] at hc
    show Cl _ _ _
    rw [← hS]
    exact hc
  have hB0 : Hid (Below w.heap.size w ((w.alloc (.cells (.int .i64 0 :: Z : List Value).toArray 147)).setCells w.heap.size 0 S)) := hB.out.trans ((But.cells S 0 _ _ (But.refl _ _)).below hB.out.size (Nat.le_refl _))
  clear H T hZ hS hSl hZl hu hd
  go_enter Tryz.func85, Tryz.ntmps85
  go_wp2_with (first | refine wpList_load_mid rfl 147 _ rfl b 0 rfl S d HR.out Hu.out Hd.out HI.out ?_ | refine wpList_store_mid rfl 147 _ _ rfl w.heap.size 0 S.toArray rfl rfl hth.out hI2.out HO.out ?_ | fail)
  generalize (w.alloc (.cells (.int .i64 0 :: Z : List Value).toArray 147)).setCells w.heap.size 0 S = wa at hc0 hB0 ⊢
  refine (finish_any w.heap.size 2 m wa hc0.out hh (HT.out.below hB0.out) hg7 hm).mono ?_
  rintro e w1 ⟨rfl, hc1, hb1⟩
  have HC1 : Hid (Cl w1 w.heap.size (stV 2 (finF 2 m) m.length Z128)) := hc1
  have HB1 : Hid (Below w.heap.size w w1) := hB0.out.trans (hb1.below hB0.out.size (Nat.le_refl _))
  clear hc1 hb1 hc0 hB0 hA hB hth HO HR HI hI2 Hu Hd hz
  have g1 : w1.cell? ⟨b, 0, none⟩ = some (.int .i64 2) := stV_hash (Cl.below HH.out HB1.out hbs)
  clear g0
  go_wp2_with fail
  have CB : Calls Tryz.prog 91 #[.int .i64 2] w1 fun e w' => e = .returned (.int .i64 128) ∧ w' = w1 := block_any 2 w1
  refine CB.mono ?_
  rintro e w2 ⟨rfl, rfl⟩
  clear CB
  rename World => w1
  have CS : Calls Tryz.prog 95 #[.int .i64 2] w1 fun e w' => e = .returned (.int .i64 48) ∧ w' = w1 := size_any 2 w1
  go_wp2_with fail
  refine CS.mono ?_
  rintro e w2 ⟨rfl, rfl⟩
  clear CS g1
  rename World => w1
  obtain ⟨wm, hmk0, hcm, hbm⟩ := made w1 48 (by omega)
  have hmk : (Instr.makeSlice 81 (.int .i64 48) (.int .i64 48)).run Tryz.prog w1 = .ok (.slice (some ⟨w1.heap.size, 0, none⟩) 48 48) wm := hmk0
  clear hmk0
  have HC2 : Hid (Cl wm w.heap.size (stV 2 (finF 2 m) m.length Z128)) := HC1.out.below hbm HC1.out.lt
  have HB2 : Hid (Below w.heap.size w wm) := HB1.out.trans (hbm.mono HB1.out.size)
  have HCm : Hid (Bl 5 wm w1.heap.size ((outF 8 0 (finF 2 m) ++ List.replicate (48 - 8 * 0) 0).map B)) := hcm
  have hlt1 : w.heap.size < w1.heap.size := HC1.out.lt
  have hF := finF_length 2 m
  have HF : Hid (∀ k, 0 ≤ (finF 2 m).getD k 0 ∧ (finF 2 m).getD k 0 < 18446744073709551616) := finF_bd 2 m
  have Hs : Hid (True → sumF 2 m = outF 8 6 (finF 2 m)) := fun _ => rfl
  generalize finF 2 m = F at *
  clear hcm hbm HC1 HB1
  go_wp2
  clear hmk
  generalize w1.heap.size = g at *
  go_loopw [27] (fun s ws => ∃ k : Nat, s = .int .i64 (k : Int) ∧ k ≤ 6 ∧ Hid (Bl 5 ws g ((outF 8 k F ++ List.replicate (48 - 8 * k) 0).map B)) ∧ Hid (Cl ws w.heap.size (stV 2 F m.length Z128)) ∧ Hid (Below w.heap.size w ws)) (fun s _ => 6 - (intOf s).toNat)
  case atStart => exact ⟨0, rfl, by omega, HCm, HC2, HB2⟩
  case round =>
    clear HCm HC2 HB2
    obtain ⟨k, rfl, hk, hcg, hcs, hbel⟩ := hrel
    by_cases hlt : k < 6
    · have gk := stV_chain hcs.out k (by omega)
      have hF1 : F[k]'(by omega) = F.getD k 0 := by rw [List.getD_eq_getElem?_getD, List.getElem?_eq_getElem (by omega)]; rfl
      rw [hF1] at gk
      obtain ⟨N, hN⟩ : ∃ N : Nat, F.getD k 0 = (N : Int) := ⟨(F.getD k 0).toNat, by have := (HF.out k).1; omega⟩
      have hN2 : N < 18446744073709551616 := by have := (HF.out k).2; omega
      have HN : Hid (True → outF 8 (k + 1) F = outF 8 k F ++ tobe 8 N) := fun _ => by rw [outF_succ, hN]; rfl
      rw [hN] at gk
      clear hF1 hN
      unfold V at gk
      have hlen : ((outF 8 k F ++ List.replicate (48 - 8 * k) 0).map B).length = 48 := by rw [List.length_map, List.length_append, outF_length, List.length_replicate]; omega
      have P := put_bl 5 g (8 * k) 8 (48 - 8 * k) N _ (wr.drewN 1) (hcg.out.drewN 1) (by rw [hlen]; omega) (by rw [hlen]; omega) (by omega) hN2
      have hs3 : ∀ W, (Instr.sliceAt 81 (.slice (some ⟨g, 0, none⟩) 48 48) (some (.int .i64 ((k : Int) * 8))) (some (.int .i64 (((k : Int) + 1) * 8))) none).run Tryz.prog W = .ok (.slice (some ⟨g, 8 * k, none⟩) 8 (48 - 8 * k)) W := fun W => slice_mid g 48 (8 * k) (8 * k + 8) 8 W _ _ (by omega) (by omega) (by omega) (by omega) (by omega)
      go_wp2
      refine wp_region_tail 13 (by kernel_rfl) (by kernel_rfl) ?_
      simp only [List.take_succ_cons, List.take_zero, List.drop_succ_cons, List.drop_zero]
      repeat (first | go_big_quiet_skip | (go_big_quiet_want; go_big_quiet_op; go_big_quiet_on))
      refine wpQuiet_nil ?_
      go_wp2_with fail
      refine P.mono ?_
      rintro e w4 ⟨rfl, hc4, hb4, _⟩
      rw [spl_out 8 48 k N F (by omega), ← HN.out trivial] at hc4
      have HC4 : Hid (Bl 5 w4 g ((outF 8 (k + 1) F ++ List.replicate (48 - 8 * (k + 1)) 0).map B)) := hc4
      have HS4 : Hid (Cl w4 w.heap.size (stV 2 F m.length Z128)) := hb4.other hcs.out (by omega)
      have HB4 : Hid (Below w.heap.size w w4) := (below_drewN hbel.out 1).trans (hb4.below hbel.out.size (by omega))
      clear P hc4 hb4 hs3
      go_wp2
      exact ⟨⟨k + 1, by go_num, by omega, HC4, HS4, HB4⟩, by simp [intOf]; omega⟩
    · obtain rfl : k = 6 := by omega
      go_wp2
      go_ret
      refine ⟨g, rfl, by omega, ?_, hbel.out⟩
      rw [Hs.out trivial]
      simpa using hcg.out

set_option maxRecDepth 100000 in
set_option maxHeartbeats 2000000 in
theorem sum_3 (b : Nat) (m : List UInt8) (w : World) (H : Sta w b 3 m) (T : Tb w) (hm : m.length < 2305843009213693952) :
    Calls Tryz.prog 85 #[.pointer (some ⟨b, 0, none⟩)] w fun e w' => ∃ g, e = .returned (.slice (some ⟨g, 0, none⟩) 64 64) ∧ w.heap.size ≤ g ∧ Bl 5 w' g ((sumF 3 m).map B) ∧ Below w.heap.size w w' := by
  have hh : isH 3 := by unfold isH; omega
  have g0 := stV_hash H
  have HH : Hid (Sta w b 3 m) := H
  have HT : Hid (Tb w) := T
  have hbs : b < w.heap.size := Cl.lt H
  have hg7 : 11 ≤ w.heap.size := by
    rcases Nat.lt_or_ge 10 w.heap.size with h1 | h1
    · exact h1
    · exfalso
      have := T.k 0 (by omega)
      unfold World.cell? at this
      simp [Array.getElem?_eq_none h1] at this
  obtain ⟨Z, hZ, hz⟩ := zero138
  obtain ⟨S, hS⟩ : ∃ S, S = stV 3 (cF 3 m) m.length (tF 3 m) := ⟨_, rfl⟩
  have hSl : S.length = 138 := by rw [hS, stV_length, cF_length, tF_length hh]
  have HR : Hid (w.rangeAt b 0 S) := fun j v hj => by
    obtain ⟨hj1, hj2⟩ := List.getElem?_eq_some_iff.1 hj
    have := HH.out
    unfold Sta at this
    rw [← hS] at this
    rw [Nat.zero_add, this.cell j hj1, hj2]
  have HI : Hid ((Tryz.prog.info? 147).map (·.size) = some S.length) := by
    show _ = _
    rw [hSl]; kernel_rfl
  obtain ⟨d, hu, hd⟩ := descState
  have Hu : Hid (Tryz.prog.underlying 147 = some d) := hu
  have Hd : Hid (d.isRow = true) := hd
  have HO : Hid (S.toArray.all (·.oneCell') = true) := by
    show _ = _
    rw [hS]
    exact all_oneCell_toArray (oneS _ _ _ _)
  have hA : Hid (Cl (w.alloc (.cells (.int .i64 0 :: Z : List Value).toArray 147)) w.heap.size (.int .i64 0 :: Z)) := alloc_cl _ _ _
  have hB : Hid (Below w.heap.size w (w.alloc (.cells (.int .i64 0 :: Z : List Value).toArray 147))) := alloc_below _ _
  have hZl : (.int .i64 0 :: Z : List Value).length = 138 := by rw [hZ]; simp [stR, Z128]
  have hth : Hid ((w.alloc (.cells (.int .i64 0 :: Z : List Value).toArray 147)).there w.heap.size 0 S.toArray.size) := hA.out.there 0 _ (by rw [hZl, List.size_toArray, hSl]; omega)
  have hI2 : Hid ((Tryz.prog.info? 147).map (·.size) = some S.toArray.size) := HI
  have hc0 : Hid (Sta ((w.alloc (.cells (.int .i64 0 :: Z : List Value).toArray 147)).setCells w.heap.size 0 S) w.heap.size 3 m) := by
    have hc := Cl.cells S 0 _ _ hA.out (by rw [hZl, hSl]; omega)
    have e : spl (.int .i64 0 :: Z) 0 S = S := by
      unfold spl
      rw [List.take_zero, List.nil_append, List.drop_of_length_le (by rw [hZl, hSl]; omega), List.append_nil]
    rw [e] at hc
    show Cl _ _ _
    rw [← hS]
    exact hc
  have hB0 : Hid (Below w.heap.size w ((w.alloc (.cells (.int .i64 0 :: Z : List Value).toArray 147)).setCells w.heap.size 0 S)) := hB.out.trans ((But.cells S 0 _ _ (But.refl _ _)).below hB.out.size (Nat.le_refl _))
  clear H T hZ hS hSl hZl hu hd
  go_enter Tryz.func85, Tryz.ntmps85
  go_wp2_with (first | refine wpList_load_mid rfl 147 _ rfl b 0 rfl S d HR.out Hu.out Hd.out HI.out ?_ | refine wpList_store_mid rfl 147 _ _ rfl w.heap.size 0 S.toArray rfl rfl hth.out hI2.out HO.out ?_ | fail)
  generalize (w.alloc (.cells (.int .i64 0 :: Z : List Value).toArray 147)).setCells w.heap.size 0 S = wa at hc0 hB0 ⊢
  refine (finish_any w.heap.size 3 m wa hc0.out hh (HT.out.below hB0.out) hg7 hm).mono ?_
  rintro e w1 ⟨rfl, hc1, hb1⟩
  have HC1 : Hid (Cl w1 w.heap.size (stV 3 (finF 3 m) m.length Z128)) := hc1
  have HB1 : Hid (Below w.heap.size w w1) := hB0.out.trans (hb1.below hB0.out.size (Nat.le_refl _))
  clear hc1 hb1 hc0 hB0 hA hB hth HO HR HI hI2 Hu Hd hz
  have g1 : w1.cell? ⟨b, 0, none⟩ = some (.int .i64 3) := stV_hash (Cl.below HH.out HB1.out hbs)
  clear g0
  go_wp2_with fail
  have CB : Calls Tryz.prog 91 #[.int .i64 3] w1 fun e w' => e = .returned (.int .i64 128) ∧ w' = w1 := block_any 3 w1
  refine CB.mono ?_
  rintro e w2 ⟨rfl, rfl⟩
  clear CB
  rename World => w1
  have CS : Calls Tryz.prog 95 #[.int .i64 3] w1 fun e w' => e = .returned (.int .i64 64) ∧ w' = w1 := size_any 3 w1
  go_wp2_with fail
  refine CS.mono ?_
  rintro e w2 ⟨rfl, rfl⟩
  clear CS g1
  rename World => w1
  obtain ⟨wm, hmk0, hcm, hbm⟩ := made w1 64 (by omega)
  have hmk : (Instr.makeSlice 81 (.int .i64 64) (.int .i64 64)).run Tryz.prog w1 = .ok (.slice (some ⟨w1.heap.size, 0, none⟩) 64 64) wm := hmk0
  clear hmk0
  have HC2 : Hid (Cl wm w.heap.size (stV 3 (finF 3 m) m.length Z128)) := HC1.out.below hbm HC1.out.lt
  have HB2 : Hid (Below w.heap.size w wm) := HB1.out.trans (hbm.mono HB1.out.size)
  have HCm : Hid (Bl 5 wm w1.heap.size ((outF 8 0 (finF 3 m) ++ List.replicate (64 - 8 * 0) 0).map B)) := hcm
  have hlt1 : w.heap.size < w1.heap.size := HC1.out.lt
  have hF := finF_length 3 m
  have HF : Hid (∀ k, 0 ≤ (finF 3 m).getD k 0 ∧ (finF 3 m).getD k 0 < 18446744073709551616) := finF_bd 3 m
  have Hs : Hid (True → sumF 3 m = outF 8 8 (finF 3 m)) := fun _ => rfl
  generalize finF 3 m = F at *
  clear hcm hbm HC1 HB1
  go_wp2
  clear hmk
  generalize w1.heap.size = g at *
  go_loopw [27] (fun s ws => ∃ k : Nat, s = .int .i64 (k : Int) ∧ k ≤ 8 ∧ Hid (Bl 5 ws g ((outF 8 k F ++ List.replicate (64 - 8 * k) 0).map B)) ∧ Hid (Cl ws w.heap.size (stV 3 F m.length Z128)) ∧ Hid (Below w.heap.size w ws)) (fun s _ => 8 - (intOf s).toNat)
  case atStart => exact ⟨0, rfl, by omega, HCm, HC2, HB2⟩
  case round =>
    clear HCm HC2 HB2
    obtain ⟨k, rfl, hk, hcg, hcs, hbel⟩ := hrel
    by_cases hlt : k < 8
    · have gk := stV_chain hcs.out k (by omega)
      have hF1 : F[k]'(by omega) = F.getD k 0 := by rw [List.getD_eq_getElem?_getD, List.getElem?_eq_getElem (by omega)]; rfl
      rw [hF1] at gk
      obtain ⟨N, hN⟩ : ∃ N : Nat, F.getD k 0 = (N : Int) := ⟨(F.getD k 0).toNat, by have := (HF.out k).1; omega⟩
      have hN2 : N < 18446744073709551616 := by have := (HF.out k).2; omega
      have HN : Hid (True → outF 8 (k + 1) F = outF 8 k F ++ tobe 8 N) := fun _ => by rw [outF_succ, hN]; rfl
      rw [hN] at gk
      clear hF1 hN
      unfold V at gk
      have hlen : ((outF 8 k F ++ List.replicate (64 - 8 * k) 0).map B).length = 64 := by rw [List.length_map, List.length_append, outF_length, List.length_replicate]; omega
      have P := put_bl 5 g (8 * k) 8 (64 - 8 * k) N _ (wr.drewN 1) (hcg.out.drewN 1) (by rw [hlen]; omega) (by rw [hlen]; omega) (by omega) hN2
      have hs3 : ∀ W, (Instr.sliceAt 81 (.slice (some ⟨g, 0, none⟩) 64 64) (some (.int .i64 ((k : Int) * 8))) (some (.int .i64 (((k : Int) + 1) * 8))) none).run Tryz.prog W = .ok (.slice (some ⟨g, 8 * k, none⟩) 8 (64 - 8 * k)) W := fun W => slice_mid g 64 (8 * k) (8 * k + 8) 8 W _ _ (by omega) (by omega) (by omega) (by omega) (by omega)
      go_wp2
      refine wp_region_tail 13 (by kernel_rfl) (by kernel_rfl) ?_
      simp only [List.take_succ_cons, List.take_zero, List.drop_succ_cons, List.drop_zero]
      repeat (first | go_big_quiet_skip | (go_big_quiet_want; go_big_quiet_op; go_big_quiet_on))
      refine wpQuiet_nil ?_
      go_wp2_with fail
      refine P.mono ?_
      rintro e w4 ⟨rfl, hc4, hb4, _⟩
      rw [spl_out 8 64 k N F (by omega), ← HN.out trivial] at hc4
      have HC4 : Hid (Bl 5 w4 g ((outF 8 (k + 1) F ++ List.replicate (64 - 8 * (k + 1)) 0).map B)) := hc4
      have HS4 : Hid (Cl w4 w.heap.size (stV 3 F m.length Z128)) := hb4.other hcs.out (by omega)
      have HB4 : Hid (Below w.heap.size w w4) := (below_drewN hbel.out 1).trans (hb4.below hbel.out.size (by omega))
      clear P hc4 hb4 hs3
      go_wp2
      exact ⟨⟨k + 1, by go_num, by omega, HC4, HS4, HB4⟩, by simp [intOf]; omega⟩
    · obtain rfl : k = 8 := by omega
      go_wp2
      go_ret
      refine ⟨g, rfl, by omega, ?_, hbel.out⟩
      rw [Hs.out trivial]
      simpa using hcg.out

theorem sum_any (b : Nat) (h : Int) (m : List UInt8) (w : World) (H : Sta w b h m) (hh : isH h) (T : Tb w) (hm : m.length < 2305843009213693952) :
    Calls Tryz.prog 85 #[.pointer (some ⟨b, 0, none⟩)] w fun e w' => ∃ g, e = .returned (.slice (some ⟨g, 0, none⟩) (siz h) (siz h)) ∧ w.heap.size ≤ g ∧ Bl 5 w' g ((sumF h m).map B) ∧ Below w.heap.size w w' := by
  rcases hh with rfl | rfl | rfl
  · exact sum_1 b m w H T hm
  · exact sum_2 b m w H T hm
  · exact sum_3 b m w H T hm

end Go.Proofs.YtdhfjhdlimmjhaaGreatDoor.Sha
namespace Go.Proofs.YtdhfjhdlimmjhaaGreatDoor.Sha
open Go.RowKit
set_option maxRecDepth 100000

theorem Rd.below {w w' : World} {ao : Option Addr} {l : List UInt8} {n : Nat} (h : Rd w ao l) (hb : Below n w w') (hn : w.heap.size ≤ n) : Rd w' ao l := by
  rcases h with h | ⟨g, off, e, hg, hc⟩
  · exact .inl h
  · exact .inr ⟨g, off, e, Nat.lt_of_lt_of_le hg hb.size, fun j hj => cell_but (hc j hj) fun h1 => hb.block g (by omega)⟩
theorem Rd.drewN {w : World} {ao : Option Addr} {l : List UInt8} (h : Rd w ao l) (q : Nat) : Rd (w.drewN q) ao l := h
theorem Rd.but {w w' : World} {ao : Option Addr} {l : List UInt8} {b : Nat} (h : Rd w ao l) (hb : But w w' b) (ho : Off ao l b) : Rd w' ao l := by
  rcases h with h | ⟨g, off, e, hg, hc⟩
  · exact .inl h
  · by_cases hl : l = []
    · exact .inl hl
    · exact .inr ⟨g, off, e, Nat.lt_of_lt_of_le hg hb.size, fun j hj => cell_but (hc j hj) fun h1 => hb.block g h1 (ho _ hl e)⟩
theorem Rd.off {w : World} {ao : Option Addr} {l : List UInt8} (h : Rd w ao l) (b : Nat) (hb : w.heap.size ≤ b) : Off ao l b := by
  intro a hne e
  rcases h with h | ⟨g, off, e2, hg, _⟩
  · exact absurd h hne
  · rw [e] at e2
    cases e2
    show g ≠ b
    omega

def Own (w : World) (B0 : Nat) (a : Option Addr) (l : List UInt8) : Prop := (a = none ∧ l = []) ∨ ∃ g, a = some ⟨g, 0, none⟩ ∧ B0 ≤ g ∧ Bl 5 w g (l.map B)
theorem Own.rd {w : World} {B0 : Nat} {a : Option Addr} {l : List UInt8} (h : Own w B0 a l) : Rd w a l := by
  rcases h with ⟨_, h⟩ | ⟨g, e, _, hc⟩
  · exact .inl h
  · refine .inr ⟨g, 0, e, hc.lt, fun j hj => ?_⟩
    rw [Nat.zero_add, hc.cell j (by simpa using hj), List.getElem_map, List.getD_eq_getElem?_getD, List.getElem?_eq_getElem hj]
    rfl
theorem Own.below {w w' : World} {B0 n : Nat} {a : Option Addr} {l : List UInt8} (h : Own w B0 a l) (hb : Below n w w') (hn : w.heap.size ≤ n) : Own w' B0 a l := by
  rcases h with h | ⟨g, e, hg, hc⟩
  · exact .inl h
  · exact .inr ⟨g, e, hg, hc.below hb (by have := hc.lt; omega)⟩

structure Prt where
  a : Option Addr
  c : Nat
  l : List UInt8
def cat (ps : List Prt) : List UInt8 := ps.flatMap (·.l)
def prV (p : Prt) : Value := .slice p.a p.l.length p.c
def prOk (w : World) (p : Prt) : Prop := Rd w p.a p.l ∧ p.l.length ≤ p.c ∧ p.c ≤ 9223372036854775807
def Pts (w : World) (pa : Option Addr) (ps : List Prt) : Prop :=
  (ps = [] ∨ ∃ g off : Nat, pa = some ⟨g, off, none⟩ ∧ ∀ j, (hj : j < ps.length) → w.cell? ⟨g, off + j, none⟩ = some (prV ps[j])) ∧ ∀ p ∈ ps, prOk w p

theorem cell_lt {w : World} {g i : Nat} {v : Value} (h : w.cell? ⟨g, i, none⟩ = some v) : g < w.heap.size := by
  rcases Nat.lt_or_ge g w.heap.size with h1 | h1
  · exact h1
  · exfalso
    unfold World.cell? at h
    simp [Array.getElem?_eq_none h1] at h

theorem cat_append (a b : List Prt) : cat (a ++ b) = cat a ++ cat b := by unfold cat; exact List.flatMap_append
theorem cat_take (ps : List Prt) (k : Nat) (hk : k < ps.length) : cat (ps.take (k + 1)) = cat (ps.take k) ++ ps[k].l := by
  rw [List.take_succ_eq_append_getElem hk, cat_append]
  simp [cat]
theorem cat_take_le (ps : List Prt) (k : Nat) : (cat (ps.take k)).length ≤ (cat ps).length := by
  have h := congrArg cat (List.take_append_drop k ps)
  rw [cat_append] at h
  rw [← h, List.length_append]
  omega

theorem siz_not {h : Int} (hh : ¬ isH h) (m : List UInt8) : siz h = 0 ∧ sumF h m = [] := by
  have h1 : h ≠ 1 := fun e => hh (.inl e)
  have h2 : h ≠ 2 := fun e => hh (.inr (.inl e))
  have h3 : h ≠ 3 := fun e => hh (.inr (.inr e))
  constructor
  · unfold siz; rw [if_neg h1, if_neg h2, if_neg h3]
  · unfold sumF; rw [if_neg h1, if_neg h2, if_neg h3]

set_option maxRecDepth 100000 in
set_option maxHeartbeats 1000000 in
theorem ssum_any (h : Int) (pa : Option Addr) (pc : Nat) (ps : List Prt) (w : World) (T : Tb w) (hp : Pts w pa ps) (hn : ps.length ≤ 2305843009213693952) (hm : (cat ps).length < 2305843009213693952) :
    Calls Tryz.prog 69 #[.int .i64 h, .slice pa ps.length pc] w fun e w' => ∃ a, e = .returned (.slice a (siz h) (siz h)) ∧ Own w' w.heap.size a (sumF h (cat ps)) ∧ Below w.heap.size w w' := by
  by_cases hh : isH h
  · have HT : Hid (Tb w) := T
    have HP : Hid (Pts w pa ps) := hp
    have hg7 : 11 ≤ w.heap.size := by have := cell_lt (T.k 0 (by omega)); omega
    clear T hp
    go_enter Tryz.func69, Tryz.ntmps69
    go_wp2_with fail
    refine (new_any h w hh HT.out).mono ?_
    rintro e w1 ⟨rfl, hs1, hb1⟩
    have HS1 : Hid (Sta w1 w.heap.size h (cat (ps.take 0))) := hs1
    have HB1 : Hid (Below w.heap.size w w1) := hb1
    clear hs1 hb1
    go_wp2
    go_loopw [14] (fun s ws => ∃ k : Nat, s = .int .i64 (k : Int) ∧ k ≤ ps.length ∧ Hid (Sta ws w.heap.size h (cat (ps.take k))) ∧ Hid (Below w.heap.size w ws)) (fun s _ => ps.length - (intOf s).toNat)
    case atStart => exact ⟨0, rfl, by omega, HS1, HB1⟩
    case round =>
      clear HS1 HB1
      obtain ⟨k, rfl, hk, hst, hbel⟩ := hrel
      by_cases hlt : k < ps.length
      · have Ht : Hid (True → cat (ps.take (k + 1)) = cat (ps.take k) ++ ps[k].l) := fun _ => cat_take ps k hlt
        have hl1 := cat_take_le ps k
        have hl2 := cat_take_le ps (k + 1)
        rw [Ht.out trivial, List.length_append] at hl2
        obtain ⟨h1, h2⟩ := HP.out
        have hpk := h2 ps[k] (List.getElem_mem hlt)
        obtain ⟨g, off, rfl, hc⟩ : ∃ g off : Nat, pa = some ⟨g, off, none⟩ ∧ ∀ j, (hj : j < ps.length) → w.cell? ⟨g, off + j, none⟩ = some (prV ps[j]) := by
          rcases h1 with h1 | h1
          · subst h1; simp at hlt
          · exact h1
        have gk : wr.cell? ⟨g, off + k, none⟩ = some (prV ps[k]) := cell_but (hc k hlt) fun h3 => hbel.out.block g h3
        have C := write_any w.heap.size h (cat (ps.take k)) ps[k].l ps[k].a ps[k].c wr hst.out hh (HT.out.below hbel.out) hg7 (hpk.1.below hbel.out (Nat.le_refl _)) (hpk.1.off _ (Nat.le_refl _)) hpk.2.1 (by omega) (by omega) hpk.2.2
        unfold prV at gk
        clear hc h1 h2 hpk
        generalize ps[k] = p at *
        go_wp2_with fail
        refine C.mono ?_
        rintro e w4 ⟨rfl, hs4, hb4⟩
        have HS4 : Hid (Sta w4 w.heap.size h (cat (ps.take (k + 1)))) := by rw [Ht.out trivial]; exact hs4
        have HB4 : Hid (Below w.heap.size w w4) := hbel.out.trans (hb4.below hbel.out.size (Nat.le_refl _))
        clear C hs4 hb4 Ht
        go_wp2
        exact ⟨⟨k + 1, by go_num, by omega, HS4, HB4⟩, by simp [intOf]; omega⟩
      · obtain rfl : k = ps.length := by omega
        have hst2 : Hid (Sta wr w.heap.size h (cat ps)) := by have := hst.out; rw [List.take_length] at this; exact this
        clear hst hlt hk
        go_wp2_with fail
        refine (sum_any w.heap.size h (cat ps) wr hst2.out hh (HT.out.below hbel.out) hm).mono ?_
        rintro e w5 ⟨g5, rfl, hg5, hc5, hb5⟩
        have HC5 : Hid (Bl 5 w5 g5 ((sumF h (cat ps)).map B)) := hc5
        have HB5 : Hid (Below w.heap.size w w5) := hbel.out.trans (hb5.mono hbel.out.size)
        have hg6 : w.heap.size ≤ g5 := Nat.le_trans hbel.out.size hg5
        clear hc5 hb5
        go_wp2
        go_ret
        exact ⟨_, rfl, .inr ⟨g5, rfl, hg6, HC5.out⟩, HB5.out⟩
  · have hz := siz_not hh (cat ps)
    have Hz : Hid (True → siz h = 0 ∧ sumF h (cat ps) = []) := fun _ => hz
    clear hz
    go_enter Tryz.func69, Tryz.ntmps69
    go_wp2_with fail
    refine (new_none h w hh).mono ?_
    rintro e w1 ⟨rfl, hb1⟩
    have HB1 : Hid (Below w.heap.size w w1) := hb1
    clear hb1
    go_wp2
    go_ret
    rw [(Hz.out trivial).1, (Hz.out trivial).2]
    exact ⟨none, rfl, .inl ⟨rfl, rfl⟩, HB1.out⟩

end Go.Proofs.YtdhfjhdlimmjhaaGreatDoor.Sha