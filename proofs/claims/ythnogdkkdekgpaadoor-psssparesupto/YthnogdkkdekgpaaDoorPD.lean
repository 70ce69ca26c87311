import Derived.Test.YthnogdkkdekgpaaDoorPC
namespace Go.Proofs.YthnogdkkdekgpaaDoor
open Go.RowKit

theorem But.ofSha {w w' : World} {b : Nat} (h : Sha.But w w' b) : But w w' b := ⟨h.os, h.tape, h.output, h.size, h.block⟩
theorem StaB {w w' : World} {b n : Nat} {h : Int} {m : List UInt8} (H : Sha.Sta w b h m) (hb : Below n w w') (hn : b < n) : Sha.Sta w' b h m := Sha.Cl.below H hb hn
theorem StaT {w w' : World} {b c : Nat} {h : Int} {m : List UInt8} (H : Sha.Sta w b h m) (hb : But w w' c) (hn : b ≠ c) : Sha.Sta w' b h m := Sha.But.other ⟨hb.os, hb.tape, hb.output, hb.size, hb.block⟩ H hn
theorem StaL {w : World} {b : Nat} {h : Int} {m : List UInt8} (H : Sha.Sta w b h m) : b < w.heap.size := Sha.Cl.lt H
theorem tb_low {w : World} (T : Sha.Tb w) : 3 + 1 ≤ w.heap.size := by have := Sha.cell_lt (T.k 0 (by omega)); omega

/-- What Mask answers. -/
def mcode (h n : Int) : Int := if isHB h = false then 111 else if n < 0 ∨ 65536 < n then 10 else 0
def maskV (h : Int) (seed : List UInt8) (n : Int) : List UInt8 := if mcode h n = 0 then maskF h seed n.toNat else []

/-- A mask on its way. -/
structure MkS (w wr : World) (b0 gM : Nat) (h : Int) (seed : List UInt8) (n k : Nat) : Prop where
  sta : Sha.Sta wr b0 h seed
  bl : Bl 5 wr gM ((mkL h seed n k).map B)
  bel : Below w.heap.size w wr
  lo : w.heap.size ≤ b0
  lt : b0 < gM

set_option maxRecDepth 100000 in
theorem slice_fromP (g cap l n : Nat) (w : World) (lo : Int) (el : lo = (l : Int)) (h1 : l + n = cap) (h3 : 0 < n) :
    (Instr.sliceAt 23 (.slice (some ⟨g, 0, none⟩) cap cap) (some (.int .i64 lo)) none none).run Tryd.prog w = .ok (.slice (some ⟨g, l, none⟩) n n) w := by
  subst el
  have e0 : Tryd.prog.elem 23 = 5 := by kernel_rfl
  have e2 := Sha.run_size1 (P := Tryd.prog) (e := 5) (by kernel_rfl)
  rw [run_sliceAt_slice _ _ _ _ _ _ Tryd.underlying23, run_slice_l w 23 (some ⟨g, 0, none⟩) cap cap Tryd.underlying23 .i64 (l : Int) (by omega) (by omega), e0, e2]
  show Result.ok (sliced _ _ _ _ 1) w = _
  unfold sliced
  rw [if_neg (by simp; omega)]
  simp only [Int.toNat_natCast, Nat.mul_one, Option.map_some, Addr.add_mid, Nat.zero_add]
  rw [show cap - l = n by omega]

set_option maxRecDepth 100000 in
set_option maxHeartbeats 4000000 in
theorem pmask_any (h : Int) (a : Option Addr) (c : Nat) (seed : List UInt8) (n : Int) (w : World) (T : Sha.Tb w) (hr : Rd w a seed) (hc : seed.length ≤ c) (hc2 : c ≤ 9223372036854775807) (hl : seed.length ≤ 100000000) :
    Calls Tryd.prog 12 #[.int .i64 h, .slice a seed.length c, .int .i64 n] w fun e w' => ∃ r, e = .returned (.tuple #[r, .int .i64 (mcode h n)]) ∧ OBb w.heap.size w w' r (maskV h seed n) := by
  by_cases hh : isHB h = true
  · have hH := (isHB_iff h).1 hh
    have hs0 := isHB_pos hh
    have hs64 := siz_le64 h
    have CN := Sha.new_any h w hH T
    have hlow := tb_low T
    have HT : Hid (Sha.Tb w) := T
    have HR : Hid (Rd w a seed) := hr
    have HH : Hid (Sha.isH h) := hH
    by_cases hn : n < 0 ∨ 65536 < n
    · have he : mcode h n = 10 := by unfold mcode; rw [if_neg (by rw [hh]; simp), if_pos hn]
      have Hv : Hid (maskV h seed n = []) := by show _ = _; unfold maskV; rw [he, if_neg (by decide)]
      rw [he]
      clear T hr hH hh he hs0 hs64
      by_cases h1 : n < 0
      · have d1 : decide (n < 0) = true := decide_eq_true h1
        clear hn h1
        go_enter Tryd.func12, Tryd.ntmps12
        go_wp2_with fail
        refine CN.mono ?_
        rintro e w1 ⟨rfl, hs1, hb1⟩
        have HB1 : Hid (Below w.heap.size w w1) := hb1
        clear CN hs1 hb1
        go_wp2
        go_ret2
        rw [Hv.out]
        exact ⟨_, rfl, Owb.nil _ _, HB1.out⟩
      · have d1 : decide (n < 0) = false := decide_eq_false h1
        have d2 : decide (65536 < n) = true := decide_eq_true (by omega)
        have d2' : decide (n > 65536) = true := decide_eq_true (by omega)
        clear hn h1
        go_enter Tryd.func12, Tryd.ntmps12
        go_wp2_with fail
        refine CN.mono ?_
        rintro e w1 ⟨rfl, hs1, hb1⟩
        have HB1 : Hid (Below w.heap.size w w1) := hb1
        clear CN hs1 hb1
        go_wp2
        go_ret2
        rw [Hv.out]
        exact ⟨_, rfl, Owb.nil _ _, HB1.out⟩
    · have he : mcode h n = 0 := by unfold mcode; rw [if_neg (by rw [hh]; simp), if_neg hn]
      obtain ⟨N, rfl⟩ : ∃ N : Nat, n = (N : Int) := ⟨n.toNat, by omega⟩
      have hN : N ≤ 65536 := by omega
      have Hv : Hid (maskV h seed (N : Int) = maskF h seed N) := by show _ = _; unfold maskV; rw [he, if_pos rfl, Int.toNat_natCast]
      rw [he]
      have d1 : decide ((N : Int) < 0) = false := decide_eq_false (by omega)
      have d2 : decide (65536 < (N : Int)) = false := decide_eq_false (by omega)
      have d2' : decide ((N : Int) > 65536) = false := decide_eq_false (by omega)
      obtain ⟨s, Hs⟩ : ∃ s, Hid (Sha.siz h = s) := ⟨_, rfl⟩
      rw [Hs.out] at hs0 hs64
      obtain ⟨cn, Hcn⟩ : ∃ cn, Hid ((N + s - 1) / s = cn) := ⟨_, rfl⟩
      have hcn : cn ≤ 66000 := by
        rw [← Hcn.out]
        exact Nat.le_trans (Nat.div_le_self _ _) (by omega)
      have HMk : Hid (∀ k, k < cn → k * s < N) := fun k hk => by rw [← Hcn.out] at hk; exact cnt_less N s k hs0 hk
      have HFu : Hid (N ≤ cn * s) := by show _ ≤ _; rw [← Hcn.out]; exact cnt_gen N s hs0
      obtain ⟨t, Ht⟩ : ∃ t, Hid (N + s - 1 = t) := ⟨_, rfl⟩
      have ht : t ≤ 66000 := by rw [← Ht.out]; omega
      have et : (N : Int) + (s : Int) - 1 = (t : Int) := by rw [← Ht.out]; omega
      have et2 : Int.tdiv (t : Int) (s : Int) = (cn : Int) := by rw [Int.tdiv_eq_ediv_of_nonneg (by omega), ← Hcn.out, Ht.out]; rfl
      have et3 : (t : Int) / (s : Int) = (cn : Int) := by rw [← Hcn.out, Ht.out]; rfl
      clear T hr hH hh he hn
      go_enter Tryd.func12, Tryd.ntmps12
      go_wp2_with fail
      refine CN.mono ?_
      rintro e w1 ⟨rfl, hs1, hb1⟩
      clear CN
      have CW := Sha.write_any w.heap.size h [] seed a c w1 hs1 HH.out (HT.out.below hb1) hlow (HR.out.below hb1 (Nat.le_refl _)) (Sha.Rd.off HR.out _ (Nat.le_refl _)) hc (by simp) (by omega) hc2
      have HB1 : Hid (Below w.heap.size w w1) := hb1
      clear hs1 hb1
      go_wp2_with fail
      refine CW.mono ?_
      rintro e w2 ⟨rfl, hs2, hb2⟩
      clear CW
      have HS2 : Hid (Sha.Sta w2 w.heap.size h seed) := hs2
      have HB2 : Hid (Below w.heap.size w w2) := HB1.out.trans ((But.ofSha hb2).below HB1.out.size (Nat.le_refl _))
      have CS := Sha.size_any h w2
      rw [Hs.out] at CS
      obtain ⟨wm, hmk, hbm, hbelm⟩ := madeB w2 N (by omega)
      have hlt0 : w.heap.size < w2.heap.size := StaL HS2.out
      have HM0 : Hid (MkS w wm w.heap.size w2.heap.size h seed N 0) := ⟨StaB HS2.out hbelm hlt0, by rw [mkL_zero]; exact hbm, HB2.out.trans (hbelm.mono HB2.out.size), Nat.le_refl _, hlt0⟩
      clear hs2 hb2 HS2 HB2 HB1 hbm hbelm
      go_wp2_with fail
      refine CS.mono ?_
      rintro e w' ⟨rfl, rfl⟩
      clear CS
      go_wp2
      clear hmk d1 d2 d2' et et2 et3 ht
      obtain ⟨b0, hb0⟩ : ∃ b0, w.heap.size = b0 := ⟨_, rfl⟩
      obtain ⟨gM, hgM⟩ : ∃ gM, w'.heap.size = gM := ⟨_, rfl⟩
      rw [hgM, hb0] at HM0
      have hbg : b0 < gM := HM0.out.lt
      have Hb0 : Hid (w.heap.size = b0) := hb0
      rw [hb0, hgM]
      clear hlt0 hb0 hgM
      go_loopw [11, 12, 38] (fun _ _ s' wr => ∃ k : Nat, s' = .int .i64 (k : Int) ∧ k ≤ cn ∧ Hid (MkS w wr b0 gM h seed N k)) (fun _ _ s' _ => cn - (intOf s').toNat)
      case atStart => exact ⟨0, rfl, by omega, HM0⟩
      case round =>
        clear HM0
        obtain ⟨k, rfl, hk, HM⟩ := hrel
        by_cases hlt : k < cn
        · have CC := Sha.copy_any b0 h seed wr HM.out.sta HH.out
          have hb0r : b0 < wr.heap.size := StaL HM.out.sta
          have hgMr : gM < wr.heap.size := HM.out.bl.lt
          go_wp2_with fail
          refine CC.mono ?_
          rintro e w4 ⟨rfl, hs4, hb4⟩
          clear CC
          have h45 : wr.heap.size < w4.heap.size := StaL hs4
          have CT := counter_any k w4 (by omega)
          have HS4 : Hid (Sha.Sta w4 wr.heap.size h seed) := hs4
          have HB4 : Hid (Below wr.heap.size wr w4) := hb4
          clear hs4 hb4
          go_wp2_with fail
          refine CT.mono ?_
          rintro e w5 ⟨rfl, hbl5, hb5⟩
          clear CT
          have CW := Sha.write_any wr.heap.size h seed (tobe 4 k) (some ⟨w4.heap.size, 0, none⟩) 4 w5 (StaB HS4.out hb5 h45) HH.out (((HT.out.below HM.out.bel).below HB4.out).below hb5) (by have := HM.out.bel.size; omega) hbl5.rdb (fun a _ e => by cases e; show w4.heap.size ≠ _; omega) (by rw [tobe_length]; exact Nat.le_refl _) (by omega) (by rw [tobe_length]; omega) (by omega)
          rw [tobe_length] at CW
          have HB5 : Hid (Below wr.heap.size wr w5) := HB4.out.trans (hb5.mono HB4.out.size)
          clear hbl5 hb5 HS4 HB4
          go_wp2_with fail
          refine CW.mono ?_
          rintro e w6 ⟨rfl, hs6, hb6⟩
          clear CW
          have HB6 : Hid (Below wr.heap.size wr w6) := HB5.out.trans ((But.ofSha hb6).below HB5.out.size (Nat.le_refl _))
          have HSum : Hid (∀ q, Calls Tryd.prog 40 #[.pointer (some ⟨wr.heap.size, 0, none⟩)] (w6.drewN q) fun e w' => ∃ g w'', e = .returned (.slice (some ⟨g, 0, none⟩) s s) ∧ (Builtin.copy_ #[23, 23] 3 #[.slice (some ⟨gM, k * s, none⟩) (N - k * s) (N - k * s), .slice (some ⟨g, 0, none⟩) s s]).run Tryd.prog w' = .ok (.int .i64 ((Nat.min s (N - k * s) : Nat) : Int)) w'' ∧ Hid (MkS w w'' b0 gM h seed N (k + 1))) := fun q => by
            have hb6q : Below wr.heap.size wr (w6.drewN q) := below_drewN HB6.out q
            refine (Sha.sum_any wr.heap.size h (seed ++ tobe 4 k) (w6.drewN q) hs6 HH.out ((HT.out.below HM.out.bel).below hb6q) (by rw [List.length_append, tobe_length]; omega)).mono ?_
            rintro e w7 ⟨g7, rfl, hg7, hbl7, hb7⟩
            have hb7w : Below wr.heap.size wr w7 := hb6q.trans (hb7.mono hb6q.size)
            have hM7 : Bl 5 w7 gM ((mkL h seed N k).map B) := HM.out.bl.below hb7w hgMr
            have hks := HMk.out k hlt
            obtain ⟨w8, hcp, hbl8, hb8⟩ := copyB w7 gM (k * s) (N - k * s) (N - k * s) s (some ⟨g7, 0, none⟩) (Sha.sumF h (seed ++ tobe 4 k)) ((mkL h seed N k).map B) hM7 (Bl.rdb hbl7) (by rw [List.length_map, mkL_length]; omega)
            rw [Sha.sumF_length, Hs.out] at hcp
            refine ⟨g7, w8, by rw [Hs.out], hcp 0, ?_⟩
            have hst := mkL_step h seed N k (by rw [Hs.out]; omega)
            rw [Hs.out] at hst
            rw [hst] at hbl8
            refine ⟨StaT (StaB HM.out.sta hb7w hb0r) hb8 (by omega), hbl8, ?_, HM.out.lo, HM.out.lt⟩
            have := HM.out.bel.trans (hb7w.mono HM.out.bel.size)
            exact this.trans (hb8.below this.size (by have := HM.out.lo; omega))
          obtain ⟨p, hp⟩ : ∃ p, k * s = p := ⟨_, rfl⟩
          have hpN : p < N := by rw [← hp]; exact HMk.out k hlt
          have ep : (k : Int) * (s : Int) = (p : Int) := by rw [← hp]; exact (Int.natCast_mul k s).symm
          rw [hp] at HSum
          have hNp : ¬ N = p := by omega
          have hpl : p ≤ N := by omega
          have hpl2 : (p : Int) ≤ (N : Int) := by omega
          have hp0 : 0 ≤ (p : Int) := by omega
          have hpd : decide (p ≤ N) = true := decide_eq_true hpl
          have hsl : ∀ W, (Instr.sliceAt 23 (.slice (some ⟨gM, 0, none⟩) N N) (some (.int .i64 (p : Int))) none none).run Tryd.prog W = .ok (.slice (some ⟨gM, p, none⟩) (N - p) (N - p)) W := fun W => slice_fromP gM N p (N - p) W _ rfl (by omega) (by omega)
          clear hs6 hb6 HB6 HB5 HM hp
          go_wp2
          have hwp : IntKind.i64.wrap (p : Int) = (p : Int) := by rw [IntKind.wrap_i64]; omega
          go_region_with (go_at_call 40; refine (HSum.out _).mono ?_; rintro e w7 ⟨g7, w8, rfl, hcp, HM8⟩)
          all_goals clear hwp
          all_goals go_wp2
          all_goals exact ⟨⟨k + 1, by go_num, by omega, HM8⟩, by simp [intOf]; omega⟩
        · obtain rfl : k = cn := by omega
          clear hlt hk
          go_wp2
          go_ret2
          refine ⟨_, rfl, ?_, HM.out.bel⟩
          rw [Hv.out]
          have hbl := HM.out.bl
          rw [mkL_full h seed N k (by rw [Hs.out]; exact hs0) (by rw [Hs.out]; exact HFu.out)] at hbl
          have hml := maskF_length h seed N (by rw [Hs.out]; exact hs0)
          have := hbl.owb (base := w.heap.size) (by have := HM.out.lo; have := HM.out.lt; omega) (by rw [hml]; omega)
          rwa [hml] at this
  · have hh2 : isHB h = false := by simpa using hh
    have hn : ¬ Sha.isH h := fun e => hh ((isHB_iff h).2 e)
    have he : mcode h n = 111 := by unfold mcode; rw [if_pos hh2]
    have Hv : Hid (maskV h seed n = []) := by show _ = _; unfold maskV; rw [he, if_neg (by decide)]
    rw [he]
    have CN := Sha.new_none h w hn
    clear T hr hh hh2 hn he
    go_enter Tryd.func12, Tryd.ntmps12
    go_wp2_with fail
    refine CN.mono ?_
    rintro e w1 ⟨rfl, hb1⟩
    have HB1 : Hid (Below w.heap.size w w1) := hb1
    clear CN hb1
    go_wp2
    go_ret2
    rw [Hv.out]
    exact ⟨_, rfl, Owb.nil _ _, HB1.out⟩

end Go.Proofs.YthnogdkkdekgpaaDoor
