import Derived.Test.YthnogdkkdekgpaaDoorPI
import Derived.Test.YthnogdkkdekgpaaDoorRA
namespace Go.Proofs.YthnogdkkdekgpaaDoor
open Go.RowKit

theorem parts_two (w : World) (p1 p2 : Sha.Prt) (h1 : Sha.prOk w p1) (h2 : Sha.prOk w p2) :
    Sha.Pts (w.alloc (.cells #[Sha.prV p1, Sha.prV p2] 23)) (some ⟨w.heap.size, 0, none⟩) [p1, p2] := by
  have hb := alloc_below w (.cells #[Sha.prV p1, Sha.prV p2] 23)
  have hk : ∀ p, Sha.prOk w p → Sha.prOk (w.alloc (.cells #[Sha.prV p1, Sha.prV p2] 23)) p := fun p h => ⟨Sha.Rd.below h.1 hb (Nat.le_refl _), h.2⟩
  refine ⟨.inr ⟨w.heap.size, 0, rfl, fun j hj => ?_⟩, ?_⟩
  · have hbl := alloc_bl w [Sha.prV p1, Sha.prV p2] 23
    have := hbl.cell j (by simpa using hj)
    rw [Nat.zero_add]
    refine this.trans ?_
    have e : [Sha.prV p1, Sha.prV p2] = [p1, p2].map Sha.prV := rfl
    simp only [e, List.getElem_map]
  · intro p hp
    simp only [List.mem_cons, List.not_mem_nil, or_false] at hp
    rcases hp with rfl | rfl <;> (apply hk; assumption)
theorem mask_at (h : Int) (seed : List UInt8) (N k i : Nat) (hs : 0 < Sha.siz h) (hi : i < Sha.siz h) (hk : k * Sha.siz h + i < N) : (maskF h seed N).getD (k * Sha.siz h + i) 0 = (Sha.sumF h (seed ++ tobe 4 k)).getD i 0 := by
  have e1 := maskF_take h seed N (k * Sha.siz h + i + 1) hs hk
  have e2 := maskF_eq h seed (k * Sha.siz h + i + 1) (k + 1) hs (by rw [Nat.succ_mul]; omega)
  have e3 : ((maskF h seed N).take (k * Sha.siz h + i + 1))[k * Sha.siz h + i]? = ((flatM h seed (k + 1)).take (k * Sha.siz h + i + 1))[k * Sha.siz h + i]? := by rw [e1, e2]
  rw [List.getElem?_take, if_pos (by omega), List.getElem?_take, if_pos (by omega), flatM_succ, List.getElem?_append_right (by rw [flatM_length]; omega), flatM_length, Nat.add_sub_cancel_left] at e3
  rw [List.getD_eq_getElem?_getD, List.getD_eq_getElem?_getD, e3]

set_option maxRecDepth 100000 in
set_option maxHeartbeats 16000000 in
theorem mp_core (h : Int) (a : Option Addr) (c : Nat) (seed : List UInt8) (n less : Int) (W : World) (T : Sha.Tb W) (r1 : Rd W a seed) (k1 : seed.length ≤ c) (k1' : c ≤ 9223372036854775807) (l1 : seed.length ≤ 3000000) :
    Calls Tryd.prog 3 #[.int .i64 h, .slice a seed.length c, .int .i64 n, .int .i64 less] W fun x w' => x = .returned (.bool true) ∧ Below W.heap.size W w' := by
  have HT : Hid (Sha.Tb W) := T
  have H1 : Hid (Rd W a seed) := r1
  have CA := awake10 W T
  have HM : Hid (∀ (w : World) (n' : Int), Below W.heap.size W w → Calls Tryd.prog 12 #[.int .i64 h, .slice a seed.length c, .int .i64 n'] w fun x w' => ∃ r, x = .returned (.tuple #[r, .int .i64 (mcode h n')]) ∧ OBb w.heap.size w w' r (maskV h seed n')) := fun w n' hb => pmask_any h a c seed n' w (HT.out.below hb) (H1.out.below hb (Nat.le_refl _)) k1 k1' (by omega)
  obtain ⟨S, HS⟩ : ∃ S, Hid (Sha.siz h = S) := ⟨_, rfl⟩
  have hs64 := siz_le64 h
  rw [HS.out] at hs64
  clear T r1
  go_enter Tryd.func3, Tryd.ntmps3
  go_wp2_with fail
  refine CA.mono ?_
  rintro x w1 ⟨rfl, hb1⟩
  clear CA
  have B1 : Hid (Below W.heap.size W w1) := hb1
  have C1 := HM.out w1 n hb1
  clear hb1
  obtain ⟨mc, Hmc⟩ : ∃ m, Hid (mcode h n = m) := ⟨_, rfl⟩
  rw [Hmc.out] at C1
  go_wp2_with fail
  refine C1.mono ?_
  rintro x w2 ⟨rM, rfl, hM⟩
  clear C1
  have B2 : Hid (Below W.heap.size W w2) := B1.out.trans (hM.bel.mono B1.out.size)
  obtain ⟨aM, cM, eM, hcM, hRM⟩ := hM.own.nb
  subst eM
  have CS := Sha.size_any h w2
  rw [HS.out] at CS
  clear B1
  by_cases hh : isHB h = true
  case neg =>
    have hh2 : isHB h = false := by simpa using hh
    obtain rfl : mc = 111 := by rw [← Hmc.out]; unfold mcode; rw [if_pos hh2]
    have hv : maskV h seed n = [] := by unfold maskV; rw [Hmc.out, if_neg (by decide)]
    have hS0 : S = 0 := by rw [← HS.out]; exact siz_zero hh2
    rw [hv]
    subst hS0
    clear hh hh2 hM hRM hcM hv
    go_wp2_with fail
    refine CS.mono ?_
    rintro x w' ⟨rfl, rfl⟩
    clear CS
    go_wp2
    go_ret
    exact ⟨rfl, B2.out⟩
  have hs0 := isHB_pos hh
  rw [HS.out] at hs0
  have dz : ((S : Int) == 0) = false := by rw [beq_eq_false_iff_ne]; omega
  by_cases hn : n < 0 ∨ 65536 < n
  case pos =>
    obtain rfl : mc = 10 := by rw [← Hmc.out]; unfold mcode; rw [if_neg (by rw [hh]; simp), if_pos hn]
    have hv : maskV h seed n = [] := by unfold maskV; rw [Hmc.out, if_neg (by decide)]
    rw [hv]
    clear hh hM hRM hcM hv
    by_cases h1 : n < 0
    · have d1 : decide (n < 0) = true := decide_eq_true h1
      clear hn h1
      go_wp2_with fail
      refine CS.mono ?_
      rintro x w' ⟨rfl, rfl⟩
      clear CS
      go_wp2
      go_ret
      exact ⟨rfl, B2.out⟩
    · have d1 : decide (n < 0) = false := decide_eq_false h1
      have d2 : decide (65536 < n) = true := decide_eq_true (by omega)
      have d2' : decide (n > 65536) = true := decide_eq_true (by omega)
      clear hn h1
      go_wp2_with fail
      refine CS.mono ?_
      rintro x w' ⟨rfl, rfl⟩
      clear CS
      go_wp2
      go_ret
      exact ⟨rfl, B2.out⟩
  obtain rfl : mc = 0 := by rw [← Hmc.out]; unfold mcode; rw [if_neg (by rw [hh]; simp), if_neg hn]
  obtain ⟨N, rfl⟩ : ∃ N : Nat, n = (N : Int) := ⟨n.toNat, by omega⟩
  have hN : N ≤ 65536 := by omega
  have d1 : decide ((N : Int) < 0) = false := decide_eq_false (by omega)
  have d2 : decide (65536 < (N : Int)) = false := decide_eq_false (by omega)
  have d2' : decide ((N : Int) > 65536) = false := decide_eq_false (by omega)
  have hv : maskV h seed (N : Int) = maskF h seed N := by unfold maskV; rw [Hmc.out, if_pos rfl, Int.toNat_natCast]
  have hmv : ∀ m : Nat, m ≤ 65536 → mcode h (m : Int) = 0 ∧ maskV h seed (m : Int) = maskF h seed m := fun m hm => by
    have e : mcode h (m : Int) = 0 := by unfold mcode; rw [if_neg (by rw [hh]; simp), if_neg (by omega)]
    exact ⟨e, by unfold maskV; rw [e, if_pos rfl, Int.toNat_natCast]⟩
  have HMV : Hid (∀ m : Nat, m ≤ 65536 → mcode h (m : Int) = 0 ∧ maskV h seed (m : Int) = maskF h seed m) := hmv
  have hml : (maskF h seed N).length = N := maskF_length h seed N (by rw [HS.out]; exact hs0)
  rw [hv] at hRM hcM
  rw [hv, hml]
  rw [hml] at hcM
  obtain ⟨cn, Hcn⟩ : ∃ cn, Hid ((N + S - 1) / S = cn) := ⟨_, rfl⟩
  have hcn : cn ≤ 66000 := by rw [← Hcn.out]; exact Nat.le_trans (Nat.div_le_self _ _) (by omega)
  have HMk : Hid (∀ k, k < cn → k * S < N) := fun k hk => by rw [← Hcn.out] at hk; exact cnt_less N S k hs0 hk
  have HFu : Hid (N ≤ cn * S) := by show _ ≤ _; rw [← Hcn.out]; exact cnt_gen N S hs0
  obtain ⟨mk, hmk⟩ : ∃ mk, maskF h seed N = mk := ⟨_, rfl⟩
  rw [hmk] at hRM hml
  have Hmk : Hid (maskF h seed N = mk) := hmk
  have Hml : Hid (mk.length = N) := hml
  have HRM : Hid (Rd w2 aM mk) := hRM
  have HAt : Hid (∀ k i, i < S → k * S + i < N → mk.getD (k * S + i) 0 = (Sha.sumF h (seed ++ tobe 4 k)).getD i 0) := fun k i hi hk => by
    have := mask_at h seed N k i (by rw [HS.out]; exact hs0) (by rw [HS.out]; exact hi) (by rw [HS.out]; exact hk)
    rwa [HS.out, hmk] at this
  have CS2 := Sha.size_any h w2
  rw [HS.out] at CS2
  have hcM2 : cM ≤ 9223372036854775807 := by
    rcases hM.own.2 with ⟨e0, _⟩ | ⟨g, cap, cur, e0, hg, _, _, hm, _⟩
    · injection e0 with _ _ e1; omega
    · injection e0 with _ _ e1; unfold maxLen at hm; omega
  clear hh hn hM hv hmv hRM hmk hml
  go_wp2_with fail
  refine CS.mono ?_
  rintro x w' ⟨rfl, rfl⟩
  clear CS
  go_wp2_with fail
  refine CS2.mono ?_
  rintro x w' ⟨rfl, rfl⟩
  clear CS2
  go_wp2
  clear d1 d2 d2' dz
  go_loopw [12, 13, 14] (fun s12 _ _ wr => ∃ k : Nat, s12 = .int .i64 (k : Int) ∧ k ≤ cn ∧ Hid (Below w'.heap.size w' wr)) (fun s12 _ _ _ => cn - (intOf s12).toNat)
  case atStart => exact ⟨0, rfl, by omega, Below.refl _ _⟩
  case round =>
    obtain ⟨k, rfl, hk, HBk⟩ := hrel
    obtain ⟨p, hp⟩ : ∃ p, k * S = p := ⟨_, rfl⟩
    have ep : (k : Int) * (S : Int) = (p : Int) := by rw [← hp]; exact (Int.natCast_mul k S).symm
    by_cases hlt : k < cn
    · have hpN : p < N := by rw [← hp]; exact HMk.out k hlt
      have d1 : decide ((p : Int) < (N : Int)) = true := decide_eq_true (by omega)
      obtain ⟨b0, b1, b2, b3, ht4, q0, q1, q2, q3⟩ := ct_bytes k (by omega)
      have u0 := b0.toNat_lt
      have u1 := b1.toNat_lt
      have u2 := b2.toNat_lt
      have u3 := b3.toNat_lt
      have hWr : Below W.heap.size W wr := B2.out.trans (HBk.out.mono B2.out.size)
      have bA := alloc_below wr (.cells #[.int .u8 (b0.toNat : Int), .int .u8 (b1.toNat : Int), .int .u8 (b2.toNat : Int), .int .u8 (b3.toNat : Int)] 5)
      have hWA : Below W.heap.size W (wr.alloc (.cells #[.int .u8 (b0.toNat : Int), .int .u8 (b1.toNat : Int), .int .u8 (b2.toNat : Int), .int .u8 (b3.toNat : Int)] 5)) := hWr.trans (bA.mono hWr.size)
      have P1 : Sha.prOk (wr.alloc (.cells #[.int .u8 (b0.toNat : Int), .int .u8 (b1.toNat : Int), .int .u8 (b2.toNat : Int), .int .u8 (b3.toNat : Int)] 5)) ⟨a, c, seed⟩ := ⟨H1.out.below hWA (Nat.le_refl _), k1, k1'⟩
      have P2 : Sha.prOk (wr.alloc (.cells #[.int .u8 (b0.toNat : Int), .int .u8 (b1.toNat : Int), .int .u8 (b2.toNat : Int), .int .u8 (b3.toNat : Int)] 5)) ⟨some ⟨wr.heap.size, 0, none⟩, 4, [b0, b1, b2, b3]⟩ := ⟨rd_lit (w := wr) [b0, b1, b2, b3], by simp, by simp⟩
      have bB := alloc_below (wr.alloc (.cells #[.int .u8 (b0.toNat : Int), .int .u8 (b1.toNat : Int), .int .u8 (b2.toNat : Int), .int .u8 (b3.toNat : Int)] 5)) (.cells #[Sha.prV ⟨a, c, seed⟩, Sha.prV ⟨some ⟨wr.heap.size, 0, none⟩, 4, [b0, b1, b2, b3]⟩] 23)
      have CQ := Sha.ssum_any h _ 2 _ _ ((HT.out.below hWA).below bB) (parts_two _ _ _ P1 P2) (by simp) (by simp [Sha.cat]; omega)
      rw [show Sha.cat [⟨a, c, seed⟩, ⟨some ⟨wr.heap.size, 0, none⟩, 4, [b0, b1, b2, b3]⟩] = seed ++ tobe 4 k by rw [ht4]; simp [Sha.cat], HS.out] at CQ
      unfold Sha.prV at CQ bB
      simp only [List.length_cons, List.length_nil, Nat.zero_add, Nat.reduceAdd, World.size_alloc] at CQ bB
      have HbA : Hid (Below wr.heap.size wr ((wr.alloc (.cells #[.int .u8 (b0.toNat : Int), .int .u8 (b1.toNat : Int), .int .u8 (b2.toNat : Int), .int .u8 (b3.toNat : Int)] 5)).alloc (.cells #[.slice a seed.length c, .slice (some ⟨wr.heap.size, 0, none⟩) 4 4] 23))) := bA.trans (bB.mono (by omega))
      clear hWr hWA P1 P2 bA bB ht4
      go_wp2_with fail
      refine CQ.mono ?_
      rintro x w5 ⟨aS, rfl, hOS, hb5⟩
      clear CQ q0 q1 q2 q3 u0 u1 u2 u3
      have B5 : Hid (Below w'.heap.size w' w5) := by
        have h1 := HbA.out.trans (hb5.mono (by omega))
        exact HBk.out.trans (h1.mono HBk.out.size)
      have HRS : Hid (Rd w5 aS (Sha.sumF h (seed ++ tobe 4 k))) := Sha.Own.rd hOS
      have HlS : Hid ((Sha.sumF h (seed ++ tobe 4 k)).length = S) := by show _ = _; rw [Sha.sumF_length]; exact HS.out
      have HRM5 : Hid (Rd w5 aM mk) := HRM.out.below B5.out (Nat.le_refl _)
      clear hOS hb5 HbA HBk
      go_wp2
      go_loopw [14] (fun s14 wr => ∃ i q : Nat, s14 = .int .i64 (i : Int) ∧ i ≤ S ∧ wr = w5.drewN q) (fun s14 _ => S - (intOf s14).toNat)
      case atStart => exact ⟨0, 0, rfl, by omega, rfl⟩
      case round =>
        obtain ⟨i, q, rfl, hi, rfl⟩ := hrel
        by_cases hin : i < S ∧ p + i < N
        · have d3 : decide ((i : Int) < (S : Int)) = true := decide_eq_true (by omega)
          obtain ⟨t, ht⟩ : ∃ t, p + i = t := ⟨_, rfl⟩
          have et : (p : Int) + (i : Int) = (t : Int) := by omega
          have htN : t < N := by omega
          have d4 : decide ((t : Int) < (N : Int)) = true := decide_eq_true (by omega)
          obtain ⟨g1, o1, rfl, _, hc1⟩ := HRM5.out.resolve_left (fun e => by have := Hml.out; rw [e] at this; simp at this; omega)
          obtain ⟨g2, o2, rfl, _, hc2⟩ := HRS.out.resolve_left (fun e => by have := HlS.out; rw [e] at this; simp at this; omega)
          have y1 := hc1 t (by rw [Hml.out]; exact htN)
          have y2 := hc2 i (by rw [HlS.out]; exact hin.1)
          have hat := HAt.out k i hin.1 (by rw [hp]; exact hin.2)
          rw [hp, ht] at hat
          rw [hat] at y1
          unfold B at y1 y2
          generalize (Sha.sumF h (seed ++ tobe 4 k)).getD i 0 = z at *
          have hne : ((z.toNat : Int) != (z.toNat : Int)) = false := by simp
          have htI : (t : Int) < (N : Int) := by omega
          have hiI : (i : Int) < (S : Int) := by omega
          clear hc1 hc2 hat hin ht
          go_wp2
          go_quiet (fail)
          go_wp2
          go_roundw
          case rel => exact ⟨i + 1, _, by go_num, by omega, rfl⟩
          case measure => simp [intOf]; omega
        · have HBf : Hid (Below w'.heap.size w' (w5.drewN q)) := below_drewN B5.out q
          by_cases hiS : i < S
          · have d3 : decide ((i : Int) < (S : Int)) = true := decide_eq_true (by omega)
            obtain ⟨t, ht⟩ : ∃ t, p + i = t := ⟨_, rfl⟩
            have et : (p : Int) + (i : Int) = (t : Int) := by omega
            have d4 : decide ((t : Int) < (N : Int)) = false := decide_eq_false (by omega)
            have hge : (N : Int) ≤ (t : Int) := by omega
            have hge2 : N ≤ t := by omega
            have hpi : p + i ≤ 70000 := by omega
            clear hin ht
            go_wp2
            exact ⟨⟨k + 1, by go_num, by omega, HBf⟩, by simp [intOf]; omega⟩
          · have d3 : decide ((i : Int) < (S : Int)) = false := decide_eq_false (by omega)
            have hge : (S : Int) ≤ (i : Int) := by omega
            have hge2 : S ≤ i := by omega
            clear hin hiS
            go_wp2
            exact ⟨⟨k + 1, by go_num, by omega, HBf⟩, by simp [intOf]; omega⟩
    · obtain rfl : k = cn := by omega
      have hpN : N ≤ p := by rw [← hp]; exact HFu.out
      have hp7 : p ≤ 70000000 := by rw [← hp]; exact Nat.le_trans (Nat.mul_le_mul hk hs64) (by omega)
      have d1 : decide ((p : Int) < (N : Int)) = false := decide_eq_false (by omega)
      have B3 : Hid (Below W.heap.size W wr) := B2.out.trans (HBk.out.mono B2.out.size)
      have HRM3 : Hid (Rd wr aM mk) := HRM.out.below HBk.out (Nat.le_refl _)
      clear HBk hp hlt
      by_cases hl1 : less < 0
      · have d5 : decide (less < 0) = true := decide_eq_true hl1
        clear hl1
        go_wp2
        go_ret
        exact ⟨rfl, B3.out⟩
      have d5 : decide (less < 0) = false := decide_eq_false hl1
      by_cases hl2 : less > (N : Int)
      · have d6 : decide (less > (N : Int)) = true := decide_eq_true hl2
        have d6' : decide ((N : Int) < less) = true := decide_eq_true hl2
        clear hl1 hl2
        go_wp2
        go_ret
        exact ⟨rfl, B3.out⟩
      have d6 : decide (less > (N : Int)) = false := decide_eq_false hl2
      have d6' : decide ((N : Int) < less) = false := decide_eq_false hl2
      obtain ⟨m, rfl⟩ : ∃ m : Nat, less = (m : Int) := ⟨less.toNat, by omega⟩
      have hmN : m ≤ N := by omega
      have d6'' : decide (N < m) = false := decide_eq_false (by omega)
      have CM := HM.out wr (m : Int) B3.out
      rw [(HMV.out m (by omega)).1, (HMV.out m (by omega)).2] at CM
      have hmc : m ≤ cM := by omega
      clear hl1 hl2
      go_wp2_with fail
      refine CM.mono ?_
      rintro x w8 ⟨rL, rfl, hL⟩
      clear CM
      obtain ⟨aL, cL, eL, _, hRL⟩ := hL.own.nb
      have hll : (maskF h seed m).length = m := maskF_length h seed m (by rw [HS.out]; exact hs0)
      rw [hll] at eL
      subst eL
      have B8 : Hid (Below W.heap.size W w8) := B3.out.trans (hL.bel.mono B3.out.size)
      have htk : mk.take m = maskF h seed m := by rw [← Hmk.out]; exact maskF_take h seed N m (by rw [HS.out]; exact hs0) hmN
      have C9 := psame_any aL aM cL cM (maskF h seed m) (mk.take m) w8 hRL ((HRM3.out.below hL.bel (Nat.le_refl _)).takeP m) (by rw [hll]; omega)
      rw [htk, decide_eq_true rfl, hll] at C9
      clear hL hRL hll htk B3 HRM3
      go_wp2_with fail
      refine C9.mono ?_
      rintro x w9 ⟨rfl, q9, hw9⟩
      clear C9
      have B9 : Hid (Below W.heap.size W w9) := by rw [hw9]; exact below_drewN B8.out q9
      clear hw9
      go_wp2
      go_ret
      exact ⟨rfl, B9.out⟩

end Go.Proofs.YthnogdkkdekgpaaDoor
