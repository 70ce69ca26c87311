import Derived.Test.YtkkcmfkegbdgjaaRef8
namespace Go.Proofs.Ytkkcmfkegbdgjaa
open Go.RowKit

theorem shk_clamp (k : Int) : (if k < 0 then 0 else if 0 ≤ (131072 : Int) ∧ (131072 : Int) < k then 131072 else k) = ((shk k : Nat) : Int) := by
  unfold shk
  by_cases h : k < 0
  · rw [if_pos h, if_pos h]; rfl
  · rw [if_neg h, if_neg h]
    by_cases h2 : k ≤ 131072
    · rw [if_neg (fun h3 => by omega), if_pos h2]; omega
    · rw [if_pos ⟨by omega, by omega⟩, if_neg h2]; rfl
theorem shk_le (k : Int) : shk k ≤ 131072 := by unfold shk; split; omega; split <;> omega

set_option maxHeartbeats 2000000 in
theorem rshl_nm (k : Int) (v : Value) (xs : List Nat) (w : World) (hv : Nm w v xs) (h1 : xs.length ≤ 10000000) :
    Calls Try.prog 41 #[v, .int .i64 k] w fun e w' => ∃ r, e = .returned r ∧ Ow w' w.heap.size r (dg Bs (nv Bs xs * 2 ^ shk k)) ∧ Below w.heap.size w w' := by
  have CK := clamped_any k 131072 w
  rw [shk_clamp] at CK
  have hK := shk_le k
  obtain ⟨K, HK⟩ : ∃ K, Hid (shk k = K) := ⟨_, rfl⟩
  rw [HK.out] at CK hK ⊢
  obtain ⟨q, hq⟩ : ∃ q, K / 32 = q := ⟨_, rfl⟩
  obtain ⟨s, hs⟩ : ∃ s, K % 32 = s := ⟨_, rfl⟩
  have hs32 : s < 32 := by omega
  have hq4 : q ≤ 4096 := by omega
  have eq1 : Int.tdiv (K : Int) 32 = (q : Int) := by rw [Int.tdiv_eq_ediv_of_nonneg (by omega)]; omega
  have eq2 : (K : Int) / 32 = (q : Int) := by omega
  have es1 : Int.tmod (K : Int) 32 = (s : Int) := by rw [Int.tmod_eq_emod_of_nonneg (by omega)]; omega
  have es2 : (K : Int) % 32 = (s : Int) := by omega
  have HKK : Hid (K = 32 * q + s) := by show _ = _; omega
  have HN : Hid (Nm w v xs) := hv
  have LX : Hid ((dg Bs (nv Bs xs)).length ≤ 10000000) := dgl_arg xs _ hv.sm h1
  obtain ⟨V, HV⟩ : ∃ V, Hid (nv Bs xs = V) := ⟨_, rfl⟩
  rw [HV.out] at LX ⊢
  have HN0 : Hid (OB w.heap.size w w (.slice none 0 0) (List.replicate 0 0)) := OB.nil w
  clear hv hq hs
  go_enter Try.func41, Try.ntmps41
  go_wp2_with fail
  refine CK.mono ?_
  clear CK
  rintro e w ⟨rfl, rfl⟩
  go_wp2
  go_loopw [5, 6] (fun s5 s6 wr => ∃ i : Nat, s6 = .int .i64 (i : Int) ∧ i ≤ q ∧ Hid (OB w.heap.size w wr s5 (List.replicate i 0))) (fun _ t _ => q - (intOf t).toNat)
  case atStart => exact ⟨0, rfl, Nat.zero_le _, HN0⟩
  case round =>
    clear HN0
    obtain ⟨i, rfl, hi, HI⟩ := hrel
    by_cases hlt : i < q
    · have HL : Hid ((List.replicate i 0).length ≤ 1000000000) := by show _ ≤ _; rw [List.length_replicate]; omega
      have hiI : (i : Int) < (q : Int) := by omega
      go_wp2_with (at_builtin; refine append_one (w := w) rfl (.tmp 16) (.tmp 17) rfl w.heap.size _ (List.replicate i 0) 0 rfl HI.out rfl HL.out (Nat.le_refl _) ?_; intro v5 w5 h5)
      have HO : Hid (OB w.heap.size w w5 v5 (List.replicate (i + 1) 0)) := by rw [List.replicate_succ']; exact h5
      clear h5
      go_wp2
      go_roundw
      case rel => exact ⟨i + 1, by go_num, by omega, HO⟩
      case measure => simp [intOf]; omega
    · obtain rfl : i = q := by omega
      have hiI : ¬ (i : Int) < (i : Int) := by omega
      have CP := rproper_nm v xs wr (HN.out.below HI.out.bel (Nat.le_refl _)) (by omega)
      rw [HV.out] at CP
      go_wp2_with fail
      refine CP.mono ?_
      clear CP
      rintro e w1 ⟨p, rfl, hp, hbp⟩
      have HB1 : Hid (Below w.heap.size w w1) := HI.out.bel.trans (hbp.mono HI.out.bel.size)
      have hnil : ∀ ao n c, p = .slice ao n c → ao = none → n = 0 ∧ c = 0 := fun ao n c e1 e2 => by
        rcases hp.2 with ⟨e3, _⟩ | ⟨g, cap, cur, e3, _⟩
        · rw [e3] at e1; cases e1; exact ⟨rfl, rfl⟩
        · rw [e3] at e1; cases e1; cases e2
      obtain ⟨ap, cp, rfl, hcp, hrp, hsp⟩ := hp.nm (dg_sm Bs_two _)
      have hnil2 := hnil ap _ cp rfl
      have HRP : Hid (Rn w1 ap (dg Bs V)) := hrp
      have HO1 : Hid (Ow w1 w.heap.size u5 (List.replicate i 0)) := HI.out.own.below hbp (Nat.le_refl _)
      have hw1 : w.heap.size ≤ w1.heap.size := HB1.out.size
      obtain ⟨ld, Hld⟩ : ∃ n, Hid ((dg Bs V).length = n) := ⟨_, rfl⟩
      have hld := LX.out
      rw [Hld.out] at hnil2 hld ⊢
      clear hp hbp hnil hcp hrp hsp
      go_wp2_with (at_builtin; refine append_rn rfl (.tmp 19) (.tmp 21) rfl w.heap.size _ (List.replicate i 0) rfl HO1.out ap ld cp (dg Bs V) rfl Hld.out hnil2 HRP.out (by rw [List.length_replicate]; omega) hw1 ?_; intro v5 w5 h5 h6)
      have HL0 : Hid (∃ L, OB w.heap.size w w5 v5 L ∧ Sm Bs L ∧ nv Bs L = V * Bs ^ i * 2 ^ 0 ∧ L.length ≤ 20000000 + 0) := by
        refine ⟨List.replicate i 0 ++ dg Bs V, ⟨h5, HB1.out.grown h6 hw1 (own_block HO1.out)⟩, (Sm.zeros _ Bs_pos).append (dg_sm Bs_two _), ?_, ?_⟩
        · rw [nv_append, nv_zeros, List.length_replicate, dg_nv Bs_two, Nat.zero_add, Nat.pow_zero, Nat.mul_one, Nat.mul_comm]
        · rw [List.length_append, List.length_replicate, Hld.out]; omega
      clear h5 h6 HO1 HRP hnil2 hw1 HB1 HI
      go_wp2
      go_loopw [5, 7] (fun s5 s7 wq => ∃ j : Nat, s7 = .int .i64 (j : Int) ∧ j ≤ s ∧ Hid (∃ L, OB w.heap.size w wq s5 L ∧ Sm Bs L ∧ nv Bs L = V * Bs ^ i * 2 ^ j ∧ L.length ≤ 20000000 + j)) (fun _ t _ => s - (intOf t).toNat)
      case atStart => exact ⟨0, rfl, Nat.zero_le _, HL0⟩
      case round =>
        clear HL0
        obtain ⟨j, rfl, hj, HJ⟩ := hrel
        obtain ⟨L, hL1, hL2, hL3, hL4⟩ := HJ.out
        by_cases hjs : j < s
        · have hjI : (j : Int) < (s : Int) := by omega
          obtain ⟨al, cl, rfl, hcl, hrl, _⟩ := hL1.own.nm hL2
          have CD := doubled_gen al cl false L wr hrl hL2 (by omega)
          rw [show false.toNat = 0 from rfl, Nat.add_zero, hL3] at CD
          have HB : Hid (Below w.heap.size w wr) := hL1.bel
          have hll : L.length ≤ 20000000 + j := hL4
          clear hL1 hL2 hL3 hL4 hcl hrl HJ
          go_wp2_with fail
          refine CD.mono ?_
          clear CD
          rintro e w2 ⟨r2, L2, rfl, o2, s2, v2, l2, b2⟩
          have HO : Hid (∃ L, OB w.heap.size w w2 r2 L ∧ Sm Bs L ∧ nv Bs L = V * Bs ^ i * 2 ^ (j + 1) ∧ L.length ≤ 20000000 + (j + 1)) := ⟨L2, ⟨o2.base HB.out.size, HB.out.trans (b2.mono HB.out.size)⟩, s2, by rw [v2, Nat.pow_succ]; ac_rfl, by omega⟩
          clear o2 s2 v2 l2 b2
          go_wp2
          go_roundw
          case rel => exact ⟨j + 1, by go_num, by omega, HO⟩
          case measure => simp [intOf]; omega
        · obtain rfl : j = s := by omega
          have hjI : ¬ (j : Int) < (j : Int) := by omega
          have C := hL1.proper hL2 (by omega)
          rw [hL3, Nat.mul_assoc, pow_32 i j K HKK.out] at C
          clear hL1 hL2 hL3 hL4 HJ
          go_wp2_with fail
          refine C.mono ?_
          clear C
          rintro e w6 ⟨r, rfl, h6, h7⟩
          have HR : Hid (Ow w6 w.heap.size r (dg Bs (V * 2 ^ K)) ∧ Below w.heap.size w w6) := ⟨h6, h7⟩
          clear h6 h7
          go_wp2
          go_ret
          exact ⟨r, rfl, HR.out⟩

end Go.Proofs.Ytkkcmfkegbdgjaa
