import Derived.Test.YtgkbbcoagnilgaaSaysW
namespace Go.Proofs.Ytgkbbcoagnilgaa
open Go.RowKit

theorem dig_slice (c : UInt8) (d : Nat) (h : d < 10) (hc : c.toNat = 48 + d) : (ByteArray.mk #[48, 49, 50, 51, 52, 53, 54, 55, 56, 57]).extract d (d + 1) = ByteArray.mk #[c] := by
  have e : c = UInt8.ofNat (48 + d) := UInt8.toNat_inj.mp (by rw [hc]; simp; omega)
  subst e
  match d, h with
  | 0, _ => rfl
  | 1, _ => rfl
  | 2, _ => rfl
  | 3, _ => rfl
  | 4, _ => rfl
  | 5, _ => rfl
  | 6, _ => rfl
  | 7, _ => rfl
  | 8, _ => rfl
  | 9, _ => rfl

theorem ba_app2 (a b : List UInt8) : ByteArray.mk a.toArray ++ ByteArray.mk b.toArray = ByteArray.mk (a ++ b).toArray := by
  apply ByteArray.ext
  simp

theorem take_drop_step (z : List UInt8) (i n : Nat) (hi : i < z.length) (hn : n ≤ i) : (z.take (i + 1)).drop n = (z.take i).drop n ++ [z[i]] := by
  rw [List.take_add_one, List.getElem?_eq_getElem hi, List.drop_append_of_le_length (by rw [List.length_take]; omega)]
  rfl

theorem take_drop_none (z : List UInt8) (i n : Nat) (hn : i ≤ n) : (z.take i).drop n = [] := by
  apply List.drop_eq_nil_of_le
  rw [List.length_take]
  omega

set_option maxHeartbeats 4000000 in
set_option maxRecDepth 4000 in
theorem rexact_plus (b s : Nat) (X F x : Int) (w : World) (hE : bits .and .u32 ((b : Int) / 8388608) 255 = X) (hX : (X == 255) = false) (hS : (b : Int) / 2147483648 = 0) (hA : bits .and .u32 (b : Int) 2147483647 = (s : Int)) (_hb : b < 4294967296)
    (HP : Hid (∀ w, Calls Try.prog 8 #[.int .u32 (s : Int)] w fun e w' => e = .returned (.tuple #[.int .i64 F, .int .i64 x]) ∧ w' = w))
    (HT : Hid (∀ w, Calls Try.prog 9 #[.int .i64 F, .int .i64 x] w fun e w' => DocA s w e w')) :
    Calls Try.prog 5 #[.int .u32 (b : Int)] w fun e w' => ∃ z O, DocZ s z O ∧ e = .returned (.string ⟨(txt false (docG z O) (docF z O)).toArray⟩) ∧ Below w.heap.size w w' := by
  go_enter Try.func5, Try.ntmps5
  go_wp2_with fail
  refine (HP.out _).mono ?_
  rintro e w2 ⟨rfl, hw⟩
  have hw' := hw.symm
  clear hw
  subst hw'
  go_wp2_with fail
  refine (HT.out _).mono ?_
  rintro e w3 ⟨z, O, a, c, HZ, hzl, hO1, hO2, rfl, HR, HB⟩
  obtain ⟨nb, hnb⟩ : ∃ nb, nb = w3.heap.size := ⟨_, rfl⟩
  obtain ⟨W3, hW3⟩ : ∃ W3, W3 = w3.alloc (boxR false a z.length c O false none 0 0 false []) := ⟨_, rfl⟩
  have HBx : Hid (RBox W3 nb false (.slice a z.length c) O false (.slice none 0 0) false []) := by
    show RBox _ _ _ _ _ _ _ _ _
    rw [hW3, hnb]
    constructor <;> go_simp
  have HR3 : Hid (RdD W3 a z) := by rw [hW3]; exact HR.out.below ((Below.refl _ _).alloc (Nat.le_refl _) _)
  have HB3 : Hid (Below w.heap.size w W3) := by rw [hW3]; exact HB.out.alloc HB.out.size _
  have x1 := HBx.out.c1
  have x2 := HBx.out.c2
  by_cases hO : O ≤ 0
  · skip
    go_wp2
    rw [← hW3, ← hnb]
    clear hW3 hnb
    obtain ⟨P0, hP0⟩ : ∃ P0 : List UInt8, P0 = [48] := ⟨_, rfl⟩
    have HP0 : Hid (P0 = [48]) := hP0
    have hP0l : P0.length ≤ 2 := by rw [hP0]; decide
    go_loop [7, 3, 8] (fun s7 s3 _ => ∃ i : Nat, Value.int .i64 (i : Int) = s7 ∧ Value.string ⟨(P0 ++ padT z i).toArray⟩ = s3 ∧ i ≤ O.toNat) (fun s _ _ => O.toNat - (intOf s).toNat)
    case atStart => exact ⟨0, rfl, by rw [hP0]; rfl, Nat.zero_le _⟩
    case round =>
      clear hP0
      obtain ⟨i, hv7, hv3, hi⟩ := hrel
      have hv7' := hv7.symm
      have hv3' := hv3.symm
      clear hv7 hv3
      subst hv7' hv3'
      obtain ⟨T, hT⟩ : ∃ T, T = P0 ++ padT z i := ⟨_, rfl⟩
      have hTl : T.length ≤ 1100 := by rw [hT, List.length_append, padT_len]; omega
      rw [← hT]
      have HTe : Hid (T = P0 ++ padT z i) := hT
      clear hT
      by_cases hlt : (i : Int) < O
      · exact absurd hlt (by omega)
      · have hii : i = O.toNat := by omega
        have HT1 : Hid (T = [] ++ docG z O) := by
          show _ = _
          rw [HTe.out, HP0.out, hii]
          unfold docG
          rw [if_pos hO, show O.toNat = 0 by omega]; rfl
        clear hii HTe
        by_cases hf : O < z.length ∧ z ≠ []
        · have hf1 := hf.1
          have hfl := List.length_pos_iff.mpr hf.2
          have q2 : decide (O < (z.length : Int)) = true := by simpa using hf1
          have q3 : decide (0 < (z.length : Int)) = true := by simp; omega
          have HF : Hid (docF z O = List.replicate (-O).toNat 48 ++ z.drop O.toNat) := by show _ = _; unfold docF; rw [if_pos hf]
          have HFn : Hid (docF z O ≠ []) := by
            show _ ≠ _
            rw [HF.out]
            intro e
            have := congrArg List.length e
            rw [List.length_append, List.length_replicate, List.length_drop, List.length_nil] at this
            omega
          clear hf
          have hcat2 : ByteArray.mk T.toArray ++ ByteArray.mk #[46] = ByteArray.mk (T ++ [46]).toArray := ba_app2 T [46]
          go_wp2
          go_loop [9, 3] (fun s9 s3 => ∃ k : Nat, Value.int .i64 (O + (k : Int)) = s9 ∧ Value.string ⟨((T ++ [46]) ++ List.replicate k 48).toArray⟩ = s3 ∧ k ≤ (-O).toNat) (fun s _ => (-(intOf s)).toNat)
          case atStart => exact ⟨0, by simp, by rw [List.replicate_zero, List.append_nil], Nat.zero_le _⟩
          case round =>
            clear hcat2
            obtain ⟨k, hv9, hv3, hk⟩ := hrel
            have hv9' := hv9.symm
            have hv3' := hv3.symm
            clear hv9 hv3
            subst hv9' hv3'
            obtain ⟨T2, hT2⟩ : ∃ T2, T2 = (T ++ [46]) ++ List.replicate k 48 := ⟨_, rfl⟩
            have hT2l : T2.length ≤ 2200 := by rw [hT2, List.length_append, List.length_append, List.length_replicate, List.length_singleton]; omega
            rw [← hT2]
            have HT2 : Hid (T2 = (T ++ [46]) ++ List.replicate k 48) := hT2
            clear hT2
            by_cases hk0 : O + (k : Int) < 0
            · have hcat : ByteArray.mk T2.toArray ++ ByteArray.mk #[48] = ByteArray.mk ((T ++ [46]) ++ List.replicate (k + 1) 48).toArray := by
                rw [show (#[48] : Array UInt8) = [48].toArray from rfl, ba_app2, HT2.out, List.replicate_succ', List.append_assoc]
              go_wp2
              go_round
              case rel => exact ⟨k + 1, by rw [show O + ((k + 1 : Nat) : Int) = O + (k : Int) + 1 by omega], by first | (rw [← hcat]; done) | (simp; done), by omega⟩
              case measure => simp [intOf]; omega
            · have hkk : k = (-O).toNat := by omega
              rw [hkk] at HT2
              clear hkk
              go_wp2
              go_loopw [10, 3] (fun s10 s3 wr => ∃ (j n : Nat), Value.int .i64 (j : Int) = s10 ∧ Value.string ⟨(T2 ++ (z.take j).drop O.toNat).toArray⟩ = s3 ∧ j ≤ z.length ∧ wr = W3.drewN n) (fun s _ _ => z.length - (intOf s).toNat)
              case atStart => exact ⟨0, 0, rfl, by simp, Nat.zero_le _, rfl⟩
              case round =>
                obtain ⟨j, n, hv10, hv3, hj, rfl⟩ := hrel
                have hv10' := hv10.symm
                have hv3' := hv3.symm
                clear hv10 hv3
                subst hv10' hv3'
                obtain ⟨T3, hT3⟩ : ∃ T3, T3 = T2 ++ (z.take j).drop O.toNat := ⟨_, rfl⟩
                have hT3l : T3.length ≤ 3000 := by rw [hT3, List.length_append, List.length_drop, List.length_take]; omega
                rw [← hT3]
                have HT3 : Hid (T3 = T2 ++ (z.take j).drop O.toNat) := hT3
                clear hT3
                by_cases hjz : j < z.length
                · by_cases hge : O ≤ (j : Int)
                  · rcases HR3.out with h0 | ⟨g, rfl, hg, hc⟩
                    · rw [h0] at hjz; simp at hjz
                    have gA := hc j z[j] (List.getElem?_eq_getElem hjz)
                    have hcd := isD_bd (HZ.out.dig z[j] (List.getElem_mem hjz))
                    unfold DW at gA
                    obtain ⟨d, hd⟩ : ∃ d, z[j].toNat = 48 + d := ⟨z[j].toNat - 48, by omega⟩
                    have hd10 : d < 10 := by omega
                    rw [show ((z[j].toNat : Int) - 48) = (d : Int) by omega] at gA
                    have hsl := dig_slice z[j] d hd10 hd
                    have HG : Hid ((z.take (j + 1)).drop O.toNat = (z.take j).drop O.toNat ++ [z[j]]) := take_drop_step z j O.toNat hjz (by omega)
                    clear hcd hc
                    generalize z[j] = ch at hsl HG hd
                    have hcat : ByteArray.mk T3.toArray ++ ByteArray.mk #[ch] = ByteArray.mk (T2 ++ (z.take (j + 1)).drop O.toNat).toArray := by
                      rw [show (#[ch] : Array UInt8) = [ch].toArray from rfl, ba_app2, HT3.out, HG.out, List.append_assoc]
                    clear hd
                    go_wp2
                    go_quiet (fail)
                    go_wp2
                    go_roundw
                    · exact ⟨j + 1, _, by go_num, by rw [← hcat], by omega, rfl⟩
                    · simp [intOf]; omega
                  · exact absurd (show O ≤ (j : Int) by omega) hge
                · have hjj : j = z.length := by omega
                  have HE : Hid (T3 = txt false (docG z O) (docF z O)) := by
                    show _ = _
                    unfold txt
                    rw [HT3.out, HT2.out, HT1.out, hjj, List.take_length, if_neg HFn.out, HF.out]
                    simp
                  clear hjj
                  go_wp2
                  go_ret
                  rw [HE.out]
                  refine ⟨z, O, HZ.out, rfl, ?_⟩
                  have hB := HB3.out
                  (repeat' (first | with_reducible assumption | with_reducible exact Below.refl _ _ | with_reducible exact Nat.le_refl _ | with_reducible refine Below.setCell ?_ ?_ _ | with_reducible refine Below.alloc ?_ ?_ _ | with_reducible apply Below.drew | with_reducible apply below_drewN | omega | (simp; done) | (simp; omega)))
        · have HE : Hid (T = txt false (docG z O) (docF z O)) := by
            show _ = _
            unfold txt docF
            rw [if_neg hf, HT1.out]
            simp
          have hcase : ¬ O < (z.length : Int) ∨ (O < (z.length : Int) ∧ (z.length : Int) = 0) := by
            by_cases c1 : O < (z.length : Int)
            · right
              refine ⟨c1, ?_⟩
              by_cases c2 : z = []
              · rw [c2]; rfl
              · exact absurd ⟨c1, c2⟩ hf
            · exact .inl c1
          clear hf
          rcases hcase with c1 | ⟨c1, c2⟩
          · have q2 : decide (O < (z.length : Int)) = false := by simpa using c1
            go_wp2
            go_ret
            rw [HE.out]
            exact ⟨z, O, HZ.out, rfl, HB3.out⟩
          · have q2 : decide (O < (z.length : Int)) = true := by simpa using c1
            have q3 : decide (0 < (z.length : Int)) = false := by rw [c2]; decide
            go_wp2
            go_ret
            rw [HE.out]
            exact ⟨z, O, HZ.out, rfl, HB3.out⟩
  · skip
    have hz1 : z ≠ [] := fun e => hO (HZ.out.nil e)
    have hzp := List.length_pos_iff.mpr hz1
    have hq0 : ((z.length : Int) == 0) = false := by simp; omega
    have hq1 : decide (0 < (z.length : Int)) = true := by simp; omega
    have Hz1 : Hid (z ≠ []) := hz1
    clear hz1
    go_wp2
    rw [← hW3, ← hnb]
    clear hW3 hnb
    obtain ⟨P0, hP0⟩ : ∃ P0 : List UInt8, P0 = [] := ⟨_, rfl⟩
    have HP0 : Hid (P0 = []) := hP0
    have hP0l : P0.length ≤ 2 := by rw [hP0]; decide
    go_loop [7, 3, 8] (fun s7 s3 _ => ∃ i : Nat, Value.int .i64 (i : Int) = s7 ∧ Value.string ⟨(P0 ++ padT z i).toArray⟩ = s3 ∧ i ≤ O.toNat) (fun s _ _ => O.toNat - (intOf s).toNat)
    case atStart => exact ⟨0, rfl, by rw [hP0]; rfl, Nat.zero_le _⟩
    case round =>
      clear hP0
      obtain ⟨i, hv7, hv3, hi⟩ := hrel
      have hv7' := hv7.symm
      have hv3' := hv3.symm
      clear hv7 hv3
      subst hv7' hv3'
      obtain ⟨T, hT⟩ : ∃ T, T = P0 ++ padT z i := ⟨_, rfl⟩
      have hTl : T.length ≤ 1100 := by rw [hT, List.length_append, padT_len]; omega
      rw [← hT]
      have HTe : Hid (T = P0 ++ padT z i) := hT
      clear hT
      by_cases hlt : (i : Int) < O
      · by_cases hz : i < z.length
        · rcases HR3.out with h0 | ⟨g, rfl, hg, hc⟩
          · rw [h0] at hz; simp at hz
          have gA := hc i z[i] (List.getElem?_eq_getElem hz)
          have hcd := isD_bd (HZ.out.dig z[i] (List.getElem_mem hz))
          have hgd : z.getD i 48 = z[i] := by rw [List.getD_eq_getElem?_getD, List.getElem?_eq_getElem hz]; rfl
          unfold DW at gA
          obtain ⟨d, hd⟩ : ∃ d, z[i].toNat = 48 + d := ⟨z[i].toNat - 48, by omega⟩
          have hd10 : d < 10 := by omega
          rw [show ((z[i].toNat : Int) - 48) = (d : Int) by omega] at gA
          have hsl := dig_slice z[i] d hd10 hd
          have HG : Hid (padT z (i + 1) = padT z i ++ [z[i]]) := by show _ = _; rw [padT_succ, hgd]
          clear hgd hcd hc
          generalize z[i] = ch at hsl HG hd
          have hcat : ByteArray.mk T.toArray ++ ByteArray.mk #[ch] = ByteArray.mk (P0 ++ padT z (i + 1)).toArray := by
            rw [show (#[ch] : Array UInt8) = [ch].toArray from rfl, ba_app2, HTe.out, HG.out, List.append_assoc]
          clear hd
          go_wp2
          go_round
          case rel => exact ⟨i + 1, by go_num, by rw [← hcat], by omega⟩
          case measure => simp [intOf]; omega
        · have HG : Hid (padT z (i + 1) = padT z i ++ [48]) := by show _ = _; rw [padT_succ, List.getD_eq_getElem?_getD, List.getElem?_eq_none (by omega)]; rfl
          have hcat : ByteArray.mk T.toArray ++ ByteArray.mk #[48] = ByteArray.mk (P0 ++ padT z (i + 1)).toArray := by
            rw [show (#[48] : Array UInt8) = [48].toArray from rfl, ba_app2, HTe.out, HG.out, List.append_assoc]
          have hsl := dig_slice 48 0 (by decide) rfl
          go_wp2
          go_round
          case rel => exact ⟨i + 1, by go_num, by rw [← hcat], by omega⟩
          case measure => simp [intOf]; omega
      · have hii : i = O.toNat := by omega
        have HT1 : Hid (T = [] ++ docG z O) := by
          show _ = _
          rw [HTe.out, HP0.out, hii]
          unfold docG
          rw [if_neg (by omega)]
        clear hii HTe
        by_cases hf : O < z.length ∧ z ≠ []
        · have hf1 := hf.1
          have hfl := List.length_pos_iff.mpr hf.2
          have q2 : decide (O < (z.length : Int)) = true := by simpa using hf1
          have q3 : decide (0 < (z.length : Int)) = true := by simp; omega
          have HF : Hid (docF z O = List.replicate (-O).toNat 48 ++ z.drop O.toNat) := by show _ = _; unfold docF; rw [if_pos hf]
          have HFn : Hid (docF z O ≠ []) := by
            show _ ≠ _
            rw [HF.out]
            intro e
            have := congrArg List.length e
            rw [List.length_append, List.length_replicate, List.length_drop, List.length_nil] at this
            omega
          clear hf
          have hcat2 : ByteArray.mk T.toArray ++ ByteArray.mk #[46] = ByteArray.mk (T ++ [46]).toArray := ba_app2 T [46]
          go_wp2
          go_loop [9, 3] (fun s9 s3 => ∃ k : Nat, Value.int .i64 (O + (k : Int)) = s9 ∧ Value.string ⟨((T ++ [46]) ++ List.replicate k 48).toArray⟩ = s3 ∧ k ≤ (-O).toNat) (fun s _ => (-(intOf s)).toNat)
          case atStart => exact ⟨0, by simp, by rw [List.replicate_zero, List.append_nil], Nat.zero_le _⟩
          case round =>
            clear hcat2
            obtain ⟨k, hv9, hv3, hk⟩ := hrel
            have hv9' := hv9.symm
            have hv3' := hv3.symm
            clear hv9 hv3
            subst hv9' hv3'
            obtain ⟨T2, hT2⟩ : ∃ T2, T2 = (T ++ [46]) ++ List.replicate k 48 := ⟨_, rfl⟩
            have hT2l : T2.length ≤ 2200 := by rw [hT2, List.length_append, List.length_append, List.length_replicate, List.length_singleton]; omega
            rw [← hT2]
            have HT2 : Hid (T2 = (T ++ [46]) ++ List.replicate k 48) := hT2
            clear hT2
            by_cases hk0 : O + (k : Int) < 0
            · exact absurd hk0 (by omega)
            · have hkk : k = (-O).toNat := by omega
              rw [hkk] at HT2
              clear hkk
              go_wp2
              go_loopw [10, 3] (fun s10 s3 wr => ∃ (j n : Nat), Value.int .i64 (j : Int) = s10 ∧ Value.string ⟨(T2 ++ (z.take j).drop O.toNat).toArray⟩ = s3 ∧ j ≤ z.length ∧ wr = W3.drewN n) (fun s _ _ => z.length - (intOf s).toNat)
              case atStart => exact ⟨0, 0, rfl, by simp, Nat.zero_le _, rfl⟩
              case round =>
                obtain ⟨j, n, hv10, hv3, hj, rfl⟩ := hrel
                have hv10' := hv10.symm
                have hv3' := hv3.symm
                clear hv10 hv3
                subst hv10' hv3'
                obtain ⟨T3, hT3⟩ : ∃ T3, T3 = T2 ++ (z.take j).drop O.toNat := ⟨_, rfl⟩
                have hT3l : T3.length ≤ 3000 := by rw [hT3, List.length_append, List.length_drop, List.length_take]; omega
                rw [← hT3]
                have HT3 : Hid (T3 = T2 ++ (z.take j).drop O.toNat) := hT3
                clear hT3
                by_cases hjz : j < z.length
                · by_cases hge : O ≤ (j : Int)
                  · rcases HR3.out with h0 | ⟨g, rfl, hg, hc⟩
                    · rw [h0] at hjz; simp at hjz
                    have gA := hc j z[j] (List.getElem?_eq_getElem hjz)
                    have hcd := isD_bd (HZ.out.dig z[j] (List.getElem_mem hjz))
                    unfold DW at gA
                    obtain ⟨d, hd⟩ : ∃ d, z[j].toNat = 48 + d := ⟨z[j].toNat - 48, by omega⟩
                    have hd10 : d < 10 := by omega
                    rw [show ((z[j].toNat : Int) - 48) = (d : Int) by omega] at gA
                    have hsl := dig_slice z[j] d hd10 hd
                    have HG : Hid ((z.take (j + 1)).drop O.toNat = (z.take j).drop O.toNat ++ [z[j]]) := take_drop_step z j O.toNat hjz (by omega)
                    clear hcd hc
                    generalize z[j] = ch at hsl HG hd
                    have hcat : ByteArray.mk T3.toArray ++ ByteArray.mk #[ch] = ByteArray.mk (T2 ++ (z.take (j + 1)).drop O.toNat).toArray := by
                      rw [show (#[ch] : Array UInt8) = [ch].toArray from rfl, ba_app2, HT3.out, HG.out, List.append_assoc]
                    clear hd
                    go_wp2
                    go_quiet (fail)
                    go_wp2
                    go_roundw
                    · exact ⟨j + 1, _, by go_num, by rw [← hcat], by omega, rfl⟩
                    · simp [intOf]; omega
                  · have HG : Hid (T3 = T2 ++ (z.take (j + 1)).drop O.toNat) := by show _ = _; rw [HT3.out, take_drop_none z j _ (by omega), take_drop_none z (j + 1) _ (by omega)]
                    go_wp2
                    go_roundw
                    · exact ⟨j + 1, n, by go_num, by rw [← HG.out], by omega, rfl⟩
                    · simp [intOf]; omega
                · have hjj : j = z.length := by omega
                  have HE : Hid (T3 = txt false (docG z O) (docF z O)) := by
                    show _ = _
                    unfold txt
                    rw [HT3.out, HT2.out, HT1.out, hjj, List.take_length, if_neg HFn.out, HF.out]
                    simp
                  clear hjj
                  go_wp2
                  go_ret
                  rw [HE.out]
                  refine ⟨z, O, HZ.out, rfl, ?_⟩
                  have hB := HB3.out
                  (repeat' (first | with_reducible assumption | with_reducible exact Below.refl _ _ | with_reducible exact Nat.le_refl _ | with_reducible refine Below.setCell ?_ ?_ _ | with_reducible refine Below.alloc ?_ ?_ _ | with_reducible apply Below.drew | with_reducible apply below_drewN | omega | (simp; done) | (simp; omega)))
        · have HE : Hid (T = txt false (docG z O) (docF z O)) := by
            show _ = _
            unfold txt docF
            rw [if_neg hf, HT1.out]
            simp
          have hcase : ¬ O < (z.length : Int) ∨ (O < (z.length : Int) ∧ (z.length : Int) = 0) := by
            by_cases c1 : O < (z.length : Int)
            · right
              refine ⟨c1, ?_⟩
              by_cases c2 : z = []
              · rw [c2]; rfl
              · exact absurd ⟨c1, c2⟩ hf
            · exact .inl c1
          clear hf
          rcases hcase with c1 | ⟨c1, c2⟩
          · have q2 : decide (O < (z.length : Int)) = false := by simpa using c1
            go_wp2
            go_ret
            rw [HE.out]
            exact ⟨z, O, HZ.out, rfl, HB3.out⟩
          · exact absurd c2 (by omega)

set_option maxHeartbeats 4000000 in
set_option maxRecDepth 4000 in
theorem rexact_minus (b s : Nat) (X F x : Int) (w : World) (hE : bits .and .u32 ((b : Int) / 8388608) 255 = X) (hX : (X == 255) = false) (hS : (b : Int) / 2147483648 = 1) (hA : bits .and .u32 (b : Int) 2147483647 = (s : Int)) (_hb : b < 4294967296)
    (HP : Hid (∀ w, Calls Try.prog 8 #[.int .u32 (s : Int)] w fun e w' => e = .returned (.tuple #[.int .i64 F, .int .i64 x]) ∧ w' = w))
    (HT : Hid (∀ w, Calls Try.prog 9 #[.int .i64 F, .int .i64 x] w fun e w' => DocA s w e w')) :
    Calls Try.prog 5 #[.int .u32 (b : Int)] w fun e w' => ∃ z O, DocZ s z O ∧ e = .returned (.string ⟨(txt true (docG z O) (docF z O)).toArray⟩) ∧ Below w.heap.size w w' := by
  go_enter Try.func5, Try.ntmps5
  go_wp2_with fail
  refine (HP.out _).mono ?_
  rintro e w2 ⟨rfl, hw⟩
  have hw' := hw.symm
  clear hw
  subst hw'
  go_wp2_with fail
  refine (HT.out _).mono ?_
  rintro e w3 ⟨z, O, a, c, HZ, hzl, hO1, hO2, rfl, HR, HB⟩
  obtain ⟨nb, hnb⟩ : ∃ nb, nb = w3.heap.size := ⟨_, rfl⟩
  obtain ⟨W3, hW3⟩ : ∃ W3, W3 = w3.alloc (boxR false a z.length c O false none 0 0 false []) := ⟨_, rfl⟩
  have HBx : Hid (RBox W3 nb false (.slice a z.length c) O false (.slice none 0 0) false []) := by
    show RBox _ _ _ _ _ _ _ _ _
    rw [hW3, hnb]
    constructor <;> go_simp
  have HR3 : Hid (RdD W3 a z) := by rw [hW3]; exact HR.out.below ((Below.refl _ _).alloc (Nat.le_refl _) _)
  have HB3 : Hid (Below w.heap.size w W3) := by rw [hW3]; exact HB.out.alloc HB.out.size _
  have x1 := HBx.out.c1
  have x2 := HBx.out.c2
  by_cases hO : O ≤ 0
  · skip
    go_wp2
    rw [← hW3, ← hnb]
    clear hW3 hnb
    obtain ⟨P0, hP0⟩ : ∃ P0 : List UInt8, P0 = [45, 48] := ⟨_, rfl⟩
    have HP0 : Hid (P0 = [45, 48]) := hP0
    have hP0l : P0.length ≤ 2 := by rw [hP0]; decide
    go_loop [7, 3, 8] (fun s7 s3 _ => ∃ i : Nat, Value.int .i64 (i : Int) = s7 ∧ Value.string ⟨(P0 ++ padT z i).toArray⟩ = s3 ∧ i ≤ O.toNat) (fun s _ _ => O.toNat - (intOf s).toNat)
    case atStart => exact ⟨0, rfl, by rw [hP0]; rfl, Nat.zero_le _⟩
    case round =>
      clear hP0
      obtain ⟨i, hv7, hv3, hi⟩ := hrel
      have hv7' := hv7.symm
      have hv3' := hv3.symm
      clear hv7 hv3
      subst hv7' hv3'
      obtain ⟨T, hT⟩ : ∃ T, T = P0 ++ padT z i := ⟨_, rfl⟩
      have hTl : T.length ≤ 1100 := by rw [hT, List.length_append, padT_len]; omega
      rw [← hT]
      have HTe : Hid (T = P0 ++ padT z i) := hT
      clear hT
      by_cases hlt : (i : Int) < O
      · exact absurd hlt (by omega)
      · have hii : i = O.toNat := by omega
        have HT1 : Hid (T = [45] ++ docG z O) := by
          show _ = _
          rw [HTe.out, HP0.out, hii]
          unfold docG
          rw [if_pos hO, show O.toNat = 0 by omega]; rfl
        clear hii HTe
        by_cases hf : O < z.length ∧ z ≠ []
        · have hf1 := hf.1
          have hfl := List.length_pos_iff.mpr hf.2
          have q2 : decide (O < (z.length : Int)) = true := by simpa using hf1
          have q3 : decide (0 < (z.length : Int)) = true := by simp; omega
          have HF : Hid (docF z O = List.replicate (-O).toNat 48 ++ z.drop O.toNat) := by show _ = _; unfold docF; rw [if_pos hf]
          have HFn : Hid (docF z O ≠ []) := by
            show _ ≠ _
            rw [HF.out]
            intro e
            have := congrArg List.length e
            rw [List.length_append, List.length_replicate, List.length_drop, List.length_nil] at this
            omega
          clear hf
          have hcat2 : ByteArray.mk T.toArray ++ ByteArray.mk #[46] = ByteArray.mk (T ++ [46]).toArray := ba_app2 T [46]
          go_wp2
          go_loop [9, 3] (fun s9 s3 => ∃ k : Nat, Value.int .i64 (O + (k : Int)) = s9 ∧ Value.string ⟨((T ++ [46]) ++ List.replicate k 48).toArray⟩ = s3 ∧ k ≤ (-O).toNat) (fun s _ => (-(intOf s)).toNat)
          case atStart => exact ⟨0, by simp, by rw [List.replicate_zero, List.append_nil], Nat.zero_le _⟩
          case round =>
            clear hcat2
            obtain ⟨k, hv9, hv3, hk⟩ := hrel
            have hv9' := hv9.symm
            have hv3' := hv3.symm
            clear hv9 hv3
            subst hv9' hv3'
            obtain ⟨T2, hT2⟩ : ∃ T2, T2 = (T ++ [46]) ++ List.replicate k 48 := ⟨_, rfl⟩
            have hT2l : T2.length ≤ 2200 := by rw [hT2, List.length_append, List.length_append, List.length_replicate, List.length_singleton]; omega
            rw [← hT2]
            have HT2 : Hid (T2 = (T ++ [46]) ++ List.replicate k 48) := hT2
            clear hT2
            by_cases hk0 : O + (k : Int) < 0
            · have hcat : ByteArray.mk T2.toArray ++ ByteArray.mk #[48] = ByteArray.mk ((T ++ [46]) ++ List.replicate (k + 1) 48).toArray := by
                rw [show (#[48] : Array UInt8) = [48].toArray from rfl, ba_app2, HT2.out, List.replicate_succ', List.append_assoc]
              go_wp2
              go_round
              case rel => exact ⟨k + 1, by rw [show O + ((k + 1 : Nat) : Int) = O + (k : Int) + 1 by omega], by first | (rw [← hcat]; done) | (simp; done), by omega⟩
              case measure => simp [intOf]; omega
            · have hkk : k = (-O).toNat := by omega
              rw [hkk] at HT2
              clear hkk
              go_wp2
              go_loopw [10, 3] (fun s10 s3 wr => ∃ (j n : Nat), Value.int .i64 (j : Int) = s10 ∧ Value.string ⟨(T2 ++ (z.take j).drop O.toNat).toArray⟩ = s3 ∧ j ≤ z.length ∧ wr = W3.drewN n) (fun s _ _ => z.length - (intOf s).toNat)
              case atStart => exact ⟨0, 0, rfl, by simp, Nat.zero_le _, rfl⟩
              case round =>
                obtain ⟨j, n, hv10, hv3, hj, rfl⟩ := hrel
                have hv10' := hv10.symm
                have hv3' := hv3.symm
                clear hv10 hv3
                subst hv10' hv3'
                obtain ⟨T3, hT3⟩ : ∃ T3, T3 = T2 ++ (z.take j).drop O.toNat := ⟨_, rfl⟩
                have hT3l : T3.length ≤ 3000 := by rw [hT3, List.length_append, List.length_drop, List.length_take]; omega
                rw [← hT3]
                have HT3 : Hid (T3 = T2 ++ (z.take j).drop O.toNat) := hT3
                clear hT3
                by_cases hjz : j < z.length
                · by_cases hge : O ≤ (j : Int)
                  · rcases HR3.out with h0 | ⟨g, rfl, hg, hc⟩
                    · rw [h0] at hjz; simp at hjz
                    have gA := hc j z[j] (List.getElem?_eq_getElem hjz)
                    have hcd := isD_bd (HZ.out.dig z[j] (List.getElem_mem hjz))
                    unfold DW at gA
                    obtain ⟨d, hd⟩ : ∃ d, z[j].toNat = 48 + d := ⟨z[j].toNat - 48, by omega⟩
                    have hd10 : d < 10 := by omega
                    rw [show ((z[j].toNat : Int) - 48) = (d : Int) by omega] at gA
                    have hsl := dig_slice z[j] d hd10 hd
                    have HG : Hid ((z.take (j + 1)).drop O.toNat = (z.take j).drop O.toNat ++ [z[j]]) := take_drop_step z j O.toNat hjz (by omega)
                    clear hcd hc
                    generalize z[j] = ch at hsl HG hd
                    have hcat : ByteArray.mk T3.toArray ++ ByteArray.mk #[ch] = ByteArray.mk (T2 ++ (z.take (j + 1)).drop O.toNat).toArray := by
                      rw [show (#[ch] : Array UInt8) = [ch].toArray from rfl, ba_app2, HT3.out, HG.out, List.append_assoc]
                    clear hd
                    go_wp2
                    go_quiet (fail)
                    go_wp2
                    go_roundw
                    · exact ⟨j + 1, _, by go_num, by rw [← hcat], by omega, rfl⟩
                    · simp [intOf]; omega
                  · exact absurd (show O ≤ (j : Int) by omega) hge
                · have hjj : j = z.length := by omega
                  have HE : Hid (T3 = txt true (docG z O) (docF z O)) := by
                    show _ = _
                    unfold txt
                    rw [HT3.out, HT2.out, HT1.out, hjj, List.take_length, if_neg HFn.out, HF.out]
                    simp
                  clear hjj
                  go_wp2
                  go_ret
                  rw [HE.out]
                  refine ⟨z, O, HZ.out, rfl, ?_⟩
                  have hB := HB3.out
                  (repeat' (first | with_reducible assumption | with_reducible exact Below.refl _ _ | with_reducible exact Nat.le_refl _ | with_reducible refine Below.setCell ?_ ?_ _ | with_reducible refine Below.alloc ?_ ?_ _ | with_reducible apply Below.drew | with_reducible apply below_drewN | omega | (simp; done) | (simp; omega)))
        · have HE : Hid (T = txt true (docG z O) (docF z O)) := by
            show _ = _
            unfold txt docF
            rw [if_neg hf, HT1.out]
            simp
          have hcase : ¬ O < (z.length : Int) ∨ (O < (z.length : Int) ∧ (z.length : Int) = 0) := by
            by_cases c1 : O < (z.length : Int)
            · right
              refine ⟨c1, ?_⟩
              by_cases c2 : z = []
              · rw [c2]; rfl
              · exact absurd ⟨c1, c2⟩ hf
            · exact .inl c1
          clear hf
          rcases hcase with c1 | ⟨c1, c2⟩
          · have q2 : decide (O < (z.length : Int)) = false := by simpa using c1
            go_wp2
            go_ret
            rw [HE.out]
            exact ⟨z, O, HZ.out, rfl, HB3.out⟩
          · have q2 : decide (O < (z.length : Int)) = true := by simpa using c1
            have q3 : decide (0 < (z.length : Int)) = false := by rw [c2]; decide
            go_wp2
            go_ret
            rw [HE.out]
            exact ⟨z, O, HZ.out, rfl, HB3.out⟩
  · skip
    have hz1 : z ≠ [] := fun e => hO (HZ.out.nil e)
    have hzp := List.length_pos_iff.mpr hz1
    have hq0 : ((z.length : Int) == 0) = false := by simp; omega
    have hq1 : decide (0 < (z.length : Int)) = true := by simp; omega
    have Hz1 : Hid (z ≠ []) := hz1
    clear hz1
    go_wp2
    rw [← hW3, ← hnb]
    clear hW3 hnb
    obtain ⟨P0, hP0⟩ : ∃ P0 : List UInt8, P0 = [45] := ⟨_, rfl⟩
    have HP0 : Hid (P0 = [45]) := hP0
    have hP0l : P0.length ≤ 2 := by rw [hP0]; decide
    go_loop [7, 3, 8] (fun s7 s3 _ => ∃ i : Nat, Value.int .i64 (i : Int) = s7 ∧ Value.string ⟨(P0 ++ padT z i).toArray⟩ = s3 ∧ i ≤ O.toNat) (fun s _ _ => O.toNat - (intOf s).toNat)
    case atStart => exact ⟨0, rfl, by rw [hP0]; rfl, Nat.zero_le _⟩
    case round =>
      clear hP0
      obtain ⟨i, hv7, hv3, hi⟩ := hrel
      have hv7' := hv7.symm
      have hv3' := hv3.symm
      clear hv7 hv3
      subst hv7' hv3'
      obtain ⟨T, hT⟩ : ∃ T, T = P0 ++ padT z i := ⟨_, rfl⟩
      have hTl : T.length ≤ 1100 := by rw [hT, List.length_append, padT_len]; omega
      rw [← hT]
      have HTe : Hid (T = P0 ++ padT z i) := hT
      clear hT
      by_cases hlt : (i : Int) < O
      · by_cases hz : i < z.length
        · rcases HR3.out with h0 | ⟨g, rfl, hg, hc⟩
          · rw [h0] at hz; simp at hz
          have gA := hc i z[i] (List.getElem?_eq_getElem hz)
          have hcd := isD_bd (HZ.out.dig z[i] (List.getElem_mem hz))
          have hgd : z.getD i 48 = z[i] := by rw [List.getD_eq_getElem?_getD, List.getElem?_eq_getElem hz]; rfl
          unfold DW at gA
          obtain ⟨d, hd⟩ : ∃ d, z[i].toNat = 48 + d := ⟨z[i].toNat - 48, by omega⟩
          have hd10 : d < 10 := by omega
          rw [show ((z[i].toNat : Int) - 48) = (d : Int) by omega] at gA
          have hsl := dig_slice z[i] d hd10 hd
          have HG : Hid (padT z (i + 1) = padT z i ++ [z[i]]) := by show _ = _; rw [padT_succ, hgd]
          clear hgd hcd hc
          generalize z[i] = ch at hsl HG hd
          have hcat : ByteArray.mk T.toArray ++ ByteArray.mk #[ch] = ByteArray.mk (P0 ++ padT z (i + 1)).toArray := by
            rw [show (#[ch] : Array UInt8) = [ch].toArray from rfl, ba_app2, HTe.out, HG.out, List.append_assoc]
          clear hd
          go_wp2
          go_round
          case rel => exact ⟨i + 1, by go_num, by rw [← hcat], by omega⟩
          case measure => simp [intOf]; omega
        · have HG : Hid (padT z (i + 1) = padT z i ++ [48]) := by show _ = _; rw [padT_succ, List.getD_eq_getElem?_getD, List.getElem?_eq_none (by omega)]; rfl
          have hcat : ByteArray.mk T.toArray ++ ByteArray.mk #[48] = ByteArray.mk (P0 ++ padT z (i + 1)).toArray := by
            rw [show (#[48] : Array UInt8) = [48].toArray from rfl, ba_app2, HTe.out, HG.out, List.append_assoc]
          have hsl := dig_slice 48 0 (by decide) rfl
          go_wp2
          go_round
          case rel => exact ⟨i + 1, by go_num, by rw [← hcat], by omega⟩
          case measure => simp [intOf]; omega
      · have hii : i = O.toNat := by omega
        have HT1 : Hid (T = [45] ++ docG z O) := by
          show _ = _
          rw [HTe.out, HP0.out, hii]
          unfold docG
          rw [if_neg (by omega)]
        clear hii HTe
        by_cases hf : O < z.length ∧ z ≠ []
        · have hf1 := hf.1
          have hfl := List.length_pos_iff.mpr hf.2
          have q2 : decide (O < (z.length : Int)) = true := by simpa using hf1
          have q3 : decide (0 < (z.length : Int)) = true := by simp; omega
          have HF : Hid (docF z O = List.replicate (-O).toNat 48 ++ z.drop O.toNat) := by show _ = _; unfold docF; rw [if_pos hf]
          have HFn : Hid (docF z O ≠ []) := by
            show _ ≠ _
            rw [HF.out]
            intro e
            have := congrArg List.length e
            rw [List.length_append, List.length_replicate, List.length_drop, List.length_nil] at this
            omega
          clear hf
          have hcat2 : ByteArray.mk T.toArray ++ ByteArray.mk #[46] = ByteArray.mk (T ++ [46]).toArray := ba_app2 T [46]
          go_wp2
          go_loop [9, 3] (fun s9 s3 => ∃ k : Nat, Value.int .i64 (O + (k : Int)) = s9 ∧ Value.string ⟨((T ++ [46]) ++ List.replicate k 48).toArray⟩ = s3 ∧ k ≤ (-O).toNat) (fun s _ => (-(intOf s)).toNat)
          case atStart => exact ⟨0, by simp, by rw [List.replicate_zero, List.append_nil], Nat.zero_le _⟩
          case round =>
            clear hcat2
            obtain ⟨k, hv9, hv3, hk⟩ := hrel
            have hv9' := hv9.symm
            have hv3' := hv3.symm
            clear hv9 hv3
            subst hv9' hv3'
            obtain ⟨T2, hT2⟩ : ∃ T2, T2 = (T ++ [46]) ++ List.replicate k 48 := ⟨_, rfl⟩
            have hT2l : T2.length ≤ 2200 := by rw [hT2, List.length_append, List.length_append, List.length_replicate, List.length_singleton]; omega
            rw [← hT2]
            have HT2 : Hid (T2 = (T ++ [46]) ++ List.replicate k 48) := hT2
            clear hT2
            by_cases hk0 : O + (k : Int) < 0
            · exact absurd hk0 (by omega)
            · have hkk : k = (-O).toNat := by omega
              rw [hkk] at HT2
              clear hkk
              go_wp2
              go_loopw [10, 3] (fun s10 s3 wr => ∃ (j n : Nat), Value.int .i64 (j : Int) = s10 ∧ Value.string ⟨(T2 ++ (z.take j).drop O.toNat).toArray⟩ = s3 ∧ j ≤ z.length ∧ wr = W3.drewN n) (fun s _ _ => z.length - (intOf s).toNat)
              case atStart => exact ⟨0, 0, rfl, by simp, Nat.zero_le _, rfl⟩
              case round =>
                obtain ⟨j, n, hv10, hv3, hj, rfl⟩ := hrel
                have hv10' := hv10.symm
                have hv3' := hv3.symm
                clear hv10 hv3
                subst hv10' hv3'
                obtain ⟨T3, hT3⟩ : ∃ T3, T3 = T2 ++ (z.take j).drop O.toNat := ⟨_, rfl⟩
                have hT3l : T3.length ≤ 3000 := by rw [hT3, List.length_append, List.length_drop, List.length_take]; omega
                rw [← hT3]
                have HT3 : Hid (T3 = T2 ++ (z.take j).drop O.toNat) := hT3
                clear hT3
                by_cases hjz : j < z.length
                · by_cases hge : O ≤ (j : Int)
                  · rcases HR3.out with h0 | ⟨g, rfl, hg, hc⟩
                    · rw [h0] at hjz; simp at hjz
                    have gA := hc j z[j] (List.getElem?_eq_getElem hjz)
                    have hcd := isD_bd (HZ.out.dig z[j] (List.getElem_mem hjz))
                    unfold DW at gA
                    obtain ⟨d, hd⟩ : ∃ d, z[j].toNat = 48 + d := ⟨z[j].toNat - 48, by omega⟩
                    have hd10 : d < 10 := by omega
                    rw [show ((z[j].toNat : Int) - 48) = (d : Int) by omega] at gA
                    have hsl := dig_slice z[j] d hd10 hd
                    have HG : Hid ((z.take (j + 1)).drop O.toNat = (z.take j).drop O.toNat ++ [z[j]]) := take_drop_step z j O.toNat hjz (by omega)
                    clear hcd hc
                    generalize z[j] = ch at hsl HG hd
                    have hcat : ByteArray.mk T3.toArray ++ ByteArray.mk #[ch] = ByteArray.mk (T2 ++ (z.take (j + 1)).drop O.toNat).toArray := by
                      rw [show (#[ch] : Array UInt8) = [ch].toArray from rfl, ba_app2, HT3.out, HG.out, List.append_assoc]
                    clear hd
                    go_wp2
                    go_quiet (fail)
                    go_wp2
                    go_roundw
                    · exact ⟨j + 1, _, by go_num, by rw [← hcat], by omega, rfl⟩
                    · simp [intOf]; omega
                  · have HG : Hid (T3 = T2 ++ (z.take (j + 1)).drop O.toNat) := by show _ = _; rw [HT3.out, take_drop_none z j _ (by omega), take_drop_none z (j + 1) _ (by omega)]
                    go_wp2
                    go_roundw
                    · exact ⟨j + 1, n, by go_num, by rw [← HG.out], by omega, rfl⟩
                    · simp [intOf]; omega
                · have hjj : j = z.length := by omega
                  have HE : Hid (T3 = txt true (docG z O) (docF z O)) := by
                    show _ = _
                    unfold txt
                    rw [HT3.out, HT2.out, HT1.out, hjj, List.take_length, if_neg HFn.out, HF.out]
                    simp
                  clear hjj
                  go_wp2
                  go_ret
                  rw [HE.out]
                  refine ⟨z, O, HZ.out, rfl, ?_⟩
                  have hB := HB3.out
                  (repeat' (first | with_reducible assumption | with_reducible exact Below.refl _ _ | with_reducible exact Nat.le_refl _ | with_reducible refine Below.setCell ?_ ?_ _ | with_reducible refine Below.alloc ?_ ?_ _ | with_reducible apply Below.drew | with_reducible apply below_drewN | omega | (simp; done) | (simp; omega)))
        · have HE : Hid (T = txt true (docG z O) (docF z O)) := by
            show _ = _
            unfold txt docF
            rw [if_neg hf, HT1.out]
            simp
          have hcase : ¬ O < (z.length : Int) ∨ (O < (z.length : Int) ∧ (z.length : Int) = 0) := by
            by_cases c1 : O < (z.length : Int)
            · right
              refine ⟨c1, ?_⟩
              by_cases c2 : z = []
              · rw [c2]; rfl
              · exact absurd ⟨c1, c2⟩ hf
            · exact .inl c1
          clear hf
          rcases hcase with c1 | ⟨c1, c2⟩
          · have q2 : decide (O < (z.length : Int)) = false := by simpa using c1
            go_wp2
            go_ret
            rw [HE.out]
            exact ⟨z, O, HZ.out, rfl, HB3.out⟩
          · exact absurd c2 (by omega)

end Go.Proofs.Ytgkbbcoagnilgaa
