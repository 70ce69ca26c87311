import Derived.Test.YtkkcmfkegbdgjaaRef6
namespace Go.Proofs.Ytkkcmfkegbdgjaa
open Go.RowKit

theorem pow_256 (n : Nat) : 256 ^ n = 2 ^ (8 * n) := by rw [Nat.pow_mul]
theorem lst_of (V n : Nat) (h1 : V < 256 ^ n) (h2 : n = 0 ∨ 256 ^ (n - 1) ≤ V) : lst V = n := by
  unfold lst
  rw [pow_256] at h1
  rcases Nat.eq_zero_or_pos n with h0 | h0
  · subst h0
    have : V = 0 := by simp at h1; exact h1
    subst this
    rfl
  · have h3 : 256 ^ (n - 1) ≤ V := by rcases h2 with h | h <;> omega
    rw [pow_256] at h3
    have a1 := bl_lt V
    have hV : V ≠ 0 := fun e => by
      rw [e] at h3
      have := Nat.pow_pos (n := 8 * (n - 1)) (show 0 < 2 by decide)
      omega
    have a2 := bl_le V hV
    have b1 : bl V ≤ 8 * n := by
      rcases Nat.lt_or_ge (8 * n) (bl V) with h | h
      · exfalso
        have : 2 ^ (8 * n) ≤ 2 ^ (bl V - 1) := Nat.pow_le_pow_right (by decide) (by omega)
        omega
      · exact h
    have b2 : 8 * (n - 1) < bl V := by
      rcases Nat.lt_or_ge (8 * (n - 1)) (bl V) with h | h
      · exact h
      · exfalso
        have : 2 ^ bl V ≤ 2 ^ (8 * (n - 1)) := Nat.pow_le_pow_right (by decide) h
        omega
    omega
theorem lst_lt (V : Nat) : V < 256 ^ lst V := by
  rw [pow_256]
  unfold lst
  exact Nat.lt_of_lt_of_le (bl_lt V) (Nat.pow_le_pow_right (by decide) (by omega))

theorem tobe_take (n V k : Nat) (hk : k < n) : (tobe n V).take (k + 1) = (tobe n V).take k ++ [UInt8.ofNat (V / 256 ^ (n - 1 - k) % 256)] := by
  rw [List.take_succ_eq_append_getElem (by rw [tobe_length]; exact hk)]
  simp [tobe]
theorem tobe_pad (n m V : Nat) (h : V < 256 ^ m) (hm : m ≤ n) : List.replicate (n - m) 0 ++ tobe m V = tobe n V := by
  apply List.ext_getElem
  · simp [tobe_length]; omega
  · intro j h1 h2
    rw [tobe_length] at h2
    by_cases hj : j < n - m
    · rw [List.getElem_append_left (by simpa using hj), List.getElem_replicate]
      simp only [tobe, List.getElem_map, List.getElem_range]
      have : V / 256 ^ (n - 1 - j) = 0 := Nat.div_eq_of_lt (Nat.lt_of_lt_of_le h (Nat.pow_le_pow_right (by decide) (by omega)))
      rw [this]
      rfl
    · rw [List.getElem_append_right (by simp; omega)]
      simp only [tobe, List.getElem_map, List.getElem_range, List.length_replicate]
      congr 4
      omega

set_option maxHeartbeats 1000000 in
theorem rbytes_any (ax : Option Addr) (cx : Nat) (xs : List Nat) (w : World) (hx : Rn w ax xs) (sx : Sm Bs xs) (h1 : xs.length ≤ 10000000) :
    Calls Try.prog 38 #[.slice ax xs.length cx] w fun e w' => ∃ r, e = .returned r ∧ Owb w' w.heap.size r (tobe (lst (nv Bs xs)) (nv Bs xs)) ∧ Below w.heap.size w w' := by
  have HX : Hid (Rn w ax xs) := hx
  have HSX : Hid (Sm Bs xs) := sx
  have HU : Hid (nv Bs xs < 256 ^ (4 * xs.length)) := by
    have := nv_lt Bs_pos sx
    rw [Bs_256, ← Nat.pow_mul] at this
    exact this
  obtain ⟨V, HV⟩ : ∃ V, Hid (nv Bs xs = V) := ⟨_, rfl⟩
  rw [HV.out] at HU ⊢
  have HN0 : Hid (OBb w.heap.size w w (.slice none 0 0) []) := OBb.nil w
  obtain ⟨M, HM⟩ : ∃ M, Hid (4 * xs.length = M) := ⟨_, rfl⟩
  rw [HM.out] at HU
  have eM : (4 : Int) * (xs.length : Int) = (M : Int) := by rw [← HM.out]; omega
  have hM : M ≤ 40000000 := by rw [← HM.out]; omega
  clear hx sx
  go_enter Try.func38, Try.ntmps38
  go_wp2
  go_loopw [3] (fun s wr => ∃ k : Nat, s = .int .i64 (k : Int) ∧ k ≤ M ∧ wr = w ∧ Hid (V < 256 ^ k)) (fun s _ => (intOf s).toNat)
  case atStart => exact ⟨M, rfl, Nat.le_refl _, rfl, HU⟩
  case round =>
    obtain ⟨k, rfl, hk, hw, HI⟩ := hrel
    have hw2 := hw.symm
    clear hw
    subst hw2
    by_cases hz : 0 < k ∧ V / 256 ^ (k - 1) % 256 = 0
    · obtain ⟨k, rfl⟩ : ∃ j, k = j + 1 := ⟨k - 1, by omega⟩
      rw [Nat.add_sub_cancel] at hz
      have C := byteAt_any ax cx k xs w HX.out HSX.out (by omega)
      rw [HV.out, hz.2, show ((0 : Nat) : Int) = 0 from rfl] at C
      have HI1 : Hid (V < 256 ^ k) := by
        have h3 := HI.out
        rw [Nat.pow_succ] at h3
        have h4 : V / 256 ^ k < 256 := Nat.div_lt_of_lt_mul h3
        have h5 : V / 256 ^ k = 0 := by have h6 := hz.2; generalize V / 256 ^ k = q at h4 h6 ⊢; omega
        exact (Nat.div_eq_zero_iff_lt (Nat.pow_pos (by decide))).1 h5
      have e1 : ((k + 1 : Nat) : Int) - 1 = (k : Int) := by omega
      clear hz
      go_wp2_with fail
      refine C.mono ?_
      clear C
      rintro e w ⟨rfl, rfl⟩
      go_wp2
      go_roundw
      case rel => first | exact ⟨k, rfl, by omega, rfl, HI1⟩ | exact ⟨k, rfl, by omega, trivial, HI1⟩
      case measure => simp [intOf]
    · have HL : Hid (lst V = k) := lst_of V k HI.out (by
        rcases Nat.eq_zero_or_pos k with h | h
        · exact .inl h
        · right
          rcases Nat.lt_or_ge V (256 ^ (k - 1)) with h3 | h3
          · exact absurd ⟨h, by rw [Nat.div_eq_of_lt h3]⟩ hz
          · exact h3)
      have HO0 : Hid (OBb w.heap.size w w (.slice none 0 0) ((tobe k V).take (k - k))) := by rw [Nat.sub_self]; exact HN0.out
      rcases k with _ | k
      · clear hz
        rw [show ((0 : Nat) : Int) = 0 from rfl]
        go_wp2
        go_loopw [4, 5] (fun s4 s5 wq => s4 = .slice none 0 0 ∧ s5 = .int .i64 (-1) ∧ wq = w) (fun _ _ _ => 0)
        case atStart => exact ⟨rfl, rfl, rfl⟩
        case round =>
          obtain ⟨rfl, rfl, rfl⟩ := hrel
          go_wp2
          go_ret
          rw [HL.out]
          exact ⟨_, rfl, Owb.nil _ _, Below.refl _ _⟩
      · rw [Nat.add_sub_cancel] at hz
        have C := byteAt_any ax cx k xs w HX.out HSX.out (by omega)
        rw [HV.out] at C
        obtain ⟨z, Hz⟩ : ∃ z, Hid (V / 256 ^ k % 256 = z) := ⟨_, rfl⟩
        rw [Hz.out] at C hz
        have hz2 : ((z : Int) == 0) = false := by simp only [beq_eq_false_iff_ne]; omega
        have e1 : ((k + 1 : Nat) : Int) - 1 = (k : Int) := by omega
        clear hz
        go_wp2_with fail
        refine C.mono ?_
        clear C
        rintro e w ⟨rfl, rfl⟩
        go_wp2
        go_loopw [4, 5] (fun s4 s5 wq => ∃ j : Nat, s5 = .int .i64 ((j : Int) - 1) ∧ j ≤ k + 1 ∧ Hid (OBb w.heap.size w wq s4 ((tobe (k + 1) V).take (k + 1 - j)))) (fun _ s _ => (intOf s + 1).toNat)
        case atStart => exact ⟨k + 1, by first | rfl | (congr 1; omega), Nat.le_refl _, HO0⟩
        case round =>
          clear HO0
          obtain ⟨j, rfl, hj, HJ⟩ := hrel
          rcases j with _ | j
          · have e0 : ((0 : Nat) : Int) - 1 = -1 := rfl
            rw [e0]
            have HF : Hid (OBb w.heap.size w wr u4 (tobe (lst V) V)) := by
              have := HJ.out
              rw [Nat.sub_zero, List.take_of_length_le (by rw [tobe_length]; exact Nat.le_refl _), ← HL.out] at this
              exact this
            go_wp2
            go_ret
            exact ⟨_, rfl, HF.out.own, HF.out.bel⟩
          · have e0 : ((j + 1 : Nat) : Int) - 1 = (j : Int) := by omega
            rw [e0]
            have C := byteAt_any ax cx j xs wr (HX.out.below HJ.out.bel (Nat.le_refl _)) HSX.out (by omega)
            rw [HV.out] at C
            obtain ⟨b8, Hb8⟩ : ∃ b8 : UInt8, Hid (UInt8.ofNat (V / 256 ^ j % 256) = b8) := ⟨_, rfl⟩
            have hbn : V / 256 ^ j % 256 = b8.toNat := by
              rw [← Hb8.out, UInt8.toNat_ofNat']
              exact (Nat.mod_eq_of_lt (Nat.mod_lt _ (show 256 > 0 by decide))).symm
            rw [hbn] at C
            have HT : Hid ((tobe (k + 1) V).take (k + 1 - j) = (tobe (k + 1) V).take (k + 1 - (j + 1)) ++ [b8]) := by
              have h6 := tobe_take (k + 1) V (k - j) (by omega)
              rw [show k + 1 - 1 - (k - j) = j by omega, Hb8.out, show k - j + 1 = k + 1 - j by omega, show k - j = k + 1 - (j + 1) by omega] at h6
              exact h6
            have HLn : Hid (((tobe (k + 1) V).take (k + 1 - (j + 1))).length ≤ 1000000000) := by show _ ≤ _; rw [List.length_take, tobe_length]; omega
            clear hbn
            go_wp2_with fail
            refine C.mono ?_
            clear C
            rintro e wr ⟨rfl, rfl⟩
            go_wp2_with (at_builtin; refine append_oneb (w := w) rfl (.tmp 26) (.tmp 30) rfl w.heap.size _ ((tobe (k + 1) V).take (k + 1 - (j + 1))) b8 rfl HJ.out rfl HLn.out (Nat.le_refl _) ?_; intro v5 w5 h5)
            have HO : Hid (OBb w.heap.size w w5 v5 ((tobe (k + 1) V).take (k + 1 - j))) := by rw [HT.out]; exact h5
            clear h5
            go_wp2
            go_roundw
            case rel => exact ⟨j, rfl, by omega, HO⟩
            case measure => simp [intOf]

theorem rbytes_nm (v : Value) (xs : List Nat) (w : World) (hv : Nm w v xs) (h1 : xs.length ≤ 10000000) :
    Calls Try.prog 38 #[v] w fun e w' => ∃ r, e = .returned r ∧ Owb w' w.heap.size r (tobe (lst (nv Bs xs)) (nv Bs xs)) ∧ Below w.heap.size w w' := by
  obtain ⟨ax, cx, rfl, hcx, hx, sx⟩ := hv
  exact rbytes_any ax cx xs w hx sx h1

set_option maxHeartbeats 1000000 in
theorem rfixed_nm (v : Value) (xs : List Nat) (size : Int) (w : World) (hv : Nm w v xs) (h1 : xs.length ≤ 10000000) :
    Calls Try.prog 34 #[v, .int .i64 size] w fun e w' => ∃ r l, e = .returned (.tuple #[r, .bool (decide ((lst (nv Bs xs) : Int) ≤ size ∧ size ≤ 16384))]) ∧ Owb w' w.heap.size r l ∧ l = (if (lst (nv Bs xs) : Int) ≤ size ∧ size ≤ 16384 then tobe size.toNat (nv Bs xs) else []) ∧ Below w.heap.size w w' := by
  have C := rbytes_nm v xs w hv h1
  have hlb := lst_bound xs hv.sm
  have HU : Hid (nv Bs xs < 256 ^ lst (nv Bs xs)) := lst_lt _
  obtain ⟨V, HV⟩ : ∃ V, Hid (nv Bs xs = V) := ⟨_, rfl⟩
  rw [HV.out] at C hlb HU ⊢
  obtain ⟨n, Hn⟩ : ∃ n, Hid (lst V = n) := ⟨_, rfl⟩
  rw [Hn.out] at C hlb HU ⊢
  clear hv
  by_cases hs : (n : Int) ≤ size ∧ size ≤ 16384
  · obtain ⟨k, rfl⟩ : ∃ k : Nat, size = (k : Int) := ⟨size.toNat, by omega⟩
    have hc1 : decide ((k : Int) < 0) = false := decide_eq_false (by omega)
    have hc2 : decide ((k : Int) > 16384) = false := decide_eq_false (by omega)
    have hc3 : decide ((n : Int) > (k : Int)) = false := decide_eq_false (by omega)
    have hc4 : decide (k < n) = false := decide_eq_false (by omega)
    have hk : k ≤ 16384 := by omega
    have hnk : n ≤ k := by omega
    rw [if_pos hs, decide_eq_true hs, Int.toNat_natCast]
    have ed : (k : Int) - (n : Int) = ((k - n : Nat) : Int) := by omega
    obtain ⟨dn, Hdn⟩ : ∃ d, Hid (k - n = d) := ⟨_, rfl⟩
    rw [Hdn.out] at ed
    clear hs
    go_enter Try.func34, Try.ntmps34
    go_wp2_with fail
    refine C.mono ?_
    clear C
    rintro e w1 ⟨r, rfl, ho, hb⟩
    obtain ⟨ab, cb, rfl, hcb, hrd⟩ := ho.nb
    rw [tobe_length] at hcb ⊢
    have hnil : ab = none → n = 0 ∧ cb = 0 := fun e => by
      rcases ho.2 with ⟨e2, e3⟩ | ⟨g, cap, cur, e2, _⟩
      · simp only [Value.slice.injEq] at e2
        rw [tobe_length] at e3
        exact ⟨e3, e2.2.2⟩
      · rw [e] at e2; cases e2
    obtain ⟨wm, hmk, hbm, hbel⟩ := madeB w1 dn (by rw [← Hdn.out]; omega)
    have HB : Hid (Below w.heap.size w wm) := hb.trans (hbel.mono hb.size)
    have hw1 : w.heap.size ≤ wm.heap.size := HB.out.size
    have HO : Hid (Owb wm w.heap.size (.slice (some ⟨w1.heap.size, 0, none⟩) dn dn) (List.replicate dn 0)) := by
      have := hbm.owb hb.size (by rw [List.length_replicate, ← Hdn.out]; omega)
      rw [List.length_replicate] at this
      exact this
    have HR : Hid (Rd wm ab (tobe n V)) := hrd.below hbel (Nat.le_refl _)
    have hdn : dn ≤ 16384 := by rw [← Hdn.out]; omega
    clear ho hb hrd hcb hbm hbel
    go_wp2_with (at_builtin; refine append_rdb rfl (.tmp 27) (.tmp 28) rfl w.heap.size _ (List.replicate dn 0) rfl HO.out ab n cb (tobe n V) rfl (tobe_length _ _) hnil HR.out (by rw [List.length_replicate]; omega) hw1 ?_; intro v5 w5 h5 h6)
    have HF : Hid (Owb w5 w.heap.size v5 (tobe k V) ∧ Below w.heap.size w w5) := by
      have e := tobe_pad k n V HU.out hnk
      rw [Hdn.out] at e
      rw [e] at h5
      exact ⟨h5, HB.out.grown h6 hw1 (own_block HO.out)⟩
    clear h5 h6
    go_wp2
    go_ret2
    exact ⟨v5, _, rfl, HF.out.1, rfl, HF.out.2⟩
  · rw [if_neg hs, decide_eq_false hs]
    by_cases h3 : size < 0
    · have hc1 : decide (size < 0) = true := decide_eq_true h3
      clear hs
      go_enter Try.func34, Try.ntmps34
      go_wp2_with fail
      refine C.mono ?_
      clear C
      rintro e w1 ⟨r, rfl, ho, hb⟩
      have HB : Hid (Below w.heap.size w w1) := hb
      clear ho hb
      go_wp2
      go_ret2
      exact ⟨_, _, rfl, Owb.nil _ _, rfl, HB.out⟩
    · have hc1 : decide (size < 0) = false := decide_eq_false h3
      by_cases h4 : 16384 < size
      · have hc2 : decide (size > 16384) = true := decide_eq_true h4
        clear hs
        go_enter Try.func34, Try.ntmps34
        go_wp2_with fail
        refine C.mono ?_
        clear C
        rintro e w1 ⟨r, rfl, ho, hb⟩
        have HB : Hid (Below w.heap.size w w1) := hb
        clear ho hb
        go_wp2
        go_ret2
        exact ⟨_, _, rfl, Owb.nil _ _, rfl, HB.out⟩
      · have hc2 : decide (size > 16384) = false := decide_eq_false h4
        have hc3 : decide ((n : Int) > size) = true := decide_eq_true (by omega)
        clear hs
        go_enter Try.func34, Try.ntmps34
        go_wp2_with fail
        refine C.mono ?_
        clear C
        rintro e w1 ⟨r, rfl, ho, hb⟩
        obtain ⟨ab, cb, rfl, hcb, hrd⟩ := ho.nb
        rw [tobe_length]
        have HB : Hid (Below w.heap.size w w1) := hb
        clear ho hb hrd hcb
        go_wp2
        go_ret2
        exact ⟨_, _, rfl, Owb.nil _ _, rfl, HB.out⟩

end Go.Proofs.Ytkkcmfkegbdgjaa
