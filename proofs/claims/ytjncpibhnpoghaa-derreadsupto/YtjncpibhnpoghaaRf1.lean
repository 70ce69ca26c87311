import Derived.Test.YtjncpibhnpoghaaRd6
import Derived.Test.YtjncpibhnpoghaaWr1
namespace Go.Proofs.Ytjncpibhnpoghaa
open Go.RowKit

/-- The document's: is it a tag that may be. -/
def tagR (t : Int) : Bool := isTg t && !(t == 16 || t == 17 || t == 33 || t == 34 || t == 35 || t == 37 || t == 38)

theorem sound_prim (t : Int) (l : List UInt8) (hc : con t = false) : sound ⟨t, l, 0⟩ = (tagR t && right t l) := by
  unfold sound tagR
  simp only [hc]
  by_cases h : t == 16 || t == 17 || t == 33 || t == 34 || t == 35 || t == 37 || t == 38
  · have : right t l = false := by
      simp only [Bool.or_eq_true, beq_iff_eq] at h
      rcases h with (((((h | h) | h) | h) | h) | h) | h <;> subst h <;> rfl
    rw [this]
    simp
  · rw [Bool.not_eq_true] at h
    rw [h]
    simp
theorem sound_cons (t : Int) (hc : con t = true) : sound ⟨t, [], 0⟩ = tagR t := by
  unfold sound tagR
  simp only [hc]
  by_cases h : t == 16 || t == 17 || t == 33 || t == 34 || t == 35 || t == 37 || t == 38
  · have : right t [] = false := by
      simp only [Bool.or_eq_true, beq_iff_eq] at h
      rcases h with (((((h | h) | h) | h) | h) | h) | h <;> subst h <;> rfl
    rw [this, h]
    simp
  · rw [Bool.not_eq_true] at h
    have hne : t ≠ 1 ∧ t ≠ 2 ∧ t ≠ 3 ∧ t ≠ 5 ∧ t ≠ 6 := by
      refine ⟨?_, ?_, ?_, ?_, ?_⟩ <;> (intro e; subst e; revert hc; decide)
    have : right t [] = true := by
      unfold right
      rw [if_neg hne.1, if_neg hne.2.1, if_neg hne.2.2.1, if_neg hne.2.2.2.1, if_neg hne.2.2.2.2, h]
      rfl
    rw [this, h]
    simp

theorem tagR_nat (n : Nat) : tagR (n : Int) = (decide (n ≤ 255) && (n % 32 != 31) && !((n == 16) || (n == 17) || (n == 33) || (n == 34) || (n == 35) || (n == 37) || (n == 38))) := by
  unfold tagR isTg
  have : ∀ k : Nat, ((n : Int) == (k : Int)) = (n == k) := fun k => by
    by_cases h : n = k
    · simp [h]
    · rw [beq_eq_false_iff_ne.2 h, beq_eq_false_iff_ne.2 (by omega)]
  have e := fun k => this k
  rw [show ((n : Int) == 16) = (n == 16) from e 16, show ((n : Int) == 17) = (n == 17) from e 17, show ((n : Int) == 33) = (n == 33) from e 33, show ((n : Int) == 34) = (n == 34) from e 34, show ((n : Int) == 35) = (n == 35) from e 35, show ((n : Int) == 37) = (n == 37) from e 37, show ((n : Int) == 38) = (n == 38) from e 38]
  rw [decide_eq_true (show (0 : Int) ≤ (n : Int) by omega), Int.toNat_natCast, show decide ((n : Int) ≤ 255) = decide (n ≤ 255) from decide_eq_decide.2 (by omega)]
  rfl

set_option maxRecDepth 100000 in
set_option maxHeartbeats 1000000 in
theorem rtag_any (n : Nat) (hn : n < 256) (w : World) :
    Calls Try.prog 37 #[.int .i64 (n : Int)] w fun e w' => e = .returned (.bool (tagR n)) ∧ w' = w := by
  rcases (show n = 16 ∨ n = 17 ∨ n = 33 ∨ n = 34 ∨ n = 35 ∨ n = 37 ∨ n = 38 ∨ (n ≠ 16 ∧ n ≠ 17 ∧ n ≠ 33 ∧ n ≠ 34 ∧ n ≠ 35 ∧ n ≠ 37 ∧ n ≠ 38) by omega) with rfl | rfl | rfl | rfl | rfl | rfl | rfl | ⟨h1, h2, h3, h4, h5, h6, h7⟩
  iterate 7
    · go_enter Try.func37, Try.ntmps37
      go_wp2
      go_ret
      exact ⟨rfl, rfl⟩
  · have b0 : decide ((n : Int) < 0) = false := decide_eq_false (by omega)
    have b9 : decide ((255 : Int) < (n : Int)) = false := decide_eq_false (by omega)
    have b1 : ((n : Int) == 16) = false := by rw [beq_eq_false_iff_ne]; omega
    have b2 : ((n : Int) == 17) = false := by rw [beq_eq_false_iff_ne]; omega
    have b3 : ((n : Int) != 33) = true := by rw [bne_iff_ne]; omega
    have b4 : ((n : Int) != 34) = true := by rw [bne_iff_ne]; omega
    have b5 : ((n : Int) != 35) = true := by rw [bne_iff_ne]; omega
    have b6 : ((n : Int) != 37) = true := by rw [bne_iff_ne]; omega
    have b7 : ((n : Int) != 38) = true := by rw [bne_iff_ne]; omega
    have HT : Hid (tagR (n : Int) = (n % 32 != 31)) := by
      show _ = _
      rw [tagR_nat, decide_eq_true (show n ≤ 255 by omega), beq_eq_false_iff_ne.2 h1, beq_eq_false_iff_ne.2 h2, beq_eq_false_iff_ne.2 h3, beq_eq_false_iff_ne.2 h4, beq_eq_false_iff_ne.2 h5, beq_eq_false_iff_ne.2 h6, beq_eq_false_iff_ne.2 h7]
      simp
    by_cases hm : n % 32 = 31
    · have b8 : ((n : Int) % 32 == 31) = true := by rw [beq_iff_eq]; omega
      have HF : Hid (tagR (n : Int) = false) := by show _ = _; rw [HT.out, hm]; rfl
      clear HT hm h1 h2 h3 h4 h5 h6 h7
      go_enter Try.func37, Try.ntmps37
      go_wp2
      go_ret
      exact ⟨by rw [HF.out]; rfl, rfl⟩
    · have b8 : ((n : Int) % 32 == 31) = false := by rw [beq_eq_false_iff_ne]; omega
      have HF : Hid (tagR (n : Int) = true) := by show _ = _; rw [HT.out, bne_iff_ne]; exact hm
      clear HT hm h1 h2 h3 h4 h5 h6 h7
      go_enter Try.func37, Try.ntmps37
      go_wp2
      go_ret
      exact ⟨by rw [HF.out]; rfl, rfl⟩

set_option maxRecDepth 100000 in
set_option maxHeartbeats 1000000 in
theorem rinner_any (n : Nat) (hn : n < 256) (w : World) :
    Calls Try.prog 38 #[.int .i64 (n : Int)] w fun e w' => e = .returned (.bool (con n)) ∧ w' = w := by
  have HE : Hid (True → ((n : Int) / 32 % 2 == 1) = con n) := fun _ => by
    unfold con
    rw [Int.toNat_natCast]
    by_cases h : n / 32 % 2 = 1
    · rw [h, beq_iff_eq.2 (show (n : Int) / 32 % 2 = 1 by omega)]; rfl
    · rw [beq_eq_false_iff_ne.2 h, beq_eq_false_iff_ne.2 (show (n : Int) / 32 % 2 ≠ 1 by omega)]
  go_enter Try.func38, Try.ntmps38
  go_wp2
  go_ret
  exact ⟨by rw [← HE.out trivial]; rfl, rfl⟩

/-- The document's length: the number, how many bytes it has. -/
def lenR : List UInt8 → Nat × Nat
  | [] => (0, 0)
  | x :: q =>
    if x < 128 then (x.toNat, 1)
    else if x.toNat = 128 ∨ 132 < x.toNat ∨ q.length < x.toNat - 128 then (0, 0)
    else if q.getD 0 0 = 0 ∨ be 0 (q.take (x.toNat - 128)) < 128 then (0, 0)
    else (be 0 (q.take (x.toNat - 128)), 1 + (x.toNat - 128))

theorem meas_lenR (t : UInt8) (r : List UInt8) {n k : Nat} (h : lenR r = (n, k)) : meas (t :: r) = if k = 0 ∨ r.length - k < n then none else some (1 + k, 1 + k + n) := by
  cases r with
  | nil =>
    simp only [lenR, Prod.mk.injEq] at h
    rw [if_pos (.inl h.2.symm)]; rfl
  | cons x q =>
    simp only [lenR] at h
    simp only [meas, List.length_cons]
    by_cases h1 : x < 128
    · rw [if_pos h1] at h
      rw [if_pos h1]
      simp only [Prod.mk.injEq] at h
      obtain ⟨rfl, rfl⟩ := h
      by_cases h2 : x.toNat ≤ q.length
      · rw [if_pos h2, if_neg (by omega)]
      · rw [if_neg h2, if_pos (by omega)]
    · rw [if_neg h1] at h
      rw [if_neg h1]
      by_cases h2 : x.toNat = 128 ∨ 132 < x.toNat ∨ q.length < x.toNat - 128
      · rw [if_pos h2] at h
        simp only [Prod.mk.injEq] at h
        rw [if_pos (by
          rcases h2 with h | h | h
          · exact .inl h
          · exact .inr (.inl h)
          · exact .inr (.inr (.inl h))), if_pos (.inl h.2.symm)]
      · rw [if_neg h2] at h
        by_cases h3 : q.getD 0 0 = 0
        · rw [if_pos (.inl h3)] at h
          simp only [Prod.mk.injEq] at h
          rw [if_pos (.inr (.inr (.inr h3))), if_pos (.inl h.2.symm)]
        · rw [if_neg (show ¬ (x.toNat = 128 ∨ 132 < x.toNat ∨ q.length < x.toNat - 128 ∨ q.getD 0 0 = 0) by
            rintro (h | h | h | h)
            · exact h2 (.inl h)
            · exact h2 (.inr (.inl h))
            · exact h2 (.inr (.inr h))
            · exact h3 h)]
          by_cases h4 : be 0 (q.take (x.toNat - 128)) < 128
          · rw [if_pos (.inr h4)] at h
            simp only [Prod.mk.injEq] at h
            rw [if_pos (.inl h4), if_pos (.inl h.2.symm)]
          · rw [if_neg (by
              rintro (h | h)
              · exact h3 h
              · exact h4 h)] at h
            simp only [Prod.mk.injEq] at h
            obtain ⟨rfl, rfl⟩ := h
            generalize be 0 (q.take (x.toNat - 128)) = N at *
            by_cases h5 : q.length - (x.toNat - 128) < N
            · rw [if_pos (.inr h5), if_pos (by omega)]
            · rw [if_neg (by omega), if_neg (by omega)]
              simp only [Option.some.injEq, Prod.mk.injEq]
              omega

set_option maxRecDepth 100000 in
set_option maxHeartbeats 2000000 in
theorem rlength_any (g off cap : Nat) (l : List UInt8) (a b : Nat) (w : World) (hr : Rd w (some ⟨g, off, none⟩) l) (hl : l.length ≤ 65536) (hab : a ≤ b) (hb : b ≤ l.length) :
    Calls Try.prog 36 #[.slice (some ⟨g, off, none⟩) l.length cap, .int .i64 (a : Int), .int .i64 (b : Int)] w fun e w' => e = .returned (.tuple #[.int .i64 ((lenR (sg l a b)).1 : Int), .int .i64 ((lenR (sg l a b)).2 : Int)]) ∧ w' = w := by
  by_cases hlt : a < b
  · have hsg : sg l a b = l.getD a 0 :: sg l (a + 1) b := by
      have h1 := sg_length l a b hab hb
      have h2 : (sg l a b).drop 1 = sg l (a + 1) b := sg_drop l a b 1
      have h3 := sg_head l a b hlt hb
      match hs : sg l a b with
      | [] => rw [hs] at h1; simp at h1; omega
      | y :: q =>
        rw [hs] at h2 h3
        simp only [List.drop_succ_cons, List.drop_zero, List.getD_cons_zero] at h2 h3
        rw [h2, h3]
    have hql := sg_length l (a + 1) b (by omega) hb
    obtain ⟨_, _, e9, _, hcell⟩ := hr.cell (by omega)
    cases e9
    have ga := hcell a (by omega)
    have HG : Hid (∀ j, j < l.length → w.cell? ⟨g, off + j, none⟩ = some (.int .u8 ((l.getD j 0).toNat : Int))) := hcell
    have HL : Hid (lenR (sg l a b) = lenR (l.getD a 0 :: sg l (a + 1) b)) := congrArg lenR hsg
    have HQ : Hid (∀ i, (sg l (a + 1) b).take i = (sg l (a + 1) b).take i) := fun _ => rfl
    clear hcell hsg HQ
    have hx := u8_lt (l.getD a 0)
    generalize hX : l.getD a 0 = X at *
    by_cases h8 : X.toNat < 128
    · have HV : Hid (lenR (sg l a b) = (X.toNat, 1)) := by show _ = _; rw [HL.out]; simp only [lenR]; rw [if_pos ((u8_lt_iff X).2 h8)]
      generalize X.toNat = x at *
      clear HL hX
      go_enter Try.func36, Try.ntmps36
      go_wp2
      go_ret2
      exact ⟨by rw [HV.out]; rfl, rfl⟩
    · obtain ⟨k, hk⟩ : ∃ k, X.toNat = k + 128 := ⟨X.toNat - 128, by omega⟩
      have HV : Hid (lenR (sg l a b) = if k = 0 ∨ 4 < k ∨ b < a + 1 + k then (0, 0) else if l.getD (a + 1) 0 = 0 ∨ be 0 ((sg l (a + 1) b).take k) < 128 then (0, 0) else (be 0 ((sg l (a + 1) b).take k), 1 + k)) := by
        show _ = _
        rw [HL.out]
        simp only [lenR]
        rw [if_neg (show ¬ X < 128 from fun h => h8 ((u8_lt_iff X).1 h)), hk, Nat.add_sub_cancel, hql]
        by_cases q1 : k = 0 ∨ 4 < k ∨ b < a + 1 + k
        · rw [if_pos q1, if_pos (by omega)]
        · rw [if_neg q1, if_neg (by omega)]
          rw [sg_head l (a + 1) b (by omega) hb]
      rw [hk] at ga hx
      clear HL hX hk h8
      have hB1 : Hid (∀ i, i < k → a + 1 + k ≤ b → (sg l (a + 1) b).take (i + 1) = (sg l (a + 1) b).take i ++ [l.getD (a + (i + 1)) 0]) := fun i hi hkb => by
        have h1 : i < (sg l (a + 1) b).length := by omega
        rw [List.take_succ_eq_append_getElem h1]
        congr 2
        have h2 := sg_head l (a + 1 + i) b (by omega) hb
        rw [← sg_drop] at h2
        rw [List.getD_eq_getElem?_getD, List.getElem?_drop, Nat.add_zero i, List.getElem?_eq_getElem h1, Option.getD_some] at h2
        rw [h2, Nat.add_assoc, Nat.add_comm 1 i]
      by_cases q1 : k = 0 ∨ 4 < k ∨ b < a + 1 + k
      · have HF : Hid (lenR (sg l a b) = (0, 0)) := by show _ = _; rw [HV.out, if_pos q1]
        clear HV hB1
        rcases (show k = 0 ∨ (k ≠ 0 ∧ 4 < k) ∨ (k ≠ 0 ∧ ¬ 4 < k ∧ b < a + 1 + k) by omega) with h1 | ⟨h0, h1⟩ | ⟨h0, h4, h1⟩
        · subst h1
          clear q1
          go_enter Try.func36, Try.ntmps36
          go_wp2
          go_ret2
          exact ⟨by rw [HF.out]; rfl, rfl⟩
        · have b1 : decide ((k : Int) < 1) = false := decide_eq_false (by omega)
          have b2 : decide ((4 : Int) < (k : Int)) = true := decide_eq_true (by omega)
          clear q1
          go_enter Try.func36, Try.ntmps36
          go_wp2
          go_ret2
          exact ⟨by rw [HF.out]; rfl, rfl⟩
        · have b1 : decide ((k : Int) < 1) = false := decide_eq_false (by omega)
          have b2 : decide ((4 : Int) < (k : Int)) = false := decide_eq_false (by omega)
          have b3 : decide ((b : Int) ≤ (a : Int) + (k : Int)) = true := decide_eq_true (by omega)
          clear q1
          go_enter Try.func36, Try.ntmps36
          go_wp2
          go_ret2
          exact ⟨by rw [HF.out]; rfl, rfl⟩
      · have HV2 : Hid (lenR (sg l a b) = if l.getD (a + 1) 0 = 0 ∨ be 0 ((sg l (a + 1) b).take k) < 128 then (0, 0) else (be 0 ((sg l (a + 1) b).take k), 1 + k)) := by show _ = _; rw [HV.out, if_neg q1]
        have hk1 : 1 ≤ k ∧ k ≤ 4 ∧ a + 1 + k ≤ b := by omega
        obtain ⟨hk1, hk4, hkb⟩ := hk1
        have b1 : decide ((k : Int) < 1) = false := decide_eq_false (by omega)
        have b2 : decide ((4 : Int) < (k : Int)) = false := decide_eq_false (by omega)
        have b3 : decide ((b : Int) ≤ (a : Int) + (k : Int)) = false := decide_eq_false (by omega)
        clear HV q1
        have gb := HG.out (a + 1) (by omega)
        have HZ : Hid (l.getD (a + 1) 0 = 0 ↔ (l.getD (a + 1) 0).toNat = 0) := ⟨fun h => by rw [h]; rfl, fun h => u8_ext h⟩
        have hyb := u8_lt (l.getD (a + 1) 0)
        generalize hY : l.getD (a + 1) 0 = Y at *
        generalize Y.toNat = y at *
        go_enter Try.func36, Try.ntmps36
        go_wp2
        go_loopw [9, 10] (fun s9 s10 wr => ∃ (i N : Nat), s10 = .int .i64 ((i : Int) + 1) ∧ s9 = .int .i64 (N : Int) ∧ i ≤ k ∧ wr = w ∧ Hid (N = be 0 ((sg l (a + 1) b).take i)) ∧ N < 4294967296) (fun _ s _ => k + 1 - (intOf s).toNat)
        case atStart => exact ⟨0, 0, rfl, rfl, Nat.zero_le _, rfl, rfl, by omega⟩
        case round =>
          obtain ⟨i, N, rfl, rfl, hi, hwr, HN, hN⟩ := hrel
          subst hwr
          by_cases hik : i < k
          · have gi := HG.out (a + (i + 1)) (by omega)
            have HN2 : Hid (be 0 ((sg l (a + 1) b).take (i + 1)) = N * 256 + (l.getD (a + (i + 1)) 0).toNat) := by
              show _ = _
              rw [hB1.out i hik hkb, be_snoc, ← HN.out]
            have hlt2 : be 0 ((sg l (a + 1) b).take (i + 1)) < 4294967296 := by
              have h3 : ((sg l (a + 1) b).take (i + 1)).length ≤ 4 := by rw [List.length_take]; omega
              exact Nat.lt_of_lt_of_le (be_lt _) (Nat.le_trans (Nat.pow_le_pow_right (by omega) h3) (by omega))
            have hzb := u8_lt (l.getD (a + (i + 1)) 0)
            have hN3 : N * 256 + (l.getD (a + (i + 1)) 0).toNat < 4294967296 := by rw [← HN2.out]; exact hlt2
            generalize (l.getD (a + (i + 1)) 0).toNat = z at *
            have gi2 : wr.cell? ⟨g, off + (a + (i + 1)), none⟩ = some (.int .u8 (z : Int)) := gi
            clear hlt2 gi
            go_wp2
            exact ⟨⟨i + 1, N * 256 + z, by go_num, (by simp only [Value.int.injEq, true_and]; omega), by omega, trivial, HN2.out.symm, hN3⟩, by simp [intOf]; omega⟩
          · obtain rfl : k = i := by omega
            by_cases hz : Y = 0 ∨ N < 128
            · have HF : Hid (lenR (sg l a b) = (0, 0)) := by show _ = _; rw [HV2.out, ← HN.out, if_pos hz]
              clear HV2 HN
              rcases Nat.eq_zero_or_pos y with hy0 | hy0
              · have by0 : ((y : Int) == 0) = true := by rw [beq_iff_eq]; omega
                go_wp2
                go_ret2
                exact ⟨by rw [HF.out]; rfl, rfl⟩
              · have by0 : ((y : Int) == 0) = false := by rw [beq_eq_false_iff_ne]; omega
                have hN8 : N < 128 := by
                  rcases hz with h | h
                  · have := HZ.out.1 h; omega
                  · exact h
                have bn : decide ((N : Int) < 128) = true := decide_eq_true (by omega)
                clear hz
                go_wp2
                go_ret2
                exact ⟨by rw [HF.out]; rfl, rfl⟩
            · have HF : Hid (lenR (sg l a b) = (N, 1 + k)) := by show _ = _; rw [HV2.out, ← HN.out, if_neg hz]
              have by0 : ((y : Int) == 0) = false := by
                rw [beq_eq_false_iff_ne]
                have : y ≠ 0 := fun h => hz (.inl (HZ.out.2 h))
                omega
              have bn : decide ((N : Int) < 128) = false := decide_eq_false (by omega)
              clear hz HV2 HN
              go_wp2
              go_ret2
              exact ⟨by rw [HF.out]; go_num, rfl⟩
  · obtain rfl : a = b := by omega
    have HV : Hid (lenR (sg l a a) = (0, 0)) := by show _ = _; rw [sg_nil]; rfl
    go_enter Try.func36, Try.ntmps36
    go_wp2
    go_ret2
    exact ⟨by rw [HV.out]; rfl, rfl⟩
end Go.Proofs.Ytjncpibhnpoghaa
