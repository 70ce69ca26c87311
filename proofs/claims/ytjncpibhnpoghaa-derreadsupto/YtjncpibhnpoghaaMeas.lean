import Derived.Test.YtjncpibhnpoghaaLeaf
namespace Go.Proofs.Ytjncpibhnpoghaa
open Go.RowKit

/-- A length of many digits, or none. -/
def longL (l : List UInt8) (k : Nat) : Nat × Bool :=
  if k = 0 ∨ 4 < k ∨ l.length < k ∨ l.getD 0 0 = 0 then (0, false) else (be 0 (l.take k), decide (128 ≤ be 0 (l.take k)))

theorem be_snoc (l : List UInt8) (x : UInt8) : ∀ n, be n (l ++ [x]) = be n l * 256 + x.toNat := by
  induction l with
  | nil => intro n; rfl
  | cons y r ih => intro n; exact ih _

theorem be_lt (l : List UInt8) : be 0 l < 256 ^ l.length := by
  have h : ∀ (l : List UInt8) n, be n l < (n + 1) * 256 ^ l.length := by
    intro l
    induction l with
    | nil => intro n; simp [be]
    | cons y r ih =>
      intro n
      have h1 := ih (n * 256 + y.toNat)
      have h2 := u8_lt y
      simp only [be, List.length_cons, Nat.pow_succ]
      refine Nat.lt_of_lt_of_le h1 ?_
      rw [Nat.mul_comm (256 ^ r.length) 256, ← Nat.mul_assoc]
      exact Nat.mul_le_mul_right _ (by omega)
  have := h l 0
  simpa using this

theorem or_all (n x : Nat) (hx : x < 256) (hn : n < 16777216) : bits BinOp.or IntKind.u64 ((n : Int) * 256) (x : Int) = ((n * 256 + x : Nat) : Int) := by
  rw [show ((n : Int) * 256) = ((n * 256 : Nat) : Int) from by omega, u64_or_nat _ _ (by omega) (by omega), nat_join 8 _ _ (by omega) (by omega)]

set_option maxHeartbeats 1000000 in
theorem longLength_any (ao : Option Addr) (cap k : Nat) (l : List UInt8) (w : World) (hr : Rd w ao l) (hlen : l.length ≤ 9223372036854775807) (hcap : l.length ≤ cap) (_hcap2 : cap ≤ 9223372036854775807) (hk : k ≤ 127) :
    Calls Try.prog 44 #[.slice ao l.length cap, .int .i64 (k : Int)] w fun e w' => e = .returned (.tuple #[.int .u64 ((longL l k).1 : Int), .bool (longL l k).2]) ∧ w' = w := by
  by_cases h : k = 0 ∨ 4 < k ∨ l.length < k
  · have HL : Hid (longL l k = (0, false)) := by
      show _ = _
      unfold longL
      rw [if_pos (by rcases h with h | h | h <;> simp [h])]
    rcases (show k = 0 ∨ (k ≠ 0 ∧ 4 < k) ∨ (k ≠ 0 ∧ ¬ 4 < k ∧ l.length < k) by omega) with h1 | ⟨h0, h1⟩ | ⟨h0, h4, h1⟩
    · subst h1
      go_enter Try.func44, Try.ntmps44
      go_wp2
      go_ret2
      exact ⟨by rw [HL.out]; rfl, rfl⟩
    · have b0 : ((k : Int) == 0) = false := by simp [h0]
      have b1 : decide ((4 : Int) < (k : Int)) = true := by simp; omega
      go_enter Try.func44, Try.ntmps44
      go_wp2
      go_ret2
      exact ⟨by rw [HL.out]; rfl, rfl⟩
    · have b0 : ((k : Int) == 0) = false := by simp [h0]
      have b1 : decide ((4 : Int) < (k : Int)) = false := by simp; omega
      have b2 : decide (l.length < k) = true := by simp [h1]
      go_enter Try.func44, Try.ntmps44
      go_wp2
      go_ret2
      exact ⟨by rw [HL.out]; rfl, rfl⟩
  · have h0 : k ≠ 0 := by omega
    have b0 : ((k : Int) == 0) = false := by simp [h0]
    have b1 : decide ((4 : Int) < (k : Int)) = false := by simp; omega
    have b2 : decide (l.length < k) = false := by simp; omega
    obtain ⟨g, off, rfl, hg, hc⟩ := hr.cell (by omega)
    have g0 := hc 0 (by omega)
    rw [Nat.add_zero] at g0
    have hz : ((l.getD 0 0).toNat = 0) ↔ l.getD 0 0 = 0 := ⟨fun h => u8_ext h, fun h => by rw [h]; rfl⟩
    by_cases hx : l.getD 0 0 = 0
    · have HL : Hid (longL l k = (0, false)) := by
        show _ = _
        unfold longL
        rw [if_pos (by simp only [hx]; simp)]
      rw [hx] at g0
      have g0' : w.cell? ⟨g, off, none⟩ = some (.int .u8 0) := g0
      clear hc g0 hz hx
      go_enter Try.func44, Try.ntmps44
      go_wp2
      go_ret2
      exact ⟨by rw [HL.out]; rfl, rfl⟩
    · have HL : Hid (longL l k = (be 0 (l.take k), decide (128 ≤ be 0 (l.take k)))) := by
        show _ = _
        unfold longL
        rw [if_neg (by rintro (h | h | h | h) <;> first | omega | exact hx h)]
      have bz : (((l.getD 0 0).toNat : Int) == 0) = false := by
        rw [beq_eq_false_iff_ne]
        have := mt hz.1 hx
        omega
      generalize l.getD 0 0 = x at g0 bz
      clear hz hx
      go_enter Try.func44, Try.ntmps44
      go_wp2
      go_loopw [6, 8, 31] (fun s6 s8 s31 wr => ∃ i : Nat, s31 = .int .i64 (i : Int) ∧ i ≤ k ∧ wr = w ∧ s6 = .int .u64 ((be 0 (l.take i) : Nat) : Int)) (fun _ _ s _ => k - (intOf s).toNat)
      case atStart => exact ⟨0, rfl, Nat.zero_le _, rfl, rfl⟩
      case round =>
        obtain ⟨i, rfl, hi, rfl, rfl⟩ := hrel
        by_cases hik : i < k
        · have hil : i < l.length := by omega
          have gx := hc i hil
          have hN := be_lt (l.take i)
          have HT : Hid (be 0 (l.take (i + 1)) = be 0 (l.take i) * 256 + (l.getD i 0).toNat) := by
            show _ = _
            rw [List.take_succ_eq_append_getElem hil, be_snoc, getD_eq _ _ hil]
          have hN2 : be 0 (l.take i) < 16777216 := by
            have h3 : (l.take i).length ≤ 3 := by rw [List.length_take]; omega
            exact Nat.lt_of_lt_of_le hN (Nat.le_trans (Nat.pow_le_pow_right (by omega) h3) (by omega))
          have hy := u8_lt (l.getD i 0)
          generalize be 0 (l.take i) = N at *
          generalize (l.getD i 0).toNat = y at *
          have HO := or_all N y hy hN2
          clear hc hN
          go_wp2
          exact ⟨⟨i + 1, by go_num, by omega, trivial, by rw [HT.out]; go_num⟩, by simp [intOf]; omega⟩
        · have hik' : i = k := by omega
          subst hik'
          have hN := be_lt (l.take i)
          have hN2 : be 0 (l.take i) < 4294967296 := by
            have h3 : (l.take i).length ≤ 4 := by rw [List.length_take]; omega
            exact Nat.lt_of_lt_of_le hN (Nat.le_trans (Nat.pow_le_pow_right (by omega) h3) (by omega))
          have hd : decide ((128 : Int) ≤ ((be 0 (l.take i) : Nat) : Int)) = decide (128 ≤ be 0 (l.take i)) := decide_eq_decide.2 (by omega)
          generalize be 0 (l.take i) = N at *
          clear hc hN
          go_wp2
          go_ret2
          exact ⟨by rw [HL.out]; first | rfl | (rw [← hd]; rfl), rfl⟩

theorem meas_short (l : List UInt8) (h : l.length < 2) : meas l = none := by
  match l, h with
  | [], _ => rfl
  | [_], _ => rfl
  | _ :: _ :: _, h => simp only [List.length_cons] at h; omega

/-- measure's answer. -/
def measV (l : List UInt8) : Value := match meas l with
  | none => .tuple #[.int .i64 0, .int .i64 0, .bool false]
  | some (h, wl) => .tuple #[.int .i64 (h : Int), .int .i64 (wl : Int), .bool true]

theorem meas_long (t x : UInt8) (r : List UInt8) (hx : 128 ≤ x.toNat) : meas (t :: x :: r) = if (longL r (x.toNat - 128)).2 = true ∧ (longL r (x.toNat - 128)).1 ≤ r.length - (x.toNat - 128) then some (2 + (x.toNat - 128), 2 + (x.toNat - 128) + (longL r (x.toNat - 128)).1) else none := by
  have h1 : ¬ x < 128 := fun h => by rw [u8_lt_iff] at h; omega
  simp only [meas]
  rw [if_neg h1]
  by_cases h2 : x.toNat = 128 ∨ 132 < x.toNat ∨ r.length < x.toNat - 128 ∨ r.getD 0 0 = 0
  · have hL : longL r (x.toNat - 128) = (0, false) := by
      unfold longL
      rw [if_pos]
      rcases h2 with h | h | h | h
      · exact .inl (by omega)
      · exact .inr (.inl (by omega))
      · exact .inr (.inr (.inl h))
      · exact .inr (.inr (.inr h))
    rw [if_pos h2, hL]
    simp
  · have hL : longL r (x.toNat - 128) = (be 0 (r.take (x.toNat - 128)), decide (128 ≤ be 0 (r.take (x.toNat - 128)))) := by
      unfold longL
      rw [if_neg]
      intro h
      apply h2
      rcases h with h | h | h | h
      · exact .inl (by omega)
      · exact .inr (.inl (by omega))
      · exact .inr (.inr (.inl h))
      · exact .inr (.inr (.inr h))
    rw [if_neg h2, hL]
    simp only [decide_eq_true_eq]
    generalize be 0 (r.take (x.toNat - 128)) = N
    by_cases h3 : N < 128 ∨ r.length - (x.toNat - 128) < N
    · rw [if_pos h3, if_neg (by omega)]
    · rw [if_neg h3, if_pos (by omega)]

theorem longL_lt (l : List UInt8) (k : Nat) : (longL l k).1 < 4294967296 ∧ ((longL l k).2 = true → 1 ≤ k ∧ k ≤ 4 ∧ k ≤ l.length) := by
  unfold longL
  split
  · simp
  · rename_i h
    refine ⟨?_, fun _ => by omega⟩
    have h3 : (l.take k).length ≤ 4 := by rw [List.length_take]; omega
    exact Nat.lt_of_lt_of_le (be_lt _) (Nat.le_trans (Nat.pow_le_pow_right (by omega) h3) (by omega))

set_option maxRecDepth 100000 in
set_option maxHeartbeats 1000000 in
theorem measure_any (ao : Option Addr) (cap : Nat) (l : List UInt8) (w : World) (hr : Rd w ao l) (hcap : l.length ≤ cap) (hcap2 : cap ≤ 9223372036854775807) :
    Calls Try.prog 32 #[.slice ao l.length cap] w fun e w' => e = .returned (measV l) ∧ w' = w := by
  by_cases h2 : l.length < 2
  · have HM : Hid (measV l = .tuple #[.int .i64 0, .int .i64 0, .bool false]) := by
      show _ = _
      unfold measV; rw [meas_short l h2]
    go_enter Try.func32, Try.ntmps32
    go_wp2
    go_ret3
    exact ⟨by rw [HM.out]; rfl, rfl⟩
  · match l, hr, hcap, h2 with
    | [], _, _, h2 => simp at h2
    | [_], _, _, h2 => simp at h2
    | t :: x :: r, hr, hcap, h2 =>
      obtain ⟨g, off, rfl, hg, hc⟩ := hr.cell (by simp)
      have g1 := hc 1 (by simp)
      simp only [List.getD_cons_succ, List.getD_cons_zero] at g1
      have hx := u8_lt x
      simp only [List.length_cons] at hcap h2 ⊢
      by_cases h8 : x.toNat < 128
      · have HM : Hid (meas (t :: x :: r) = if x.toNat ≤ r.length then some (2, 2 + x.toNat) else none) := by
          show _ = _
          simp only [meas]; rw [if_pos ((u8_lt_iff x).2 h8)]
        clear hc hr
        by_cases hfit : x.toNat ≤ r.length
        · have HV : Hid (measV (t :: x :: r) = .tuple #[.int .i64 2, .int .i64 ((2 + x.toNat : Nat) : Int), .bool true]) := by
            show _ = _
            unfold measV; rw [HM.out, if_pos hfit]; rfl
          clear HM
          obtain ⟨a, ha⟩ : ∃ a, a = x.toNat := ⟨_, rfl⟩
          rw [← ha] at g1 hx h8 hfit
          generalize measV (t :: x :: r) = V at HV ⊢
          try rw [← ha] at HV
          clear ha
          obtain ⟨n, hn⟩ : ∃ n, n = r.length := ⟨_, rfl⟩
          rw [← hn] at hcap h2 hfit ⊢
          clear hn
          have hcv : ((n : Int) + 1 + 1 - 2) % 18446744073709551616 = (n : Int) := by omega
          have hb9 : decide ((n : Int) < (a : Int)) = decide (n < a) := decide_eq_decide.2 (by omega)
          go_enter Try.func32, Try.ntmps32
          go_wp2
          go_ret3
          exact ⟨by rw [HV.out]; go_num, rfl⟩
        · have HV : Hid (measV (t :: x :: r) = .tuple #[.int .i64 0, .int .i64 0, .bool false]) := by
            show _ = _
            unfold measV; rw [HM.out, if_neg hfit]
          clear HM
          obtain ⟨a, ha⟩ : ∃ a, a = x.toNat := ⟨_, rfl⟩
          rw [← ha] at g1 hx h8 hfit
          generalize measV (t :: x :: r) = V at HV ⊢
          try rw [← ha] at HV
          clear ha
          obtain ⟨n, hn⟩ : ∃ n, n = r.length := ⟨_, rfl⟩
          rw [← hn] at hcap h2 hfit ⊢
          clear hn
          have hcv : ((n : Int) + 1 + 1 - 2) % 18446744073709551616 = (n : Int) := by omega
          have hb9 : decide ((n : Int) < (a : Int)) = decide (n < a) := decide_eq_decide.2 (by omega)
          go_enter Try.func32, Try.ntmps32
          go_wp2
          go_ret3
          exact ⟨by rw [HV.out]; rfl, rfl⟩
      · have HM : Hid (_ = _) := meas_long t x r (by omega)
        have hrd : Rd w (some ⟨g, off + 2, none⟩) r := (Rd.drop hr 2)
        have C := longLength_any (if cap = 2 then some ⟨g, off, none⟩ else some ⟨g, off + 2, none⟩) (cap - 2) (x.toNat - 128) r w (by
          split
          · have : r = [] := List.length_eq_zero_iff.1 (by omega)
            rw [this]; exact Rd.nil _ _
          · exact hrd) (by omega) (by omega) (by omega) (by omega)
        have hL := longL_lt r (x.toNat - 128)
        obtain ⟨a, ha⟩ : ∃ a, a = x.toNat := ⟨_, rfl⟩
        rw [← ha] at g1 hx h8 HM C hL
        obtain ⟨L, hLL⟩ : ∃ L, L = longL r (a - 128) := ⟨_, rfl⟩
        rw [← hLL] at HM C hL
        obtain ⟨N, ok⟩ := L
        simp only at HM C hL
        clear hc hr hrd ha hLL
        obtain ⟨k, rfl⟩ : ∃ k, a = k + 128 := ⟨a - 128, by omega⟩
        rw [Nat.add_sub_cancel] at HM C hL
        generalize hV : measV (t :: x :: r) = V
        unfold measV at hV
        rw [HM.out] at hV
        have HV : Hid (V = if ok = true ∧ N ≤ r.length - k then .tuple #[.int .i64 ((2 + k : Nat) : Int), .int .i64 ((2 + k + N : Nat) : Int), .bool true] else .tuple #[.int .i64 0, .int .i64 0, .bool false]) := by
          show V = _
          rw [← hV]
          by_cases h : ok = true ∧ N ≤ r.length - k
          · rw [if_pos h, if_pos h]
          · rw [if_neg h, if_neg h]
        clear hV HM
        obtain ⟨n, hn⟩ : ∃ n, n = r.length := ⟨_, rfl⟩
        rw [← hn] at hcap h2 HV C hL ⊢
        clear hn
        have hN := hL.1
        have hK := hL.2
        clear hL
        by_cases hc2 : cap = 2
        · subst hc2
          have hn0 : n = 0 := by omega
          subst hn0
          have hok : ok = false := by
            cases ok with
            | false => rfl
            | true => have := hK rfl; omega
          subst hok
          rw [if_pos rfl] at C
          have HC : Hid (Calls Try.prog 44 #[.slice (some ⟨g, off, none⟩) 0 0, .int .i64 (k : Int)] w fun e w' => e = .returned (.tuple #[.int .u64 (N : Int), .bool false]) ∧ w' = w) := C
          have HV2 : Hid (V = .tuple #[.int .i64 0, .int .i64 0, .bool false]) := by rw [HV.out]; exact if_neg (by simp)
          clear C HV hK
          go_enter Try.func32, Try.ntmps32
          go_wp2_with fail
          refine HC.out.mono ?_
          rintro e w1 ⟨rfl, rfl⟩
          go_wp2
          go_ret3
          exact ⟨by rw [HV2.out]; rfl, rfl⟩
        · rw [if_neg hc2] at C
          have hc3 : 2 < cap := by omega
          have HC : Hid (Calls Try.prog 44 #[.slice (some ⟨g, off + 2, none⟩) n (cap - 2), .int .i64 (k : Int)] w fun e w' => e = .returned (.tuple #[.int .u64 (N : Int), .bool ok]) ∧ w' = w) := C
          clear C hc2
          cases ok with
          | false =>
            have HV2 : Hid (V = .tuple #[.int .i64 0, .int .i64 0, .bool false]) := by rw [HV.out]; exact if_neg (by simp)
            clear HV hK
            go_enter Try.func32, Try.ntmps32
            go_wp2_with fail
            refine HC.out.mono ?_
            rintro e w1 ⟨rfl, rfl⟩
            go_wp2
            go_ret3
            exact ⟨by rw [HV2.out]; rfl, rfl⟩
          | true =>
            have hk4 := hK rfl
            have hcv : ((n : Int) + 1 + 1 - (2 + (k : Int))) % 18446744073709551616 = ((n - k : Nat) : Int) := by omega
            clear hK
            by_cases hfit : N ≤ n - k
            · have HV2 : Hid (V = .tuple #[.int .i64 ((2 + k : Nat) : Int), .int .i64 ((2 + k + N : Nat) : Int), .bool true]) := by rw [HV.out]; exact if_pos ⟨rfl, hfit⟩
              have hfit2 : ¬ (n - k : Nat) < N := by omega
              clear HV
              go_enter Try.func32, Try.ntmps32
              go_wp2_with fail
              refine HC.out.mono ?_
              rintro e w1 ⟨rfl, rfl⟩
              go_wp2
              go_ret3
              exact ⟨by rw [HV2.out]; go_num, rfl⟩
            · have HV2 : Hid (V = .tuple #[.int .i64 0, .int .i64 0, .bool false]) := by rw [HV.out]; exact if_neg (by simp; omega)
              have hfit2 : (n - k : Nat) < N := by omega
              clear HV
              go_enter Try.func32, Try.ntmps32
              go_wp2_with fail
              refine HC.out.mono ?_
              rintro e w1 ⟨rfl, rfl⟩
              go_wp2
              go_ret3
              exact ⟨by rw [HV2.out]; rfl, rfl⟩
end Go.Proofs.Ytjncpibhnpoghaa
