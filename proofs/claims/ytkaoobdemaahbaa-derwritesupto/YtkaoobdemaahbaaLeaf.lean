import Derived.Test.YtkaoobdemaahbaaBase
namespace Go.Proofs.Ytkaoobdemaahbaa
open Go.RowKit

theorem and31_all : ∀ n : Fin 256, (bits BinOp.and IntKind.i64 (n.val : Int) 31 != 31) = (n.val % 32 != 31) := by decide +kernel
theorem and32_all : ∀ n : Fin 256, (bits BinOp.and IntKind.i64 (n.val : Int) 32 != 0) = (n.val / 32 % 2 == 1) := by decide +kernel
theorem and31_of (t : Int) (h1 : 0 ≤ t) (h2 : t ≤ 255) : (bits BinOp.and IntKind.i64 t 31 != 31) = (t.toNat % 32 != 31) := by
  have := and31_all ⟨t.toNat, by omega⟩
  simp only [show ((t.toNat : Nat) : Int) = t from by omega] at this
  exact this
theorem and32_of (t : Int) (h1 : 0 ≤ t) (h2 : t ≤ 255) : (bits BinOp.and IntKind.i64 t 32 != 0) = con t := by
  have := and32_all ⟨t.toNat, by omega⟩
  simp only [show ((t.toNat : Nat) : Int) = t from by omega] at this
  exact this

set_option maxHeartbeats 1000000 in
theorem isTag_any (t : Int) (w : World) :
    Calls Try.prog 31 #[.int .i64 t] w fun e w' => e = .returned (.bool (isTg t)) ∧ w' = w := by
  by_cases h1 : 0 ≤ t
  · by_cases h2 : t ≤ 255
    · go_enter Try.func31, Try.ntmps31
      go_wp2
      go_ret
      refine ⟨?_, rfl⟩
      rw [and31_of t h1 h2]
      simp [isTg, h1, h2]
    · go_enter Try.func31, Try.ntmps31
      go_wp2
      go_ret
      exact ⟨by simp [isTg]; omega, rfl⟩
  · go_enter Try.func31, Try.ntmps31
    go_wp2
    go_ret
    exact ⟨by simp [isTg]; omega, rfl⟩

set_option maxHeartbeats 1000000 in
theorem isCon_any (t : Int) (w : World) (h1 : 0 ≤ t) (h2 : t ≤ 255) :
    Calls Try.prog 24 #[.int .i64 t] w fun e w' => e = .returned (.bool (con t)) ∧ w' = w := by
  go_enter Try.func24, Try.ntmps24
  go_wp2
  go_ret
  exact ⟨by rw [and32_of t h1 h2]; rfl, rfl⟩

theorem u8_eq_iff (x : UInt8) (n : Nat) (h : n < 256) : x = UInt8.ofNat n ↔ x.toNat = n := by
  constructor
  · intro e; rw [e, u8_ofNat _ h]
  · intro e; exact u8_ext (by rw [u8_ofNat _ h]; exact e)
theorem u8_le_iff (y : UInt8) : 128 ≤ y ↔ 128 ≤ y.toNat := Iff.rfl

theorem bool_of {b : Bool} {p : Prop} (h : b = true ↔ p) : (p → b = true) ∧ (¬ p → b = false) := by
  cases b <;> simp_all

theorem isInt_iff (x y : UInt8) (r : List UInt8) : isInt (x :: y :: r) = true ↔ ¬ (x.toNat = 0 ∧ y.toNat < 128 ∨ x.toNat = 255 ∧ 128 ≤ y.toNat) := by
  have e1 : isInt (x :: y :: r) = !(x == 0 && decide (y < 128) || x == 255 && decide (128 ≤ y)) := rfl
  rw [e1]
  have h0 := u8_eq_iff x 0 (by omega)
  have h1 := u8_eq_iff x 255 (by omega)
  rw [show UInt8.ofNat 0 = 0 from rfl] at h0
  rw [show UInt8.ofNat 255 = 255 from rfl] at h1
  simp only [Bool.not_eq_true', Bool.or_eq_false_iff, Bool.and_eq_false_iff, beq_eq_false_iff_ne, ne_eq, decide_eq_false_iff_not, h0, h1, u8_lt_iff, u8_le_iff]
  omega

set_option maxHeartbeats 1000000 in
theorem isInteger_any (ao : Option Addr) (cap : Nat) (l : List UInt8) (w : World) (hr : Rd w ao l) (hlen : l.length ≤ 9223372036854775807) :
    Calls Try.prog 34 #[.slice ao l.length cap] w fun e w' => e = .returned (.bool (isInt l)) ∧ w' = w := by
  match l, hr, hlen with
  | [], hr, _ =>
    simp only [List.length_nil]
    go_enter Try.func34, Try.ntmps34
    go_wp2
    go_ret
    exact ⟨rfl, rfl⟩
  | [x], hr, _ =>
    simp only [List.length_cons, List.length_nil]
    go_enter Try.func34, Try.ntmps34
    go_wp2
    go_ret
    exact ⟨rfl, rfl⟩
  | x :: y :: r, hr, hlen =>
    obtain ⟨g, off, rfl, hg, hc⟩ := hr.cell (by simp)
    have g0 := hc 0 (by simp)
    have g1 := hc 1 (by simp)
    simp only [List.getD_cons_zero, List.getD_cons_succ, Nat.add_zero] at g0 g1
    clear hc
    have E1 : Hid ((¬ (x.toNat = 0 ∧ y.toNat < 128 ∨ x.toNat = 255 ∧ 128 ≤ y.toNat) → isInt (x :: y :: r) = true) ∧ (¬ ¬ (x.toNat = 0 ∧ y.toNat < 128 ∨ x.toNat = 255 ∧ 128 ≤ y.toNat) → isInt (x :: y :: r) = false)) := bool_of (isInt_iff x y r)
    generalize isInt (x :: y :: r) = z at E1 ⊢
    simp only [List.length_cons] at hlen ⊢
    have hx := u8_lt x
    have hy := u8_lt y
    generalize x.toNat = a at *
    generalize y.toNat = b at *
    have hb : decide ((128 : Int) ≤ (b : Int)) = decide (128 ≤ b) := decide_eq_decide.2 (by omega)
    have h0 : ((a : Int) == 0) = decide (a = 0) := by
      by_cases h : a = 0
      · simp [h]
      · simp [h]
    have h255 : ((a : Int) == 255) = decide (a = 255) := by
      by_cases h : a = 255
      · simp [h]
      · simp [h]; omega
    have E2 : Hid (z = !(decide (a = 0) && !decide (128 ≤ b) || decide (a = 255) && decide (128 ≤ b))) := by
      show z = _
      cases z with
      | true =>
        have h := fun h2 => (E1.out.2 h2)
        simp at h
        by_cases h1 : a = 0 <;> by_cases h2 : a = 255 <;> by_cases h3 : 128 ≤ b <;> simp [h1, h2, h3] <;> omega
      | false =>
        have h := fun h2 => (E1.out.1 h2)
        simp at h
        by_cases h1 : a = 0 <;> by_cases h2 : a = 255 <;> by_cases h3 : 128 ≤ b <;> simp [h1, h2, h3] <;> omega
    clear E1
    cases hd1 : decide (a = 0) <;> cases hd2 : decide (a = 255) <;> cases hd3 : decide (128 ≤ b)
    all_goals
      rw [hd1] at h0
      rw [hd2] at h255
      rw [hd3] at hb
      rw [hd1, hd2, hd3] at E2
      clear hd1 hd2 hd3
      go_enter Try.func34, Try.ntmps34
      go_wp2
      go_ret
      rw [E2.out]
      exact ⟨rfl, rfl⟩

theorem isBt_iff (u : UInt8) (r : List UInt8) : isBt (u :: r) = true ↔ u.toNat ≤ 7 ∧ (r = [] → u.toNat = 0) ∧ (r ≠ [] → (r.getD (r.length - 1) 0).toNat % 2 ^ u.toNat = 0) := by
  have h0 := u8_eq_iff u 0 (by omega)
  rw [show UInt8.ofNat 0 = 0 from rfl] at h0
  unfold isBt
  simp only [Bool.and_eq_true, decide_eq_true_eq]
  rw [show (u ≤ 7) = (u.toNat ≤ 7) from rfl]
  by_cases hr : r = []
  · simp [hr, h0]
  · simp [hr]

theorem low_all : ∀ u : Fin 8, ∀ n : Fin 256, (bits BinOp.and IntKind.u8 (n.val : Int) (((2 : Int) ^ u.val - 1) % 256) == 0) = (n.val % 2 ^ u.val == 0) := by decide +kernel

set_option maxHeartbeats 1000000 in
theorem isBits_any (ao : Option Addr) (cap : Nat) (l : List UInt8) (w : World) (hr : Rd w ao l) (hlen : l.length ≤ 9223372036854775807) (hcap : l.length ≤ cap) (hcap2 : cap ≤ 9223372036854775807) :
    Calls Try.prog 35 #[.slice ao l.length cap] w fun e w' => e = .returned (.bool (isBt l)) ∧ ∃ q, w' = w.drewN q := by
  match l, hr, hlen, hcap with
  | [], hr, _, _ =>
    simp only [List.length_nil]
    go_enter Try.func35, Try.ntmps35
    go_wp2
    go_ret
    exact ⟨rfl, 0, rfl⟩
  | u :: r, hr, hlen, hcap =>
    obtain ⟨g, off, rfl, hg, hc⟩ := hr.cell (by simp)
    have g0 := hc 0 (by simp)
    simp only [List.getD_cons_zero, Nat.add_zero] at g0
    have E1 : Hid _ := bool_of (isBt_iff u r)
    have g1 := fun h : 0 < r.length => hc r.length (by simp)
    have hy := u8_lt (r.getD (r.length - 1) 0)
    have e9 : 0 < r.length → (u :: r).getD r.length 0 = r.getD (r.length - 1) 0 := fun h => by
      obtain ⟨m, hm⟩ : ∃ m, r.length = m + 1 := ⟨r.length - 1, by omega⟩
      rw [hm]; rfl
    have g2 := fun h => (g1 h).trans (by rw [e9 h])
    clear hc g1 e9
    generalize isBt (u :: r) = z at E1 ⊢
    generalize r.getD (r.length - 1) 0 = y at *
    simp only [List.length_cons] at hlen hcap ⊢
    have hx := u8_lt u
    generalize u.toNat = a at *
    generalize y.toNat = b at *
    have hb1 : ((r.length : Int) + 1 == 0) = false := by simp; omega
    by_cases ha : 7 < a
    · have hb2 : decide ((7 : Int) < (a : Int)) = true := by simp; omega
      clear g2
      go_enter Try.func35, Try.ntmps35
      go_wp2
      go_ret
      rw [E1.out.2 (by omega)]
      exact ⟨rfl, 0, rfl⟩
    · have hb2 : decide ((7 : Int) < (a : Int)) = false := by simp; omega
      by_cases hn : r.length = 0
      · have hrn : r = [] := List.length_eq_zero_iff.1 hn
        subst hrn
        simp only [List.length_nil] at *
        clear g2 hn
        have E2 : Hid (z = ((a : Int) == 0)) := by
          show z = _
          by_cases h0 : a = 0
          · rw [E1.out.1 (by simp [h0])]; simp [h0]
          · rw [E1.out.2 (by simp [h0])]; simp [h0]
        clear E1
        by_cases hc1 : cap = 1
        · have hc3 : cap - 1 = 0 := by omega
          subst hc1
          go_enter Try.func35, Try.ntmps35
          go_wp2
          go_quiet (fail)
          go_wp2
          go_ret
          rw [E2.out]
          exact ⟨rfl, _, rfl⟩
        · have hc3 : 1 < cap := by omega
          go_enter Try.func35, Try.ntmps35
          go_wp2
          go_quiet (fail)
          go_wp2
          go_ret
          rw [E2.out]
          exact ⟨rfl, _, rfl⟩
      · have g3 := g2 (by omega)
        have hrn : r ≠ [] := fun e => hn (by rw [e]; rfl)
        have E2 : Hid ((b % 2 ^ a = 0 → z = true) ∧ (¬ b % 2 ^ a = 0 → z = false)) := ⟨fun h => E1.out.1 ⟨by omega, fun e => absurd e hrn, fun _ => h⟩, fun h => E1.out.2 (fun h2 => h (h2.2.2 hrn))⟩
        clear E1 g2 hrn
        generalize hm : r.length = m at *
        clear hm
        have g4 : w.cell? ⟨g, off + 1 + (m - 1), none⟩ = some (Value.int IntKind.u8 (b : Int)) := by rw [show off + 1 + (m - 1) = off + m from by omega]; exact g3
        have hc1 : 1 < cap := by omega
        go_enter Try.func35, Try.ntmps35
        go_wp2
        go_quiet (fail)
        go_wp2
        have E3 := low_all ⟨a, by omega⟩ ⟨b, by omega⟩
        simp only at E3
        rw [E3]
        go_ret
        by_cases h0 : b % 2 ^ a = 0
        · rw [E2.out.1 h0]; exact ⟨by simp [h0], _, rfl⟩
        · rw [E2.out.2 h0]; exact ⟨by simp [h0], _, rfl⟩

set_option maxHeartbeats 1000000 in
theorem isGroups_any (ao : Option Addr) (cap : Nat) (l : List UInt8) (w : World) (hr : Rd w ao l) (hlen : l.length ≤ 9223372036854775807) :
    Calls Try.prog 36 #[.slice ao l.length cap] w fun e w' => e = .returned (.bool (gr true l && l != [])) ∧ w' = w := by
  go_enter Try.func36, Try.ntmps36
  go_wp2
  go_loopw [3, 8] (fun s3 s8 wr => ∃ (k : Nat) (bg : Bool), s3 = .bool bg ∧ s8 = .int .i64 (k : Int) ∧ k ≤ l.length ∧ wr = w ∧ Hid (gr true l = gr bg (l.drop k))) (fun _ s _ => l.length - (intOf s).toNat)
  case atStart => exact ⟨0, true, rfl, rfl, Nat.zero_le _, rfl, rfl⟩
  case round =>
    obtain ⟨k, bg, rfl, rfl, hk, rfl, HG⟩ := hrel
    by_cases hlt : k < l.length
    · obtain ⟨g, off, rfl, hg, hc⟩ := hr.cell (by omega)
      have gx := hc k hlt
      clear hc
      have HD : Hid (l.drop k = l[k] :: l.drop (k + 1)) := List.drop_eq_getElem_cons hlt
      rw [getD_eq _ _ hlt] at gx
      generalize l[k] = x at gx HD
      have hx := u8_lt x
      have hne : ((x.toNat : Int) == 128) = (x == 128) := by
        have := u8_eq_iff x 128 (by omega)
        rw [show UInt8.ofNat 128 = 128 from rfl] at this
        by_cases h : x = 128
        · simp [h]
        · have h2 : ¬ x.toNat = 128 := mt this.2 h
          rw [beq_eq_false_iff_ne.2 h, beq_eq_false_iff_ne.2 (show (x.toNat : Int) ≠ 128 by omega)]
      have hlt8 : decide ((x.toNat : Int) < 128) = decide (x < 128) := decide_eq_decide.2 (by rw [u8_lt_iff]; omega)
      cases bg with
      | true =>
        cases he : (x == 128) with
        | true =>
          rw [he] at hne
          have HF : Hid (gr true l = false) := by
            show gr true l = false
            rw [HG.out, HD.out, gr, he]; rfl
          clear HG HD he
          go_wp2
          go_ret
          rw [HF.out]
          exact ⟨rfl, rfl⟩
        | false =>
          rw [he] at hne
          have HF : Hid (gr true l = gr (decide (x < 128)) (l.drop (k + 1))) := by
            show gr true l = _
            rw [HG.out, HD.out, gr, he]; rfl
          clear HG HD he
          go_wp2
          go_roundw
          case rel => exact ⟨k + 1, decide (x < 128), by rw [← hlt8], by go_num, by omega, (by first | rfl | trivial), HF⟩
          case measure => simp [intOf]; omega
      | false =>
        have HF : Hid (gr true l = gr (decide (x < 128)) (l.drop (k + 1))) := by
          show gr true l = _
          rw [HG.out, HD.out, gr]; rfl
        clear HG HD
        go_wp2
        go_roundw
        case rel => exact ⟨k + 1, decide (x < 128), by rw [← hlt8], by go_num, by omega, (by first | rfl | trivial), HF⟩
        case measure => simp [intOf]; omega
    · have hkl : k = l.length := by omega
      have HF : Hid (gr true l = bg) := by
        show gr true l = bg
        rw [HG.out, List.drop_of_length_le (by omega)]; rfl
      clear HG
      have hgt : decide (0 < l.length) = (l != []) := by
        cases l with
        | nil => rfl
        | cons a b => simp
      cases bg with
      | true =>
        go_wp2
        go_ret
        rw [HF.out]
        exact ⟨rfl, rfl⟩
      | false =>
        go_wp2
        go_ret
        rw [HF.out]
        exact ⟨rfl, rfl⟩

set_option maxHeartbeats 1000000 in
theorem right_any (t : Int) (ao : Option Addr) (cap : Nat) (l : List UInt8) (w : World) (hr : Rd w ao l) (hlen : l.length ≤ 9223372036854775807) (hcap : l.length ≤ cap) (hcap2 : cap ≤ 9223372036854775807) :
    Calls Try.prog 32 #[.int .i64 t, .slice ao l.length cap] w fun e w' => e = .returned (.bool (right t l)) ∧ ∃ q, w' = w.drewN q := by
  rcases (show t = 1 ∨ t = 2 ∨ t = 3 ∨ t = 5 ∨ t = 6 ∨ t = 16 ∨ t = 17 ∨ t = 33 ∨ t = 34 ∨ t = 35 ∨ t = 37 ∨ t = 38 ∨ (t ≠ 1 ∧ t ≠ 2 ∧ t ≠ 3 ∧ t ≠ 5 ∧ t ≠ 6 ∧ t ≠ 16 ∧ t ≠ 17 ∧ t ≠ 33 ∧ t ≠ 34 ∧ t ≠ 35 ∧ t ≠ 37 ∧ t ≠ 38) by omega) with rfl | rfl | rfl | rfl | rfl | rfl | rfl | rfl | rfl | rfl | rfl | rfl | ⟨h1, h2, h3, h5, h6, h16, h17, h33, h34, h35, h37, h38⟩
  · rcases l with _ | ⟨x, _ | ⟨y, r⟩⟩
    · go_enter Try.func32, Try.ntmps32
      go_wp2
      go_ret
      exact ⟨rfl, 0, rfl⟩
    · obtain ⟨g, off, rfl, hg, hc⟩ := hr.cell (by simp)
      have g0 := hc 0 (by simp)
      simp only [List.getD_cons_zero, Nat.add_zero] at g0
      clear hc
      have h0 := u8_eq_iff x 0 (by omega)
      have h1 := u8_eq_iff x 255 (by omega)
      rw [show UInt8.ofNat 0 = 0 from rfl] at h0
      rw [show UInt8.ofNat 255 = 255 from rfl] at h1
      have E : Hid (right 1 [x] = (((x.toNat : Int) == 0) || ((x.toNat : Int) == 255))) := by
        show right 1 [x] = _
        unfold right
        rw [if_pos rfl]
        by_cases e0 : x = 0
        · simp [e0]
        · by_cases e1 : x = 255
          · simp [e1]
          · have a0 : (x.toNat : Int) ≠ 0 := by have := mt h0.2 e0; omega
            have a1 : (x.toNat : Int) ≠ 255 := by have := mt h1.2 e1; omega
            rw [beq_eq_false_iff_ne.2 a0, beq_eq_false_iff_ne.2 a1]
            simp [e0, e1]
      clear h0 h1
      generalize right 1 [x] = z at E ⊢
      generalize x.toNat = a at *
      cases hd0 : ((a : Int) == 0) <;> cases hd1 : ((a : Int) == 255)
      all_goals
        rw [hd0, hd1] at E
        go_enter Try.func32, Try.ntmps32
        go_wp2
        go_ret
        rw [E.out]
        exact ⟨rfl, 0, rfl⟩
    · have hb : ((r.length : Int) + 1 + 1 == 1) = false := by simp; omega
      simp only [List.length_cons] at *
      go_enter Try.func32, Try.ntmps32
      go_wp2
      go_ret
      exact ⟨by simp [right], 0, rfl⟩
  · have C := isInteger_any ao cap l w hr hlen
    go_enter Try.func32, Try.ntmps32
    go_wp2_with fail
    refine C.mono ?_
    rintro e w1 ⟨rfl, rfl⟩
    go_wp2
    go_ret
    exact ⟨rfl, 0, rfl⟩
  · have C := isBits_any ao cap l w hr hlen hcap hcap2
    go_enter Try.func32, Try.ntmps32
    go_wp2_with fail
    refine C.mono ?_
    rintro e w1 ⟨rfl, q, rfl⟩
    go_wp2
    go_ret
    exact ⟨rfl, q, rfl⟩
  · have Hb : Hid (True → ((l.length : Int) == 0) = (l == [])) := fun _ => by
      cases l with
      | nil => rfl
      | cons a b =>
        rw [beq_eq_false_iff_ne.2 (show ((a :: b).length : Int) ≠ 0 by simp; omega)]
        rfl
    go_enter Try.func32, Try.ntmps32
    go_wp2
    go_ret
    refine ⟨?_, 0, rfl⟩
    rw [Hb.out trivial]; rfl
  · have C := isGroups_any ao cap l w hr hlen
    go_enter Try.func32, Try.ntmps32
    go_wp2_with fail
    refine C.mono ?_
    rintro e w1 ⟨rfl, rfl⟩
    go_wp2
    go_ret
    exact ⟨rfl, 0, rfl⟩
  iterate 7
    · go_enter Try.func32, Try.ntmps32
      go_wp2
      go_ret
      exact ⟨rfl, 0, rfl⟩
  · have b1 : (t == 1) = false := by simp [h1]
    have b2 : (t == 2) = false := by simp [h2]
    have b3 : (t == 3) = false := by simp [h3]
    have b5 : (t == 5) = false := by simp [h5]
    have b6 : (t == 6) = false := by simp [h6]
    have b16 : (t == 16) = false := by simp [h16]
    have b17 : (t == 17) = false := by simp [h17]
    have b33 : (t == 33) = false := by simp [h33]
    have b34 : (t == 34) = false := by simp [h34]
    have b35 : (t == 35) = false := by simp [h35]
    have b37 : (t == 37) = false := by simp [h37]
    have b38 : (t == 38) = false := by simp [h38]
    have E : Hid (right t l = true) := by
      show right t l = true
      unfold right
      simp [h1, h2, h3, h5, h6, h16, h17, h33, h34, h35, h37, h38]
    clear h1 h2 h3 h5 h6 h16 h17 h33 h34 h35 h37 h38
    go_enter Try.func32, Try.ntmps32
    go_wp2
    go_ret
    rw [E.out]
    exact ⟨rfl, 0, rfl⟩

/-- An element as it lies: what it is, where its bytes are, their room. -/
structure X where
  e : E
  a : Option Addr
  c : Nat
def xD (x : X) : Value := .slice x.a x.e.data.length x.c
def xV (x : X) : Value := .agg #[.int .i64 x.e.tag, xD x, .int .i64 x.e.kids]

/-- An element's bytes can be read, its numbers are ints. -/
structure XOk (w : World) (x : X) : Prop where
  rd : Rd w x.a x.e.data
  le : x.e.data.length ≤ x.c
  cap : x.c ≤ 9223372036854775807
  lo : -9223372036854775808 ≤ x.e.kids
  hi : x.e.kids ≤ 9223372036854775807

theorem XOk.below {w w' : World} {x : X} {n : Nat} (h : XOk w x) (hb : Below n w w') (hn : w.heap.size ≤ n) : XOk w' x := ⟨h.rd.below hb hn, h.le, h.cap, h.lo, h.hi⟩

theorem isTg_bounds {t : Int} (h : isTg t = true) : 0 ≤ t ∧ t ≤ 255 := by
  unfold isTg at h
  simp only [Bool.and_eq_true, decide_eq_true_eq] at h
  exact h.1
theorem sound_eq (t : E) (h1 : isTg t.tag = true) (h2 : right t.tag t.data = true) : sound t = if con t.tag then t.data == [] && decide (0 ≤ t.kids) else t.kids == 0 := by
  unfold sound; rw [h1, h2]; rfl
theorem sound_no1 (t : E) (h1 : isTg t.tag = false) : sound t = false := by unfold sound; rw [h1]; rfl
theorem sound_no2 (t : E) (h2 : right t.tag t.data = false) : sound t = false := by unfold sound; rw [h2]; simp

set_option maxHeartbeats 1000000 in
theorem sound_any (x : X) (w : World) (h : XOk w x) :
    Calls Try.prog 23 #[xV x] w fun e w' => e = .returned (.bool (sound x.e)) ∧ Below w.heap.size w w' := by
  obtain ⟨⟨t, l, k⟩, a, c⟩ := x
  obtain ⟨hrd, hle, hcap, hlo, hhi⟩ := h
  unfold xV xD
  simp only at *
  have C1 := fun w => isTag_any t w
  have C2 := fun (w' : World) (h : Rd w' a l) => right_any t a c l w' h (by omega) hle hcap
  cases e1 : isTg t with
  | false =>
    have Es : Hid (sound ⟨t, l, k⟩ = false) := sound_no1 _ e1
    rw [e1] at C1
    have HC1 : Hid (∀ w, Calls Try.prog 31 #[.int .i64 t] w fun e w' => e = .returned (.bool false) ∧ w' = w) := C1
    clear C1 C2 e1
    go_enter Try.func23, Try.ntmps23
    go_wp2_with fail
    refine (HC1.out _).mono ?_
    rintro e w1 ⟨rfl, rfl⟩
    go_wp2
    go_ret
    exact ⟨by rw [Es.out]; rfl, alloc_below _ _⟩
  | true =>
    rw [e1] at C1
    have HC1 : Hid (∀ w, Calls Try.prog 31 #[.int .i64 t] w fun e w' => e = .returned (.bool true) ∧ w' = w) := C1
    cases e2 : right t l with
    | false =>
      have Es : Hid (sound ⟨t, l, k⟩ = false) := sound_no2 _ e2
      rw [e2] at C2
      have HC2 : Hid (∀ w' : World, Rd w' a l → Calls Try.prog 32 #[.int .i64 t, .slice a l.length c] w' fun e w'' => e = .returned (.bool false) ∧ ∃ q, w'' = w'.drewN q) := C2
      have hrd1 := fun o => hrd.below (alloc_below w o) (Nat.le_refl _)
      clear C1 C2 e1 e2
      go_enter Try.func23, Try.ntmps23
      go_wp2_with fail
      refine (HC1.out _).mono ?_
      rintro e w1 ⟨rfl, rfl⟩
      go_wp2_with fail
      refine (HC2.out _ (hrd1 _)).mono ?_
      rintro e w2 ⟨rfl, q, rfl⟩
      go_wp2
      go_ret
      exact ⟨by rw [Es.out]; rfl, below_drewN (alloc_below _ _) _⟩
    | true =>
      have hT := isTg_bounds e1
      have C3 := fun w => isCon_any t w hT.1 hT.2
      have Es : Hid (sound ⟨t, l, k⟩ = if con t then l == [] && decide (0 ≤ k) else k == 0) := sound_eq _ e1 e2
      rw [e2] at C2
      have HC2 : Hid (∀ w' : World, Rd w' a l → Calls Try.prog 32 #[.int .i64 t, .slice a l.length c] w' fun e w'' => e = .returned (.bool true) ∧ ∃ q, w'' = w'.drewN q) := C2
      have hrd1 := fun o => hrd.below (alloc_below w o) (Nat.le_refl _)
      generalize con t = cc at *
      have HC3 : Hid (∀ w, Calls Try.prog 24 #[.int .i64 t] w fun e w' => e = .returned (.bool cc) ∧ w' = w) := C3
      clear C1 C2 C3 e1 e2 hT
      go_enter Try.func23, Try.ntmps23
      go_wp2_with fail
      refine (HC1.out _).mono ?_
      rintro e w1 ⟨rfl, rfl⟩
      go_wp2_with fail
      refine (HC2.out _ (hrd1 _)).mono ?_
      rintro e w2 ⟨rfl, q, rfl⟩
      go_wp2_with fail
      refine (HC3.out _).mono ?_
      rintro e w3 ⟨rfl, rfl⟩
      cases cc with
      | false =>
        go_wp2
        go_ret
        exact ⟨by rw [Es.out]; rfl, below_drewN (alloc_below _ _) _⟩
      | true =>
        rcases l with _ | ⟨y, r⟩
        · simp only [List.length_nil]
          go_wp2
          go_ret
          exact ⟨by rw [Es.out]; rfl, below_drewN (alloc_below _ _) _⟩
        · have hb : ((r.length : Int) + 1 == 0) = false := by simp; omega
          simp only [List.length_cons]
          go_wp2
          go_ret
          exact ⟨by rw [Es.out]; rfl, below_drewN (alloc_below _ _) _⟩

end Go.Proofs.Ytkaoobdemaahbaa
