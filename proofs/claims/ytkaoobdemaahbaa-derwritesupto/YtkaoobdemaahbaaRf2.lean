import Derived.Test.YtkaoobdemaahbaaRf1
namespace Go.Proofs.Ytkaoobdemaahbaa
open Go.RowKit

def contR (t : Int) (l : List UInt8) : Bool := if t = 1 ∨ t = 2 ∨ t = 3 ∨ t = 5 ∨ t = 6 then right t l else true

theorem gr_step (l : List UInt8) (k : Nat) (bg : Bool) (hk : k < l.length) : gr bg (l.drop k) = if bg && l[k] == 128 then false else gr (decide (l[k] < 128)) (l.drop (k + 1)) := by
  rw [List.drop_eq_getElem_cons hk, gr]

set_option maxRecDepth 100000 in
set_option maxHeartbeats 2000000 in
theorem rcont6_any (ao : Option Addr) (cap : Nat) (l : List UInt8) (w : World) (hr : Rd w ao l) (hlen : l.length ≤ 9223372036854775807) :
    Calls Try.prog 29 #[.int .i64 6, .slice ao l.length cap] w fun e w' => e = .returned (.bool (gr true l && l != [])) ∧ w' = w := by
  go_enter Try.func29, Try.ntmps29
  go_wp2
  go_loopw [8] (fun s8 wr => ∃ (k : Nat), s8 = .int .i64 (k : Int) ∧ k ≤ l.length ∧ wr = w ∧ Hid (gr true l = gr (decide (k = 0 ∨ (l.getD (k - 1) 0).toNat < 128)) (l.drop k))) (fun s _ => l.length - (intOf s).toNat)
  case atStart => exact ⟨0, rfl, Nat.zero_le _, rfl, rfl⟩
  case round =>
    obtain ⟨k, rfl, hk, hwr, HG⟩ := hrel
    subst hwr
    by_cases hlt : k < l.length
    · obtain ⟨g, off, rfl, hg, hc⟩ := hr.cell (by omega)
      have gx := hc k hlt
      have HS := gr_step l k (decide (k = 0 ∨ (l.getD (k - 1) 0).toNat < 128)) hlt
      rw [← getD_eq l 0 hlt] at HS
      have hx := u8_lt (l.getD k 0)
      have hne : ((l.getD k 0).toNat = 128) ↔ l.getD k 0 = 128 := ⟨fun h => u8_ext h, fun h => by rw [h]; rfl⟩
      have HS2 : Hid (gr true l = if (decide (k = 0 ∨ (l.getD (k - 1) 0).toNat < 128)) && (l.getD k 0 == 128) then false else gr (decide (l.getD k 0 < 128)) (l.drop (k + 1))) := HG.out.trans HS
      have HT : Hid (decide (l.getD k 0 < 128) = decide (k + 1 = 0 ∨ (l.getD (k + 1 - 1) 0).toNat < 128)) := by
        show _ = _
        rw [Nat.add_sub_cancel]
        exact decide_eq_decide.2 (by rw [u8_lt_iff]; omega)
      clear HS HG
      by_cases he : l.getD k 0 = 128
      · have gx2 : wr.cell? ⟨g, off + k, none⟩ = some (.int .u8 128) := by rw [gx, he]; rfl
        by_cases hp : k = 0 ∨ (l.getD (k - 1) 0).toNat < 128
        · have HF : Hid (gr true l = false) := by show _ = _; rw [HS2.out, decide_eq_true hp, he]; rfl
          clear HS2 HT
          by_cases hk0 : k = 0
          · subst hk0
            have gx3 : wr.cell? ⟨g, off, none⟩ = some (.int .u8 128) := gx2
            clear hc gx
            go_wp2
            go_ret
            exact ⟨by rw [HF.out]; rfl, rfl⟩
          · obtain ⟨j, rfl⟩ : ∃ j, k = j + 1 := ⟨k - 1, by omega⟩
            have gp := hc j (by omega)
            have hy : (l.getD j 0).toNat < 128 := by
              rcases hp with h | h
              · omega
              · exact h
            have hb0 : (((j + 1 : Nat) : Int) == 0) = false := by rw [beq_eq_false_iff_ne]; omega
            have hby : decide (((l.getD j 0).toNat : Int) < 128) = true := decide_eq_true (by omega)
            clear hc gx hp
            generalize (l.getD j 0).toNat = y at *
            go_wp2
            go_ret
            exact ⟨by rw [HF.out]; rfl, rfl⟩
        · have hk0 : k ≠ 0 := fun h => hp (.inl h)
          obtain ⟨j, rfl⟩ : ∃ j, k = j + 1 := ⟨k - 1, by omega⟩
          have gp := hc j (by omega)
          have hy : ¬ (l.getD j 0).toNat < 128 := fun h => hp (.inr (by rw [Nat.add_sub_cancel]; exact h))
          have hb0 : (((j + 1 : Nat) : Int) == 0) = false := by rw [beq_eq_false_iff_ne]; omega
          have hby : decide (((l.getD j 0).toNat : Int) < 128) = false := decide_eq_false (by omega)
          have HF : Hid (gr true l = gr (decide (j + 1 + 1 = 0 ∨ (l.getD (j + 1 + 1 - 1) 0).toNat < 128)) (l.drop (j + 1 + 1))) := by
            show _ = _
            rw [HS2.out, decide_eq_false hp, ← HT.out]; rfl
          clear hc gx hp HS2 HT
          generalize (l.getD j 0).toNat = y at *
          go_wp2
          go_roundw
          case rel => exact ⟨j + 1 + 1, by go_num, by omega, (by first | rfl | trivial), HF⟩
          case measure => simp [intOf]; omega
      · have hb : (((l.getD k 0).toNat : Int) == 128) = false := by
          rw [beq_eq_false_iff_ne]
          have := mt hne.1 he
          omega
        have HF : Hid (gr true l = gr (decide (k + 1 = 0 ∨ (l.getD (k + 1 - 1) 0).toNat < 128)) (l.drop (k + 1))) := by
          show _ = _
          rw [HS2.out, beq_eq_false_iff_ne.2 he, ← HT.out, Bool.and_false]; rfl
        clear hc HS2 HT hne
        generalize (l.getD k 0).toNat = y at *
        go_wp2
        go_roundw
        case rel => exact ⟨k + 1, by go_num, by omega, (by first | rfl | trivial), HF⟩
        case measure => simp [intOf]; omega
    · obtain rfl : k = l.length := by omega
      rw [List.drop_of_length_le (Nat.le_refl _), gr] at HG
      by_cases hl0 : l.length = 0
      · obtain rfl : l = [] := List.length_eq_zero_iff.1 hl0
        simp only [List.length_nil] at *
        clear HG
        go_wp2
        go_ret
        exact ⟨rfl, rfl⟩
      · obtain ⟨j, hj⟩ : ∃ j, l.length = j + 1 := ⟨l.length - 1, by omega⟩
        obtain ⟨g, off, rfl, hg, hc⟩ := hr.cell (by omega)
        have gx := hc j (by omega)
        have hb0 : decide ((0 : Int) < (l.length : Int)) = true := decide_eq_true (by omega)
        have HF : Hid ((gr true l && l != []) = decide (((l.getD j 0).toNat : Int) < 128)) := by
          show _ = _
          rw [HG.out, hj, Nat.add_sub_cancel]
          have h1 : (l != []) = true := by cases l with | nil => simp at hj | cons a b => rfl
          rw [h1, Bool.and_true]
          exact decide_eq_decide.2 (by omega)
        have hjI : (l.length : Int) - 1 = (j : Int) := by omega
        have Hj : Hid (l.length = j + 1) := hj
        clear HG hc hl0
        rw [hj] at hk hlt hb0 ⊢
        generalize (l.getD j 0).toNat = y at *
        go_wp2
        go_ret
        exact ⟨by rw [HF.out]; rfl, rfl⟩

set_option maxRecDepth 100000 in
set_option maxHeartbeats 2000000 in
theorem rcont3_any (ao : Option Addr) (cap : Nat) (l : List UInt8) (w : World) (hr : Rd w ao l) (hlen : l.length ≤ 9223372036854775807) :
    Calls Try.prog 29 #[.int .i64 3, .slice ao l.length cap] w fun e w' => e = .returned (.bool (isBt l)) ∧ w' = w := by
  match l, hr, hlen with
  | [], hr, _ =>
    simp only [List.length_nil]
    go_enter Try.func29, Try.ntmps29
    go_wp2
    go_ret
    exact ⟨rfl, rfl⟩
  | u :: r, hr, hlen =>
    obtain ⟨g, off, rfl, hg, hc⟩ := hr.cell (by simp)
    have g0 := hc 0 (by simp)
    simp only [List.getD_cons_zero, Nat.add_zero] at g0
    have E1 : Hid _ := bool_of (isBt_iff u r)
    have g1 := fun h : 0 < r.length => hc r.length (by simp)
    have hy := u8_lt (r.getD (r.length - 1) 0)
    have e9 : 0 < r.length → (u :: r).getD r.length 0 = r.getD (r.length - 1) 0 := fun h => by
      obtain ⟨m, hm⟩ : ∃ m, r.length = m + 1 := ⟨r.length - 1, by omega⟩
      rw [hm]; rfl
    have g2 := fun h => (g1 h).trans (by rw [e9 h])
    clear hc g1 e9
    generalize isBt (u :: r) = z at E1 ⊢
    generalize r.getD (r.length - 1) 0 = y at *
    simp only [List.length_cons] at hlen ⊢
    have hx := u8_lt u
    generalize u.toNat = a at *
    generalize y.toNat = b at *
    have hb1 : ((r.length : Int) + 1 == 0) = false := by simp; omega
    by_cases ha : 7 < a
    · have hb2 : decide ((7 : Int) < (a : Int)) = true := decide_eq_true (by omega)
      clear g2
      go_enter Try.func29, Try.ntmps29
      go_wp2
      go_ret
      rw [E1.out.2 (by omega)]
      exact ⟨rfl, rfl⟩
    · have hb2 : decide ((7 : Int) < (a : Int)) = false := decide_eq_false (by omega)
      by_cases hn : r.length = 0
      · have hrn : r = [] := List.length_eq_zero_iff.1 hn
        subst hrn
        simp only [List.length_nil] at *
        clear g2 hn
        have E2 : Hid (z = ((a : Int) == 0)) := by
          show z = _
          by_cases h0 : a = 0
          · rw [E1.out.1 (by simp [h0])]; simp [h0]
          · rw [E1.out.2 (by simp [h0])]; simp [h0]
        clear E1
        go_enter Try.func29, Try.ntmps29
        go_wp2
        go_ret
        rw [E2.out]
        exact ⟨rfl, rfl⟩
      · have g3 := g2 (by omega)
        have hrn : r ≠ [] := fun e => hn (by rw [e]; rfl)
        have E2 : Hid ((b % 2 ^ a = 0 → z = true) ∧ (¬ b % 2 ^ a = 0 → z = false)) := ⟨fun h => E1.out.1 ⟨by omega, fun e => absurd e hrn, fun _ => h⟩, fun h => E1.out.2 (fun h2 => h (h2.2.2 hrn))⟩
        clear E1 g2 hrn
        generalize hm : r.length = m at *
        clear hm
        have hb4 : ((m : Int) + 1 == 1) = false := by rw [beq_eq_false_iff_ne]; omega
        go_enter Try.func29, Try.ntmps29
        go_wp2
        go_loopw [6, 7] (fun s6 s7 wr => ∃ (i p : Nat), s7 = .int .i64 (i : Int) ∧ s6 = .int .i64 (p : Int) ∧ i ≤ a ∧ wr = w ∧ Hid (p = 2 ^ i) ∧ p ≤ 128) (fun _ s _ => a - (intOf s).toNat)
        case atStart => exact ⟨0, 1, rfl, rfl, Nat.zero_le _, rfl, rfl, by omega⟩
        case round =>
          obtain ⟨i, p, rfl, rfl, hi, hwr, HP, hp⟩ := hrel
          subst hwr
          by_cases hia : i < a
          · have HP2 : Hid (p * 2 = 2 ^ (i + 1)) := by show _ = _; rw [HP.out, Nat.pow_succ]
            have hp2 : p * 2 ≤ 128 := by
              rw [HP2.out]
              exact Nat.le_trans (Nat.pow_le_pow_right (by omega) (show i + 1 ≤ 7 by omega)) (by decide)
            go_wp2
            exact ⟨⟨i + 1, p * 2, by go_num, (by simp only [Value.int.injEq, true_and]; omega), by omega, trivial, HP2.out, hp2⟩, by simp [intOf]; omega⟩
          · obtain rfl : a = i := by omega
            have hpp : 0 < p := by rw [HP.out]; exact Nat.pow_pos (by decide)
            have hpz : ((p : Int) == 0) = false := by rw [beq_eq_false_iff_ne]; omega
            have E3 : Hid (z = ((b : Int) % (p : Int) == 0)) := by
              show _ = _
              rw [← Int.natCast_emod, HP.out]
              by_cases h0 : b % 2 ^ a = 0
              · rw [E2.out.1 h0, h0]; rfl
              · rw [E2.out.2 h0, beq_eq_false_iff_ne.2 (by omega)]
            clear E2 HP
            go_wp2
            go_ret
            rw [E3.out]
            exact ⟨rfl, rfl⟩

set_option maxRecDepth 100000 in
set_option maxHeartbeats 2000000 in
theorem rcont2_any (ao : Option Addr) (cap : Nat) (l : List UInt8) (w : World) (hr : Rd w ao l) (hlen : l.length ≤ 9223372036854775807) :
    Calls Try.prog 29 #[.int .i64 2, .slice ao l.length cap] w fun e w' => e = .returned (.bool (isInt l)) ∧ w' = w := by
  match l, hr, hlen with
  | [], hr, _ =>
    simp only [List.length_nil]
    go_enter Try.func29, Try.ntmps29
    go_wp2
    go_ret
    exact ⟨rfl, rfl⟩
  | [x], hr, _ =>
    simp only [List.length_cons, List.length_nil]
    go_enter Try.func29, Try.ntmps29
    go_wp2
    go_ret
    exact ⟨rfl, rfl⟩
  | x :: y :: r, hr, hlen =>
    obtain ⟨g, off, rfl, hg, hc⟩ := hr.cell (by simp)
    have g0 := hc 0 (by simp)
    have g1 := hc 1 (by simp)
    simp only [List.getD_cons_zero, List.getD_cons_succ, Nat.add_zero] at g0 g1
    clear hc
    have E1 : Hid ((¬ (x.toNat = 0 ∧ y.toNat < 128 ∨ x.toNat = 255 ∧ 128 ≤ y.toNat) → isInt (x :: y :: r) = true) ∧ (¬ ¬ (x.toNat = 0 ∧ y.toNat < 128 ∨ x.toNat = 255 ∧ 128 ≤ y.toNat) → isInt (x :: y :: r) = false)) := bool_of (isInt_iff x y r)
    generalize isInt (x :: y :: r) = z at E1 ⊢
    simp only [List.length_cons] at hlen ⊢
    have hx := u8_lt x
    have hy := u8_lt y
    generalize x.toNat = a at *
    generalize y.toNat = b at *
    have hb : decide ((128 : Int) ≤ (b : Int)) = decide (128 ≤ b) := decide_eq_decide.2 (by omega)
    have hb' : decide ((b : Int) < 128) = !decide (128 ≤ b) := by
      rw [← decide_not]
      exact decide_eq_decide.2 (by omega)
    have h0 : ((a : Int) == 0) = decide (a = 0) := by
      by_cases h : a = 0
      · simp [h]
      · simp [h]
    have h255 : ((a : Int) == 255) = decide (a = 255) := by
      by_cases h : a = 255
      · simp [h]
      · simp [h]; omega
    have E2 : Hid (z = !(decide (a = 0) && !decide (128 ≤ b) || decide (a = 255) && decide (128 ≤ b))) := by
      show z = _
      cases z with
      | true =>
        have h := fun h2 => (E1.out.2 h2)
        simp at h
        by_cases h1 : a = 0 <;> by_cases h2 : a = 255 <;> by_cases h3 : 128 ≤ b <;> simp [h1, h2, h3] <;> omega
      | false =>
        have h := fun h2 => (E1.out.1 h2)
        simp at h
        by_cases h1 : a = 0 <;> by_cases h2 : a = 255 <;> by_cases h3 : 128 ≤ b <;> simp [h1, h2, h3] <;> omega
    clear E1
    cases hd1 : decide (a = 0) <;> cases hd2 : decide (a = 255) <;> cases hd3 : decide (128 ≤ b)
    all_goals
      rw [hd1] at h0
      rw [hd2] at h255
      rw [hd3] at hb hb'
      rw [hd1, hd2, hd3] at E2
      clear hd1 hd2 hd3
      go_enter Try.func29, Try.ntmps29
      go_wp2
      go_ret
      rw [E2.out]
      exact ⟨rfl, rfl⟩

set_option maxRecDepth 100000 in
set_option maxHeartbeats 2000000 in
theorem rcont_any (t : Int) (ao : Option Addr) (cap : Nat) (l : List UInt8) (w : World) (hr : Rd w ao l) (hlen : l.length ≤ 9223372036854775807) :
    Calls Try.prog 29 #[.int .i64 t, .slice ao l.length cap] w fun e w' => e = .returned (.bool (contR t l)) ∧ w' = w := by
  rcases (show t = 1 ∨ t = 2 ∨ t = 3 ∨ t = 5 ∨ t = 6 ∨ (t ≠ 1 ∧ t ≠ 2 ∧ t ≠ 3 ∧ t ≠ 5 ∧ t ≠ 6) by omega) with rfl | rfl | rfl | rfl | rfl | ⟨h1, h2, h3, h5, h6⟩
  · rcases l with _ | ⟨x, _ | ⟨y, r⟩⟩
    · go_enter Try.func29, Try.ntmps29
      go_wp2
      go_ret
      exact ⟨rfl, rfl⟩
    · obtain ⟨g, off, rfl, hg, hc⟩ := hr.cell (by simp)
      have g0 := hc 0 (by simp)
      simp only [List.getD_cons_zero, Nat.add_zero] at g0
      clear hc
      have h0 := u8_eq_iff x 0 (by omega)
      have h1 := u8_eq_iff x 255 (by omega)
      rw [show UInt8.ofNat 0 = 0 from rfl] at h0
      rw [show UInt8.ofNat 255 = 255 from rfl] at h1
      have E : Hid (contR 1 [x] = (((x.toNat : Int) == 0) || ((x.toNat : Int) == 255))) := by
        show right 1 [x] = _
        unfold right
        rw [if_pos rfl]
        by_cases e0 : x = 0
        · simp [e0]
        · by_cases e1 : x = 255
          · simp [e1]
          · have a0 : (x.toNat : Int) ≠ 0 := by have := mt h0.2 e0; omega
            have a1 : (x.toNat : Int) ≠ 255 := by have := mt h1.2 e1; omega
            rw [beq_eq_false_iff_ne.2 a0, beq_eq_false_iff_ne.2 a1]
            simp [e0, e1]
      clear h0 h1
      generalize contR 1 [x] = z at E ⊢
      generalize x.toNat = a at *
      cases hd0 : ((a : Int) == 0) <;> cases hd1 : ((a : Int) == 255)
      all_goals
        rw [hd0, hd1] at E
        go_enter Try.func29, Try.ntmps29
        go_wp2
        go_ret
        rw [E.out]
        exact ⟨rfl, rfl⟩
    · have hb : ((r.length : Int) + 1 + 1 == 1) = false := by simp; omega
      have E : Hid (contR 1 (x :: y :: r) = false) := by show right 1 (x :: y :: r) = false; simp [right]
      simp only [List.length_cons] at *
      go_enter Try.func29, Try.ntmps29
      go_wp2
      go_ret
      exact ⟨by rw [E.out]; rfl, rfl⟩
  · exact rcont2_any ao cap l w hr hlen
  · exact rcont3_any ao cap l w hr hlen
  · have Hb : Hid (True → ((l.length : Int) == 0) = contR 5 l) := fun _ => by
      show _ = (l == [])
      cases l with
      | nil => rfl
      | cons a b =>
        rw [beq_eq_false_iff_ne.2 (show ((a :: b).length : Int) ≠ 0 by simp; omega)]
        rfl
    go_enter Try.func29, Try.ntmps29
    go_wp2
    go_ret
    refine ⟨?_, rfl⟩
    rw [← Hb.out trivial]; rfl
  · exact rcont6_any ao cap l w hr hlen
  · have b1 : (t == 1) = false := by simp [h1]
    have b2 : (t == 2) = false := by simp [h2]
    have b3 : (t == 3) = false := by simp [h3]
    have b5 : (t == 5) = false := by simp [h5]
    have b6 : (t == 6) = false := by simp [h6]
    have E : Hid (contR t l = true) := by
      show contR t l = true
      unfold contR
      rw [if_neg (by simp [h1, h2, h3, h5, h6])]
    clear h1 h2 h3 h5 h6
    go_enter Try.func29, Try.ntmps29
    go_wp2
    go_ret
    rw [E.out]
    exact ⟨rfl, rfl⟩

theorem sound_doc (t : Int) (l : List UInt8) (hc : con t = false) : sound ⟨t, l, 0⟩ = (tagR t && contR t l) := by
  rw [sound_prim t l hc]
  cases h : tagR t with
  | false => rfl
  | true =>
    unfold contR
    split
    · rfl
    · rename_i hn
      have : right t l = true := by
        unfold tagR at h
        simp only [Bool.and_eq_true, Bool.not_eq_true'] at h
        unfold right
        rw [if_neg (fun e => hn (.inl e)), if_neg (fun e => hn (.inr (.inl e))), if_neg (fun e => hn (.inr (.inr (.inl e)))), if_neg (fun e => hn (.inr (.inr (.inr (.inl e))))), if_neg (fun e => hn (.inr (.inr (.inr (.inr e))))), h.2]
        rfl
      rw [this]
end Go.Proofs.Ytkaoobdemaahbaa
