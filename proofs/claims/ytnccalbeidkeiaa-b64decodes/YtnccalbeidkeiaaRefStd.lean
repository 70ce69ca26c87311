import Derived.Test.YtnccalbeidkeiaaRefDec
namespace Go.Proofs.Ytnccalbeidkeiaa
open Go.RowKit

theorem byte_ne' (x c : UInt8) (h : x ≠ c) : ((x.toNat : Int) == (c.toNat : Int)) = false := by
  have : x.toNat ≠ c.toNat := fun e => h (UInt8.toNat_inj.1 e)
  simp; omega

theorem cut2_shape (l : List UInt8) : ∃ j, j ≤ 2 ∧ l = cut1 (cut1 l) ++ List.replicate j 61 ∧ (j = 0 → l.getLast? ≠ some 61) ∧ (j = 1 → (cut1 (cut1 l)).getLast? ≠ some 61) := by
  by_cases h : l.getLast? = some 61
  · obtain ⟨p, rfl⟩ := List.getLast?_eq_some_iff.1 h
    have e : cut1 (p ++ [61]) = p := by simp [cut1]
    rw [e]
    by_cases h2 : p.getLast? = some 61
    · obtain ⟨q, rfl⟩ := List.getLast?_eq_some_iff.1 h2
      have e2 : cut1 (q ++ [61]) = q := by simp [cut1]
      rw [e2]
      exact ⟨2, Nat.le_refl _, by simp, by simp, by simp⟩
    · have e2 : cut1 p = p := by simp [cut1, h2]
      rw [e2]
      exact ⟨1, by decide, by simp, by simp, fun _ => h2⟩
  · have e : cut1 l = l := by simp [cut1, h]
    rw [e, e]
    exact ⟨0, by decide, by simp, fun _ => h, by simp⟩

theorem last_getD (l : List UInt8) (h : l.getLast? ≠ some 61) : l.getD (l.length - 1) 0 ≠ 61 := by
  intro e
  rw [List.getLast?_eq_getElem?] at h
  rw [List.getD_eq_getElem?_getD] at e
  cases hx : l[l.length - 1]? with
  | none => rw [hx] at e; simp at e
  | some x => rw [hx] at e h; simp at e; rw [e] at h; exact h rfl

/-- Is the byte at i one of the filling? -/
def Fl (l : List UInt8) (i : Nat) : Prop := l.getD i 0 = 61 ∧ (i + 1 = l.length ∨ (i + 2 = l.length ∧ l.getD (l.length - 1) 0 = 61))

theorem fl_iff (l : List UInt8) (i : Nat) (hi : i < l.length) : Fl l i ↔ (cut1 (cut1 l)).length ≤ i := by
  obtain ⟨j, hj, hl, h0, h1⟩ := cut2_shape l
  generalize cut1 (cut1 l) = m at hl h0 h1
  have hn : l.length = m.length + j := by rw [hl]; simp
  have hhi : ∀ k, m.length ≤ k → k < l.length → l.getD k 0 = 61 := fun k h1 h2 => by
    rw [hl, List.getD_eq_getElem?_getD, List.getElem?_append_right h1, List.getElem?_replicate, if_pos (by omega)]
    rfl
  have hlo : ∀ k, k < m.length → l.getD k 0 = m.getD k 0 := fun k h => by
    rw [hl, List.getD_eq_getElem?_getD, List.getElem?_append_left h, ← List.getD_eq_getElem?_getD]
  unfold Fl
  constructor
  · rintro ⟨a, b⟩
    rcases Nat.lt_or_ge i m.length with h | h
    · exfalso
      have hj3 : j = 0 ∨ j = 1 ∨ j = 2 := by omega
      rcases hj3 with rfl | rfl | rfl
      · have := last_getD l (h0 rfl)
        rcases b with b | ⟨b, c⟩
        · rw [show l.length - 1 = i by omega] at this
          exact this a
        · exact this c
      · have := last_getD m (h1 rfl)
        rcases b with b | ⟨b, c⟩
        · omega
        · rw [show m.length - 1 = i by omega, ← hlo i h] at this
          exact this a
      · omega
    · exact h
  · intro h
    refine ⟨hhi i h hi, ?_⟩
    by_cases h2 : i + 1 = l.length
    · exact .inl h2
    · exact .inr ⟨by omega, hhi _ (by omega) (by omega)⟩

set_option maxHeartbeats 8000000 in
set_option maxRecDepth 100000 in
theorem refdecodeStd_any (l : List UInt8) (w : World) (hlen : l.length ≤ 281474976710656) :
    Calls Try.prog 21 #[.string ⟨l.toArray⟩] w fun e w' =>
      ∃ v, e = .returned (.tuple #[v, .int .i64 (decS l).2.1, .int .i64 (decS l).2.2]) ∧ Ans w' w.heap.size v (decS l).1 ∧ Below w.heap.size w w' := by
  have Hfl : Hid (∀ i, i < l.length → (Fl l i ↔ (cut1 (cut1 l)).length ≤ i)) := fun i hi => fl_iff l i hi
  have Hget : Hid (∀ i, (h : i < (cut1 (cut1 l)).length) → l.getD i 0 = (cut1 (cut1 l))[i]) := fun i h => by
    obtain ⟨j, hj, hl, _, _⟩ := cut2_shape l
    generalize cut1 (cut1 l) = m at hl h
    rw [hl, List.getD_eq_getElem?_getD, List.getElem?_append_left h, List.getElem?_eq_getElem h]
    rfl
  have Htake : Hid (l.take (cut1 (cut1 l)).length = cut1 (cut1 l)) := by
    obtain ⟨j, hj, hl, _, _⟩ := cut2_shape l
    show l.take (cut1 (cut1 l)).length = cut1 (cut1 l)
    generalize cut1 (cut1 l) = m at hl
    rw [hl]
    simp
  have hm1 := cut1_len l
  have hm2 := cut1_len (cut1 l)
  have hm3 := cut1_ge l
  have hm4 := cut1_ge (cut1 l)
  have Ed : Hid (decS l = decM l.length (cut1 (cut1 l))) := rfl
  have hml : (cut1 (cut1 l)).length ≤ l.length := by omega
  have hmg : l.length ≤ (cut1 (cut1 l)).length + 2 := by omega
  clear hm1 hm2 hm3 hm4
  generalize cut1 (cut1 l) = m at *
  go_enter Try.func21, Try.ntmps21
  go_wp2
  go_loop [5, 6] (fun se s => ∃ k e : Nat, k ≤ l.length ∧ se = .int .i64 e ∧ s = .int .i64 k ∧ (k ≤ firstNo stdRow m ∨ m.length ≤ firstNo stdRow m) ∧ Hid ((e = l.length ∧ k ≤ m.length) ∨ (e = m.length ∧ m.length < k)) ∧ e ≤ l.length) (fun _ s => l.length - (intOf s).toNat)
  case atStart => exact ⟨0, l.length, Nat.zero_le _, rfl, rfl, .inl (Nat.zero_le _), .inl ⟨rfl, Nat.zero_le _⟩, Nat.le_refl _⟩
  case round =>
    obtain ⟨k, e, hk, rfl, rfl, hkf, He, hel⟩ := hrel
    by_cases hlt : k < l.length
    · obtain ⟨c, hc⟩ : ∃ c, l.getD k 0 = c := ⟨_, rfl⟩
      obtain ⟨d, hd⟩ : ∃ d, l.getD (l.length - 1) 0 = d := ⟨_, rfl⟩
      have hc' : l[k] = c := by rw [← hc, List.getD_eq_getElem?_getD, List.getElem?_eq_getElem hlt, Option.getD_some]
      have hd' : l[l.length - 1]'(by omega) = d := by rw [← hd, List.getD_eq_getElem?_getD, List.getElem?_eq_getElem (by omega), Option.getD_some]
      have gx : (⟨l.toArray⟩ : ByteArray)[k]'(by show k < l.toArray.size; simpa using hlt) = c := hc'
      have gd : (⟨l.toArray⟩ : ByteArray)[l.length - 1]'(by show l.length - 1 < l.toArray.size; simp; omega) = d := hd'
      have HF : Hid (Fl l k ↔ m.length ≤ k) := Hfl.out k hlt
      by_cases h1 : c = 61
      · have t1 : ((c.toNat : Int) == 61) = true := by rw [h1]; rfl
        by_cases h2 : k + 1 = l.length
        · have t2 : ((k : Int) == (l.length : Int) - 1) = true := by simp; omega
          have hM : m.length ≤ k := HF.out.1 ⟨by rw [hc]; exact h1, .inl h2⟩
          have hneg : ix stdRow c < 0 := by
            have h61 : c = 61 := h1
            rw [h61]
            decide +kernel
          clear hc hd hc' hd' HF h1 h2
          go_wp2_with fail
          refine (refnumS c w).mono ?_
          rintro e' w' ⟨rfl, rfl⟩
          rcases He.out with ⟨h1, h2⟩ | ⟨h1, h2⟩
          · have hke : k < e := by omega
            go_wp2
            go_round
            case rel => exact ⟨k + 1, k, by omega, rfl, by go_num, .inr (by omega), .inr ⟨by omega, by omega⟩, by omega⟩
            case measure => simp [intOf]; omega
          · subst h1
            have hke : ¬ k < m.length := by omega
            go_wp2
            go_round
            case rel => exact ⟨k + 1, m.length, by omega, rfl, by go_num, .inr (by omega), .inr ⟨by omega, by omega⟩, by omega⟩
            case measure => simp [intOf]; omega
        · have t2 : ((k : Int) == (l.length : Int) - 1) = false := by simp; omega
          by_cases h3 : k + 2 = l.length
          · have t3 : ((k : Int) == (l.length : Int) - 2) = true := by simp; omega
            by_cases h4 : d = 61
            · have t4 : ((d.toNat : Int) == 61) = true := by rw [h4]; rfl
              have hM : m.length ≤ k := HF.out.1 ⟨by rw [hc]; exact h1, .inr ⟨h3, by rw [hd]; exact h4⟩⟩
              have hneg : ix stdRow c < 0 := by
                have h61 : c = 61 := h1
                rw [h61]
                decide +kernel
              clear hc hd hc' hd' HF h1 h2 h3 h4
              go_wp2_with fail
              refine (refnumS c w).mono ?_
              rintro e' w' ⟨rfl, rfl⟩
              rcases He.out with ⟨h1, h2⟩ | ⟨h1, h2⟩
              · have hke : k < e := by omega
                go_wp2
                go_round
                case rel => exact ⟨k + 1, k, by omega, rfl, by go_num, .inr (by omega), .inr ⟨by omega, by omega⟩, by omega⟩
                case measure => simp [intOf]; omega
              · subst h1
                have hke : ¬ k < m.length := by omega
                go_wp2
                go_round
                case rel => exact ⟨k + 1, m.length, by omega, rfl, by go_num, .inr (by omega), .inr ⟨by omega, by omega⟩, by omega⟩
                case measure => simp [intOf]; omega
            · have t4 : ((d.toNat : Int) == 61) = false := byte_ne' d 61 h4
              have hM : k < m.length := by
                rcases Nat.lt_or_ge k m.length with h | h
                · exact h
                · exact absurd (HF.out.2 h) (by rintro ⟨_, x | ⟨_, x⟩⟩; exact h2 x; rw [hd] at x; exact h4 x)
              have hcm : m[k] = c := by rw [← Hget.out k hM]; exact hc
              have hkf' : k ≤ firstNo stdRow m := by omega
              have Hk : Hid (k < firstNo stdRow m ↔ ¬ ix stdRow c < 0) := by have := firstNo_lt stdRow m k hkf' hM; rw [hcm] at this; exact this
              clear hcm
              clear hc hd hc' hd' HF h1 h2 h3 h4
              go_wp2_with fail
              refine (refnumS c w).mono ?_
              rintro e' w' ⟨rfl, rfl⟩
              by_cases hneg : ix stdRow c < 0
              · have ef : firstNo stdRow m = k := by have := Hk.out; omega
                have Hr : Hid (decS l = (none, 20, (k : Int))) := by
                  show decS l = _
                  rw [Ed.out]
                  unfold decM
                  rw [if_pos (by omega), ef]
                clear ef hkf hkf' Hk
                go_wp2
                go_ret3
                rw [Hr.out]
                exact ⟨_, rfl, rfl, Below.refl _ _⟩
              · have hk1 : k < firstNo stdRow m := by have := Hk.out; omega
                have HE1 : Hid (e = l.length) := by have h := He.out; show e = l.length; omega
                clear Hk
                go_wp2
                go_round
                case rel => exact ⟨k + 1, e, by omega, rfl, by go_num, .inl (by omega), .inl ⟨HE1.out, by omega⟩, by omega⟩
                case measure => simp [intOf]; omega
          · have t3 : ((k : Int) == (l.length : Int) - 2) = false := by simp; omega
            have hM : k < m.length := by
              rcases Nat.lt_or_ge k m.length with h | h
              · exact h
              · exact absurd (HF.out.2 h) (by rintro ⟨_, x | ⟨x, _⟩⟩; exact h2 x; exact h3 x)
            have hcm : m[k] = c := by rw [← Hget.out k hM]; exact hc
            have hkf' : k ≤ firstNo stdRow m := by omega
            have Hk : Hid (k < firstNo stdRow m ↔ ¬ ix stdRow c < 0) := by have := firstNo_lt stdRow m k hkf' hM; rw [hcm] at this; exact this
            clear hcm
            clear hc hd hc' hd' HF h1 h2 h3
            go_wp2_with fail
            refine (refnumS c w).mono ?_
            rintro e' w' ⟨rfl, rfl⟩
            by_cases hneg : ix stdRow c < 0
            · have ef : firstNo stdRow m = k := by have := Hk.out; omega
              have Hr : Hid (decS l = (none, 20, (k : Int))) := by
                show decS l = _
                rw [Ed.out]
                unfold decM
                rw [if_pos (by omega), ef]
              clear ef hkf hkf' Hk
              go_wp2
              go_ret3
              rw [Hr.out]
              exact ⟨_, rfl, rfl, Below.refl _ _⟩
            · have hk1 : k < firstNo stdRow m := by have := Hk.out; omega
              have HE1 : Hid (e = l.length) := by have h := He.out; show e = l.length; omega
              clear Hk
              go_wp2
              go_round
              case rel => exact ⟨k + 1, e, by omega, rfl, by go_num, .inl (by omega), .inl ⟨HE1.out, by omega⟩, by omega⟩
              case measure => simp [intOf]; omega
      · have t1 : ((c.toNat : Int) == 61) = false := byte_ne' c 61 h1
        have hM : k < m.length := by
          rcases Nat.lt_or_ge k m.length with h | h
          · exact h
          · exact absurd (HF.out.2 h) (by rintro ⟨x, _⟩; rw [hc] at x; exact h1 x)
        have hcm : m[k] = c := by rw [← Hget.out k hM]; exact hc
        have hkf' : k ≤ firstNo stdRow m := by omega
        have Hk : Hid (k < firstNo stdRow m ↔ ¬ ix stdRow c < 0) := by have := firstNo_lt stdRow m k hkf' hM; rw [hcm] at this; exact this
        clear hcm
        clear hc hd hc' hd' HF h1
        go_wp2_with fail
        refine (refnumS c w).mono ?_
        rintro e' w' ⟨rfl, rfl⟩
        by_cases hneg : ix stdRow c < 0
        · have ef : firstNo stdRow m = k := by have := Hk.out; omega
          have Hr : Hid (decS l = (none, 20, (k : Int))) := by
            show decS l = _
            rw [Ed.out]
            unfold decM
            rw [if_pos (by omega), ef]
          clear ef hkf hkf' Hk
          go_wp2
          go_ret3
          rw [Hr.out]
          exact ⟨_, rfl, rfl, Below.refl _ _⟩
        · have hk1 : k < firstNo stdRow m := by have := Hk.out; omega
          have HE1 : Hid (e = l.length) := by have h := He.out; show e = l.length; omega
          clear Hk
          go_wp2
          go_round
          case rel => exact ⟨k + 1, e, by omega, rfl, by go_num, .inl (by omega), .inl ⟨HE1.out, by omega⟩, by omega⟩
          case measure => simp [intOf]; omega
    · have he : e = m.length := by have h := He.out; omega
      have hle := firstNo_le stdRow m
      have h1 : ¬ firstNo stdRow m < m.length := by omega
      have hall := all_of_first stdRow m h1
      subst he
      clear hle hkf He hel Hfl Hget
      by_cases h2 : l.length % 4 ≠ 0
      · have Hr : Hid (decS l = (none, 21, (l.length : Int))) := Ed.out.trans ((if_neg h1).trans (if_pos h2))
        have h2' : ((l.length : Int) % 4 != 0) = true := by simp; omega
        clear hall h1 h2
        go_wp2
        go_ret3
        rw [Hr.out]
        exact ⟨_, rfl, rfl, Below.refl _ _⟩
      · have h2' : ((l.length : Int) % 4 != 0) = false := by simp; omega
        have C := readS m w (by omega) hall (by omega)
        have Hr : Hid (decS l = match dec stdRow m with | some bs => (some bs, 0, 0) | none => (none, 22, (m.length : Int) - 1)) := Ed.out.trans ((if_neg h1).trans (if_neg h2))
        have hx : (⟨l.toArray⟩ : ByteArray).extract 0 m.length = ⟨m.toArray⟩ := by
          rw [Lib.extract_eq]
          show ByteArray.mk ((l.drop 0).take (m.length - 0)).toArray = _
          rw [List.drop_zero, Nat.sub_zero, Htake.out]
        clear hall h1 h2
        go_wp2_with fail
        refine Calls.mono C ?_
        clear hx
        rintro e w1 ⟨⟨bs, hd, rfl, hown⟩ | ⟨hd, rfl⟩, hbl⟩
        · have Hd : Hid (dec stdRow m = some bs) := hd
          clear hd C
          go_wp2
          go_ret3
          rw [Hr.out, Hd.out]
          exact ⟨_, rfl, ⟨_, _, Nat.le_refl _, rfl, hown⟩, hbl⟩
        · have Hd : Hid (dec stdRow m = none) := hd
          clear hd C
          go_wp2
          go_ret3
          rw [Hr.out, Hd.out]
          exact ⟨_, rfl, rfl, hbl⟩

end Go.Proofs.Ytnccalbeidkeiaa
