import Derived.Test.YtccfcplhifbjlaaGreatDoorSb
import Derived.Test.YtccfcplhifbjlaaGreatDoorTal
namespace Go.Proofs.YtccfcplhifbjlaaGreatDoor
open Go.RowKit Go.Shelf
set_option maxRecDepth 100000

/-- What Split answers, by cases. -/
theorem splF_cases (t : List UInt8) : (65536 < t.length ∧ splF t = (([], [], []), 10)) ∨ (¬ 65536 < t.length ∧ t.count 46 ≠ 2 ∧ splF t = (([], [], []), 120)) ∨ (¬ 65536 < t.length ∧ t.count 46 = 2 ∧ ∃ a b c, splF t = ((a, b, c), 0) ∧ t = a ++ 46 :: (b ++ 46 :: c) ∧ (a ++ b ++ c).count 46 = 0) := by
  by_cases h1 : 65536 < t.length
  · exact .inl ⟨h1, splF_large h1⟩
  · by_cases h2 : t.count 46 = 2
    · obtain ⟨a, b, c, e, ha, hb, hc⟩ := three h2
      refine .inr (.inr ⟨h1, h2, a, b, c, ?_, e, by simp [ha, hb, hc]⟩)
      rw [e]
      exact splF_ok (by rw [← e]; omega) ha hb hc
    · exact .inr (.inl ⟨h1, h2, splF_dots (by omega) h2⟩)

theorem sapp3 (a b : List UInt8) : (⟨a.toArray⟩ : ByteArray) ++ ⟨b.toArray⟩ = ⟨(a ++ b).toArray⟩ := by
  apply ByteArray.ext
  simp

set_option maxRecDepth 100000 in
set_option maxHeartbeats 4000000 in
theorem splits_any (t : List UInt8) (w : World) (T : Sha.Tb w) (hl : t.length ≤ 9223372036854775807) : Calls Tryz.prog 3 #[.string ⟨t.toArray⟩] w fun e w' => e = .returned (.bool true) ∧ Below w.heap.size w w' := by
  have CA := alive_any w T
  have C1 : Hid (∀ w, Calls Tryz.prog 11 #[.string ⟨t.toArray⟩] w fun e w' => e = .returned (.tuple #[.string ⟨(splF t).1.1.toArray⟩, .string ⟨(splF t).1.2.1.toArray⟩, .string ⟨(splF t).1.2.2.toArray⟩, .int .i64 ((splF t).2 : Nat)]) ∧ Below w.heap.size w w') := split_any t
  have HC : Hid ((65536 < t.length ∧ splF t = (([], [], []), 10)) ∨ (¬ 65536 < t.length ∧ t.count 46 ≠ 2 ∧ splF t = (([], [], []), 120)) ∨ (¬ 65536 < t.length ∧ t.count 46 = 2 ∧ ∃ a b c, splF t = ((a, b, c), 0) ∧ t = a ++ 46 :: (b ++ 46 :: c) ∧ (a ++ b ++ c).count 46 = 0)) := splF_cases t
  have HS : Hid (∀ k (h : k < t.length), (t.take (k + 1)).count 46 = if t[k] = 46 then (t.take k).count 46 + 1 else (t.take k).count 46) := fun k h => by
    rw [List.take_succ_eq_append_getElem h, List.count_append, List.count_cons, List.count_nil]
    by_cases e : t[k] = 46 <;> simp [e]
  have HN : Hid (∀ k, (t.take k).count 46 ≤ k) := fun k => by
    have h3 := List.count_le_length (a := (46 : UInt8)) (l := t.take k)
    rw [List.length_take] at h3
    omega
  clear T
  generalize splF t = S at *
  obtain ⟨⟨x1, x2, x3⟩, n⟩ := S
  simp only at C1
  go_enter Tryz.func3, Tryz.ntmps3
  go_wp2_with fail
  refine CA.mono ?_
  clear CA
  rintro e w1 ⟨rfl, B1⟩
  have HB1 : Hid (Below w.heap.size w w1) := B1
  clear B1
  go_wp2_with fail
  refine (C1.out _).mono ?_
  clear C1
  rintro e w2 ⟨rfl, B2⟩
  have HB2 : Hid (Below w.heap.size w w2) := HB1.out.trans (B2.mono HB1.out.size)
  clear B2 HB1
  go_wp2
  go_loopw [7, 8] (fun s7 s8 wr => ∃ k : Nat, s8 = .int .i64 (k : Int) ∧ k ≤ t.length ∧ s7 = .int .i64 (((t.take k).count 46 : Nat) : Int) ∧ wr = w2) (fun _ s _ => t.length - (intOf s).toNat)
  case atStart => exact ⟨0, rfl, by omega, by simp, rfl⟩
  case round =>
    obtain ⟨k, rfl, hk, rfl, rfl⟩ := hrel
    by_cases hlt : k < t.length
    · have d1 : decide ((k : Int) < (t.length : Int)) = true := decide_eq_true (by omega)
      obtain ⟨x, Hx⟩ : ∃ x, Hid (t[k] = x) := ⟨t[k], rfl⟩
      have gx : (⟨t.toArray⟩ : ByteArray)[k]'(by show k < t.toArray.size; simpa using hlt) = x := by rw [← Hx.out]; simp [ByteArray.getElem_eq_getElem_data]
      have HSk := HS.out k hlt
      have hcl := HN.out k
      rw [Hx.out] at HSk
      clear Hx
      obtain ⟨N, HN2⟩ : ∃ N, Hid ((t.take (k + 1)).count 46 = N) := ⟨(t.take (k + 1)).count 46, rfl⟩
      rw [HN2.out] at HSk
      generalize (t.take k).count 46 = M at *
      by_cases hx : x = 46
      · subst hx
        rw [if_pos rfl] at HSk
        subst HSk
        go_wp2
        go_roundw
        case rel => exact ⟨k + 1, by go_num, by omega, by rw [HN2.out]; go_num, by first | rfl | trivial⟩
        case measure => simp [intOf]; omega
      · have hx2 : ((x.toNat : Int) == 46) = false := by
          rw [beq_eq_false_iff_ne]
          intro e
          exact hx (UInt8.toNat_inj.1 (by have : (46 : UInt8).toNat = 46 := rfl; omega))
        rw [if_neg hx] at HSk
        subst HSk
        clear hx
        go_wp2
        go_roundw
        case rel => exact ⟨k + 1, by go_num, by omega, by rw [HN2.out], by first | rfl | trivial⟩
        case measure => simp [intOf]; omega
    · have d1 : decide ((k : Int) < (t.length : Int)) = false := decide_eq_false (by omega)
      have hkt : t.take k = t := List.take_of_length_le (by omega)
      rw [hkt]
      clear HS HN hkt
      rcases HC.out with ⟨h1, hS⟩ | ⟨h1, h2, hS⟩ | ⟨h1, h2, a, b, c, hS, ht, hc⟩
      · have d2 : decide ((t.length : Int) > 65536) = true := decide_eq_true (by omega)
        simp only [Prod.mk.injEq] at hS
        obtain ⟨⟨rfl, rfl, rfl⟩, rfl⟩ := hS
        clear HC
        have hz : (⟨#[]⟩ : ByteArray) ++ ⟨#[]⟩ = ⟨#[]⟩ := sapp3 [] []
        go_wp2
        go_ret
        exact ⟨rfl, HB2.out⟩
      · have d2 : decide ((t.length : Int) > 65536) = false := decide_eq_false (by omega)
        have d3 : (((t.count 46 : Nat) : Int) != 2) = true := by simp; omega
        simp only [Prod.mk.injEq] at hS
        obtain ⟨⟨rfl, rfl, rfl⟩, rfl⟩ := hS
        clear HC h2
        generalize t.count 46 = M at *
        have hz : (⟨#[]⟩ : ByteArray) ++ ⟨#[]⟩ = ⟨#[]⟩ := sapp3 [] []
        go_wp2
        go_ret
        exact ⟨rfl, HB2.out⟩
      · have d2 : decide ((t.length : Int) > 65536) = false := decide_eq_false (by omega)
        have d3 : (((t.count 46 : Nat) : Int) != 2) = false := by simp; omega
        simp only [Prod.mk.injEq] at hS
        obtain ⟨⟨rfl, rfl, rfl⟩, rfl⟩ := hS
        have hA : (⟨x1.toArray⟩ : ByteArray) ++ ⟨x2.toArray⟩ ++ ⟨x3.toArray⟩ = ⟨(x1 ++ x2 ++ x3).toArray⟩ := by rw [sapp3, sapp3]
        have HE : Hid ((⟨x1.toArray⟩ : ByteArray) ++ ⟨#[46]⟩ ++ ⟨x2.toArray⟩ ++ ⟨#[46]⟩ ++ ⟨x3.toArray⟩ = ⟨t.toArray⟩) := by
          have e : (⟨x1.toArray⟩ : ByteArray) ++ ⟨([46] : List UInt8).toArray⟩ ++ ⟨x2.toArray⟩ ++ ⟨([46] : List UInt8).toArray⟩ ++ ⟨x3.toArray⟩ = ⟨t.toArray⟩ := by
            rw [sapp3, sapp3, sapp3, sapp3, ht]
            simp
          exact e
        have hlen : x1.length + x2.length + x3.length ≤ 65536 := by rw [ht] at h1; simp at h1; omega
        have HQ : Hid (∀ k (h : k < (x1 ++ x2 ++ x3).length), (x1 ++ x2 ++ x3)[k] ≠ 46) := fun k h e => by
          have : 46 ∈ x1 ++ x2 ++ x3 := e ▸ List.getElem_mem h
          exact absurd hc (by have := List.count_pos_iff.2 this; omega)
        have hlp : (x1 ++ x2 ++ x3).length ≤ 65536 := by simp; omega
        clear HC h2 hc ht
        obtain ⟨P, hP⟩ : ∃ P, x1 ++ x2 ++ x3 = P := ⟨_, rfl⟩
        rw [hP] at hA HQ hlp
        clear hP
        go_wp2
        go_loopw [10] (fun s10 wr2 => ∃ j : Nat, s10 = .int .i64 (j : Int) ∧ j ≤ P.length ∧ wr2 = wr) (fun s _ => P.length - (intOf s).toNat)
        case atStart => exact ⟨0, rfl, by omega, rfl⟩
        case round =>
          obtain ⟨j, rfl, hj, rfl⟩ := hrel
          by_cases hlt2 : j < P.length
          · have d4 : decide ((j : Int) < (P.length : Int)) = true := decide_eq_true (by omega)
            obtain ⟨x, Hx⟩ : ∃ x, Hid (P[j] = x) := ⟨P[j], rfl⟩
            have gx : (⟨P.toArray⟩ : ByteArray)[j]'(by show j < P.toArray.size; simpa using hlt2) = x := by rw [← Hx.out]; simp [ByteArray.getElem_eq_getElem_data]
            have hx := HQ.out j hlt2
            rw [Hx.out] at hx
            have hx2 : ((x.toNat : Int) == 46) = false := by
              rw [beq_eq_false_iff_ne]
              intro e
              exact hx (UInt8.toNat_inj.1 (by have : (46 : UInt8).toNat = 46 := rfl; omega))
            clear Hx hx
            go_wp2
            go_roundw
            case rel => exact ⟨j + 1, by go_num, by omega, by first | rfl | trivial⟩
            case measure => simp [intOf]; omega
          · have d4 : decide ((j : Int) < (P.length : Int)) = false := decide_eq_false (by omega)
            have hE := HE.out
            go_wp2
            go_ret
            exact ⟨rfl, HB2.out⟩

end Go.Proofs.YtccfcplhifbjlaaGreatDoor
