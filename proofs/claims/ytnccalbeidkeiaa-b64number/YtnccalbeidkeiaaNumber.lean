import Derived.Test.YtnccalbeidkeiaaSign
namespace Go.Proofs.Ytnccalbeidkeiaa
open Go.RowKit

/-- Where the law's loop stands: h pending bits of value n, the bytes that are left, the digits that are left. -/
def Inv (h n : Nat) (rest : List UInt8) (R : List Nat) : Prop :=
  (h = 0 ∧ n = 0 ∧ R = dgs rest) ∨ (h = 2 ∧ n < 4 ∧ R = R2 n rest) ∨ (h = 4 ∧ n < 16 ∧ R = R4 n rest) ∨ (h = 6 ∧ n < 64 ∧ R = R6 n rest)

theorem drop_cons {α : Type} {l : List α} {k : Nat} {x : α} {r : List α} (h : l.drop k = x :: r) : ∃ hk : k < l.length, l[k] = x ∧ l.drop (k + 1) = r := by
  have hk : k < l.length := by
    rcases Nat.lt_or_ge k l.length with h1 | h1
    · exact h1
    · rw [List.drop_eq_nil_of_le h1] at h; cases h
  rw [List.drop_eq_getElem_cons hk] at h
  injection h with h1 h2
  exact ⟨hk, h1, h2⟩

set_option maxHeartbeats 4000000 in
set_option maxRecDepth 100000 in
theorem number_law (ao : Option Addr) (c : Nat) (l : List UInt8) (w : World) (hrd : Rd w ao l) (hlc : l.length ≤ c) (hlen : l.length ≤ 140737488355328) :
    Calls Try.prog 6 #[.slice ao l.length c] w fun e w' => e = .returned (.bool true) ∧ Below w.heap.size w w' := by
  have hR : Hid (Rd w ao l) := hrd
  clear hrd
  go_enter Try.func6, Try.ntmps6
  go_wp2_with fail
  refine (awake_any w).mono ?_
  rintro e w1 ⟨rfl, hb1⟩
  have hR1 : Hid (Rd w1 ao l) := hR.out.below hb1 (Nat.le_refl _)
  go_wp2_with fail
  refine (encode_any ao c l w1 hR1.out hlc hlen).mono ?_
  rintro e w2 ⟨rfl, hb2⟩
  have hR2 : Hid (Rd w2 ao l) := hR1.out.below hb2 (Nat.le_refl _)
  have hB2 : Below w.heap.size w w2 := hb1.trans (hb2.mono hb1.size)
  have HS : Hid (enc urlRow l = (dgs l).map (at6 urlRow)) := enc_map urlRow l
  have hSl := enc_length urlRow l
  have hSb : (enc urlRow l).length ≤ 281474976710656 := by omega
  clear hR hR1 hb1 hb2 hSl
  generalize enc urlRow l = S at HS hSb
  have Hlt : Hid (∀ q ∈ dgs l, q < 64) := dgs_lt l
  go_wp2
  go_loop [4, 5, 6, 7] (fun sh sn sa si => ∃ (h n a i : Nat) (R : List Nat), sh = .int .i64 h ∧ sn = .int .i64 n ∧ sa = .int .i64 a ∧ si = .int .i64 i ∧ i ≤ S.length ∧ a ≤ l.length ∧ Hid ((dgs l).drop i = R) ∧ Hid (Inv h n (l.drop a) R)) (fun _ _ _ si => S.length - (intOf si).toNat)
  case atStart => exact ⟨0, 0, 0, 0, dgs l, rfl, rfl, rfl, rfl, Nat.zero_le _, Nat.zero_le _, rfl, .inl ⟨rfl, rfl, rfl⟩⟩
  case round =>
    obtain ⟨h, n, a, i, R, rfl, rfl, rfl, rfl, hi, ha, HR, HI⟩ := hrel
    have hSd : Hid (S.length = (dgs l).length) := by show S.length = _; rw [HS.out]; simp
    by_cases hlt : i < S.length
    · have hne : R ≠ [] := by
        rw [← HR.out]
        intro e
        have := List.drop_eq_nil_iff.1 e
        have := hSd.out
        omega
      obtain ⟨v, R', rfl⟩ := List.exists_cons_of_ne_nil hne
      obtain ⟨hi2, hvi, hR'⟩ := drop_cons HR.out
      have hv64 : v < 64 := by rw [← hvi]; exact Hlt.out _ (List.getElem_mem hi2)
      have gx : (⟨S.toArray⟩ : ByteArray)[i]'(by show i < S.toArray.size; simpa using hlt) = at6 urlRow v := by
        show S[i] = _
        simp only [HS.out, List.getElem_map, hvi]
      have HR' : Hid ((dgs l).drop (i + 1) = R') := hR'
      clear hne hvi hR' HR
      go_wp2_with fail
      refine (sign_any v hv64 w2).mono ?_
      rintro e w' ⟨rfl, rfl⟩
      clear gx
      rcases HI.out with ⟨rfl, rfl, hr⟩ | ⟨rfl, hn, hr⟩ | ⟨rfl, hn, hr⟩ | ⟨rfl, hn, hr⟩
      · have hnil : l.drop a ≠ [] := by intro e; rw [e] at hr; simp [dgs] at hr
        obtain ⟨x, r, hx⟩ := List.exists_cons_of_ne_nil hnil
        obtain ⟨ha2, hxa, hr2⟩ := drop_cons hx
        rw [hx, dgs_cons] at hr
        injection hr with hv hr'
        have hxn := x.toNat_lt
        have dv : ((x.toNat : Int) / 4 != (v : Int)) = false := by rw [hv]; simp
        have dm := (mask64 ((x.toNat : Int)) (by omega) (by omega)).1
        rcases hR2.out with h0 | ⟨b, off, rfl, hb, hcr⟩
        · subst h0; simp at ha2
        have hcx := hcr a ha2
        rw [List.getD_eq_getElem?_getD, List.getElem?_eq_getElem ha2, Option.getD_some, hxa] at hcx
        unfold B at hcx
        have Hr2 : Hid (l.drop (a + 1) = r) := hr2
        have Hr' : Hid (R' = R2 (x.toNat % 4) r) := hr'
        clear hcr hv hx hxa hr2 hr' hnil
        go_wp2
        refine wp_loop_rounds 2 ?_
        rw [rounds_succ]
        go_wp2
        rw [rounds_succ]
        go_wp2
        exact ⟨⟨2, x.toNat % 4, a + 1, i + 1, R', rfl, congrArg (Value.int .i64) (by omega), by go_num, by go_num, by omega, by omega, HR', .inr (.inl ⟨rfl, by omega, by rw [Hr2.out]; exact Hr'.out⟩)⟩, by simp [intOf]; omega⟩
      · by_cases hnil : l.drop a = []
        · have hal : ¬ a < l.length := by have := List.drop_eq_nil_iff.1 hnil; omega
          rw [hnil, R2] at hr
          injection hr with hv hr'
          have dv : ((n : Int) * 16 != (v : Int)) = false := by rw [hv]; simp
          have dm := (mask64 ((n : Int) * 16) (by omega) (by omega)).2.2.2
          have Hr' : Hid (R' = []) := hr'
          have Hn : Hid (l.drop a = []) := hnil
          clear hv hr' hnil
          go_wp2
          refine wp_loop_rounds 1 ?_
          rw [rounds_succ]
          go_wp2
          exact ⟨⟨0, 0, a, i + 1, R', rfl, rfl, rfl, by go_num, by omega, ha, HR', .inl ⟨rfl, rfl, by rw [Hn.out, Hr'.out]; rfl⟩⟩, by simp [intOf]; omega⟩
        obtain ⟨x, r, hx⟩ := List.exists_cons_of_ne_nil hnil
        obtain ⟨ha2, hxa, hr2⟩ := drop_cons hx
        rw [hx, R2] at hr
        injection hr with hv hr'
        have hxn := x.toNat_lt
        have dv : ((256 * (n : Int) + (x.toNat : Int)) / 16 != (v : Int)) = false := by rw [hv]; simp; omega
        have dm := (mask64 ((256 * (n : Int) + (x.toNat : Int))) (by omega) (by omega)).2.1
        rcases hR2.out with h0 | ⟨b, off, rfl, hb, hcr⟩
        · subst h0; simp at ha2
        have hcx := hcr a ha2
        rw [List.getD_eq_getElem?_getD, List.getElem?_eq_getElem ha2, Option.getD_some, hxa] at hcx
        unfold B at hcx
        have Hr2 : Hid (l.drop (a + 1) = r) := hr2
        have Hr' : Hid (R' = R4 (x.toNat % 16) r) := hr'
        clear hcr hv hx hxa hr2 hr' hnil
        go_wp2
        refine wp_loop_rounds 2 ?_
        rw [rounds_succ]
        go_wp2
        rw [rounds_succ]
        go_wp2
        exact ⟨⟨4, x.toNat % 16, a + 1, i + 1, R', rfl, congrArg (Value.int .i64) (by omega), by go_num, by go_num, by omega, by omega, HR', .inr (.inr (.inl ⟨rfl, by omega, by rw [Hr2.out]; exact Hr'.out⟩))⟩, by simp [intOf]; omega⟩
      · by_cases hnil : l.drop a = []
        · have hal : ¬ a < l.length := by have := List.drop_eq_nil_iff.1 hnil; omega
          rw [hnil, R4] at hr
          injection hr with hv hr'
          have dv : ((n : Int) * 4 != (v : Int)) = false := by rw [hv]; simp
          have dm := (mask64 ((n : Int) * 4) (by omega) (by omega)).2.2.2
          have Hr' : Hid (R' = []) := hr'
          have Hn : Hid (l.drop a = []) := hnil
          clear hv hr' hnil
          go_wp2
          refine wp_loop_rounds 1 ?_
          rw [rounds_succ]
          go_wp2
          exact ⟨⟨0, 0, a, i + 1, R', rfl, rfl, rfl, by go_num, by omega, ha, HR', .inl ⟨rfl, rfl, by rw [Hn.out, Hr'.out]; rfl⟩⟩, by simp [intOf]; omega⟩
        obtain ⟨x, r, hx⟩ := List.exists_cons_of_ne_nil hnil
        obtain ⟨ha2, hxa, hr2⟩ := drop_cons hx
        rw [hx, R4] at hr
        injection hr with hv hr'
        have hxn := x.toNat_lt
        have dv : ((256 * (n : Int) + (x.toNat : Int)) / 64 != (v : Int)) = false := by rw [hv]; simp; omega
        have dm := (mask64 ((256 * (n : Int) + (x.toNat : Int))) (by omega) (by omega)).2.2.1
        rcases hR2.out with h0 | ⟨b, off, rfl, hb, hcr⟩
        · subst h0; simp at ha2
        have hcx := hcr a ha2
        rw [List.getD_eq_getElem?_getD, List.getElem?_eq_getElem ha2, Option.getD_some, hxa] at hcx
        unfold B at hcx
        have Hr2 : Hid (l.drop (a + 1) = r) := hr2
        have Hr' : Hid (R' = R6 (x.toNat % 64) r) := hr'
        clear hcr hv hx hxa hr2 hr' hnil
        go_wp2
        refine wp_loop_rounds 2 ?_
        rw [rounds_succ]
        go_wp2
        rw [rounds_succ]
        go_wp2
        exact ⟨⟨6, x.toNat % 64, a + 1, i + 1, R', rfl, congrArg (Value.int .i64) (by omega), by go_num, by go_num, by omega, by omega, HR', .inr (.inr (.inr ⟨rfl, by omega, by rw [Hr2.out]; exact Hr'.out⟩))⟩, by simp [intOf]; omega⟩
      · rw [R6] at hr
        injection hr with hv hr'
        have dv : ((n : Int) != (v : Int)) = false := by rw [hv]; simp
        have dm := (mask64 (n : Int) (by omega) (by omega)).2.2.2
        have Hr' : Hid (R' = dgs (l.drop a)) := hr'
        clear hv hr'
        go_wp2
        refine wp_loop_rounds 1 ?_
        rw [rounds_succ]
        go_wp2
        exact ⟨⟨0, 0, a, i + 1, R', rfl, rfl, rfl, by go_num, by omega, ha, HR', .inl ⟨rfl, rfl, Hr'.out⟩⟩, by simp [intOf]; omega⟩
    · have hR0 : R = [] := by
        rw [← HR.out]
        exact List.drop_eq_nil_of_le (by have := hSd.out; omega)
      have hz : h = 0 ∧ n = 0 ∧ a = l.length := by
        subst hR0
        rcases HI.out with ⟨h1, h2, h3⟩ | ⟨h1, h2, h3⟩ | ⟨h1, h2, h3⟩ | ⟨h1, h2, h3⟩
        · refine ⟨h1, h2, ?_⟩
          cases hd : l.drop a with
          | nil => have := List.drop_eq_nil_iff.1 hd; omega
          | cons x r => rw [hd, dgs_cons] at h3; cases h3
        · cases hd : l.drop a with
          | nil => rw [hd, R2] at h3; cases h3
          | cons x r => rw [hd, R2] at h3; cases h3
        · cases hd : l.drop a with
          | nil => rw [hd, R4] at h3; cases h3
          | cons x r => rw [hd, R4] at h3; cases h3
        · rw [R6] at h3; cases h3
      obtain ⟨rfl, rfl, rfl⟩ := hz
      clear HI HR hR0
      go_wp2
      go_ret
      exact ⟨by simp, hB2⟩

end Go.Proofs.Ytnccalbeidkeiaa
