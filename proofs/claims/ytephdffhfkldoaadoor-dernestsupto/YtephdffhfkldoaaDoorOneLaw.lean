import Derived.Test.YtephdffhfkldoaaDoorStd
namespace Go.Proofs.YtephdffhfkldoaaDoor
open Go.RowKit

theorem parse_err {l : List UInt8} (h : (parse l).2.1 ≠ 0) : (parse l).1 = [] ∧ ((parse l).2.1 = 80 ∨ (parse l).2.1 = 11 ∨ ((parse l).2.1 = 10 ∧ 65536 < l.length)) ∧ (parse l).2.2 ≤ l.length := by
  unfold parse at *
  split
  · rename_i hl
    exact ⟨rfl, .inr (.inr ⟨rfl, hl⟩), Nat.zero_le _⟩
  · rename_i hl
    rw [if_neg hl] at h
    generalize hr : pe 32 l = r at *
    match r, hr with
    | .error (p, c), hr =>
      have h1 := pe_code _ _ _ _ hr
      have h2 := pe_err _ _ _ _ (by omega) hr
      exact ⟨rfl, by rcases h1 with h1 | h1 <;> simp [h1], h2⟩
    | .ok (ts, n), hr =>
      simp only at h ⊢
      split at h
      · rename_i hn
        rw [if_pos hn]
        exact ⟨rfl, .inl rfl, by show n ≤ l.length; omega⟩
      · exact absurd rfl h

theorem parse_good {l : List UInt8} (h : (parse l).2.1 = 0) : El 32 (parse l).1 l ∧ (parse l).2.2 = 0 ∧ l.length ≤ 65536 ∧ pe 32 l = .ok ((parse l).1, l.length) := by
  have h2 : parse l = ((parse l).1, 0, (parse l).2.2) := by rw [← h]
  have := parse_ok h2
  exact ⟨this.1, this.2.1, this.2.2.1, this.2.2.2.2⟩

theorem tot_El {d : Nat} {v : List E} {bs : List UInt8} (h : El d v bs) (hl : bs.length ≤ 65536) : tot v < 16777216 := by
  have h1 : ∀ (d : Nat) (ts : List E) (bs : List UInt8), El d ts bs → tot ts ≤ 10 * bs.length := by
    have e0 : ∀ ts us : List E, tot (ts ++ us) = tot ts + tot us := fun ts us => by
      induction ts with
      | nil => simp [tot]
      | cons t r ih => simp only [List.cons_append, tot, ih]; omega
    have e1 : ∀ {P : List E → List UInt8 → Prop}, (∀ ts bs, P ts bs → tot ts ≤ 10 * bs.length) → ∀ {n ts bs}, Els P n ts bs → tot ts ≤ 10 * bs.length := by
      intro P hP n ts bs h
      induction h with
      | nil => simp [tot]
      | cons h1 h2 ih => have := hP _ _ h1; rw [e0, List.length_append]; omega
    intro d
    induction d with
    | zero =>
      rintro ts bs ⟨t, rfl, _, _, rfl⟩
      have := (hd_length t.tag t.data.length).1
      simp only [tot, List.length_append]; omega
    | succ d ih =>
      rintro ts bs (⟨t, rfl, _, _, rfl⟩ | ⟨t, q, body, rfl, hs, hc, rfl, hk⟩)
      · have := (hd_length t.tag t.data.length).1
        simp only [tot, List.length_append]; omega
      · have h1 := e1 ih hk
        have := (hd_length t.tag body.length).1
        have h0 := (data_con hs hc).1
        simp only [tot, List.length_append, h0, List.length_nil]; omega
  have := h1 _ _ _ h
  omega

set_option maxRecDepth 100000 in
set_option maxHeartbeats 4000000 in
theorem derOne_any (ao : Option Addr) (cap : Nat) (l : List UInt8) (w : World) (hr : Rd w ao l) (hc : l.length ≤ cap) (hc2 : cap ≤ 9223372036854775807) (hnil : ao = none → cap = 0) :
    Calls Tryd.prog 3 #[.slice ao l.length cap] w fun e w' => e = .returned (.bool true) ∧ Below w.heap.size w w' := by
  have HR : Hid (Rd w ao l) := hr
  have HC1 : Hid (∀ w', Rd w' ao l → Calls Tryd.prog 10 #[.slice ao l.length cap] w' fun e w'' => ∃ lv xs, (e = .returned (.tuple #[lv, .int .i64 (parse l).2.1, .int .i64 ((parse l).2.2 : Nat)]) ∧ Below w'.heap.size w' w'') ∧ Lst w'.heap.size w'' lv xs ∧ es xs = (parse l).1) := fun w' h => parse_any ao cap l w' h hc hc2 hnil
  have hpe := parse_err (l := l)
  have hpg := parse_good (l := l)
  generalize parse l = P at *
  obtain ⟨v, c, p⟩ := P
  simp only at *
  clear hr hnil
  go_enter Tryd.func3, Tryd.ntmps3
  go_wp2_with fail
  refine (started_any w).mono ?_
  rintro e w1 ⟨rfl, hB1⟩
  have HB1 : Hid (Below w.heap.size w w1) := hB1
  have HR1 : Hid (Rd w1 ao l) := HR.out.below hB1 (Nat.le_refl _)
  clear hB1 HR
  go_wp2_with fail
  refine (HC1.out w1 HR1.out).mono ?_
  rintro e w2 ⟨lv, xs, ⟨rfl, hB2⟩, hL, hes⟩
  have HB2 : Hid (Below w.heap.size w w2) := HB1.out.trans (hB2.mono HB1.out.size)
  have HR2 : Hid (Rd w2 ao l) := HR1.out.below hB2 (Nat.le_refl _)
  obtain ⟨ax, cx, hlv, hRow, hnl, hcp, hnn⟩ := hL.row
  subst hlv
  clear HC1 HB1 HR1 hB2 hL
  by_cases hc0 : c = 0
  · subst hc0
    obtain ⟨hE, hp0, hlen, _⟩ := hpg rfl
    subst hp0
    have hxl : xs.length ≤ 65536 := by
      have h1 := El_len _ _ _ hE
      rw [← hes, es_length] at h1
      omega
    have C2 : Hid (Calls Tryd.prog 11 #[.slice ax xs.length cx] w2 fun e w' => ∃ bv, (e = .returned (.tuple #[bv, .int .i64 0]) ∧ Below w2.heap.size w2 w') ∧ w'.ownsRow w2.heap.size 5 1 bv l.length (l.map B)) := by
      have := print_any ax cx xs w2 hRow hnl (by omega) (by rw [hes]; exact tot_El hE hlen)
      refine this.mono ?_
      intro e w' h
      unfold PrA at h
      rw [hes, (prints_El hE).1 hlen] at h
      exact h
    have HSh : Hid (∀ w', Row w' ax xs → Calls Tryd.prog 12 #[.slice ax xs.length cx] w' fun e w'' => e = .returned (.bool true) ∧ Below w'.heap.size w' w'') := fun w' h => by
      have := shaped_any ax cx xs w' h (by omega)
      rw [hes, shaped_El.2 ⟨l, hE⟩] at this
      exact this
    have HRow : Hid (Row w2 ax xs) := hRow
    clear hpe hpg hE hes hRow hnl hnn
    go_wp2_with fail
    refine C2.out.mono ?_
    rintro e w3 ⟨bv, ⟨rfl, hB3⟩, hbv⟩
    obtain ⟨ab, cb, hbvs⟩ := own_slice hbv
    subst hbvs
    have HB3 : Hid (Below w.heap.size w w3) := HB2.out.trans (hB3.mono HB2.out.size)
    have HR3 : Hid (Rd w3 ao l) := HR2.out.below hB3 (Nat.le_refl _)
    have HRow3 : Hid (Row w3 ax xs) := HRow.out.below hB3 (Nat.le_refl _)
    have Hbv3 : Hid (Rd w3 ab l) := (own_rd hbv).1
    clear hB3 hbv C2 HB2 HR2 HRow
    go_wp2_with fail
    refine (HSh.out w3 HRow3.out).mono ?_
    rintro e w4 ⟨rfl, hB4⟩
    have HB4 : Hid (Below w.heap.size w w4) := HB3.out.trans (hB4.mono HB3.out.size)
    have C4 : Hid (Calls Tryd.prog 13 #[.slice ao l.length cap, .slice ab l.length cb] w4 fun e w' => e = .returned (.bool true) ∧ ∃ q, w' = w4.drewN q) := by
      have := sameBytes_any ao ab cap cb l l w4 (HR3.out.below hB4 (Nat.le_refl _)) (Hbv3.out.below hB4 (Nat.le_refl _)) (by omega) (by omega)
      rw [decide_eq_true rfl] at this
      exact this
    clear hB4 HSh HRow3 HB3 HR3 Hbv3
    go_wp2_with fail
    refine C4.out.mono ?_
    rintro e w5 ⟨rfl, q, rfl⟩
    go_wp2
    go_ret
    exact ⟨rfl, below_drewN HB4.out q⟩
  · obtain ⟨hv0, hcc, hp⟩ := hpe hc0
    subst hv0
    have hx0 : xs = [] := by
      have := congrArg List.length hes
      rw [es_length] at this
      exact List.length_eq_zero_iff.1 this
    subst hx0
    simp only [List.length_nil] at *
    clear hpg hpe hRow hnl hes hnn
    rcases hcc with rfl | rfl | ⟨rfl, hbig⟩
    all_goals
      go_wp2
      go_ret
      exact ⟨by simp <;> omega, HB2.out⟩

end Go.Proofs.YtephdffhfkldoaaDoor
