import Derived.Test.YtbgooffhikchmaaSg
namespace Go.Proofs.Ytbgooffhikchmaa
open Go.RowKit Go.Shelf

theorem dcF_b1 {t a b c : List UInt8} (hs : splF t = ((a, b, c), 0)) (hq : ¬ dcN a = 0) : dcF t = (([], [], []), dcN a) := by
  unfold dcF
  rw [hs, if_neg (by simp), if_pos hq]
theorem dcF_b2 {t a b c : List UInt8} (hs : splF t = ((a, b, c), 0)) (h1 : dcN a = 0) (hq : ¬ dcN b = 0) : dcF t = (([], [], []), dcN b) := by
  unfold dcF
  rw [hs, if_neg (by simp), if_neg (by simpa using h1), if_pos hq]
theorem dcF_b3 {t a b c : List UInt8} (hs : splF t = ((a, b, c), 0)) (h1 : dcN a = 0) (h2 : dcN b = 0) (hq : ¬ dcN c = 0) : dcF t = (([], [], []), dcN c) := by
  unfold dcF
  rw [hs, if_neg (by simp), if_neg (by simpa using h1), if_neg (by simpa using h2), if_pos hq]
theorem dcF_ok {t a b c : List UInt8} (hs : splF t = ((a, b, c), 0)) (h1 : dcN a = 0) (h2 : dcN b = 0) (h3 : dcN c = 0) : dcF t = ((dbF a, dbF b, dbF c), 0) := by
  unfold dcF
  rw [hs, if_neg (by simp), if_neg (by simpa using h1), if_neg (by simpa using h2), if_neg (by simpa using h3)]

theorem db_len (l : List UInt8) (hl : l.length ≤ 65536) : (dbF l).length ≤ 100000000 := by
  unfold dbF
  rcases B64.decU_cases l with ⟨b, e, he⟩ | ⟨x, y, e, _⟩
  · rw [e]
    have h := B64.enc_length B64.urlRow b
    rw [he] at h
    show b.length ≤ _
    omega
  · rw [e]
    show 0 ≤ _
    omega
theorem dcF_len (t : List UInt8) : (dcF t).1.1.length ≤ 100000000 ∧ (dcF t).1.2.1.length ≤ 100000000 ∧ (dcF t).1.2.2.length ≤ 100000000 := by
  obtain ⟨l1, l2, l3⟩ := splF_len t
  unfold dcF
  split
  · simp
  · split
    · simp
    · split
      · simp
      · split
        · simp
        · exact ⟨db_len _ l1, db_len _ l2, db_len _ l3⟩

set_option maxRecDepth 100000 in
set_option maxHeartbeats 4000000 in
/-- The document's Decode. -/
theorem rjdecode_any (t : List UInt8) (w : World) : Calls Try.prog 7 #[.string ⟨t.toArray⟩] w fun e w' => ∃ v1 v2 v3, e = .returned (.tuple #[v1, v2, v3, .int .i64 ((dcF t).2 : Nat)]) ∧
    Owb w' w.heap.size v1 (dcF t).1.1 ∧ Owb w' w.heap.size v2 (dcF t).1.2.1 ∧ Owb w' w.heap.size v3 (dcF t).1.2.2 ∧ Below w.heap.size w w' := by
  have C1 := rsplit_any t w
  obtain ⟨l1, l2, l3⟩ := splF_len t
  by_cases h0 : (splF t).2 = 0
  · obtain ⟨a, b, c, HS⟩ : ∃ a b c, Hid (splF t = ((a, b, c), 0)) := ⟨(splF t).1.1, (splF t).1.2.1, (splF t).1.2.2, by rw [← h0]; rfl⟩
    rw [HS.out] at C1 l1 l2 l3
    simp only at C1 l1 l2 l3
    clear h0
    go_enter Try.func7, Try.ntmps7
    go_wp2_with fail
    refine C1.mono ?_
    clear C1
    rintro e w1 ⟨rfl, B1⟩
    have HB1 : Hid (Below w.heap.size w w1) := B1
    clear B1
    have C := B64.refdecode_any a w1 (by omega)
    rw [decU_code a] at C
    go_wp2_with fail
    refine C.mono ?_
    clear C
    rintro e w2 ⟨v1, rfl, hv, B2⟩
    have HV1 : Hid (Owb w2 w.heap.size v1 (dbF a)) := (ans_own hv).base HB1.out.size
    have HB2 : Hid (Below w.heap.size w w2) := HB1.out.trans (B2.mono HB1.out.size)
    clear hv B2 HB1
    by_cases q1 : dcN a = 0
    · rw [q1]
      have C := B64.refdecode_any b w2 (by omega)
      rw [decU_code b] at C
      go_wp2_with fail
      refine C.mono ?_
      clear C
      rintro e w3 ⟨v2, rfl, hv, B3⟩
      have HV2 : Hid (Owb w3 w.heap.size v2 (dbF b)) := (ans_own hv).base HB2.out.size
      have HB3 : Hid (Below w.heap.size w w3) := HB2.out.trans (B3.mono HB2.out.size)
      have HV1 : Hid (Owb w3 w.heap.size v1 (dbF a)) := HV1.out.below B3 (Nat.le_refl _)
      clear hv B3 HB2
      by_cases q2 : dcN b = 0
      · rw [q2]
        have C := B64.refdecode_any c w3 (by omega)
        rw [decU_code c] at C
        go_wp2_with fail
        refine C.mono ?_
        clear C
        rintro e w4 ⟨v3, rfl, hv, B4⟩
        have HV3 : Hid (Owb w4 w.heap.size v3 (dbF c)) := (ans_own hv).base HB3.out.size
        have HB4 : Hid (Below w.heap.size w w4) := HB3.out.trans (B4.mono HB3.out.size)
        have HV1 : Hid (Owb w4 w.heap.size v1 (dbF a)) := HV1.out.below B4 (Nat.le_refl _)
        have HV2 : Hid (Owb w4 w.heap.size v2 (dbF b)) := HV2.out.below B4 (Nat.le_refl _)
        clear hv B4 HB3
        by_cases q3 : dcN c = 0
        · rw [q3]
          have HF : Hid (dcF t = ((dbF a, dbF b, dbF c), 0)) := dcF_ok HS.out q1 q2 q3
          clear HS
          go_wp2
          ((try simp only [Exit.inBlock, Exit.then]); refine bodyPost_ret (results_tmp4 rfl _ _ _) rfl ?_)
          rw [HF.out]
          exact ⟨v1, v2, v3, rfl, HV1.out, HV2.out, HV3.out, HB4.out⟩
        · have c2 : (((dcN c : Nat) : Int) != 0) = true := by simp; omega
          have HF : Hid (dcF t = (([], [], []), dcN c)) := dcF_b3 HS.out q1 q2 q3
          generalize dcN c = n at *
          go_wp2
          ((try simp only [Exit.inBlock, Exit.then]); refine bodyPost_ret (results_tmp4 rfl _ _ _) rfl ?_)
          rw [HF.out]
          exact ⟨.slice none 0 0, .slice none 0 0, .slice none 0 0, rfl, Owb.nil _ _, Owb.nil _ _, Owb.nil _ _, HB4.out⟩
      · have c2 : (((dcN b : Nat) : Int) != 0) = true := by simp; omega
        have HF : Hid (dcF t = (([], [], []), dcN b)) := dcF_b2 HS.out q1 q2
        generalize dcN b = n at *
        go_wp2
        ((try simp only [Exit.inBlock, Exit.then]); refine bodyPost_ret (results_tmp4 rfl _ _ _) rfl ?_)
        rw [HF.out]
        exact ⟨.slice none 0 0, .slice none 0 0, .slice none 0 0, rfl, Owb.nil _ _, Owb.nil _ _, Owb.nil _ _, HB3.out⟩
    · have c2 : (((dcN a : Nat) : Int) != 0) = true := by simp; omega
      have HF : Hid (dcF t = (([], [], []), dcN a)) := dcF_b1 HS.out q1
      generalize dcN a = n at *
      go_wp2
      ((try simp only [Exit.inBlock, Exit.then]); refine bodyPost_ret (results_tmp4 rfl _ _ _) rfl ?_)
      rw [HF.out]
      exact ⟨.slice none 0 0, .slice none 0 0, .slice none 0 0, rfl, Owb.nil _ _, Owb.nil _ _, Owb.nil _ _, HB2.out⟩
  · have c1 : (((((splF t).2 : Nat)) : Int) != 0) = true := by simp; omega
    have HF : Hid (dcF t = (([], [], []), (splF t).2)) := dcF_spl h0
    generalize splF t = S at *
    obtain ⟨⟨a, b, c⟩, n⟩ := S
    simp only at *
    go_enter Try.func7, Try.ntmps7
    go_wp2_with fail
    refine C1.mono ?_
    clear C1
    rintro e w1 ⟨rfl, B1⟩
    have HB : Hid (Below w.heap.size w w1) := B1
    clear B1
    go_wp2
    ((try simp only [Exit.inBlock, Exit.then]); refine bodyPost_ret (results_tmp4 rfl _ _ _) rfl ?_)
    rw [HF.out]
    exact ⟨.slice none 0 0, .slice none 0 0, .slice none 0 0, rfl, Owb.nil _ _, Owb.nil _ _, Owb.nil _ _, HB.out⟩

end Go.Proofs.Ytbgooffhikchmaa
