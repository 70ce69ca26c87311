import Derived.Test.YtcdcfgkgighmhaaGreatDoorDcCut
namespace Go.Proofs.YtcdcfgkgighmhaaGreatDoor.Dec
open Go.RowKit

set_option maxHeartbeats 1000000 in
theorem pow0_0 (l t : List UInt8) (w : World) (hlen : l.length ≤ 281474976710656) (h1 : 1 ≤ l.length) (Hs : Hid ((⟨l.toArray⟩ : ByteArray).extract 1 l.length = ⟨t.toArray⟩)) (hl : t.length ≤ 281474976710656) (Hd1 : Hid (decide (l.head? = some 101) = true)) (H3 : Hid (decide (t.head? = some 43) = false)) (H2 : Hid (decide (t.head? = some 45) = false)) :
    Calls Tryz.prog 119 #[.string ⟨l.toArray⟩] w fun e w' => e = .returned (.tuple #[.agg #[.bool false, .string ⟨(digs t).toArray⟩], .string ⟨(rst t).toArray⟩, .bool (!(digs t).isEmpty)]) ∧ Below w.heap.size w w' := by
  go_enter Tryz.func119, Tryz.ntmps119
  go_wp2_with fail
  refine (has_any l 101 _ hlen).mono ?_
  rintro e w' ⟨rfl, rfl⟩
  rw [Hd1.out]
  go_wp2_with fail
  rw [Hs.out]
  refine (has_any t 43 _ hl).mono ?_
  rintro e w' ⟨rfl, rfl⟩
  rw [H3.out]
  go_wp2_with fail
  refine (has_any t 45 _ hl).mono ?_
  rintro e w' ⟨rfl, rfl⟩
  rw [H2.out]
  go_wp2_with fail
  refine (cutDigits_any t _ hl).mono ?_
  rintro e w' ⟨rfl, q, rfl⟩
  all_goals go_wp2
  all_goals (try simp only [Exit.inBlock, Exit.then])
  all_goals refine bodyPost_ret (v := .tuple #[.agg #[.bool false, .string ⟨(digs t).toArray⟩], .string ⟨(rst t).toArray⟩, .bool (!(digs t).isEmpty)]) ?_ rfl ⟨rfl, ?_⟩
  all_goals first
    | (rw [results_cell_tmp2 rfl]; go_simp; done)
    | (repeat' (first | with_reducible assumption | with_reducible exact Below.refl _ _ | with_reducible exact Nat.le_refl _ | with_reducible refine Below.setCell ?_ ?_ _ | with_reducible refine Below.alloc ?_ ?_ _ | with_reducible apply Below.drew | with_reducible apply below_drewN | omega | (simp; done) | (simp; omega)))

set_option maxHeartbeats 1000000 in
theorem pow0_43 (l t : List UInt8) (w : World) (hlen : l.length ≤ 281474976710656) (h1 : 1 ≤ l.length) (Hs : Hid ((⟨l.toArray⟩ : ByteArray).extract 1 l.length = ⟨t.toArray⟩)) (hl : t.length ≤ 281474976710656) (Hd1 : Hid (decide (l.head? = some 101) = true)) (H3 : Hid (decide (t.head? = some 43) = true)) (u : List UInt8) (Hs2 : Hid ((⟨t.toArray⟩ : ByteArray).extract 1 t.length = ⟨u.toArray⟩)) (hu : u.length ≤ 281474976710656) (h1t : 1 ≤ t.length) (c : UInt8) (gx : (⟨t.toArray⟩ : ByteArray)[0]'(by show 0 < t.toArray.size; simp; omega) = c) (hq : ((c.toNat : Int) == 45) = false) :
    Calls Tryz.prog 119 #[.string ⟨l.toArray⟩] w fun e w' => e = .returned (.tuple #[.agg #[.bool false, .string ⟨(digs u).toArray⟩], .string ⟨(rst u).toArray⟩, .bool (!(digs u).isEmpty)]) ∧ Below w.heap.size w w' := by
  go_enter Tryz.func119, Tryz.ntmps119
  go_wp2_with fail
  refine (has_any l 101 _ hlen).mono ?_
  rintro e w' ⟨rfl, rfl⟩
  rw [Hd1.out]
  go_wp2_with fail
  rw [Hs.out]
  refine (has_any t 43 _ hl).mono ?_
  rintro e w' ⟨rfl, rfl⟩
  rw [H3.out]
  go_wp2_with fail
  go_region
  all_goals rw [Hs2.out]
  all_goals go_wp2_with fail
  all_goals refine (cutDigits_any u _ hu).mono ?_
  all_goals rintro e w' ⟨rfl, q, rfl⟩
  all_goals go_wp2
  all_goals (try simp only [Exit.inBlock, Exit.then])
  all_goals refine bodyPost_ret (v := .tuple #[.agg #[.bool false, .string ⟨(digs u).toArray⟩], .string ⟨(rst u).toArray⟩, .bool (!(digs u).isEmpty)]) ?_ rfl ⟨rfl, ?_⟩
  all_goals first
    | (rw [results_cell_tmp2 rfl]; go_simp; done)
    | (repeat' (first | with_reducible assumption | with_reducible exact Below.refl _ _ | with_reducible exact Nat.le_refl _ | with_reducible refine Below.setCell ?_ ?_ _ | with_reducible refine Below.alloc ?_ ?_ _ | with_reducible apply Below.drew | with_reducible apply below_drewN | omega | (simp; done) | (simp; omega)))

set_option maxHeartbeats 1000000 in
theorem pow0_45 (l t : List UInt8) (w : World) (hlen : l.length ≤ 281474976710656) (h1 : 1 ≤ l.length) (Hs : Hid ((⟨l.toArray⟩ : ByteArray).extract 1 l.length = ⟨t.toArray⟩)) (hl : t.length ≤ 281474976710656) (Hd1 : Hid (decide (l.head? = some 101) = true)) (H3 : Hid (decide (t.head? = some 43) = false)) (H2 : Hid (decide (t.head? = some 45) = true)) (u : List UInt8) (Hs2 : Hid ((⟨t.toArray⟩ : ByteArray).extract 1 t.length = ⟨u.toArray⟩)) (hu : u.length ≤ 281474976710656) (h1t : 1 ≤ t.length) (c : UInt8) (gx : (⟨t.toArray⟩ : ByteArray)[0]'(by show 0 < t.toArray.size; simp; omega) = c) (hq : ((c.toNat : Int) == 45) = true) :
    Calls Tryz.prog 119 #[.string ⟨l.toArray⟩] w fun e w' => e = .returned (.tuple #[.agg #[.bool true, .string ⟨(digs u).toArray⟩], .string ⟨(rst u).toArray⟩, .bool (!(digs u).isEmpty)]) ∧ Below w.heap.size w w' := by
  go_enter Tryz.func119, Tryz.ntmps119
  go_wp2_with fail
  refine (has_any l 101 _ hlen).mono ?_
  rintro e w' ⟨rfl, rfl⟩
  rw [Hd1.out]
  go_wp2_with fail
  rw [Hs.out]
  refine (has_any t 43 _ hl).mono ?_
  rintro e w' ⟨rfl, rfl⟩
  rw [H3.out]
  go_wp2_with fail
  refine (has_any t 45 _ hl).mono ?_
  rintro e w' ⟨rfl, rfl⟩
  rw [H2.out]
  go_wp2_with fail
  go_region
  all_goals rw [Hs2.out]
  all_goals go_wp2_with fail
  all_goals refine (cutDigits_any u _ hu).mono ?_
  all_goals rintro e w' ⟨rfl, q, rfl⟩
  all_goals go_wp2
  all_goals (try simp only [Exit.inBlock, Exit.then])
  all_goals refine bodyPost_ret (v := .tuple #[.agg #[.bool true, .string ⟨(digs u).toArray⟩], .string ⟨(rst u).toArray⟩, .bool (!(digs u).isEmpty)]) ?_ rfl ⟨rfl, ?_⟩
  all_goals first
    | (rw [results_cell_tmp2 rfl]; go_simp; done)
    | (repeat' (first | with_reducible assumption | with_reducible exact Below.refl _ _ | with_reducible exact Nat.le_refl _ | with_reducible refine Below.setCell ?_ ?_ _ | with_reducible refine Below.alloc ?_ ?_ _ | with_reducible apply Below.drew | with_reducible apply below_drewN | omega | (simp; done) | (simp; omega)))

set_option maxHeartbeats 1000000 in
theorem pow1_0 (l t : List UInt8) (w : World) (hlen : l.length ≤ 281474976710656) (h1 : 1 ≤ l.length) (Hs : Hid ((⟨l.toArray⟩ : ByteArray).extract 1 l.length = ⟨t.toArray⟩)) (hl : t.length ≤ 281474976710656) (Hd1 : Hid (decide (l.head? = some 101) = false)) (Hd2 : Hid (decide (l.head? = some 69) = true)) (H3 : Hid (decide (t.head? = some 43) = false)) (H2 : Hid (decide (t.head? = some 45) = false)) :
    Calls Tryz.prog 119 #[.string ⟨l.toArray⟩] w fun e w' => e = .returned (.tuple #[.agg #[.bool false, .string ⟨(digs t).toArray⟩], .string ⟨(rst t).toArray⟩, .bool (!(digs t).isEmpty)]) ∧ Below w.heap.size w w' := by
  go_enter Tryz.func119, Tryz.ntmps119
  go_wp2_with fail
  refine (has_any l 101 _ hlen).mono ?_
  rintro e w' ⟨rfl, rfl⟩
  rw [Hd1.out]
  go_wp2_with fail
  refine (has_any l 69 _ hlen).mono ?_
  rintro e w' ⟨rfl, rfl⟩
  rw [Hd2.out]
  go_wp2_with fail
  rw [Hs.out]
  refine (has_any t 43 _ hl).mono ?_
  rintro e w' ⟨rfl, rfl⟩
  rw [H3.out]
  go_wp2_with fail
  refine (has_any t 45 _ hl).mono ?_
  rintro e w' ⟨rfl, rfl⟩
  rw [H2.out]
  go_wp2_with fail
  refine (cutDigits_any t _ hl).mono ?_
  rintro e w' ⟨rfl, q, rfl⟩
  all_goals go_wp2
  all_goals (try simp only [Exit.inBlock, Exit.then])
  all_goals refine bodyPost_ret (v := .tuple #[.agg #[.bool false, .string ⟨(digs t).toArray⟩], .string ⟨(rst t).toArray⟩, .bool (!(digs t).isEmpty)]) ?_ rfl ⟨rfl, ?_⟩
  all_goals first
    | (rw [results_cell_tmp2 rfl]; go_simp; done)
    | (repeat' (first | with_reducible assumption | with_reducible exact Below.refl _ _ | with_reducible exact Nat.le_refl _ | with_reducible refine Below.setCell ?_ ?_ _ | with_reducible refine Below.alloc ?_ ?_ _ | with_reducible apply Below.drew | with_reducible apply below_drewN | omega | (simp; done) | (simp; omega)))

set_option maxHeartbeats 1000000 in
theorem pow1_43 (l t : List UInt8) (w : World) (hlen : l.length ≤ 281474976710656) (h1 : 1 ≤ l.length) (Hs : Hid ((⟨l.toArray⟩ : ByteArray).extract 1 l.length = ⟨t.toArray⟩)) (hl : t.length ≤ 281474976710656) (Hd1 : Hid (decide (l.head? = some 101) = false)) (Hd2 : Hid (decide (l.head? = some 69) = true)) (H3 : Hid (decide (t.head? = some 43) = true)) (u : List UInt8) (Hs2 : Hid ((⟨t.toArray⟩ : ByteArray).extract 1 t.length = ⟨u.toArray⟩)) (hu : u.length ≤ 281474976710656) (h1t : 1 ≤ t.length) (c : UInt8) (gx : (⟨t.toArray⟩ : ByteArray)[0]'(by show 0 < t.toArray.size; simp; omega) = c) (hq : ((c.toNat : Int) == 45) = false) :
    Calls Tryz.prog 119 #[.string ⟨l.toArray⟩] w fun e w' => e = .returned (.tuple #[.agg #[.bool false, .string ⟨(digs u).toArray⟩], .string ⟨(rst u).toArray⟩, .bool (!(digs u).isEmpty)]) ∧ Below w.heap.size w w' := by
  go_enter Tryz.func119, Tryz.ntmps119
  go_wp2_with fail
  refine (has_any l 101 _ hlen).mono ?_
  rintro e w' ⟨rfl, rfl⟩
  rw [Hd1.out]
  go_wp2_with fail
  refine (has_any l 69 _ hlen).mono ?_
  rintro e w' ⟨rfl, rfl⟩
  rw [Hd2.out]
  go_wp2_with fail
  rw [Hs.out]
  refine (has_any t 43 _ hl).mono ?_
  rintro e w' ⟨rfl, rfl⟩
  rw [H3.out]
  go_wp2_with fail
  go_region
  all_goals rw [Hs2.out]
  all_goals go_wp2_with fail
  all_goals refine (cutDigits_any u _ hu).mono ?_
  all_goals rintro e w' ⟨rfl, q, rfl⟩
  all_goals go_wp2
  all_goals (try simp only [Exit.inBlock, Exit.then])
  all_goals refine bodyPost_ret (v := .tuple #[.agg #[.bool false, .string ⟨(digs u).toArray⟩], .string ⟨(rst u).toArray⟩, .bool (!(digs u).isEmpty)]) ?_ rfl ⟨rfl, ?_⟩
  all_goals first
    | (rw [results_cell_tmp2 rfl]; go_simp; done)
    | (repeat' (first | with_reducible assumption | with_reducible exact Below.refl _ _ | with_reducible exact Nat.le_refl _ | with_reducible refine Below.setCell ?_ ?_ _ | with_reducible refine Below.alloc ?_ ?_ _ | with_reducible apply Below.drew | with_reducible apply below_drewN | omega | (simp; done) | (simp; omega)))

set_option maxHeartbeats 1000000 in
theorem pow1_45 (l t : List UInt8) (w : World) (hlen : l.length ≤ 281474976710656) (h1 : 1 ≤ l.length) (Hs : Hid ((⟨l.toArray⟩ : ByteArray).extract 1 l.length = ⟨t.toArray⟩)) (hl : t.length ≤ 281474976710656) (Hd1 : Hid (decide (l.head? = some 101) = false)) (Hd2 : Hid (decide (l.head? = some 69) = true)) (H3 : Hid (decide (t.head? = some 43) = false)) (H2 : Hid (decide (t.head? = some 45) = true)) (u : List UInt8) (Hs2 : Hid ((⟨t.toArray⟩ : ByteArray).extract 1 t.length = ⟨u.toArray⟩)) (hu : u.length ≤ 281474976710656) (h1t : 1 ≤ t.length) (c : UInt8) (gx : (⟨t.toArray⟩ : ByteArray)[0]'(by show 0 < t.toArray.size; simp; omega) = c) (hq : ((c.toNat : Int) == 45) = true) :
    Calls Tryz.prog 119 #[.string ⟨l.toArray⟩] w fun e w' => e = .returned (.tuple #[.agg #[.bool true, .string ⟨(digs u).toArray⟩], .string ⟨(rst u).toArray⟩, .bool (!(digs u).isEmpty)]) ∧ Below w.heap.size w w' := by
  go_enter Tryz.func119, Tryz.ntmps119
  go_wp2_with fail
  refine (has_any l 101 _ hlen).mono ?_
  rintro e w' ⟨rfl, rfl⟩
  rw [Hd1.out]
  go_wp2_with fail
  refine (has_any l 69 _ hlen).mono ?_
  rintro e w' ⟨rfl, rfl⟩
  rw [Hd2.out]
  go_wp2_with fail
  rw [Hs.out]
  refine (has_any t 43 _ hl).mono ?_
  rintro e w' ⟨rfl, rfl⟩
  rw [H3.out]
  go_wp2_with fail
  refine (has_any t 45 _ hl).mono ?_
  rintro e w' ⟨rfl, rfl⟩
  rw [H2.out]
  go_wp2_with fail
  go_region
  all_goals rw [Hs2.out]
  all_goals go_wp2_with fail
  all_goals refine (cutDigits_any u _ hu).mono ?_
  all_goals rintro e w' ⟨rfl, q, rfl⟩
  all_goals go_wp2
  all_goals (try simp only [Exit.inBlock, Exit.then])
  all_goals refine bodyPost_ret (v := .tuple #[.agg #[.bool true, .string ⟨(digs u).toArray⟩], .string ⟨(rst u).toArray⟩, .bool (!(digs u).isEmpty)]) ?_ rfl ⟨rfl, ?_⟩
  all_goals first
    | (rw [results_cell_tmp2 rfl]; go_simp; done)
    | (repeat' (first | with_reducible assumption | with_reducible exact Below.refl _ _ | with_reducible exact Nat.le_refl _ | with_reducible refine Below.setCell ?_ ?_ _ | with_reducible refine Below.alloc ?_ ?_ _ | with_reducible apply Below.drew | with_reducible apply below_drewN | omega | (simp; done) | (simp; omega)))

theorem cutPower_any (l : List UInt8) (w : World) (hlen : l.length ≤ 281474976710656) :
    Calls Tryz.prog 119 #[.string ⟨l.toArray⟩] w fun e w' => e = .returned (.tuple #[.agg #[.bool (cutP l).1, .string ⟨(cutP l).2.1.toArray⟩], .string ⟨(cutP l).2.2.1.toArray⟩, .bool (cutP l).2.2.2]) ∧ Below w.heap.size w w' := by
  by_cases hE : isE l
  · have h1 : 1 ≤ l.length := by
      cases l with
      | nil => rcases hE with h | h <;> simp at h
      | cons x r => simp
    have Hs : Hid ((⟨l.toArray⟩ : ByteArray).extract 1 l.length = ⟨l.tail.toArray⟩) := suf1 l
    have hl : l.tail.length ≤ 281474976710656 := by rw [List.length_tail]; omega
    have hc : cutP l = (decide (l.tail.head? = some 45), digs (skS l.tail), rst (skS l.tail), !(digs (skS l.tail)).isEmpty) := by unfold cutP; rw [if_pos hE]
    rw [hc]
    clear hc
    obtain ⟨t, ht⟩ : ∃ t, t = l.tail := ⟨_, rfl⟩
    rw [← ht] at Hs hl ⊢
    clear ht
    have hsg : (t.head? = some 43 ∨ t.head? = some 45) → ∃ c u, t = c :: u := by
      cases t with
      | nil => intro h; rcases h with h | h <;> simp at h
      | cons c u => intro _; exact ⟨c, u, rfl⟩
    by_cases hA : l.head? = some 101
    · have Hd1 : Hid (decide (l.head? = some 101) = true) := decide_eq_true hA
      by_cases h3 : t.head? = some 43
      · obtain ⟨c, u, rfl⟩ := hsg (.inl h3)
        have hc : c = 43 := by simpa using h3
        have e : skS (c :: u) = u := by unfold skS; rw [if_pos (.inl h3)]; rfl
        have e2 : decide ((c :: u).head? = some 45) = false := by subst hc; rfl
        rw [e, e2]
        exact pow0_43 l (c :: u) w hlen h1 Hs hl Hd1 (decide_eq_true h3) u (suf1 (c :: u)) (by simp at hl; omega) (by simp) c rfl (by subst hc; rfl)
      · by_cases h2 : t.head? = some 45
        · obtain ⟨c, u, rfl⟩ := hsg (.inr h2)
          have hc : c = 45 := by simpa using h2
          have e : skS (c :: u) = u := by unfold skS; rw [if_pos (.inr h2)]; rfl
          have e2 : decide ((c :: u).head? = some 45) = true := decide_eq_true h2
          rw [e, e2]
          exact pow0_45 l (c :: u) w hlen h1 Hs hl Hd1 (decide_eq_false h3) (decide_eq_true h2) u (suf1 (c :: u)) (by simp at hl; omega) (by simp) c rfl (by subst hc; rfl)
        · have e : skS t = t := by unfold skS; rw [if_neg (fun h => h.elim h3 h2)]
          rw [e, decide_eq_false h2]
          exact pow0_0 l t w hlen h1 Hs hl Hd1 (decide_eq_false h3) (decide_eq_false h2)
    · have Hd1 : Hid (decide (l.head? = some 101) = false) := decide_eq_false hA
      have Hd2 : Hid (decide (l.head? = some 69) = true) := decide_eq_true (hE.resolve_left hA)
      by_cases h3 : t.head? = some 43
      · obtain ⟨c, u, rfl⟩ := hsg (.inl h3)
        have hc : c = 43 := by simpa using h3
        have e : skS (c :: u) = u := by unfold skS; rw [if_pos (.inl h3)]; rfl
        have e2 : decide ((c :: u).head? = some 45) = false := by subst hc; rfl
        rw [e, e2]
        exact pow1_43 l (c :: u) w hlen h1 Hs hl Hd1 Hd2 (decide_eq_true h3) u (suf1 (c :: u)) (by simp at hl; omega) (by simp) c rfl (by subst hc; rfl)
      · by_cases h2 : t.head? = some 45
        · obtain ⟨c, u, rfl⟩ := hsg (.inr h2)
          have hc : c = 45 := by simpa using h2
          have e : skS (c :: u) = u := by unfold skS; rw [if_pos (.inr h2)]; rfl
          have e2 : decide ((c :: u).head? = some 45) = true := decide_eq_true h2
          rw [e, e2]
          exact pow1_45 l (c :: u) w hlen h1 Hs hl Hd1 Hd2 (decide_eq_false h3) (decide_eq_true h2) u (suf1 (c :: u)) (by simp at hl; omega) (by simp) c rfl (by subst hc; rfl)
        · have e : skS t = t := by unfold skS; rw [if_neg (fun h => h.elim h3 h2)]
          rw [e, decide_eq_false h2]
          exact pow1_0 l t w hlen h1 Hs hl Hd1 Hd2 (decide_eq_false h3) (decide_eq_false h2)
  · have hd1 : decide (l.head? = some 101) = false := decide_eq_false fun h => hE (.inl h)
    have hd2 : decide (l.head? = some 69) = false := decide_eq_false fun h => hE (.inr h)
    have Hd1 : Hid (decide (l.head? = some 101) = false) := hd1
    have Hd2 : Hid (decide (l.head? = some 69) = false) := hd2
    have Hc : Hid (cutP l = (false, [], l, true)) := by show _ = _; unfold cutP; rw [if_neg hE]
    clear hE hd1 hd2
    go_enter Tryz.func119, Tryz.ntmps119
    go_wp2_with fail
    refine (has_any l 101 _ hlen).mono ?_
    rintro e w' ⟨rfl, rfl⟩
    rw [Hd1.out]
    go_wp2_with fail
    refine (has_any l 69 _ hlen).mono ?_
    rintro e w' ⟨rfl, rfl⟩
    rw [Hd2.out]
    go_wp2
    (try simp only [Exit.inBlock, Exit.then])
    refine bodyPost_ret (v := .tuple #[.agg #[.bool false, .string ⟨#[]⟩], .string ⟨l.toArray⟩, .bool true]) ?_ rfl ⟨?_, ?_⟩
    · rw [results_cell_tmp2 rfl]; go_simp
    · rw [Hc.out]
    · (repeat' (first | with_reducible assumption | with_reducible exact Below.refl _ _ | with_reducible exact Nat.le_refl _ | with_reducible refine Below.setCell ?_ ?_ _ | with_reducible refine Below.alloc ?_ ?_ _ | with_reducible apply Below.drew | with_reducible apply below_drewN | omega | (simp; done) | (simp; omega)))

end Go.Proofs.YtcdcfgkgighmhaaGreatDoor.Dec