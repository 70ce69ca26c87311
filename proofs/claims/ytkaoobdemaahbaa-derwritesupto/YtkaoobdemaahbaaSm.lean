import Derived.Test.YtkaoobdemaahbaaShape
namespace Go.Proofs.Ytkaoobdemaahbaa
open Go.RowKit

theorem take_iffB {l1 l2 : List UInt8} {k : Nat} (h1 : k < l1.length) (h2 : k < l2.length) (h : l1.take k = l2.take k) : l1[k] = l2[k] ↔ l1.take (k + 1) = l2.take (k + 1) := by
  rw [List.take_succ_eq_append_getElem h1, List.take_succ_eq_append_getElem h2, h]
  constructor
  · intro e; rw [e]
  · intro e
    have := List.append_cancel_left e
    exact (List.cons.inj this).1

theorem ne_byte (x y : UInt8) : ((x.toNat : Int) != (y.toNat : Int)) = !decide (x = y) := by
  by_cases h : x = y
  · subst h; simp
  · have : x.toNat ≠ y.toNat := fun e => h (u8_ext e)
    simp [h]; omega

set_option maxHeartbeats 1000000 in
theorem sameBytes_any (a1 a2 : Option Addr) (c1 c2 : Nat) (l1 l2 : List UInt8) (w : World) (hr1 : Rd w a1 l1) (hr2 : Rd w a2 l2) (hlen : l1.length ≤ 9223372036854775807) (hlen2 : l2.length ≤ 9223372036854775807) :
    Calls Try.prog 10 #[.slice a1 l1.length c1, .slice a2 l2.length c2] w fun e w' => e = .returned (.bool (decide (l1 = l2))) ∧ ∃ q, w' = w.drewN q := by
  by_cases hl : l1.length = l2.length
  · have hl' : ((l1.length : Int) != (l2.length : Int)) = false := by simp; omega
    have Hl : Hid (l1.length = l2.length) := hl
    clear hl
    go_enter Try.func10, Try.ntmps10
    go_wp2
    go_loopw [5] (fun s wr => ∃ k q : Nat, k ≤ l1.length ∧ s = .int .i64 k ∧ Hid (l1.take k = l2.take k) ∧ wr = w.drewN q) (fun s _ => l1.length - (intOf s).toNat)
    case atStart => exact ⟨0, 0, Nat.zero_le _, rfl, rfl, rfl⟩
    case round =>
      obtain ⟨k, q, hk, rfl, Ht, rfl⟩ := hrel
      by_cases hlt : k < l1.length
      · rcases hr1 with hr1 | ⟨b1, o1, rfl, hb1, hc1⟩
        · subst hr1; simp at hlt
        rcases hr2 with hr2 | ⟨b2, o2, rfl, hb2, hc2⟩
        · subst hr2; have h := Hl.out; rw [List.length_nil] at h; omega
        have hlt2 : k < l2.length := by have := Hl.out; omega
        have g1 := hc1 k hlt
        have g2 := hc2 k hlt2
        rw [List.getD_eq_getElem?_getD, List.getElem?_eq_getElem hlt, Option.getD_some] at g1
        rw [List.getD_eq_getElem?_getD, List.getElem?_eq_getElem hlt2, Option.getD_some] at g2
        have Hx : Hid (l1[k] = l2[k] ↔ l1.take (k + 1) = l2.take (k + 1)) := take_iffB hlt hlt2 Ht.out
        unfold B at g1 g2
        clear hc1 hc2
        generalize l1[k] = x at g1 Hx
        generalize l2[k] = y at g2 Hx
        have hltI : (k : Int) < (l2.length : Int) := by omega
        have hne := ne_byte x y
        by_cases hxy : x = y
        · have hd : ((x.toNat : Int) != (y.toNat : Int)) = false := by rw [hne]; simp [hxy]
          have Ht1 : Hid (l1.take (k + 1) = l2.take (k + 1)) := Hx.out.1 hxy
          clear hne hxy Hx
          go_wp2
          go_quiet (fail)
          go_wp2
          go_roundw
          case rel => exact ⟨k + 1, _, by omega, by go_num, Ht1, rfl⟩
          case measure => simp [intOf]; omega
        · have hd : ((x.toNat : Int) != (y.toNat : Int)) = true := by rw [hne]; simp [hxy]
          have Hf : Hid (decide (l1 = l2) = false) := by
            show decide (l1 = l2) = false
            rw [decide_eq_false_iff_not]
            intro e
            exact hxy (Hx.out.2 (by rw [e]))
          clear hne hxy Hx
          go_wp2
          go_quiet (fail)
          go_wp2
          go_ret
          rw [Hf.out]
          exact ⟨rfl, _, World.drewN_drewN _ _ _⟩
      · have Hf : Hid (decide (l1 = l2) = true) := by
          show decide (l1 = l2) = true
          rw [decide_eq_true_eq]
          have h := Ht.out
          rw [List.take_of_length_le (by omega), List.take_of_length_le (by have := Hl.out; omega)] at h
          exact h
        go_wp2
        go_ret
        rw [Hf.out]
        exact ⟨rfl, _, rfl⟩
  · have hl' : ((l1.length : Int) != (l2.length : Int)) = true := by simp; omega
    have Hf : Hid (decide (l1 = l2) = false) := by
      show decide (l1 = l2) = false
      rw [decide_eq_false_iff_not]
      intro e
      exact hl (by rw [e])
    clear hl
    go_enter Try.func10, Try.ntmps10
    go_wp2
    go_ret
    rw [Hf.out]
    exact ⟨rfl, 0, rfl⟩

theorem e_ext {a b : E} : a = b ↔ a.tag = b.tag ∧ a.kids = b.kids ∧ a.data = b.data := by
  constructor
  · intro e; subst e; exact ⟨rfl, rfl, rfl⟩
  · obtain ⟨a1, a2, a3⟩ := a
    obtain ⟨b1, b2, b3⟩ := b
    rintro ⟨h1, h2, h3⟩
    simp only at h1 h2 h3
    subst h1 h2 h3
    rfl

set_option maxHeartbeats 1000000 in
theorem sameTlv_any (x y : X) (w : World) (hx : XOk w x) (hy : XOk w y) :
    Calls Try.prog 30 #[xV x, xV y] w fun e w' => e = .returned (.bool (decide (x.e = y.e))) ∧ Below w.heap.size w w' := by
  obtain ⟨⟨t1, l1, k1⟩, a1, c1⟩ := x
  obtain ⟨⟨t2, l2, k2⟩, a2, c2⟩ := y
  obtain ⟨r1, le1, cp1, _, _⟩ := hx
  obtain ⟨r2, le2, cp2, _, _⟩ := hy
  simp only [xV, xD] at *
  have HB : ∀ o1 o2 : Obj, Below w.heap.size w ((w.alloc o1).alloc o2) := fun o1 o2 => (alloc_below w o1).trans ((alloc_below (w.alloc o1) o2).mono (by rw [alloc_size]; omega))
  have C := fun o1 o2 => sameBytes_any a1 a2 c1 c2 l1 l2 ((w.alloc o1).alloc o2) (r1.below (HB o1 o2) (Nat.le_refl _)) (r2.below (HB o1 o2) (Nat.le_refl _)) (by omega) (by omega)
  have HE : Hid (decide ((⟨t1, l1, k1⟩ : E) = ⟨t2, l2, k2⟩) = (decide (t1 = t2) && decide (k1 = k2) && decide (l1 = l2))) := by
    show _ = _
    rw [Bool.eq_iff_iff]
    simp only [decide_eq_true_eq, Bool.and_eq_true, e_ext]
    constructor
    · rintro ⟨h1, h2, h3⟩; exact ⟨⟨h1, h2⟩, h3⟩
    · rintro ⟨⟨h1, h2⟩, h3⟩; exact ⟨h1, h2, h3⟩
  generalize decide (l1 = l2) = bl at *
  have b1 : (t1 == t2) = decide (t1 = t2) := by by_cases h : t1 = t2 <;> simp [h]
  have b2 : (k1 == k2) = decide (k1 = k2) := by by_cases h : k1 = k2 <;> simp [h]
  cases e1 : decide (t1 = t2) with
  | false =>
    rw [e1] at b1 HE
    clear e1
    go_enter Try.func30, Try.ntmps30
    go_wp2
    go_ret
    exact ⟨by rw [HE.out]; rfl, HB _ _⟩
  | true =>
    rw [e1] at b1 HE
    clear e1
    cases e2 : decide (k1 = k2) with
    | false =>
      rw [e2] at b2 HE
      clear e2
      go_enter Try.func30, Try.ntmps30
      go_wp2
      go_ret
      exact ⟨by rw [HE.out]; rfl, HB _ _⟩
    | true =>
      rw [e2] at b2 HE
      clear e2
      go_enter Try.func30, Try.ntmps30
      go_wp2_with fail
      refine (C _ _).mono ?_
      rintro e w1 ⟨rfl, q, rfl⟩
      go_wp2
      go_ret
      exact ⟨by rw [HE.out]; rfl, below_drewN (HB _ _) _⟩

theorem take_iffX {l1 l2 : List X} {k : Nat} (h1 : k < l1.length) (h2 : k < l2.length) (h : es (l1.take k) = es (l2.take k)) : l1[k].e = l2[k].e ↔ es (l1.take (k + 1)) = es (l2.take (k + 1)) := by
  unfold es at *
  rw [List.take_succ_eq_append_getElem h1, List.take_succ_eq_append_getElem h2, List.map_append, List.map_append, h]
  constructor
  · intro e; simp [e]
  · intro e
    have := List.append_cancel_left e
    simpa using this

set_option maxHeartbeats 2000000 in
theorem same_any (a1 a2 : Option Addr) (c1 c2 : Nat) (l1 l2 : List X) (w : World) (hr1 : Row w a1 l1) (hr2 : Row w a2 l2) (hlen : l1.length ≤ 281474976710656) :
    Calls Try.prog 21 #[.slice a1 l1.length c1, .slice a2 l2.length c2] w fun e w' => e = .returned (.bool (decide (es l1 = es l2))) ∧ Below w.heap.size w w' := by
  by_cases hl : l1.length = l2.length
  · have hl' : ((l1.length : Int) != (l2.length : Int)) = false := by simp; omega
    have Hl : Hid (l1.length = l2.length) := hl
    have H1 : Hid (Row w a1 l1) := hr1
    have H2 : Hid (Row w a2 l2) := hr2
    clear hl hr1 hr2
    go_enter Try.func21, Try.ntmps21
    go_wp2
    go_loopw [5] (fun s wr => ∃ k : Nat, k ≤ l1.length ∧ s = .int .i64 k ∧ Hid (es (l1.take k) = es (l2.take k)) ∧ Hid (Below w.heap.size w wr)) (fun s _ => l1.length - (intOf s).toNat)
    case atStart => exact ⟨0, Nat.zero_le _, rfl, rfl, Below.refl _ _⟩
    case round =>
      obtain ⟨k, hk, rfl, Ht, HB⟩ := hrel
      by_cases hlt : k < l1.length
      · have hlt2 : k < l2.length := by have := Hl.out; omega
        have R1 := H1.out.below HB.out (Nat.le_refl _)
        have R2 := H2.out.below HB.out (Nat.le_refl _)
        rcases R1.at' with h0 | ⟨b1, o1, rfl, hb1, hc1⟩
        · subst h0; simp at hlt
        rcases R2.at' with h0 | ⟨b2, o2, rfl, hb2, hc2⟩
        · subst h0; simp at hlt2
        obtain ⟨p0, p1, p2⟩ := hc1 k hlt
        obtain ⟨q0, q1, q2⟩ := hc2 k hlt2
        have C := fun wq (hq : wq = wr.drewN 1) => sameTlv_any l1[k] l2[k] wq (by have := R1.ok _ (List.getElem_mem hlt); subst hq; exact ⟨this.rd, this.le, this.cap, this.lo, this.hi⟩) (by have := R2.ok _ (List.getElem_mem hlt2); subst hq; exact ⟨this.rd, this.le, this.cap, this.lo, this.hi⟩)
        have Hx : Hid (l1[k].e = l2[k].e ↔ es (l1.take (k + 1)) = es (l2.take (k + 1))) := take_iffX hlt hlt2 Ht.out
        have hltI : (k : Int) < (l2.length : Int) := by omega
        generalize l1[k] = x at *
        generalize l2[k] = y at *
        obtain ⟨⟨t1, d1, k1⟩, a1, cc1⟩ := x
        obtain ⟨⟨t2, d2, k2⟩, a2, cc2⟩ := y
        simp only [xV, xD] at *
        clear hc1 hc2 R1 R2
        obtain ⟨bx, Hbx⟩ : ∃ bx, Hid (decide ((⟨t1, d1, k1⟩ : E) = ⟨t2, d2, k2⟩) = bx) := ⟨_, rfl⟩
        rw [Hbx.out] at C
        have HC : Hid (∀ wq, wq = wr.drewN 1 → Calls Try.prog 30 #[.agg #[.int .i64 t1, .slice a1 d1.length cc1, .int .i64 k1], .agg #[.int .i64 t2, .slice a2 d2.length cc2, .int .i64 k2]] wq fun e w' => e = .returned (.bool bx) ∧ Below wq.heap.size wq w') := C
        clear C
        go_wp2
        refine wp_region_tail 8 (by kernel_rfl) (by kernel_rfl) ?_
        simp only [List.take_succ_cons, List.take_zero, List.drop_succ_cons, List.drop_zero]
        repeat (first | go_big_quiet_skip | (go_big_quiet_want; go_big_quiet_op; go_big_quiet_on))
        refine wpQuiet_nil ?_
        have C2 := HC.out _ rfl
        have HBd : Hid (Below w.heap.size w (wr.drewN 1)) := below_drewN HB.out 1
        generalize wr.drewN 1 = w4 at *
        go_wp2_with fail
        refine C2.mono ?_
        rintro e w5 ⟨rfl, hB5⟩
        have HB5 : Hid (Below w.heap.size w w5) := HBd.out.trans (hB5.mono HBd.out.size)
        clear C2 hB5 HC
        cases bx with
        | true =>
          have Ht1 : Hid (es (l1.take (k + 1)) = es (l2.take (k + 1))) := Hx.out.1 (of_decide_eq_true Hbx.out)
          clear Hx Hbx
          go_wp2
          go_roundw
          case rel => exact ⟨k + 1, by omega, by go_num, Ht1, HB5⟩
          case measure => simp [intOf]; omega
        | false =>
          have Hf : Hid (decide (es l1 = es l2) = false) := by
            show decide (es l1 = es l2) = false
            rw [decide_eq_false_iff_not]
            intro e
            refine of_decide_eq_false Hbx.out (Hx.out.2 ?_)
            have h := congrArg (List.take (k + 1)) e
            simpa [es, List.map_take] using h
          clear Hx Hbx
          go_wp2
          go_ret
          rw [Hf.out]
          exact ⟨rfl, HB5.out⟩
      · have Hf : Hid (decide (es l1 = es l2) = true) := by
          show decide (es l1 = es l2) = true
          rw [decide_eq_true_eq]
          have h := Ht.out
          rw [List.take_of_length_le (by omega), List.take_of_length_le (by have := Hl.out; omega)] at h
          exact h
        go_wp2
        go_ret
        rw [Hf.out]
        exact ⟨rfl, HB.out⟩
  · have hl' : ((l1.length : Int) != (l2.length : Int)) = true := by simp; omega
    have Hf : Hid (decide (es l1 = es l2) = false) := by
      show decide (es l1 = es l2) = false
      rw [decide_eq_false_iff_not]
      intro e
      have := congrArg List.length e
      rw [es_length, es_length] at this
      exact hl this
    clear hl
    go_enter Try.func21, Try.ntmps21
    go_wp2
    go_ret
    rw [Hf.out]
    exact ⟨rfl, Below.refl _ _⟩
end Go.Proofs.Ytkaoobdemaahbaa
