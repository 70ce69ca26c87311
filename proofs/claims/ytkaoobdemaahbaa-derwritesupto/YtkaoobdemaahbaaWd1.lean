import Derived.Test.YtkaoobdemaahbaaRf2
import Derived.Test.YtkaoobdemaahbaaShape
namespace Go.Proofs.Ytkaoobdemaahbaa
open Go.RowKit

/-- Is it a tag: of every number. -/
theorem rtag_all (t : Int) (w : World) : Calls Try.prog 28 #[.int .i64 t] w fun e w' => e = .returned (.bool (tagR t)) ∧ w' = w := by
  by_cases h1 : t < 0
  · have hv : tagR t = false := by unfold tagR isTg; rw [decide_eq_false (by omega : ¬ 0 ≤ t)]; rfl
    have d1 : decide (t < 0) = true := decide_eq_true h1
    have HV : Hid (tagR t = false) := hv
    clear hv h1
    go_enter Try.func28, Try.ntmps28
    go_wp2
    go_ret
    rw [HV.out]
    exact ⟨rfl, rfl⟩
  by_cases h2 : t > 255
  · have hv : tagR t = false := by unfold tagR isTg; rw [decide_eq_true (by omega : 0 ≤ t), decide_eq_false (by omega : ¬ t ≤ 255)]; rfl
    have d1 : decide (t < 0) = false := decide_eq_false h1
    have d2 : decide (t > 255) = true := decide_eq_true h2
    have d2' : decide (255 < t) = true := decide_eq_true h2
    have HV : Hid (tagR t = false) := hv
    clear hv h1 h2
    go_enter Try.func28, Try.ntmps28
    go_wp2
    go_ret
    rw [HV.out]
    exact ⟨rfl, rfl⟩
  obtain ⟨n, rfl⟩ : ∃ n : Nat, t = (n : Int) := ⟨t.toNat, by omega⟩
  exact rtag_any n (by omega) w

/-- Is the element right by itself (the document's words)? -/
def aloneR (t : E) : Bool := tagR t.tag && (if con t.tag then t.data == [] else t.kids == 0 && contR t.tag t.data)

theorem tagR_bounds {t : Int} (h : tagR t = true) : 0 ≤ t ∧ t ≤ 255 := by
  unfold tagR isTg at h
  simp only [Bool.and_eq_true, decide_eq_true_eq] at h
  exact ⟨h.1.1.1, h.1.1.2⟩

set_option maxRecDepth 100000 in
theorem ralone_any (x : X) (w : World) (h : XOk w x) : Calls Try.prog 19 #[xV x] w fun e w' => e = .returned (.bool (aloneR x.e)) ∧ Below w.heap.size w w' := by
  have hbel := alloc_below w (.cells #[.int .i64 x.e.tag, xD x, .int .i64 x.e.kids] 32)
  have HB : Hid (Below w.heap.size w (w.alloc (.cells #[.int .i64 x.e.tag, xD x, .int .i64 x.e.kids] 32))) := hbel
  have CT := rtag_all x.e.tag
  have HX : Hid (XOk (w.alloc (.cells #[.int .i64 x.e.tag, xD x, .int .i64 x.e.kids] 32)) x) := h.below hbel (Nat.le_refl _)
  clear h hbel
  unfold xV
  unfold xD at *
  by_cases ht : tagR x.e.tag = true
  · obtain ⟨b0, b1⟩ := tagR_bounds ht
    obtain ⟨t, ht2⟩ : ∃ t : Nat, x.e.tag = (t : Int) := ⟨x.e.tag.toNat, by omega⟩
    have CI := rinner_any t (by omega)
    rw [← ht2] at CI
    have CC := rcont_any x.e.tag x.a x.c x.e.data _ HX.out.rd (by have := HX.out.le; have := HX.out.cap; omega)
    rw [ht] at CT
    have HA : Hid (aloneR x.e = if con x.e.tag then x.e.data == [] else x.e.kids == 0 && contR x.e.tag x.e.data) := by show _ = _; unfold aloneR; rw [ht]; rfl
    clear ht ht2 b0 b1 HX
    cases hc : con x.e.tag with
    | true =>
      rw [hc] at HA CI
      have HA2 : Hid (aloneR x.e = (x.e.data == [])) := HA.out
      have HD : Hid ((x.e.data == []) = ((x.e.data.length : Int) == 0)) := by
        show _ = _
        cases x.e.data with
        | nil => rfl
        | cons a r => simp; omega
      clear hc HA CC
      generalize x.e.data.length = n at *
      go_enter Try.func19, Try.ntmps19
      go_wp2_with fail
      refine (CT _).mono ?_
      rintro e w' ⟨rfl, rfl⟩
      clear CT
      go_wp2_with fail
      refine (CI _).mono ?_
      rintro e w' ⟨rfl, rfl⟩
      clear CI
      go_wp2
      go_ret
      rw [HA2.out, HD.out]
      exact ⟨rfl, HB.out⟩
    | false =>
      rw [hc] at HA CI
      have HA2 : Hid (aloneR x.e = (x.e.kids == 0 && contR x.e.tag x.e.data)) := HA.out
      clear hc HA
      by_cases hk : x.e.kids = 0
      · have dk : (x.e.kids == 0) = true := beq_iff_eq.2 hk
        have HA3 : Hid (aloneR x.e = contR x.e.tag x.e.data) := by show _ = _; rw [HA2.out, dk]; rfl
        clear HA2 hk
        go_enter Try.func19, Try.ntmps19
        go_wp2_with fail
        refine (CT _).mono ?_
        rintro e w' ⟨rfl, rfl⟩
        clear CT
        go_wp2_with fail
        refine (CI _).mono ?_
        rintro e w' ⟨rfl, rfl⟩
        clear CI
        go_wp2_with fail
        refine CC.mono ?_
        rintro e w' ⟨rfl, rfl⟩
        clear CC
        go_wp2
        go_ret
        rw [HA3.out]
        exact ⟨rfl, HB.out⟩
      · have dk : (x.e.kids == 0) = false := beq_eq_false_iff_ne.2 hk
        have HA3 : Hid (aloneR x.e = false) := by show _ = _; rw [HA2.out, dk]; rfl
        clear HA2 hk CC
        go_enter Try.func19, Try.ntmps19
        go_wp2_with fail
        refine (CT _).mono ?_
        rintro e w' ⟨rfl, rfl⟩
        clear CT
        go_wp2_with fail
        refine (CI _).mono ?_
        rintro e w' ⟨rfl, rfl⟩
        clear CI
        go_wp2
        go_ret
        rw [HA3.out]
        exact ⟨rfl, HB.out⟩
  · have ht2 : tagR x.e.tag = false := by simpa using ht
    have HA : Hid (aloneR x.e = false) := by show _ = _; unfold aloneR; rw [ht2]; rfl
    rw [ht2] at CT
    clear ht ht2 HX
    go_enter Try.func19, Try.ntmps19
    go_wp2_with fail
    refine (CT _).mono ?_
    rintro e w' ⟨rfl, rfl⟩
    clear CT
    go_wp2
    go_ret
    rw [HA.out]
    exact ⟨rfl, HB.out⟩

/-- The place behind, by a count of what is still to come. -/
def rb (N : Nat) : Nat → List E → Option (List E)
  | 0, l => some l
  | _ + 1, [] => none
  | m + 1, t :: r => if t.kids < 0 ∨ (N : Int) < t.kids then none else rb N (m + t.kids.toNat) r
termination_by m l => (l.length, m)
def rbI (v : List E) (k : Nat) : Int := match rb v.length 1 (v.drop k) with
  | some r => (v.length : Int) - (r.length : Int)
  | none => -1

theorem rb_zero (N : Nat) (l : List E) : rb N 0 l = some l := by unfold rb; rfl
theorem rb_nil (N m : Nat) : rb N (m + 1) [] = none := by unfold rb; rfl
theorem rb_cons (N m : Nat) (t : E) (r : List E) : rb N (m + 1) (t :: r) = if t.kids < 0 ∨ (N : Int) < t.kids then none else rb N (m + t.kids.toNat) r := by rw [rb]

set_option maxRecDepth 100000 in
set_option maxHeartbeats 2000000 in
theorem rbehind_any (ao : Option Addr) (cap : Nat) (xs : List X) (w : World) (k : Nat) (hR : Row w ao xs) (hlen : xs.length ≤ 2000000) (hk : k ≤ 4000000) :
    Calls Try.prog 18 #[.slice ao xs.length cap, .int .i64 (k : Int)] w fun e w' => e = .returned (.int .i64 (rbI (es xs) k)) ∧ w' = w := by
  obtain ⟨z, HZ⟩ : ∃ z, Hid (rbI (es xs) k = z) := ⟨_, rfl⟩
  rw [HZ.out]
  have HR : Hid (Row w ao xs) := hR
  obtain ⟨N, hN⟩ : ∃ N, xs.length = N := ⟨_, rfl⟩
  have HN : Hid (xs.length = N ∧ (es xs).length = N) := ⟨hN, by rw [es_length]; exact hN⟩
  rw [hN] at hlen ⊢
  clear hR hN
  go_enter Try.func18, Try.ntmps18
  go_wp2
  go_loop [1, 5] (fun s1 s5 => ∃ j m : Nat, s1 = .int .i64 (j : Int) ∧ s5 = .int .i64 (m : Int) ∧ j ≤ 4000000 ∧ m ≤ 1 + j * 2000000 ∧ Hid (((m = 1 ∧ j = k) ∨ j ≤ N) ∧ rb N 1 ((es xs).drop k) = rb N m ((es xs).drop j))) (fun s1 _ => N + 1 - (intOf s1).toNat)
  case atStart => exact ⟨k, 1, rfl, rfl, hk, by omega, .inl ⟨rfl, rfl⟩, rfl⟩
  case round =>
    obtain ⟨j, m, rfl, rfl, hj, hm, HI⟩ := hrel
    by_cases hm0 : m = 0
    · have hz : z = (j : Int) := by
        obtain ⟨h1, h2⟩ := HI.out
        rw [← HZ.out]
        unfold rbI
        rw [HN.out.2, h2, hm0, rb_zero]
        simp only [List.length_drop, HN.out.2]
        rcases h1 with h1 | h1
        · omega
        · omega
      subst hz
      have dm : decide ((m : Int) > 0) = false := decide_eq_false (by omega)
      have dm' : decide (0 < m) = false := decide_eq_false (by omega)
      clear hm0 HI
      go_wp2
      go_ret
      exact ⟨rfl, rfl⟩
    · obtain ⟨m1, rfl⟩ : ∃ m1, m = m1 + 1 := ⟨m - 1, by omega⟩
      have dm : decide (((m1 + 1 : Nat) : Int) > 0) = true := decide_eq_true (by omega)
      have dm' : decide (0 < m1 + 1) = true := decide_eq_true (by omega)
      by_cases hjN : j < N
      · obtain ⟨g, off, rfl, hg, hc⟩ := HR.out.at'.resolve_left (fun e => by have := HN.out.1; rw [e] at this; simp at this; omega)
        have hjl : j < xs.length := by rw [HN.out.1]; exact hjN
        have c2 := (hc j hjl).2.2
        have hok := HR.out.ok xs[j] (List.getElem_mem hjl)
        have hlo := hok.lo
        have hdrop : (es xs).drop j = xs[j].e :: (es xs).drop (j + 1) := by
          rw [List.drop_eq_getElem_cons (by rw [es_length]; exact hjl)]
          simp [es]
        have HD : Hid (rb N (m1 + 1) ((es xs).drop j) = if xs[j].e.kids < 0 ∨ (N : Int) < xs[j].e.kids then none else rb N (m1 + xs[j].e.kids.toNat) ((es xs).drop (j + 1))) := by show _ = _; rw [hdrop, rb_cons]
        clear hdrop hc hok hg
        generalize xs[j].e.kids = kd at c2 hlo HD
        clear hjl
        have dj : decide ((j : Int) ≥ (N : Int)) = false := decide_eq_false (by omega)
        have dj' : decide (N ≤ j) = false := decide_eq_false (by omega)
        by_cases hkd : kd < 0 ∨ (N : Int) < kd
        · have hz : z = -1 := by
            rw [← HZ.out]
            unfold rbI
            rw [HN.out.2, HI.out.2, HD.out, if_pos hkd]
          subst hz
          clear HD HI
          by_cases h1 : kd < 0
          · have e1 : decide (kd < 0) = true := decide_eq_true h1
            clear hkd h1 hlo
            go_wp2
            go_ret
            exact ⟨rfl, rfl⟩
          · have e1 : decide (kd < 0) = false := decide_eq_false h1
            have e2 : decide (kd > (N : Int)) = true := decide_eq_true (by omega)
            have e2' : decide ((N : Int) < kd) = true := decide_eq_true (by omega)
            clear hkd h1 hlo
            go_wp2
            go_ret
            exact ⟨rfl, rfl⟩
        · have e1 : decide (kd < 0) = false := decide_eq_false (by omega)
          have e2 : decide (kd > (N : Int)) = false := decide_eq_false (by omega)
          have e2' : decide ((N : Int) < kd) = false := decide_eq_false (by omega)
          obtain ⟨kn, rfl⟩ : ∃ kn : Nat, kd = (kn : Int) := ⟨kd.toNat, by omega⟩
          have hkn : kn ≤ N := by omega
          have HI2 : Hid (((m1 + kn = 1 ∧ j + 1 = k) ∨ j + 1 ≤ N) ∧ rb N 1 ((es xs).drop k) = rb N (m1 + kn) ((es xs).drop (j + 1))) := ⟨.inr (by omega), by rw [HI.out.2, HD.out, if_neg hkd, Int.toNat_natCast]⟩
          clear HD HI hkd hlo
          go_wp2
          go_round
          case rel => exact ⟨j + 1, m1 + kn, by go_num, by go_num, by omega, by omega, HI2⟩
          case measure => simp [intOf]; omega
      · have hz : z = -1 := by
          rw [← HZ.out]
          unfold rbI
          rw [HN.out.2, HI.out.2, List.drop_of_length_le (by rw [HN.out.2]; omega), rb_nil]
        subst hz
        have dj : decide ((j : Int) ≥ (N : Int)) = true := decide_eq_true (by omega)
        have dj' : decide (N ≤ j) = true := decide_eq_true (by omega)
        clear HI hjN
        go_wp2
        go_ret
        exact ⟨rfl, rfl⟩

end Go.Proofs.Ytkaoobdemaahbaa
