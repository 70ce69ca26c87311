import Derived.Test.YtecapoknnnoheaaMl1
namespace Go.Proofs.Ytecapoknnnoheaa
open Go.RowKit

theorem Lg_small {v : Nat} (h : v < 4294967296) : Lg v = false := Lg_of (Nat.le_trans (dg_len Bs_two 1 v (by rw [Nat.pow_one]; exact h)) (by decide))
theorem rcode_ok {M : Nat} {b : Bool} (h1 : Lg M = false) (h2 : b = false) (h3 : 2 ≤ M) : rcode M b = 0 := by
  unfold rcode
  rw [h1, h2, if_neg (by simp), if_neg (by omega)]
theorem Ans.ok {w w' : World} {e : Ending} {c V : Nat} (h : Ans w w' e c V) (hc : c = 0) : ∃ r, e = .returned (.tuple #[r, .int .i64 0]) ∧ Re w w' r V := by
  rcases h with ⟨h, _⟩ | ⟨_, h⟩
  · exact absurd hc h
  · exact h
theorem Ans.bad {w w' : World} {e : Ending} {c V : Nat} (h : Ans w w' e c V) (hc : c ≠ 0) : e = .returned (.tuple #[.slice none 0 0, .int .i64 (c : Int)]) ∧ Below w.heap.size w w' := by
  rcases h with ⟨_, h⟩ | ⟨h, _⟩
  · exact h
  · exact absurd h hc

theorem lit2 (w : World) (x y : Nat) (hx : x < 4294967296) (hy : y < 4294967296) :
    Nu ((w.alloc (.cells #[.int .u32 (x : Int)] 29)).alloc (.cells #[.int .u32 (y : Int)] 29)) (.slice (some ⟨w.heap.size, 0, none⟩) 1 1) x ∧
    Nu ((w.alloc (.cells #[.int .u32 (x : Int)] 29)).alloc (.cells #[.int .u32 (y : Int)] 29)) (.slice (some ⟨w.heap.size + 1, 0, none⟩) 1 1) y ∧
    Below w.heap.size w ((w.alloc (.cells #[.int .u32 (x : Int)] 29)).alloc (.cells #[.int .u32 (y : Int)] 29)) := by
  have h1 := lit_nu w x hx
  have h2 := lit_nu (w.alloc (.cells #[.int .u32 (x : Int)] 29)) y hy
  rw [World.size_alloc] at h2
  exact ⟨h1.below (alloc_below _ _) (Nat.le_refl _), h2, (alloc_below w _).trans ((alloc_below _ _).mono (by rw [World.size_alloc]; omega))⟩
theorem lit3 (w : World) (x y z : Nat) (hx : x < 4294967296) (hy : y < 4294967296) (hz : z < 4294967296) :
    Nu (((w.alloc (.cells #[.int .u32 (x : Int)] 29)).alloc (.cells #[.int .u32 (y : Int)] 29)).alloc (.cells #[.int .u32 (z : Int)] 29)) (.slice (some ⟨w.heap.size, 0, none⟩) 1 1) x ∧
    Nu (((w.alloc (.cells #[.int .u32 (x : Int)] 29)).alloc (.cells #[.int .u32 (y : Int)] 29)).alloc (.cells #[.int .u32 (z : Int)] 29)) (.slice (some ⟨w.heap.size + 1, 0, none⟩) 1 1) y ∧
    Nu (((w.alloc (.cells #[.int .u32 (x : Int)] 29)).alloc (.cells #[.int .u32 (y : Int)] 29)).alloc (.cells #[.int .u32 (z : Int)] 29)) (.slice (some ⟨w.heap.size + 1 + 1, 0, none⟩) 1 1) z ∧
    Below w.heap.size w (((w.alloc (.cells #[.int .u32 (x : Int)] 29)).alloc (.cells #[.int .u32 (y : Int)] 29)).alloc (.cells #[.int .u32 (z : Int)] 29)) := by
  obtain ⟨h1, h2, h3⟩ := lit2 w x y hx hy
  have h4 := lit_nu ((w.alloc (.cells #[.int .u32 (x : Int)] 29)).alloc (.cells #[.int .u32 (y : Int)] 29)) z hz
  rw [World.size_alloc, World.size_alloc] at h4
  exact ⟨h1.below (alloc_below _ _) (Nat.le_refl _), h2.below (alloc_below _ _) (Nat.le_refl _), h4, h3.trans ((alloc_below _ _).mono (by rw [World.size_alloc, World.size_alloc]; omega))⟩
/-- A number against a literal. -/
theorem same_lit (w : World) (v : Value) (x : Nat) (h0 : x ≠ 0) (hx : x < 4294967296) (hv : Om w v x) :
    Calls Try.prog 13 #[v, .slice (some ⟨w.heap.size, 0, none⟩) 1 1] (w.alloc (.cells #[.int .u32 (x : Int)] 29)) fun e w' => e = .returned (.bool true) ∧ Below w.heap.size w w' := by
  have h1 := lit_nm w x hx
  rw [← dg_small h0 hx] at h1
  have hb := alloc_below w (.cells #[.int .u32 (x : Int)] 29)
  refine (lsame_eq v _ x _ (hv.below hb (Nat.le_refl _)).nm h1 (Nat.le_trans hv.2 (by decide))).mono ?_
  rintro e w' ⟨rfl, q, rfl⟩
  exact ⟨rfl, below_drewN hb q⟩

set_option maxHeartbeats 4000000 in
theorem awake_v (w : World) : Calls Try.prog 15 #[] w fun e w' => e = .returned (.bool true) ∧ Below w.heap.size w w' := by
  obtain ⟨n1, n2, n3, hb⟩ := lit3 w 5 9 11 (by decide) (by decide) (by decide)
  have C := madd_v _ _ _ 5 9 11 _ n1 n2 n3
  rw [rcode_ok (Lg_small (by decide)) (by rw [Lg_small (by decide), Lg_small (by decide)]; rfl) (by decide), show (5 + 9) % 11 = 3 from rfl, show ((5 : Nat) : Int) = 5 from rfl, show ((9 : Nat) : Int) = 9 from rfl, show ((11 : Nat) : Int) = 11 from rfl] at C
  have HB : Hid (Below w.heap.size w (((w.alloc (.cells #[.int .u32 5] 29)).alloc (.cells #[.int .u32 9] 29)).alloc (.cells #[.int .u32 11] 29))) := hb
  clear n1 n2 n3 hb
  go_enter Try.func15, Try.ntmps15
  go_wp2_with fail
  refine C.mono ?_
  clear C
  rintro e w1 h
  obtain ⟨ra, rfl, hr⟩ := h.ok rfl
  have HB1 : Hid (Below w.heap.size w w1) := HB.out.trans (hr.bel.mono HB.out.size)
  have HA1 : Hid (Om w1 ra 3) := hr.om
  clear h hr HB
  obtain ⟨n1, n2, n3, hb⟩ := lit3 w1 3 4 100 (by decide) (by decide) (by decide)
  have C := mexp_v _ _ _ 3 4 100 _ n1 n2 n3
  rw [rcode_ok (Lg_small (by decide)) (by rw [Lg_small (by decide), Lg_small (by decide)]; rfl) (by decide), show 3 ^ 4 % 100 = 81 from rfl, show ((3 : Nat) : Int) = 3 from rfl, show ((4 : Nat) : Int) = 4 from rfl, show ((100 : Nat) : Int) = 100 from rfl] at C
  have HB : Hid (Below w1.heap.size w1 (((w1.alloc (.cells #[.int .u32 3] 29)).alloc (.cells #[.int .u32 4] 29)).alloc (.cells #[.int .u32 100] 29))) := hb
  clear n1 n2 n3 hb
  go_wp2_with fail
  refine C.mono ?_
  clear C
  rintro e w2 h
  obtain ⟨rb, rfl, hr⟩ := h.ok rfl
  have HB12 : Hid (Below w1.heap.size w1 w2) := HB.out.trans (hr.bel.mono HB.out.size)
  have HB2 : Hid (Below w.heap.size w w2) := HB1.out.trans (HB12.out.mono HB1.out.size)
  have HA2 : Hid (Om w2 ra 3) := HA1.out.below HB12.out (Nat.le_refl _)
  have HR2 : Hid (Om w2 rb 81) := hr.om
  clear h hr HB HB1 HB12 HA1
  obtain ⟨n1, n2, hb⟩ := lit2 w2 3 10 (by decide) (by decide)
  have C := minv_v _ _ 3 10 _ n1 n2
  rw [show ((3 : Nat) : Int) = 3 from rfl, show ((10 : Nat) : Int) = 10 from rfl] at C
  have HB : Hid (Below w2.heap.size w2 ((w2.alloc (.cells #[.int .u32 3] 29)).alloc (.cells #[.int .u32 10] 29))) := hb
  clear n1 n2 hb
  go_wp2_with fail
  refine C.mono ?_
  clear C
  rintro e w3 h
  have hrc : rcode 10 (Lg 3) = 0 := rcode_ok (Lg_small (by decide)) (Lg_small (by decide)) (by decide)
  obtain ⟨rc, rfl, hr⟩ : ∃ r, e = .returned (.tuple #[r, .int .i64 0]) ∧ Re _ w3 r 7 := by
    rcases h with ⟨h, _⟩ | ⟨_, h, _⟩ | ⟨_, Y, r, h1, h2, h3⟩
    · exact absurd hrc h
    · exact absurd (by decide) h
    · obtain rfl : Y = 7 := by have := h1.1; have := h1.2; omega
      exact ⟨r, h2, h3⟩
  have HB23 : Hid (Below w2.heap.size w2 w3) := HB.out.trans (hr.bel.mono HB.out.size)
  have HB3 : Hid (Below w.heap.size w w3) := HB2.out.trans (HB23.out.mono HB2.out.size)
  have HA3 : Hid (Om w3 ra 3) := HA2.out.below HB23.out (Nat.le_refl _)
  have HR3 : Hid (Om w3 rb 81) := HR2.out.below HB23.out (Nat.le_refl _)
  have HC3 : Hid (Om w3 rc 7) := hr.om
  clear h hr HB HB2 HB23 HA2 HR2 hrc
  have C := same_lit w3 ra 3 (by decide) (by decide) HA3.out
  rw [show ((3 : Nat) : Int) = 3 from rfl] at C
  go_wp2_with fail
  refine C.mono ?_
  clear C
  rintro e w4 ⟨rfl, hb⟩
  have HB4 : Hid (Below w.heap.size w w4) := HB3.out.trans (hb.mono HB3.out.size)
  have HR4 : Hid (Om w4 rb 81) := HR3.out.below hb (Nat.le_refl _)
  have HC4 : Hid (Om w4 rc 7) := HC3.out.below hb (Nat.le_refl _)
  clear hb HB3 HR3 HC3 HA3
  have C := same_lit w4 rb 81 (by decide) (by decide) HR4.out
  rw [show ((81 : Nat) : Int) = 81 from rfl] at C
  go_wp2_with fail
  refine C.mono ?_
  clear C
  rintro e w5 ⟨rfl, hb⟩
  have HB5 : Hid (Below w.heap.size w w5) := HB4.out.trans (hb.mono HB4.out.size)
  have HC5 : Hid (Om w5 rc 7) := HC4.out.below hb (Nat.le_refl _)
  clear hb HB4 HR4 HC4
  have C := same_lit w5 rc 7 (by decide) (by decide) HC5.out
  rw [show ((7 : Nat) : Int) = 7 from rfl] at C
  go_wp2_with fail
  refine C.mono ?_
  clear C
  rintro e w6 ⟨rfl, hb⟩
  have HB6 : Hid (Below w.heap.size w w6) := HB5.out.trans (hb.mono HB5.out.size)
  clear hb HB5 HC5
  go_wp2
  go_ret
  exact ⟨rfl, HB6.out⟩

end Go.Proofs.Ytecapoknnnoheaa
