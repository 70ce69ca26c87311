import Derived.Test.YtgkbbcoagnilgabDoorLayW
import Derived.Test.YtgkbbcoagnilgabDoorRound
import Derived.Test.YtgkbbcoagnilgabDoorComp4
namespace Go.Proofs.YtgkbbcoagnilgabDoor
open Go.RowKit

theorem nbox_1 (w : World) (m : Bool) (z : List UInt8) (o : Int) (p : Bool) (d : List UInt8) : NBox (w.alloc (boxN m z o p d)) w.heap.size m z o p d := by
  constructor <;> first | (go_simp; done) | (simp; done)

theorem fxL (w : World) (xs : List Nat) (h : xs.length = 10) : ∀ x0 x1 x2 x3 x4 x5 x6 x7 x8 x9 : Nat, xs = [x0, x1, x2, x3, x4, x5, x6, x7, x8, x9] →
    Fx (w.alloc (.cells #[.int .u32 x0, .int .u32 x1, .int .u32 x2, .int .u32 x3, .int .u32 x4, .int .u32 x5, .int .u32 x6, .int .u32 x7, .int .u32 x8, .int .u32 x9] 69)) w.heap.size xs := by
  rintro x0 x1 x2 x3 x4 x5 x6 x7 x8 x9 rfl
  exact fx_laid w x0 x1 x2 x3 x4 x5 x6 x7 x8 x9

set_option maxRecDepth 10000 in
set_option maxHeartbeats 2000000 in
theorem nearestSize_any (m p : Bool) (z d : List UInt8) (o : Int) (w : World) (hz : allD z) (hd : allD d) (h0 : z ≠ [] → dz z 0 ≠ 0) (hlz : z.length ≤ 1099511627776) (hld : d.length ≤ 281474976710656)
    (ho1 : -281474976710656 ≤ o) (ho2 : o ≤ 281474976710656) :
    Calls Tryd.prog 20 #[.agg #[.bool m, .string ⟨z.toArray⟩, .int .i64 o, .bool p, .string ⟨d.toArray⟩]] w fun e w' => ∃ b : Nat, e = .returned (.int .u32 (b : Int)) ∧ Rnd (vU z (o + dif0 p d false []) * 2 ^ 160) (vD z (o + dif0 p d false [])) b ∧ Below w.heap.size w w' := by
  have Hd : Hid (∀ w, Calls Tryd.prog 36 #[.agg #[.bool p, .string ⟨d.toArray⟩], .agg #[.bool false, .string ⟨#[]⟩]] w fun e w' => e = .returned (.int .i64 (dif0 p d false [])) ∧ Below w.heap.size w w') := fun w => difference_any p d false [] w hd (fun c hc => by simp at hc) hld (by simp)
  have hb := dif0_bd p d false [] hd (fun c hc => by simp at hc)
  generalize dif0 p d false [] = D at Hd hb
  obtain ⟨hb1, hb2⟩ := hb
  have Hz : Hid (allD z) := hz
  have H0 : Hid (z ≠ [] → dz z 0 ≠ 0) := h0
  clear hd hz h0
  have hw2 : IntKind.i64.wrap (o + D) = o + D := by rw [IntKind.wrap_i64]; omega
  have Hx0 : Hid (NBox (w.alloc (boxN m z o p d)) w.heap.size m z o p d) := nbox_1 ..
  have Hl0 : Hid (Below w.heap.size w (w.alloc (boxN m z o p d))) := (Below.refl _ w).alloc (Nat.le_refl _) _
  go_enter Tryd.func20, Tryd.ntmps20
  go_upto_region 1 with fail
  go_cut [3] from 5 to 11 (fun s wx => s = .int .i64 (o + D) ∧ Hid (NBox wx w.heap.size m z o p d) ∧ Below w.heap.size w wx)
  case first =>
    go_region_with (go_at_call 36; refine (Hd.out _).mono ?_; rintro e w4 ⟨rfl, hB4⟩
                    have hx4 : Hid (NBox w4 w.heap.size m z o p d) := by
                      refine NBox.below ?_ hB4
                      repeat' (first | with_reducible exact Hx0.out | with_reducible apply NBox.drew)
                    have hl4 : Hid (Below w.heap.size w w4) := by
                      refine Below.trans ?_ (Below.mono hB4 (by simp <;> omega))
                      repeat' (first | with_reducible exact Hl0.out | with_reducible apply Below.drew)
                    have q02 := hx4.out.c2
                    clear hB4)
    all_goals go_wp2_with fail
    all_goals go_meet
    all_goals refine ⟨rfl, ?_, ?_⟩
    all_goals (repeat' (first | with_reducible assumption | with_reducible exact Hx0.out | with_reducible exact Hl0.out | with_reducible apply NBox.drew | with_reducible apply Below.drew | (show NBox _ _ _ _ _ _ _; with_reducible apply NBox.drew; exact Hid.out (by assumption)) | (with_reducible apply Below.drew; exact Hid.out (by assumption)) | exact Hid.out (by assumption)))
  case rest =>
    obtain ⟨rfl, Hx, hbel⟩ := hcut
    have x1 := Hx.out.c1
    by_cases hzn : z = []
    · have hz' : z.isEmpty = true := by subst hzn; rfl
      have HR : Hid (Rnd (vU z (o + D) * 2 ^ 160) (vD z (o + D)) 0) := rnd_zero z hzn _
      clear hzn
      go_wp2
      go_ret
      exact ⟨0, rfl, HR.out, hbel⟩
    · have hz' : z.isEmpty = false := by simpa using hzn
      have Hnz : Hid (z ≠ []) := hzn
      clear hzn
      by_cases hlo : o + D < -45
      · have HR : Hid (Rnd (vU z (o + D) * 2 ^ 160) (vD z (o + D)) 0) := rnd_low z Hz.out _ hlo
        go_wp2
        go_ret
        exact ⟨0, rfl, HR.out, hbel⟩
      · by_cases hhi : 39 < o + D
        · have HR : Hid (Rnd (vU z (o + D) * 2 ^ 160) (vD z (o + D)) 2139095040) := rnd_high z Hnz.out (H0.out Hnz.out) _ hhi
          go_wp2
          go_ret
          exact ⟨2139095040, rfl, HR.out, hbel⟩
        · have Hlay : Hid (∀ W, Calls Tryd.prog 37 #[.string ⟨z.toArray⟩, .int .i64 (o + D)] W fun e w' => ∃ xs, e = .returned (.agg (xs.map U).toArray) ∧ LayA z (o + D) xs ∧ Below W.heap.size W w') := fun W => lay_any z (o + D) W Hz.out hlz (by omega) (by omega)
          have Hbel : Hid (Below w.heap.size w _) := hbel
          clear hbel
          go_wp2_with fail
          refine (Hlay.out _).mono ?_
          rintro e w4 ⟨xs, rfl, ⟨hxl, hxs, q, r, hv, hu, hr⟩, hB4⟩
          have HR : Hid (∀ b, Rnd (wv 4294967296 0 xs 10) 1 b → Rnd (vU z (o + D) * 2 ^ 160) (vD z (o + D)) b) := fun b h => by rw [hv] at h; exact h.whole hu hr
          have HS : Hid (smallL xs) := hxs
          have Hbel4 : Hid (Below w.heap.size w w4) := Hbel.out.trans (hB4.mono Hbel.out.size)
          clear hv hu hr hxs hB4
          obtain ⟨x0, x1, x2, x3, x4, x5, x6, x7, x8, x9, hxe⟩ := ten_of hxl
          have HF := fxL w4 xs hxl x0 x1 x2 x3 x4 x5 x6 x7 x8 x9 hxe
          have Hround : Hid (∀ W, Fx W w4.heap.size [x0, x1, x2, x3, x4, x5, x6, x7, x8, x9] → Calls Tryd.prog 38 #[.pointer (some ⟨w4.heap.size, 0, none⟩)] W fun e w' => ∃ b : Nat, e = .returned (.int .u32 (b : Int)) ∧ Rnd (wv 4294967296 0 [x0, x1, x2, x3, x4, x5, x6, x7, x8, x9] 10) 1 b ∧ ∃ q, w' = W.drewN q) := fun W h => round_any _ _ W h rfl (by rw [← hxe]; exact HS.out)
          rw [hxe] at HF
          have HF2 : Hid (Fx (w4.alloc (.cells #[.int .u32 x0, .int .u32 x1, .int .u32 x2, .int .u32 x3, .int .u32 x4, .int .u32 x5, .int .u32 x6, .int .u32 x7, .int .u32 x8, .int .u32 x9] 69)) w4.heap.size [x0, x1, x2, x3, x4, x5, x6, x7, x8, x9]) := HF
          rw [hxe] at HR
          clear HF HS
          subst hxe
          simp only [List.map_cons, List.map_nil, U]
          clear hxl
          go_wp2_with fail
          refine (Hround.out _ HF2.out).mono ?_
          rintro e w5 ⟨b, rfl, hb, n5, rfl⟩
          have HRb : Hid (Rnd (vU z (o + D) * 2 ^ 160) (vD z (o + D)) b) := HR.out b hb
          clear hb
          go_wp2
          go_ret
          refine ⟨b, rfl, HRb.out, below_drewN ?_ _⟩
          exact Hbel4.out.alloc Hbel4.out.size _

end Go.Proofs.YtgkbbcoagnilgabDoor
