import Derived.Test.YtgkbbcoagnilgabDoorDiff2
import Derived.Test.YtgkbbcoagnilgabDoorCompS
import Derived.Deep.CutRange
namespace Go.Proofs.YtgkbbcoagnilgabDoor
open Go.RowKit

theorem dif_bd (a b : Nat → Int) (ha : ∀ k, -9 ≤ a k ∧ a k ≤ 9) (hb : ∀ k, -9 ≤ b k ∧ b k ≤ 9) : ∀ (n : Nat) (x : Int), -1099511627776 ≤ x → x ≤ 1099511627776 → -10995116277778 ≤ dif a b n x ∧ dif a b n x ≤ 10995116277778
  | 0, x, h1, h2 => by unfold dif; omega
  | n + 1, x, h1, h2 => by
    have := ha n; have := hb n
    by_cases h : x * 10 + a n - b n < -1099511627776 ∨ 1099511627776 < x * 10 + a n - b n
    · rw [dif_out a b n x h]; omega
    · rw [dif_in a b n x h]; exact dif_bd a b ha hb n _ (by omega) (by omega)

theorem dif0_bd (ma : Bool) (da : List UInt8) (mb : Bool) (db : List UInt8) (ha : allD da) (hb : allD db) : -10995116277778 ≤ dif0 ma da mb db ∧ dif0 ma da mb db ≤ 10995116277778 :=
  dif_bd _ _ (fun k => sd_bd ma da k ha) (fun k => sd_bd mb db k hb) _ _ (by omega) (by omega)

/-- A number in a block. -/
structure NBox (W : World) (b : Nat) (m : Bool) (z : List UInt8) (o : Int) (p : Bool) (d : List UInt8) : Prop where
  c0 : W.cell? ⟨b, 0, none⟩ = some (.bool m)
  c1 : W.cell? ⟨b, 1, none⟩ = some (.string ⟨z.toArray⟩)
  c2 : W.cell? ⟨b, 2, none⟩ = some (.int .i64 o)
  c3 : W.cell? ⟨b, 3, none⟩ = some (.bool p)
  c4 : W.cell? ⟨b, 4, none⟩ = some (.string ⟨d.toArray⟩)
  lt : b < W.heap.size

theorem NBox.below {W W' : World} {b : Nat} {m p : Bool} {z d : List UInt8} {o : Int} (h : NBox W b m z o p d) (hB : Below W.heap.size W W') : NBox W' b m z o p d :=
  ⟨(hB.cell h.lt).trans h.c0, (hB.cell h.lt).trans h.c1, (hB.cell h.lt).trans h.c2, (hB.cell h.lt).trans h.c3, (hB.cell h.lt).trans h.c4, Nat.lt_of_lt_of_le h.lt hB.size⟩
theorem NBox.alloc {W : World} {b : Nat} {m p : Bool} {z d : List UInt8} {o : Int} (h : NBox W b m z o p d) (x : Obj) : NBox (W.alloc x) b m z o p d :=
  h.below ((Below.refl _ _).alloc (Nat.le_refl _) x)
theorem NBox.drew {W : World} {b : Nat} {m p : Bool} {z d : List UInt8} {o : Int} (h : NBox W b m z o p d) : NBox W.drew b m z o p d := ⟨h.c0, h.c1, h.c2, h.c3, h.c4, h.lt⟩

/-- The block that a number is boxed into. -/
abbrev boxN (m : Bool) (z : List UInt8) (o : Int) (p : Bool) (d : List UInt8) : Obj := .cells #[.bool m, .string ⟨z.toArray⟩, .int .i64 o, .bool p, .string ⟨d.toArray⟩] 43

theorem nbox_a (w : World) (m : Bool) (z : List UInt8) (o : Int) (p : Bool) (d : List UInt8) (x : Obj) : NBox ((w.alloc (boxN m z o p d)).alloc x) w.heap.size m z o p d := by
  constructor <;> first | (go_simp; done) | (simp; done)
theorem nbox_b (w : World) (m : Bool) (z : List UInt8) (o : Int) (p : Bool) (d : List UInt8) (x : Obj) : NBox ((w.alloc x).alloc (boxN m z o p d)) (w.heap.size + 1) m z o p d := by
  constructor <;> first | (go_simp; done) | (simp; done)

/-- What compareSizes answers. -/
def csz (zx : List UInt8) (ox : Int) (px : Bool) (dx : List UInt8) (zy : List UInt8) (oy : Int) (py : Bool) (dy : List UInt8) : Int :=
  if ox - oy + dif0 px dx py dy ≠ 0 then cmp3 (ox - oy + dif0 px dx py dy) 0 else Lib.compareBytes zx zy

set_option maxHeartbeats 2000000 in
theorem compareSizes_any (mx px my py : Bool) (zx dx zy dy : List UInt8) (ox oy : Int) (w : World) (hdx : allD dx) (hdy : allD dy) (hlx : dx.length ≤ 281474976710656) (hly : dy.length ≤ 281474976710656)
    (hox1 : -281474976710656 ≤ ox) (hox2 : ox ≤ 281474976710656) (hoy1 : -281474976710656 ≤ oy) (hoy2 : oy ≤ 281474976710656) :
    Calls Tryd.prog 30 #[.agg #[.bool mx, .string ⟨zx.toArray⟩, .int .i64 ox, .bool px, .string ⟨dx.toArray⟩], .agg #[.bool my, .string ⟨zy.toArray⟩, .int .i64 oy, .bool py, .string ⟨dy.toArray⟩]] w fun e w' => e = .returned (.int .i64 (csz zx ox px dx zy oy py dy)) ∧ Below w.heap.size w w' := by
  have Hd : Hid (∀ w, Calls Tryd.prog 36 #[.agg #[.bool px, .string ⟨dx.toArray⟩], .agg #[.bool py, .string ⟨dy.toArray⟩]] w fun e w' => e = .returned (.int .i64 (dif0 px dx py dy)) ∧ Below w.heap.size w w') := fun w => difference_any px dx py dy w hdx hdy hlx hly
  have hb := dif0_bd px dx py dy hdx hdy
  have Hc : Hid (csz zx ox px dx zy oy py dy = if ox - oy + dif0 px dx py dy ≠ 0 then cmp3 (ox - oy + dif0 px dx py dy) 0 else Lib.compareBytes zx zy) := rfl
  generalize dif0 px dx py dy = D at Hd hb Hc
  obtain ⟨hb1, hb2⟩ := hb
  clear hdx hdy
  have hw1 : IntKind.i64.wrap (ox - oy) = ox - oy := by rw [IntKind.wrap_i64]; omega
  have hw2 : IntKind.i64.wrap (ox - oy + D) = ox - oy + D := by rw [IntKind.wrap_i64]; omega
  have Hx0 : Hid (NBox ((w.alloc (boxN mx zx ox px dx)).alloc (boxN my zy oy py dy)) w.heap.size mx zx ox px dx) := nbox_a ..
  have Hy0 : Hid (NBox ((w.alloc (boxN mx zx ox px dx)).alloc (boxN my zy oy py dy)) (w.heap.size + 1) my zy oy py dy) := nbox_b ..
  have Hl0 : Hid (Below w.heap.size w ((w.alloc (boxN mx zx ox px dx)).alloc (boxN my zy oy py dy))) := by
    show Below _ _ _
    (repeat' (first | with_reducible assumption | with_reducible exact Below.refl _ _ | with_reducible exact Nat.le_refl _ | with_reducible refine Below.setCell ?_ ?_ _ | with_reducible refine Below.alloc ?_ ?_ _ | with_reducible apply Below.drew | with_reducible apply below_drewN | omega | (simp; done) | (simp; omega)))
  go_enter Tryd.func30, Tryd.ntmps30
  go_upto_region 1 with fail
  go_cut [5] from 6 to 16 (fun s wx => s = .int .i64 (ox - oy + D) ∧ Hid (NBox wx w.heap.size mx zx ox px dx) ∧ Hid (NBox wx (w.heap.size + 1) my zy oy py dy) ∧ Below w.heap.size w wx)
  case first =>
    go_region_with (go_at_call 36; refine (Hd.out _).mono ?_; rintro e w4 ⟨rfl, hB4⟩
                    have hx4 : Hid (NBox w4 w.heap.size mx zx ox px dx) := by
                      refine NBox.below ?_ hB4
                      repeat' (first | with_reducible exact Hx0.out | with_reducible apply NBox.drew)
                    have hy4 : Hid (NBox w4 (w.heap.size + 1) my zy oy py dy) := by
                      refine NBox.below ?_ hB4
                      repeat' (first | with_reducible exact Hy0.out | with_reducible apply NBox.drew)
                    have hl4 : Hid (Below w.heap.size w w4) := by
                      refine Below.trans ?_ (Below.mono hB4 (by simp <;> omega))
                      repeat' (first | with_reducible exact Hl0.out | with_reducible apply Below.drew)
                    have q02 := hx4.out.c2
                    have q12 := hy4.out.c2
                    clear hB4)
    all_goals go_wp2_with fail
    all_goals go_meet
    all_goals refine ⟨rfl, ?_, ?_, ?_⟩
    all_goals (repeat' (first | with_reducible assumption | with_reducible exact Hx0.out | with_reducible exact Hy0.out | with_reducible exact Hl0.out | with_reducible apply NBox.drew | with_reducible apply Below.drew | (show NBox _ _ _ _ _ _ _; with_reducible apply NBox.drew; exact Hid.out (by assumption)) | (with_reducible apply Below.drew; exact Hid.out (by assumption)) | exact Hid.out (by assumption)))
  case rest =>
    obtain ⟨rfl, Hx, Hy, hbel⟩ := hcut
    have x1 := Hx.out.c1
    have y1 := Hy.out.c1
    by_cases hz : ox - oy + D = 0
    · have hq : ((ox - oy + D) != 0) = false := by simp [hz]
      have Hr : Hid (csz zx ox px dx zy oy py dy = Lib.compareBytes zx zy) := by show _ = _; rw [Hc.out, if_neg (by simp [hz])]
      clear hz
      go_wp2_with fail
      refine (sCompare_any zx zy _).mono ?_
      rintro e w' ⟨rfl, rfl⟩
      go_wp2
      go_ret
      rw [Hr.out]
      exact ⟨rfl, hbel⟩
    · have hq : ((ox - oy + D) != 0) = true := by simp [hz]
      have Hr : Hid (csz zx ox px dx zy oy py dy = cmp3 (ox - oy + D) 0) := by show _ = _; rw [Hc.out, if_pos hz]
      clear hz
      go_wp2_with fail
      refine (cmpInt64_any (ox - oy + D) 0 _).mono ?_
      rintro e w' ⟨rfl, rfl⟩
      go_wp2
      go_ret
      rw [Hr.out]
      exact ⟨rfl, hbel⟩

end Go.Proofs.YtgkbbcoagnilgabDoor
