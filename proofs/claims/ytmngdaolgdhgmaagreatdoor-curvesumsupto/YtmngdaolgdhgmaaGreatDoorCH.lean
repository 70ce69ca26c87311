import Derived.Test.YtmngdaolgdhgmaaGreatDoorCO
import Derived.Test.YtmngdaolgdhgmaaGreatDoorCX
namespace Go.Proofs.YtmngdaolgdhgmaaGreatDoor
open Go.RowKit

set_option maxRecDepth 100000

/-- Is it a point, as the program asks? -/
def onB (p b X Y : Nat) (inf : Bool) : Bool := if inf then decide (X = 0) && decide (Y = 0) else decide (X < p) && (decide (Y < p) && decide (fM p Y Y = fS p (fM p X X * X + b) (X * 3)))
/-- A value of a struct's cells. -/
def St1 (v : Value) : Prop := ∃ fn a c, v = .func fn a c
set_option maxHeartbeats 4000000 in
theorem has_O (p0 b0 n0 gx0 gy0 : Option Addr) (p1 p2 b1 b2 n1 n2 gx1 gx2 gy1 gy2 : Nat) (st x y : Value) (s : Int) (X Y : Nat) (w : World) (hs : s ≠ 0) (hst : St1 st) (hx : Nu w x X) (hy : Nu w y Y) :
    Calls Tryz.prog 43 #[.agg #[.slice p0 p1 p2, .slice b0 b1 b2, .int .i64 s, .slice n0 n1 n2, .slice gx0 gx1 gx2, .slice gy0 gy1 gy2, .bool false, st], .agg #[x, y, .bool true]] w fun e w' => e = .returned (.bool (decide (X = 0) && decide (Y = 0))) ∧ Below w.heap.size w w' := by
  obtain ⟨fn, fa, fc, rfl⟩ := hst
  obtain ⟨x0, x1, x2, rfl⟩ := hx.shape
  obtain ⟨y0, y1, y2, rfl⟩ := hy.shape
  have HB : Hid (Below w.heap.size w ((w.alloc (.cells #[.slice p0 p1 p2, .slice b0 b1 b2, .int .i64 s, .slice n0 n1 n2, .slice gx0 gx1 gx2, .slice gy0 gy1 gy2, .bool false, .func fn fa fc] 57)).alloc (.cells #[.slice x0 x1 x2, .slice y0 y1 y2, .bool true] 26))) := ((Below.refl w.heap.size w).alloc (Nat.le_refl _) _).alloc (by simp) _
  have C1 := vbits _ X _ _ (hx.below HB.out (Nat.le_refl _)) (by decide)
  have C2 := vbits _ Y _ _ (hy.below HB.out (Nat.le_refl _)) (by decide)
  clear hx hy
  have ds : (s == 0) = false := by simpa using hs
  by_cases hX : X = 0
  · subst hX
    rw [show bl 0 = 0 by decide] at C1
    by_cases hY : Y = 0
    · subst hY
      rw [show bl 0 = 0 by decide] at C2
      go_enter Tryz.func43, Tryz.ntmps43
      go_wp2_with fail
      refine C1.mono ?_
      rintro e w1 ⟨rfl, rfl⟩
      go_wp2_with fail
      refine C2.mono ?_
      rintro e w1 ⟨rfl, rfl⟩
      clear C1 C2
      go_wp2
      go_ret
      exact ⟨rfl, HB.out⟩
    · have hz : (((bl Y : Nat) : Int) == 0) = false := by have := bl_nz hY; simpa using this
      have hz2 : Hid ((decide (0 = 0) && decide (Y = 0)) = false) := (by simp [hY] : (decide (0 = 0) && decide (Y = 0)) = false)
      generalize ((bl Y : Nat) : Int) = z at *
      go_enter Tryz.func43, Tryz.ntmps43
      go_wp2_with fail
      refine C1.mono ?_
      rintro e w1 ⟨rfl, rfl⟩
      go_wp2_with fail
      refine C2.mono ?_
      rintro e w1 ⟨rfl, rfl⟩
      clear C1 C2
      go_wp2
      go_ret
      exact ⟨by rw [hz2.out]; rfl, HB.out⟩
  · have hz : (((bl X : Nat) : Int) == 0) = false := by have := bl_nz hX; simpa using this
    have hz2 : Hid ((decide (X = 0) && decide (Y = 0)) = false) := (by simp [hX] : (decide (X = 0) && decide (Y = 0)) = false)
    generalize ((bl X : Nat) : Int) = z at *
    go_enter Tryz.func43, Tryz.ntmps43
    go_wp2_with fail
    refine C1.mono ?_
    rintro e w1 ⟨rfl, rfl⟩
    clear C1 C2
    go_wp2
    go_ret
    exact ⟨by rw [hz2.out]; rfl, HB.out⟩
set_option maxHeartbeats 4000000 in
theorem has_Xeq (n0 gx0 gy0 : Option Addr) (n1 n2 gx1 gx2 gy1 gy2 : Nat) (pv bv st x y : Value) (s : Int) (p B X Y : Nat) (w : World) (hs : s ≠ 0) (hst : St1 st) (_Hp : Hid (Pm p)) (hp : Nk w pv p 384) (hb : Nk w bv B 384) (hx : Nu w x X) (hy : Nu w y Y) (hX : X = p) :
    Calls Tryz.prog 43 #[.agg #[pv, bv, .int .i64 s, .slice n0 n1 n2, .slice gx0 gx1 gx2, .slice gy0 gy1 gy2, .bool false, st], .agg #[x, y, .bool false]] w fun e w' => e = .returned (.bool false) ∧ Below w.heap.size w w' := by
  obtain ⟨fn, fa, fc, rfl⟩ := hst
  obtain ⟨p0, p1, p2, rfl⟩ := hp.sl
  obtain ⟨b0, b1, b2, rfl⟩ := hb.sl
  obtain ⟨x0, x1, x2, rfl⟩ := hx.shape
  obtain ⟨y0, y1, y2, rfl⟩ := hy.shape
  have HB : Hid (Below w.heap.size w ((w.alloc (.cells #[.slice p0 p1 p2, .slice b0 b1 b2, .int .i64 s, .slice n0 n1 n2, .slice gx0 gx1 gx2, .slice gy0 gy1 gy2, .bool false, .func fn fa fc] 57)).alloc (.cells #[.slice x0 x1 x2, .slice y0 y1 y2, .bool false] 26))) := ((Below.refl w.heap.size w).alloc (Nat.le_refl _) _).alloc (by simp) _
  have ds : (s == 0) = false := by simpa using hs
  have hx' := hx.below HB.out (Nat.le_refl _)
  have hy' := hy.below HB.out (Nat.le_refl _)
  have hp' := hp.below HB.out (Nat.le_refl _)
  have hb' := hb.below HB.out (Nat.le_refl _)
  have C1 := vcmp _ _ X p _ _ _ hx' hp'.1 (by decide) (by decide)
  rw [cmp3_eq (by omega)] at C1
  clear hx hy hp hb hx' hy' hp' hb'
  go_enter Tryz.func43, Tryz.ntmps43
  go_wp2_with fail
  refine C1.mono ?_
  rintro e w1 ⟨rfl, q, rfl⟩
  clear C1
  go_wp2
  go_ret
  exact ⟨rfl, below_drewN HB.out q⟩
set_option maxHeartbeats 4000000 in
theorem has_Xgt (n0 gx0 gy0 : Option Addr) (n1 n2 gx1 gx2 gy1 gy2 : Nat) (pv bv st x y : Value) (s : Int) (p B X Y : Nat) (w : World) (hs : s ≠ 0) (hst : St1 st) (_Hp : Hid (Pm p)) (hp : Nk w pv p 384) (hb : Nk w bv B 384) (hx : Nu w x X) (hy : Nu w y Y) (hX : p < X) :
    Calls Tryz.prog 43 #[.agg #[pv, bv, .int .i64 s, .slice n0 n1 n2, .slice gx0 gx1 gx2, .slice gy0 gy1 gy2, .bool false, st], .agg #[x, y, .bool false]] w fun e w' => e = .returned (.bool false) ∧ Below w.heap.size w w' := by
  obtain ⟨fn, fa, fc, rfl⟩ := hst
  obtain ⟨p0, p1, p2, rfl⟩ := hp.sl
  obtain ⟨b0, b1, b2, rfl⟩ := hb.sl
  obtain ⟨x0, x1, x2, rfl⟩ := hx.shape
  obtain ⟨y0, y1, y2, rfl⟩ := hy.shape
  have HB : Hid (Below w.heap.size w ((w.alloc (.cells #[.slice p0 p1 p2, .slice b0 b1 b2, .int .i64 s, .slice n0 n1 n2, .slice gx0 gx1 gx2, .slice gy0 gy1 gy2, .bool false, .func fn fa fc] 57)).alloc (.cells #[.slice x0 x1 x2, .slice y0 y1 y2, .bool false] 26))) := ((Below.refl w.heap.size w).alloc (Nat.le_refl _) _).alloc (by simp) _
  have ds : (s == 0) = false := by simpa using hs
  have hx' := hx.below HB.out (Nat.le_refl _)
  have hy' := hy.below HB.out (Nat.le_refl _)
  have hp' := hp.below HB.out (Nat.le_refl _)
  have hb' := hb.below HB.out (Nat.le_refl _)
  have C1 := vcmp _ _ X p _ _ _ hx' hp'.1 (by decide) (by decide)
  rw [cmp3_gt (by omega)] at C1
  clear hx hy hp hb hx' hy' hp' hb'
  go_enter Tryz.func43, Tryz.ntmps43
  go_wp2_with fail
  refine C1.mono ?_
  rintro e w1 ⟨rfl, q, rfl⟩
  clear C1
  go_wp2
  go_ret
  exact ⟨rfl, below_drewN HB.out q⟩
set_option maxHeartbeats 4000000 in
theorem has_Yeq (n0 gx0 gy0 : Option Addr) (n1 n2 gx1 gx2 gy1 gy2 : Nat) (pv bv st x y : Value) (s : Int) (p B X Y : Nat) (w : World) (hs : s ≠ 0) (hst : St1 st) (_Hp : Hid (Pm p)) (hp : Nk w pv p 384) (hb : Nk w bv B 384) (hx : Nu w x X) (hy : Nu w y Y) (hX : X < p) (hY : Y = p) :
    Calls Tryz.prog 43 #[.agg #[pv, bv, .int .i64 s, .slice n0 n1 n2, .slice gx0 gx1 gx2, .slice gy0 gy1 gy2, .bool false, st], .agg #[x, y, .bool false]] w fun e w' => e = .returned (.bool false) ∧ Below w.heap.size w w' := by
  obtain ⟨fn, fa, fc, rfl⟩ := hst
  obtain ⟨p0, p1, p2, rfl⟩ := hp.sl
  obtain ⟨b0, b1, b2, rfl⟩ := hb.sl
  obtain ⟨x0, x1, x2, rfl⟩ := hx.shape
  obtain ⟨y0, y1, y2, rfl⟩ := hy.shape
  have HB : Hid (Below w.heap.size w ((w.alloc (.cells #[.slice p0 p1 p2, .slice b0 b1 b2, .int .i64 s, .slice n0 n1 n2, .slice gx0 gx1 gx2, .slice gy0 gy1 gy2, .bool false, .func fn fa fc] 57)).alloc (.cells #[.slice x0 x1 x2, .slice y0 y1 y2, .bool false] 26))) := ((Below.refl w.heap.size w).alloc (Nat.le_refl _) _).alloc (by simp) _
  have ds : (s == 0) = false := by simpa using hs
  have hx' := hx.below HB.out (Nat.le_refl _)
  have hy' := hy.below HB.out (Nat.le_refl _)
  have hp' := hp.below HB.out (Nat.le_refl _)
  have hb' := hb.below HB.out (Nat.le_refl _)
  have C1 := vcmp _ _ X p _ _ _ hx' hp'.1 (by decide) (by decide)
  rw [cmp3_lt (by omega)] at C1
  have C2 := fun q => vcmp _ _ Y p _ _ _ (hy'.drewN q) (hp'.1.drewN q) (by decide) (by decide)
  rw [cmp3_eq (by omega)] at C2
  clear hx hy hp hb hx' hy' hp' hb'
  go_enter Tryz.func43, Tryz.ntmps43
  go_wp2_with fail
  refine C1.mono ?_
  rintro e w1 ⟨rfl, q, rfl⟩
  clear C1
  go_wp2_with fail
  refine (C2 q).mono ?_
  rintro e w1 ⟨rfl, r, rfl⟩
  clear C2
  go_wp2
  go_ret
  exact ⟨rfl, below_drewN HB.out _⟩
set_option maxHeartbeats 4000000 in
theorem has_Ygt (n0 gx0 gy0 : Option Addr) (n1 n2 gx1 gx2 gy1 gy2 : Nat) (pv bv st x y : Value) (s : Int) (p B X Y : Nat) (w : World) (hs : s ≠ 0) (hst : St1 st) (_Hp : Hid (Pm p)) (hp : Nk w pv p 384) (hb : Nk w bv B 384) (hx : Nu w x X) (hy : Nu w y Y) (hX : X < p) (hY : p < Y) :
    Calls Tryz.prog 43 #[.agg #[pv, bv, .int .i64 s, .slice n0 n1 n2, .slice gx0 gx1 gx2, .slice gy0 gy1 gy2, .bool false, st], .agg #[x, y, .bool false]] w fun e w' => e = .returned (.bool false) ∧ Below w.heap.size w w' := by
  obtain ⟨fn, fa, fc, rfl⟩ := hst
  obtain ⟨p0, p1, p2, rfl⟩ := hp.sl
  obtain ⟨b0, b1, b2, rfl⟩ := hb.sl
  obtain ⟨x0, x1, x2, rfl⟩ := hx.shape
  obtain ⟨y0, y1, y2, rfl⟩ := hy.shape
  have HB : Hid (Below w.heap.size w ((w.alloc (.cells #[.slice p0 p1 p2, .slice b0 b1 b2, .int .i64 s, .slice n0 n1 n2, .slice gx0 gx1 gx2, .slice gy0 gy1 gy2, .bool false, .func fn fa fc] 57)).alloc (.cells #[.slice x0 x1 x2, .slice y0 y1 y2, .bool false] 26))) := ((Below.refl w.heap.size w).alloc (Nat.le_refl _) _).alloc (by simp) _
  have ds : (s == 0) = false := by simpa using hs
  have hx' := hx.below HB.out (Nat.le_refl _)
  have hy' := hy.below HB.out (Nat.le_refl _)
  have hp' := hp.below HB.out (Nat.le_refl _)
  have hb' := hb.below HB.out (Nat.le_refl _)
  have C1 := vcmp _ _ X p _ _ _ hx' hp'.1 (by decide) (by decide)
  rw [cmp3_lt (by omega)] at C1
  have C2 := fun q => vcmp _ _ Y p _ _ _ (hy'.drewN q) (hp'.1.drewN q) (by decide) (by decide)
  rw [cmp3_gt (by omega)] at C2
  clear hx hy hp hb hx' hy' hp' hb'
  go_enter Tryz.func43, Tryz.ntmps43
  go_wp2_with fail
  refine C1.mono ?_
  rintro e w1 ⟨rfl, q, rfl⟩
  clear C1
  go_wp2_with fail
  refine (C2 q).mono ?_
  rintro e w1 ⟨rfl, r, rfl⟩
  clear C2
  go_wp2
  go_ret
  exact ⟨rfl, below_drewN HB.out _⟩
set_option maxHeartbeats 4000000 in
theorem has_in (n0 gx0 gy0 : Option Addr) (n1 n2 gx1 gx2 gy1 gy2 : Nat) (pv bv st x y : Value) (s : Int) (p B X Y : Nat) (w : World) (hs : s ≠ 0) (hst : St1 st) (Hp : Hid (Pm p)) (hp : Nk w pv p 384) (hb : Nk w bv B 384) (hx : Nu w x X) (hy : Nu w y Y) (hX : X < p) (hY : Y < p) :
    Calls Tryz.prog 43 #[.agg #[pv, bv, .int .i64 s, .slice n0 n1 n2, .slice gx0 gx1 gx2, .slice gy0 gy1 gy2, .bool false, st], .agg #[x, y, .bool false]] w fun e w' => e = .returned (.bool (decide (fM p Y Y = fS p (fM p X X * X + B) (X * 3)))) ∧ Below w.heap.size w w' := by
  obtain ⟨fn, fa, fc, rfl⟩ := hst
  obtain ⟨p0, p1, p2, rfl⟩ := hp.sl
  obtain ⟨b0, b1, b2, rfl⟩ := hb.sl
  obtain ⟨x0, x1, x2, rfl⟩ := hx.shape
  obtain ⟨y0, y1, y2, rfl⟩ := hy.shape
  have HB : Hid (Below w.heap.size w ((w.alloc (.cells #[.slice p0 p1 p2, .slice b0 b1 b2, .int .i64 s, .slice n0 n1 n2, .slice gx0 gx1 gx2, .slice gy0 gy1 gy2, .bool false, .func fn fa fc] 57)).alloc (.cells #[.slice x0 x1 x2, .slice y0 y1 y2, .bool false] 26))) := ((Below.refl w.heap.size w).alloc (Nat.le_refl _) _).alloc (by simp) _
  have ds : (s == 0) = false := by simpa using hs
  have hx' := hx.below HB.out (Nat.le_refl _)
  have hy' := hy.below HB.out (Nat.le_refl _)
  have hp' := hp.below HB.out (Nat.le_refl _)
  have hb' := hb.below HB.out (Nat.le_refl _)
  have C1 := vcmp _ _ X p _ _ _ hx' hp'.1 (by decide) (by decide)
  rw [cmp3_lt (by omega)] at C1
  have C2 := fun q => vcmp _ _ Y p _ _ _ (hy'.drewN q) (hp'.1.drewN q) (by decide) (by decide)
  rw [cmp3_lt (by omega)] at C2
  have C3 := fun q => fulfils_v _ _ _ _ p B X Y _ Hp (hp'.drewN q) (hb'.drewN q) (show Nk _ _ X 384 from ⟨hx'.drewN q, Hp.out.lt hX⟩) (show Nk _ _ Y 384 from ⟨hy'.drewN q, Hp.out.lt hY⟩)
  clear hx hy hp hb hx' hy' hp' hb'
  go_enter Tryz.func43, Tryz.ntmps43
  go_wp2_with fail
  refine C1.mono ?_
  rintro e w1 ⟨rfl, q, rfl⟩
  clear C1
  go_wp2_with fail
  refine (C2 q).mono ?_
  rintro e w1 ⟨rfl, r, rfl⟩
  clear C2
  go_wp2_with fail
  refine (C3 _).mono ?_
  rintro e w1 ⟨rfl, hB⟩
  have HB2 : Hid (Below w.heap.size w w1) := (below_drewN HB.out _).trans (hB.mono (below_drewN HB.out _).size)
  clear C3 hB
  obtain ⟨d, Hd⟩ : ∃ d, Hid (d = decide (fM p Y Y = fS p (fM p X X * X + B) (X * 3))) := ⟨_, rfl⟩
  rw [← Hd.out]
  go_wp2
  go_ret
  exact ⟨by rw [← Hd.out]; rfl, HB2.out⟩
theorem has_v (n0 gx0 gy0 : Option Addr) (n1 n2 gx1 gx2 gy1 gy2 : Nat) (pv bv st x y : Value) (s : Int) (p B X Y : Nat) (w : World) (hs : s ≠ 0) (hst : St1 st) (Hp : Hid (Pm p)) (hp : Nk w pv p 384) (hb : Nk w bv B 384) (hx : Nu w x X) (hy : Nu w y Y) (inf : Bool) :
    Calls Tryz.prog 43 #[.agg #[pv, bv, .int .i64 s, .slice n0 n1 n2, .slice gx0 gx1 gx2, .slice gy0 gy1 gy2, .bool false, st], .agg #[x, y, .bool inf]] w fun e w' => e = .returned (.bool (onB p B X Y inf)) ∧ Below w.heap.size w w' := by
  cases inf with
  | true =>
    obtain ⟨p0, p1, p2, rfl⟩ := hp.sl
    obtain ⟨b0, b1, b2, rfl⟩ := hb.sl
    exact has_O p0 b0 n0 gx0 gy0 p1 p2 b1 b2 n1 n2 gx1 gx2 gy1 gy2 st x y s X Y w hs hst hx hy
  | false =>
    unfold onB
    rw [if_neg (by decide)]
    rcases Nat.lt_trichotomy X p with hX | hX | hX
    · rw [decide_eq_true hX, Bool.true_and]
      rcases Nat.lt_trichotomy Y p with hY | hY | hY
      · rw [decide_eq_true hY, Bool.true_and]
        exact has_in n0 gx0 gy0 n1 n2 gx1 gx2 gy1 gy2 pv bv st x y s p B X Y w hs hst Hp hp hb hx hy hX hY
      · rw [decide_eq_false (by omega), Bool.false_and]
        exact has_Yeq n0 gx0 gy0 n1 n2 gx1 gx2 gy1 gy2 pv bv st x y s p B X Y w hs hst Hp hp hb hx hy hX hY
      · rw [decide_eq_false (by omega), Bool.false_and]
        exact has_Ygt n0 gx0 gy0 n1 n2 gx1 gx2 gy1 gy2 pv bv st x y s p B X Y w hs hst Hp hp hb hx hy hX hY
    · rw [decide_eq_false (by omega), Bool.false_and]
      exact has_Xeq n0 gx0 gy0 n1 n2 gx1 gx2 gy1 gy2 pv bv st x y s p B X Y w hs hst Hp hp hb hx hy hX
    · rw [decide_eq_false (by omega), Bool.false_and]
      exact has_Xgt n0 gx0 gy0 n1 n2 gx1 gx2 gy1 gy2 pv bv st x y s p B X Y w hs hst Hp hp hb hx hy hX
set_option maxHeartbeats 4000000 in
theorem has_none (x y : Value) (inf : Bool) (w : World) (hx : Sl3 x) (hy : Sl3 y) :
    Calls Tryz.prog 43 #[.agg #[.slice none 0 0, .slice none 0 0, .int .i64 0, .slice none 0 0, .slice none 0 0, .slice none 0 0, .bool false, .nilFunc], .agg #[x, y, .bool inf]] w fun e w' => e = .returned (.bool false) ∧ Below w.heap.size w w' := by
  obtain ⟨x0, x1, x2, rfl⟩ := hx
  obtain ⟨y0, y1, y2, rfl⟩ := hy
  go_enter Tryz.func43, Tryz.ntmps43
  go_wp2
  go_ret
  refine ⟨rfl, ?_⟩
  (repeat' (first | with_reducible assumption | with_reducible exact Below.refl _ _ | with_reducible exact Nat.le_refl _ | with_reducible refine Below.setCell ?_ ?_ _ | with_reducible refine Below.alloc ?_ ?_ _ | with_reducible apply Below.drew | with_reducible apply below_drewN | omega | (simp; done) | (simp; omega)))
/-- The point that coordinates say. -/
def ptO (X Y : Nat) (inf : Bool) : Pt := if inf then .O else .A X Y
theorem onB_iff {p b X Y : Nat} {inf : Bool} (hp : Pm p) : onB p b X Y inf = true ↔ onP p b (ptO X Y inf) ∧ (inf = true → X = 0 ∧ Y = 0) := by
  cases inf with
  | true => simp [onB, ptO, onP]
  | false =>
    simp only [onB, ptO, onP, if_neg (show ¬ (false = true) by decide), Bool.and_eq_true, decide_eq_true_eq]
    have h0 : 0 < p := by have := hp.1; omega
    have e1 : (p : Int) ∣ (fM p Y Y : Int) - (Y : Int) ^ 2 := lc1 1 (fM_cg p Y Y) (by grind)
    have e2 : (p : Int) ∣ (fS p (fM p X X * X + b) (X * 3) : Int) - ((X : Int) ^ 3 - 3 * X + b) := by
      have h1 := fS_cg hp (fM p X X * X + b) (X * 3)
      have h2 := fM_cg p X X
      rw [Int.natCast_add, Int.natCast_mul, Int.natCast_mul] at h1
      exact lc2 1 X h1 h2 (by grind)
    constructor
    · rintro ⟨h1, h2, h3⟩
      refine ⟨⟨h1, h2, ?_⟩, fun h => by cases h⟩
      rw [h3] at e1
      exact lc2 (-1) 1 e1 e2 (by grind)
    · rintro ⟨⟨h1, h2, h3⟩, _⟩
      exact ⟨h1, h2, eq_of_dvd (fM_lt hp _ _) (fS_lt hp _ _) (lc3 1 (-1) 1 e1 e2 h3 (by grind))⟩
/-- A ratio of a point. -/
theorem asRatio_P (p b : Nat) (x y : Value) (X Y : Nat) (inf : Bool) (w : World) (hp : Pm p) (ho : onB p b X Y inf = true) (hx : Nu w x X) (hy : Nu w y Y) :
    Calls Tryz.prog 54 #[.agg #[x, y, .bool inf]] w fun e w' => ∃ r X' Y' Z', e = .returned r ∧ Rt w' r X' Y' Z' ∧ Rp p X' Y' Z' (ptO X Y inf) ∧ Below w.heap.size w w' := by
  obtain ⟨h1, h2⟩ := (onB_iff hp).1 ho
  have hp2 := hp.1
  cases inf with
  | true =>
    refine (asRatio_O x y w hx.shape hy.shape).mono ?_
    rintro e w' ⟨r, rfl, h3, h4⟩
    exact ⟨r, 0, 1, 0, rfl, h3, ⟨rfl, rfl, by omega, by omega⟩, h4⟩
  | false =>
    have hX : X < p := h1.1
    have hY : Y < p := h1.2.1
    refine (asRatio_A x y X Y w ⟨hx, hp.lt hX⟩ ⟨hy, hp.lt hY⟩).mono ?_
    rintro e w' ⟨r, rfl, h3, h4⟩
    exact ⟨r, X, Y, 1, rfl, h3, ⟨hX, hY, by omega, by omega, ⟨0, by omega⟩, ⟨0, by omega⟩⟩, h4⟩
/-- The point of a ratio. -/
theorem point_P (pv bv r : Value) (p b X Y Z : Nat) (P : Pt) (w : World) (C : Cv p b) (hpm : Pm p) (hp : Nk w pv p 384) (hb : Nk w bv b 384) (hr : Rt w r X Y Z) (hP : Rp p X Y Z P) (oP : onP p b P) :
    Calls Tryz.prog 52 #[.agg #[pv, bv], r] w fun e w' => ∃ v, e = .returned v ∧ Pa w w' v P := by
  obtain ⟨x, y, z, rfl, hx, hy, hz⟩ := hr
  cases P with
  | O =>
    obtain ⟨rfl, rfl, _⟩ := hP
    exact point_O pv bv x y z w hp.sl hb.sl hx.sl hy.sl hz
  | A a c =>
    obtain ⟨h1, h2, h3, h4, h5, h6⟩ := hP
    refine (point_A pv bv x y z p b X Y Z w hpm C.pr hp hb hx hy hz h4 h3).mono ?_
    rintro e w' ⟨v, J, hJ, rfl, hv⟩
    have hZJ : (p : Int) ∣ (Z : Int) * J - 1 := by
      have h7 := dvd_mod p (Z * J)
      rw [hJ.2, Int.natCast_mul] at h7
      exact lc1 (-1) h7 (by grind)
    have e1 : fM p X J = a := eq_of_dvd (fM_lt hpm _ _) oP.1 (lc3 1 J a (fM_cg p X J) h5 hZJ (by grind))
    have e2 : fM p Y J = c := eq_of_dvd (fM_lt hpm _ _) oP.2.1 (lc3 1 J c (fM_cg p Y J) h6 hZJ (by grind))
    rw [e1, e2] at hv
    exact ⟨v, rfl, hv⟩
end Go.Proofs.YtmngdaolgdhgmaaGreatDoor
