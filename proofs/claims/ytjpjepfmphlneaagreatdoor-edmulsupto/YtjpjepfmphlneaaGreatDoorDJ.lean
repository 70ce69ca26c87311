import Derived.Test.YtjpjepfmphlneaaGreatDoorDI
namespace Go.Proofs.YtjpjepfmphlneaaGreatDoor
open Go.RowKit

set_option maxRecDepth 100000

set_option maxHeartbeats 4000000 in
theorem lone_ttx (x y u v : Value) (lx ly lu lv : List Nat) (w : World) (hx : Nm w x lx) (hy : Nm w y ly) (hu : Nm w u lu) (hv : Nm w v lv) (hlx : lx.length ≤ 100000000) (hly : ly.length ≤ 100000000) (h1 : lx ≠ lu) : Calls Tryz.prog 15 #[.agg #[x, y, .bool true], .agg #[u, v, .bool true]] w fun e w' => e = .returned (.bool false) ∧ Below w.heap.size w w' := by
  obtain ⟨x0, x2, rfl, hcx, hrx, hsx⟩ := hx
  obtain ⟨y0, y2, rfl, hcy, hry, hsy⟩ := hy
  obtain ⟨u0, u2, rfl, hcu, hru, hsu⟩ := hu
  obtain ⟨v0, v2, rfl, hcv, hrv, hsv⟩ := hv
  have hB : Below w.heap.size w ((w.alloc (.cells #[Value.slice x0 lx.length x2, Value.slice y0 ly.length y2, .bool true] 31)).alloc (.cells #[Value.slice u0 lu.length u2, Value.slice v0 lv.length v2, .bool true] 31)) := ((Below.refl w.heap.size w).alloc (Nat.le_refl _) _).alloc (by simp) _
  have HB : Hid (Below w.heap.size w ((w.alloc (.cells #[Value.slice x0 lx.length x2, Value.slice y0 ly.length y2, .bool true] 31)).alloc (.cells #[Value.slice u0 lu.length u2, Value.slice v0 lv.length v2, .bool true] 31))) := hB
  have C1 := sameLimbs_any x0 u0 x2 u2 lx lu _ (hrx.below hB (Nat.le_refl _)) (hru.below hB (Nat.le_refl _)) (by omega)
  have HY : Hid (Rn ((w.alloc (.cells #[Value.slice x0 lx.length x2, Value.slice y0 ly.length y2, .bool true] 31)).alloc (.cells #[Value.slice u0 lu.length u2, Value.slice v0 lv.length v2, .bool true] 31)) y0 ly ∧ Rn ((w.alloc (.cells #[Value.slice x0 lx.length x2, Value.slice y0 ly.length y2, .bool true] 31)).alloc (.cells #[Value.slice u0 lu.length u2, Value.slice v0 lv.length v2, .bool true] 31)) v0 lv) := ⟨hry.below hB (Nat.le_refl _), hrv.below hB (Nat.le_refl _)⟩
  rw [decide_eq_false h1] at C1
  have HL : Hid (ly.length ≤ 100000000) := hly
  clear hB hcx hcy hcu hcv hrx hry hru hrv hsx hsy hsu hsv hlx hly h1
  go_enter Tryz.func15, Tryz.ntmps15
  go_wp2_with fail
  refine C1.mono ?_
  clear C1
  rintro e w1 ⟨rfl, q, rfl⟩
  go_wp2
  go_ret
  exact ⟨rfl, below_drewN HB.out q⟩
set_option maxHeartbeats 4000000 in
theorem lone_tty (x y u v : Value) (lx ly lu lv : List Nat) (w : World) (hx : Nm w x lx) (hy : Nm w y ly) (hu : Nm w u lu) (hv : Nm w v lv) (hlx : lx.length ≤ 100000000) (hly : ly.length ≤ 100000000) (h1 : lx = lu) (h2 : ly ≠ lv) : Calls Tryz.prog 15 #[.agg #[x, y, .bool true], .agg #[u, v, .bool true]] w fun e w' => e = .returned (.bool false) ∧ Below w.heap.size w w' := by
  obtain ⟨x0, x2, rfl, hcx, hrx, hsx⟩ := hx
  obtain ⟨y0, y2, rfl, hcy, hry, hsy⟩ := hy
  obtain ⟨u0, u2, rfl, hcu, hru, hsu⟩ := hu
  obtain ⟨v0, v2, rfl, hcv, hrv, hsv⟩ := hv
  have hB : Below w.heap.size w ((w.alloc (.cells #[Value.slice x0 lx.length x2, Value.slice y0 ly.length y2, .bool true] 31)).alloc (.cells #[Value.slice u0 lu.length u2, Value.slice v0 lv.length v2, .bool true] 31)) := ((Below.refl w.heap.size w).alloc (Nat.le_refl _) _).alloc (by simp) _
  have HB : Hid (Below w.heap.size w ((w.alloc (.cells #[Value.slice x0 lx.length x2, Value.slice y0 ly.length y2, .bool true] 31)).alloc (.cells #[Value.slice u0 lu.length u2, Value.slice v0 lv.length v2, .bool true] 31))) := hB
  have C1 := sameLimbs_any x0 u0 x2 u2 lx lu _ (hrx.below hB (Nat.le_refl _)) (hru.below hB (Nat.le_refl _)) (by omega)
  have HY : Hid (Rn ((w.alloc (.cells #[Value.slice x0 lx.length x2, Value.slice y0 ly.length y2, .bool true] 31)).alloc (.cells #[Value.slice u0 lu.length u2, Value.slice v0 lv.length v2, .bool true] 31)) y0 ly ∧ Rn ((w.alloc (.cells #[Value.slice x0 lx.length x2, Value.slice y0 ly.length y2, .bool true] 31)).alloc (.cells #[Value.slice u0 lu.length u2, Value.slice v0 lv.length v2, .bool true] 31)) v0 lv) := ⟨hry.below hB (Nat.le_refl _), hrv.below hB (Nat.le_refl _)⟩
  rw [decide_eq_true h1] at C1
  have HL : Hid (ly.length ≤ 100000000) := hly
  have H2 : Hid (ly ≠ lv) := h2
  clear h2
  clear hB hcx hcy hcu hcv hrx hry hru hrv hsx hsy hsu hsv hlx hly h1
  go_enter Tryz.func15, Tryz.ntmps15
  go_wp2_with fail
  refine C1.mono ?_
  clear C1
  rintro e w1 ⟨rfl, q, rfl⟩
  have C2 := sameLimbs_any y0 v0 y2 v2 ly lv (World.drewN ((w.alloc (.cells #[Value.slice x0 lx.length x2, Value.slice y0 ly.length y2, .bool true] 31)).alloc (.cells #[Value.slice u0 lu.length u2, Value.slice v0 lv.length v2, .bool true] 31)) q) HY.out.1 HY.out.2 (by have := HL.out; omega)
  rw [decide_eq_false H2.out] at C2
  go_wp2_with fail
  refine C2.mono ?_
  clear C2
  rintro e w2 ⟨rfl, q2, rfl⟩
  go_wp2
  go_ret
  exact ⟨rfl, below_drewN HB.out (q + q2)⟩
set_option maxHeartbeats 4000000 in
theorem lone_tte (x y u v : Value) (lx ly lu lv : List Nat) (w : World) (hx : Nm w x lx) (hy : Nm w y ly) (hu : Nm w u lu) (hv : Nm w v lv) (hlx : lx.length ≤ 100000000) (hly : ly.length ≤ 100000000) (h1 : lx = lu) (h2 : ly = lv) : Calls Tryz.prog 15 #[.agg #[x, y, .bool true], .agg #[u, v, .bool true]] w fun e w' => e = .returned (.bool true) ∧ Below w.heap.size w w' := by
  obtain ⟨x0, x2, rfl, hcx, hrx, hsx⟩ := hx
  obtain ⟨y0, y2, rfl, hcy, hry, hsy⟩ := hy
  obtain ⟨u0, u2, rfl, hcu, hru, hsu⟩ := hu
  obtain ⟨v0, v2, rfl, hcv, hrv, hsv⟩ := hv
  have hB : Below w.heap.size w ((w.alloc (.cells #[Value.slice x0 lx.length x2, Value.slice y0 ly.length y2, .bool true] 31)).alloc (.cells #[Value.slice u0 lu.length u2, Value.slice v0 lv.length v2, .bool true] 31)) := ((Below.refl w.heap.size w).alloc (Nat.le_refl _) _).alloc (by simp) _
  have HB : Hid (Below w.heap.size w ((w.alloc (.cells #[Value.slice x0 lx.length x2, Value.slice y0 ly.length y2, .bool true] 31)).alloc (.cells #[Value.slice u0 lu.length u2, Value.slice v0 lv.length v2, .bool true] 31))) := hB
  have C1 := sameLimbs_any x0 u0 x2 u2 lx lu _ (hrx.below hB (Nat.le_refl _)) (hru.below hB (Nat.le_refl _)) (by omega)
  have HY : Hid (Rn ((w.alloc (.cells #[Value.slice x0 lx.length x2, Value.slice y0 ly.length y2, .bool true] 31)).alloc (.cells #[Value.slice u0 lu.length u2, Value.slice v0 lv.length v2, .bool true] 31)) y0 ly ∧ Rn ((w.alloc (.cells #[Value.slice x0 lx.length x2, Value.slice y0 ly.length y2, .bool true] 31)).alloc (.cells #[Value.slice u0 lu.length u2, Value.slice v0 lv.length v2, .bool true] 31)) v0 lv) := ⟨hry.below hB (Nat.le_refl _), hrv.below hB (Nat.le_refl _)⟩
  rw [decide_eq_true h1] at C1
  have HL : Hid (ly.length ≤ 100000000) := hly
  have H2 : Hid (ly = lv) := h2
  clear h2
  clear hB hcx hcy hcu hcv hrx hry hru hrv hsx hsy hsu hsv hlx hly h1
  go_enter Tryz.func15, Tryz.ntmps15
  go_wp2_with fail
  refine C1.mono ?_
  clear C1
  rintro e w1 ⟨rfl, q, rfl⟩
  have C2 := sameLimbs_any y0 v0 y2 v2 ly lv (World.drewN ((w.alloc (.cells #[Value.slice x0 lx.length x2, Value.slice y0 ly.length y2, .bool true] 31)).alloc (.cells #[Value.slice u0 lu.length u2, Value.slice v0 lv.length v2, .bool true] 31)) q) HY.out.1 HY.out.2 (by have := HL.out; omega)
  rw [decide_eq_true H2.out] at C2
  go_wp2_with fail
  refine C2.mono ?_
  clear C2
  rintro e w2 ⟨rfl, q2, rfl⟩
  go_wp2
  go_ret
  exact ⟨rfl, below_drewN HB.out (q + q2)⟩
set_option maxHeartbeats 4000000 in
theorem lone_tfn (x y u v : Value) (lx ly lu lv : List Nat) (w : World) (hx : Nm w x lx) (hy : Nm w y ly) (hu : Nm w u lu) (hv : Nm w v lv) (hlx : lx.length ≤ 100000000) (hly : ly.length ≤ 100000000) : Calls Tryz.prog 15 #[.agg #[x, y, .bool true], .agg #[u, v, .bool false]] w fun e w' => e = .returned (.bool false) ∧ Below w.heap.size w w' := by
  obtain ⟨x0, x2, rfl, hcx, hrx, hsx⟩ := hx
  obtain ⟨y0, y2, rfl, hcy, hry, hsy⟩ := hy
  obtain ⟨u0, u2, rfl, hcu, hru, hsu⟩ := hu
  obtain ⟨v0, v2, rfl, hcv, hrv, hsv⟩ := hv
  have hB : Below w.heap.size w ((w.alloc (.cells #[Value.slice x0 lx.length x2, Value.slice y0 ly.length y2, .bool true] 31)).alloc (.cells #[Value.slice u0 lu.length u2, Value.slice v0 lv.length v2, .bool false] 31)) := ((Below.refl w.heap.size w).alloc (Nat.le_refl _) _).alloc (by simp) _
  have HB : Hid (Below w.heap.size w ((w.alloc (.cells #[Value.slice x0 lx.length x2, Value.slice y0 ly.length y2, .bool true] 31)).alloc (.cells #[Value.slice u0 lu.length u2, Value.slice v0 lv.length v2, .bool false] 31))) := hB
  have C1 := sameLimbs_any x0 u0 x2 u2 lx lu _ (hrx.below hB (Nat.le_refl _)) (hru.below hB (Nat.le_refl _)) (by omega)
  have HY : Hid (Rn ((w.alloc (.cells #[Value.slice x0 lx.length x2, Value.slice y0 ly.length y2, .bool true] 31)).alloc (.cells #[Value.slice u0 lu.length u2, Value.slice v0 lv.length v2, .bool false] 31)) y0 ly ∧ Rn ((w.alloc (.cells #[Value.slice x0 lx.length x2, Value.slice y0 ly.length y2, .bool true] 31)).alloc (.cells #[Value.slice u0 lu.length u2, Value.slice v0 lv.length v2, .bool false] 31)) v0 lv) := ⟨hry.below hB (Nat.le_refl _), hrv.below hB (Nat.le_refl _)⟩
  have HL : Hid (ly.length ≤ 100000000) := hly
  clear hB hcx hcy hcu hcv hrx hry hru hrv hsx hsy hsu hsv hlx hly
  go_enter Tryz.func15, Tryz.ntmps15
  clear C1
  go_wp2
  go_ret
  exact ⟨rfl, HB.out⟩
set_option maxHeartbeats 4000000 in
theorem lone_ftn (x y u v : Value) (lx ly lu lv : List Nat) (w : World) (hx : Nm w x lx) (hy : Nm w y ly) (hu : Nm w u lu) (hv : Nm w v lv) (hlx : lx.length ≤ 100000000) (hly : ly.length ≤ 100000000) : Calls Tryz.prog 15 #[.agg #[x, y, .bool false], .agg #[u, v, .bool true]] w fun e w' => e = .returned (.bool false) ∧ Below w.heap.size w w' := by
  obtain ⟨x0, x2, rfl, hcx, hrx, hsx⟩ := hx
  obtain ⟨y0, y2, rfl, hcy, hry, hsy⟩ := hy
  obtain ⟨u0, u2, rfl, hcu, hru, hsu⟩ := hu
  obtain ⟨v0, v2, rfl, hcv, hrv, hsv⟩ := hv
  have hB : Below w.heap.size w ((w.alloc (.cells #[Value.slice x0 lx.length x2, Value.slice y0 ly.length y2, .bool false] 31)).alloc (.cells #[Value.slice u0 lu.length u2, Value.slice v0 lv.length v2, .bool true] 31)) := ((Below.refl w.heap.size w).alloc (Nat.le_refl _) _).alloc (by simp) _
  have HB : Hid (Below w.heap.size w ((w.alloc (.cells #[Value.slice x0 lx.length x2, Value.slice y0 ly.length y2, .bool false] 31)).alloc (.cells #[Value.slice u0 lu.length u2, Value.slice v0 lv.length v2, .bool true] 31))) := hB
  have C1 := sameLimbs_any x0 u0 x2 u2 lx lu _ (hrx.below hB (Nat.le_refl _)) (hru.below hB (Nat.le_refl _)) (by omega)
  have HY : Hid (Rn ((w.alloc (.cells #[Value.slice x0 lx.length x2, Value.slice y0 ly.length y2, .bool false] 31)).alloc (.cells #[Value.slice u0 lu.length u2, Value.slice v0 lv.length v2, .bool true] 31)) y0 ly ∧ Rn ((w.alloc (.cells #[Value.slice x0 lx.length x2, Value.slice y0 ly.length y2, .bool false] 31)).alloc (.cells #[Value.slice u0 lu.length u2, Value.slice v0 lv.length v2, .bool true] 31)) v0 lv) := ⟨hry.below hB (Nat.le_refl _), hrv.below hB (Nat.le_refl _)⟩
  have HL : Hid (ly.length ≤ 100000000) := hly
  clear hB hcx hcy hcu hcv hrx hry hru hrv hsx hsy hsu hsv hlx hly
  go_enter Tryz.func15, Tryz.ntmps15
  clear C1
  go_wp2
  go_ret
  exact ⟨rfl, HB.out⟩
set_option maxHeartbeats 4000000 in
theorem lone_ffx (x y u v : Value) (lx ly lu lv : List Nat) (w : World) (hx : Nm w x lx) (hy : Nm w y ly) (hu : Nm w u lu) (hv : Nm w v lv) (hlx : lx.length ≤ 100000000) (hly : ly.length ≤ 100000000) (h1 : lx ≠ lu) : Calls Tryz.prog 15 #[.agg #[x, y, .bool false], .agg #[u, v, .bool false]] w fun e w' => e = .returned (.bool false) ∧ Below w.heap.size w w' := by
  obtain ⟨x0, x2, rfl, hcx, hrx, hsx⟩ := hx
  obtain ⟨y0, y2, rfl, hcy, hry, hsy⟩ := hy
  obtain ⟨u0, u2, rfl, hcu, hru, hsu⟩ := hu
  obtain ⟨v0, v2, rfl, hcv, hrv, hsv⟩ := hv
  have hB : Below w.heap.size w ((w.alloc (.cells #[Value.slice x0 lx.length x2, Value.slice y0 ly.length y2, .bool false] 31)).alloc (.cells #[Value.slice u0 lu.length u2, Value.slice v0 lv.length v2, .bool false] 31)) := ((Below.refl w.heap.size w).alloc (Nat.le_refl _) _).alloc (by simp) _
  have HB : Hid (Below w.heap.size w ((w.alloc (.cells #[Value.slice x0 lx.length x2, Value.slice y0 ly.length y2, .bool false] 31)).alloc (.cells #[Value.slice u0 lu.length u2, Value.slice v0 lv.length v2, .bool false] 31))) := hB
  have C1 := sameLimbs_any x0 u0 x2 u2 lx lu _ (hrx.below hB (Nat.le_refl _)) (hru.below hB (Nat.le_refl _)) (by omega)
  have HY : Hid (Rn ((w.alloc (.cells #[Value.slice x0 lx.length x2, Value.slice y0 ly.length y2, .bool false] 31)).alloc (.cells #[Value.slice u0 lu.length u2, Value.slice v0 lv.length v2, .bool false] 31)) y0 ly ∧ Rn ((w.alloc (.cells #[Value.slice x0 lx.length x2, Value.slice y0 ly.length y2, .bool false] 31)).alloc (.cells #[Value.slice u0 lu.length u2, Value.slice v0 lv.length v2, .bool false] 31)) v0 lv) := ⟨hry.below hB (Nat.le_refl _), hrv.below hB (Nat.le_refl _)⟩
  rw [decide_eq_false h1] at C1
  have HL : Hid (ly.length ≤ 100000000) := hly
  clear hB hcx hcy hcu hcv hrx hry hru hrv hsx hsy hsu hsv hlx hly h1
  go_enter Tryz.func15, Tryz.ntmps15
  go_wp2_with fail
  refine C1.mono ?_
  clear C1
  rintro e w1 ⟨rfl, q, rfl⟩
  go_wp2
  go_ret
  exact ⟨rfl, below_drewN HB.out q⟩
set_option maxHeartbeats 4000000 in
theorem lone_ffy (x y u v : Value) (lx ly lu lv : List Nat) (w : World) (hx : Nm w x lx) (hy : Nm w y ly) (hu : Nm w u lu) (hv : Nm w v lv) (hlx : lx.length ≤ 100000000) (hly : ly.length ≤ 100000000) (h1 : lx = lu) (h2 : ly ≠ lv) : Calls Tryz.prog 15 #[.agg #[x, y, .bool false], .agg #[u, v, .bool false]] w fun e w' => e = .returned (.bool false) ∧ Below w.heap.size w w' := by
  obtain ⟨x0, x2, rfl, hcx, hrx, hsx⟩ := hx
  obtain ⟨y0, y2, rfl, hcy, hry, hsy⟩ := hy
  obtain ⟨u0, u2, rfl, hcu, hru, hsu⟩ := hu
  obtain ⟨v0, v2, rfl, hcv, hrv, hsv⟩ := hv
  have hB : Below w.heap.size w ((w.alloc (.cells #[Value.slice x0 lx.length x2, Value.slice y0 ly.length y2, .bool false] 31)).alloc (.cells #[Value.slice u0 lu.length u2, Value.slice v0 lv.length v2, .bool false] 31)) := ((Below.refl w.heap.size w).alloc (Nat.le_refl _) _).alloc (by simp) _
  have HB : Hid (Below w.heap.size w ((w.alloc (.cells #[Value.slice x0 lx.length x2, Value.slice y0 ly.length y2, .bool false] 31)).alloc (.cells #[Value.slice u0 lu.length u2, Value.slice v0 lv.length v2, .bool false] 31))) := hB
  have C1 := sameLimbs_any x0 u0 x2 u2 lx lu _ (hrx.below hB (Nat.le_refl _)) (hru.below hB (Nat.le_refl _)) (by omega)
  have HY : Hid (Rn ((w.alloc (.cells #[Value.slice x0 lx.length x2, Value.slice y0 ly.length y2, .bool false] 31)).alloc (.cells #[Value.slice u0 lu.length u2, Value.slice v0 lv.length v2, .bool false] 31)) y0 ly ∧ Rn ((w.alloc (.cells #[Value.slice x0 lx.length x2, Value.slice y0 ly.length y2, .bool false] 31)).alloc (.cells #[Value.slice u0 lu.length u2, Value.slice v0 lv.length v2, .bool false] 31)) v0 lv) := ⟨hry.below hB (Nat.le_refl _), hrv.below hB (Nat.le_refl _)⟩
  rw [decide_eq_true h1] at C1
  have HL : Hid (ly.length ≤ 100000000) := hly
  have H2 : Hid (ly ≠ lv) := h2
  clear h2
  clear hB hcx hcy hcu hcv hrx hry hru hrv hsx hsy hsu hsv hlx hly h1
  go_enter Tryz.func15, Tryz.ntmps15
  go_wp2_with fail
  refine C1.mono ?_
  clear C1
  rintro e w1 ⟨rfl, q, rfl⟩
  have C2 := sameLimbs_any y0 v0 y2 v2 ly lv (World.drewN ((w.alloc (.cells #[Value.slice x0 lx.length x2, Value.slice y0 ly.length y2, .bool false] 31)).alloc (.cells #[Value.slice u0 lu.length u2, Value.slice v0 lv.length v2, .bool false] 31)) q) HY.out.1 HY.out.2 (by have := HL.out; omega)
  rw [decide_eq_false H2.out] at C2
  go_wp2_with fail
  refine C2.mono ?_
  clear C2
  rintro e w2 ⟨rfl, q2, rfl⟩
  go_wp2
  go_ret
  exact ⟨rfl, below_drewN HB.out (q + q2)⟩
set_option maxHeartbeats 4000000 in
theorem lone_ffe (x y u v : Value) (lx ly lu lv : List Nat) (w : World) (hx : Nm w x lx) (hy : Nm w y ly) (hu : Nm w u lu) (hv : Nm w v lv) (hlx : lx.length ≤ 100000000) (hly : ly.length ≤ 100000000) (h1 : lx = lu) (h2 : ly = lv) : Calls Tryz.prog 15 #[.agg #[x, y, .bool false], .agg #[u, v, .bool false]] w fun e w' => e = .returned (.bool true) ∧ Below w.heap.size w w' := by
  obtain ⟨x0, x2, rfl, hcx, hrx, hsx⟩ := hx
  obtain ⟨y0, y2, rfl, hcy, hry, hsy⟩ := hy
  obtain ⟨u0, u2, rfl, hcu, hru, hsu⟩ := hu
  obtain ⟨v0, v2, rfl, hcv, hrv, hsv⟩ := hv
  have hB : Below w.heap.size w ((w.alloc (.cells #[Value.slice x0 lx.length x2, Value.slice y0 ly.length y2, .bool false] 31)).alloc (.cells #[Value.slice u0 lu.length u2, Value.slice v0 lv.length v2, .bool false] 31)) := ((Below.refl w.heap.size w).alloc (Nat.le_refl _) _).alloc (by simp) _
  have HB : Hid (Below w.heap.size w ((w.alloc (.cells #[Value.slice x0 lx.length x2, Value.slice y0 ly.length y2, .bool false] 31)).alloc (.cells #[Value.slice u0 lu.length u2, Value.slice v0 lv.length v2, .bool false] 31))) := hB
  have C1 := sameLimbs_any x0 u0 x2 u2 lx lu _ (hrx.below hB (Nat.le_refl _)) (hru.below hB (Nat.le_refl _)) (by omega)
  have HY : Hid (Rn ((w.alloc (.cells #[Value.slice x0 lx.length x2, Value.slice y0 ly.length y2, .bool false] 31)).alloc (.cells #[Value.slice u0 lu.length u2, Value.slice v0 lv.length v2, .bool false] 31)) y0 ly ∧ Rn ((w.alloc (.cells #[Value.slice x0 lx.length x2, Value.slice y0 ly.length y2, .bool false] 31)).alloc (.cells #[Value.slice u0 lu.length u2, Value.slice v0 lv.length v2, .bool false] 31)) v0 lv) := ⟨hry.below hB (Nat.le_refl _), hrv.below hB (Nat.le_refl _)⟩
  rw [decide_eq_true h1] at C1
  have HL : Hid (ly.length ≤ 100000000) := hly
  have H2 : Hid (ly = lv) := h2
  clear h2
  clear hB hcx hcy hcu hcv hrx hry hru hrv hsx hsy hsu hsv hlx hly h1
  go_enter Tryz.func15, Tryz.ntmps15
  go_wp2_with fail
  refine C1.mono ?_
  clear C1
  rintro e w1 ⟨rfl, q, rfl⟩
  have C2 := sameLimbs_any y0 v0 y2 v2 ly lv (World.drewN ((w.alloc (.cells #[Value.slice x0 lx.length x2, Value.slice y0 ly.length y2, .bool false] 31)).alloc (.cells #[Value.slice u0 lu.length u2, Value.slice v0 lv.length v2, .bool false] 31)) q) HY.out.1 HY.out.2 (by have := HL.out; omega)
  rw [decide_eq_true H2.out] at C2
  go_wp2_with fail
  refine C2.mono ?_
  clear C2
  rintro e w2 ⟨rfl, q2, rfl⟩
  go_wp2
  go_ret
  exact ⟨rfl, below_drewN HB.out (q + q2)⟩
theorem lone_v (x y u v : Value) (lx ly lu lv : List Nat) (i j : Bool) (w : World) (hx : Nm w x lx) (hy : Nm w y ly) (hu : Nm w u lu) (hv : Nm w v lv) (hlx : lx.length ≤ 100000000) (hly : ly.length ≤ 100000000) : Calls Tryz.prog 15 #[.agg #[x, y, .bool i], .agg #[u, v, .bool j]] w fun e w' => e = .returned (.bool (decide (i = j ∧ lx = lu ∧ ly = lv))) ∧ Below w.heap.size w w' := by
  by_cases h0 : i = j
  · subst h0
    by_cases h1 : lx = lu
    · by_cases h2 : ly = lv
      · rw [decide_eq_true ⟨rfl, h1, h2⟩]
        cases i
        · exact lone_ffe x y u v lx ly lu lv w hx hy hu hv hlx hly h1 h2
        · exact lone_tte x y u v lx ly lu lv w hx hy hu hv hlx hly h1 h2
      · rw [decide_eq_false (fun h => h2 h.2.2)]
        cases i
        · exact lone_ffy x y u v lx ly lu lv w hx hy hu hv hlx hly h1 h2
        · exact lone_tty x y u v lx ly lu lv w hx hy hu hv hlx hly h1 h2
    · rw [decide_eq_false (fun h => h1 h.2.1)]
      cases i
      · exact lone_ffx x y u v lx ly lu lv w hx hy hu hv hlx hly h1
      · exact lone_ttx x y u v lx ly lu lv w hx hy hu hv hlx hly h1
  · rw [decide_eq_false (fun h => h0 h.1)]
    cases i <;> cases j
    · exact absurd rfl h0
    · exact lone_ftn x y u v lx ly lu lv w hx hy hu hv hlx hly
    · exact lone_tfn x y u v lx ly lu lv w hx hy hu hv hlx hly
    · exact absurd rfl h0

set_option maxHeartbeats 4000000 in
theorem lopposite_v (x y : Value) (X Y : Nat) (w : World) (hx : Nk w x X 256) (hy : Nk w y Y 256) (hX : X < eP) : Calls Tryz.prog 19 #[.agg #[x, y, .bool false]] w fun e w' => ∃ u, e = .returned (.agg #[u, y, .bool false]) ∧ Mk w' w.heap.size u ((eP - X) % eP) 256 ∧ Below w.heap.size w w' := by
  rw [← neg_eq hX]
  obtain ⟨x0, x1, x2, rfl⟩ := hx.sl
  obtain ⟨y0, y1, y2, rfl⟩ := hy.sl
  have HF0 : Hid (Fm w ((w.alloc (.cells #[.slice x0 x1 x2, .slice y0 y1 y2, .bool false] 31)).alloc (.cells #[.slice none 0 0, .slice none 0 0, .bool false] 31)) [(31, [.slice x0 x1 x2, .slice y0 y1 y2, .bool false]), (31, [.slice none 0 0, .slice none 0 0, .bool false])] [(.slice x0 x1 x2, X, 256), (.slice y0 y1 y2, Y, 256)] []) := (((Fm.nil (w := w) (A := [(.slice x0 x1 x2, X, 256), (.slice y0 y1 y2, Y, 256)]) (ar_cons hx (ar_cons hy ar_nil))).push (by simp) 31 [.slice x0 x1 x2, .slice y0 y1 y2, .bool false]).push (by simp) 31 [.slice none 0 0, .slice none 0 0, .bool false])
  clear hx hy hX
  go_enter Tryz.func19, Tryz.ntmps19
  go_wp2_with fail
  generalize ((w.alloc (.cells #[.slice x0 x1 x2, .slice y0 y1 y2, .bool false] 31)).alloc (.cells #[.slice none 0 0, .slice none 0 0, .bool false] 31)) = w0 at *
  have HF0d : Hid (Fm w w0.drew [(31, [.slice x0 x1 x2, .slice y0 y1 y2, .bool false]), (31, [.slice none 0 0, .slice none 0 0, .bool false])] [(.slice x0 x1 x2, X, 256), (.slice y0 y1 y2, Y, 256)] []) := HF0.out.drew
  refine wp_region_K 3 (fun (w' : World) => w'.cell? ⟨w.heap.size, 0, none⟩ = some (.slice x0 x1 x2) ∧ w'.cell? ⟨w.heap.size, 1, none⟩ = some (.slice y0 y1 y2)) (by kernel_rfl) ?_
  have hHeld : ((fun (w' : World) => w'.cell? ⟨w.heap.size, 0, none⟩ = some (.slice x0 x1 x2) ∧ w'.cell? ⟨w.heap.size, 1, none⟩ = some (.slice y0 y1 y2))) (World.drew _) := ⟨HF0d.out.cell 0 0 (okb rfl) (okb rfl), HF0d.out.cell 0 1 (okb rfl) (okb rfl)⟩
  refine wpAnyK_take0 0 (v := ?v1) rfl (by kernel_rfl) (fun _ _ _ h => h) (Or.inl ⟨by rfl, ?hy1⟩) (fun _ => hHeld) ?_
  case hy1 => (intro w hSw; go_simp; try with_reducible rfl)
  try simp only [Act.put, List.setIfInBounds_toArray, List.set_cons_zero, List.set_cons_succ]
  refine wpAnyK_take 1 [3] (v := ?v2) rfl (by kernel_rfl) (fun _ _ _ h => h) (Or.inl ⟨by rfl, ?hy2⟩) hHeld ?_
  case hy2 => (intro w hSw; (try dsimp only at hSw); go_simp; try with_reducible rfl)
  try simp only [Act.put, List.setIfInBounds_toArray, List.set_cons_zero, List.set_cons_succ]
  refine wpAnyK_step 2 rfl (by kernel_rfl) (fun K hK => ?_)
  go_simp
  refine (lprime_v _).mono ?_
  rintro e w1 ⟨r1, rfl, h⟩
  have HF1 : Hid (Fm w w1 [(31, [.slice x0 x1 x2, .slice y0 y1 y2, .bool false]), (31, [.slice none 0 0, .slice none 0 0, .bool false])] [(.slice x0 x1 x2, X, 256), (.slice y0 y1 y2, Y, 256)] [(r1, eP, 256)]) := HF0d.out.step h
  clear h
  try dsimp only
  refine hK.out _ _ ?hk3 ?_
  case hk3 => exact fun _ => ⟨HF1.out.cell 0 0 (okb rfl) (okb rfl), HF1.out.cell 0 1 (okb rfl) (okb rfl)⟩
  have hHeld : ((fun (w' : World) => w'.cell? ⟨w.heap.size, 0, none⟩ = some (.slice x0 x1 x2) ∧ w'.cell? ⟨w.heap.size, 1, none⟩ = some (.slice y0 y1 y2))) _ := ⟨HF1.out.cell 0 0 (okb rfl) (okb rfl), HF1.out.cell 0 1 (okb rfl) (okb rfl)⟩
  clear hK K
  try simp only [Act.put, List.setIfInBounds_toArray, List.set_cons_zero, List.set_cons_succ]
  refine wpAnyK_step 3 rfl (by kernel_rfl) (fun K hK => ?_)
  go_simp
  refine (msubP _ _ _ 0 X 1 256 _ (Nk.none _ 1) (HF1.out.arg 0 (okb rfl)) (HF1.out.got 0 (okb rfl)) (by decide) (by decide)).mono ?_
  rintro e w2 ⟨r2, rfl, h⟩
  have HF2 : Hid (Fm w w2 [(31, [.slice x0 x1 x2, .slice y0 y1 y2, .bool false]), (31, [.slice none 0 0, .slice none 0 0, .bool false])] [(.slice x0 x1 x2, X, 256), (.slice y0 y1 y2, Y, 256)] [(r2, fS eP 0 X, 256), (r1, eP, 256)]) := HF1.out.step h
  clear h
  try dsimp only
  refine hK.out _ _ ?hk4 ?_
  case hk4 => exact fun _ => ⟨HF2.out.cell 0 0 (okb rfl) (okb rfl), HF2.out.cell 0 1 (okb rfl) (okb rfl)⟩
  have hHeld : ((fun (w' : World) => w'.cell? ⟨w.heap.size, 0, none⟩ = some (.slice x0 x1 x2) ∧ w'.cell? ⟨w.heap.size, 1, none⟩ = some (.slice y0 y1 y2))) _ := ⟨HF2.out.cell 0 0 (okb rfl) (okb rfl), HF2.out.cell 0 1 (okb rfl) (okb rfl)⟩
  clear hK K
  try simp only [Act.put, List.setIfInBounds_toArray, List.set_cons_zero, List.set_cons_succ]
  refine wpAnyK_take0 4 (v := ?v5) rfl (by kernel_rfl) (fun _ _ _ h => h) (Or.inl ⟨by rfl, ?hy5⟩) (fun _ => hHeld) ?_
  case hy5 => (intro w hSw; go_simp; try with_reducible rfl)
  try simp only [Act.put, List.setIfInBounds_toArray, List.set_cons_zero, List.set_cons_succ]
  refine wpAnyK_take0 5 (v := ?v6) rfl (by kernel_rfl) (fun _ _ _ h => h) (Or.inl ⟨by rfl, ?hy6⟩) (fun _ => hHeld) ?_
  case hy6 => (intro w hSw; go_simp; try with_reducible rfl)
  try simp only [Act.put, List.setIfInBounds_toArray, List.set_cons_zero, List.set_cons_succ]
  refine wpAnyK_take0 6 (v := ?v7) rfl (by kernel_rfl) (fun _ _ _ h => h) (Or.inl ⟨by rfl, ?hy7⟩) (fun _ => hHeld) ?_
  case hy7 => (intro w hSw; go_simp; try with_reducible rfl)
  try simp only [Act.put, List.setIfInBounds_toArray, List.set_cons_zero, List.set_cons_succ]
  refine wpAnyK_take0 7 (v := ?v8) rfl (by kernel_rfl) (fun _ _ _ h => h) (Or.inl ⟨by rfl, ?hy8⟩) (fun _ => hHeld) ?_
  case hy8 => (intro w hSw; go_simp; try with_reducible rfl)
  try simp only [Act.put, List.setIfInBounds_toArray, List.set_cons_zero, List.set_cons_succ]
  refine wpAnyK_take0 8 (v := ?v9) rfl (by kernel_rfl) (fun _ _ _ h => h) (Or.inl ⟨by rfl, ?hy9⟩) (fun _ => hHeld) ?_
  case hy9 => (intro w hSw; go_simp; try with_reducible rfl)
  try simp only [Act.put, List.setIfInBounds_toArray, List.set_cons_zero, List.set_cons_succ]
  refine wpAnyK_done (by kernel_rfl) ?_ _
  obtain ⟨q00, q01, q02, rfl⟩ := (HF2.out.got 0 (okb rfl)).sl
  have c1_0 : w2.cell? ⟨w.heap.size + 1, 0, none⟩ = some (.slice none 0 0) := HF2.out.cell 1 0 (okb rfl) (okb rfl)
  have f1_0 : w2.frozen? ⟨w.heap.size + 1, 0, none⟩ = false := HF2.out.frozen 1 0 (okb rfl)
  have c1_1 : w2.cell? ⟨w.heap.size + 1, 1, none⟩ = some (.slice none 0 0) := HF2.out.cell 1 1 (okb rfl) (okb rfl)
  have f1_1 : w2.frozen? ⟨w.heap.size + 1, 1, none⟩ = false := HF2.out.frozen 1 1 (okb rfl)
  have c1_2 : w2.cell? ⟨w.heap.size + 1, 2, none⟩ = some (.bool false) := HF2.out.cell 1 2 (okb rfl) (okb rfl)
  have f1_2 : w2.frozen? ⟨w.heap.size + 1, 2, none⟩ = false := HF2.out.frozen 1 2 (okb rfl)
  have c0_1 : w2.cell? ⟨w.heap.size, 1, none⟩ = some (.slice y0 y1 y2) := HF2.out.cell 0 1 (okb rfl) (okb rfl)
  go_wp2
  (try simp only [Exit.inBlock, Exit.then])
  have hb := (((But.refl w2 (w.heap.size + 1)).set 0 (.slice q00 q01 q02)).set 1 (.slice y0 y1 y2)).set 2 (.bool false)
  refine bodyPost_ret (v := .agg #[.slice q00 q01 q02, .slice y0 y1 y2, .bool false]) ?_ rfl ⟨_, rfl, HF2.out.out 1 (by simp) hb 0 (by simp), HF2.out.outB 1 (by simp) hb⟩
  rw [results_cell rfl]; go_simp
/-- The value of a hexadecimal digit. -/
def hv (c : UInt8) : Nat := if 97 ≤ c.toNat then c.toNat - 87 else c.toNat - 48
def hexOk (c : UInt8) : Prop := (48 ≤ c.toNat ∧ c.toNat ≤ 57) ∨ (97 ≤ c.toNat ∧ c.toNat ≤ 102)
instance (c : UInt8) : Decidable (hexOk c) := by unfold hexOk; infer_instance
theorem hv_lt {c : UInt8} (h : hexOk c) : hv c < 16 := by unfold hv; unfold hexOk at h; split <;> omega
set_option maxHeartbeats 4000000 in
theorem ldigit_v (c : UInt8) (w : World) (hc : hexOk c) : Calls Tryz.prog 122 #[.int .u8 (c.toNat : Int)] w fun e w' => e = .returned (.int .i64 ((hv c : Nat) : Int)) ∧ w' = w := by
  unfold hv
  unfold hexOk at hc
  generalize c.toNat = n at *
  by_cases h : 97 ≤ n
  · rw [if_pos h]
    have h1 : (97 : Int) ≤ (n : Int) := by omega
    go_enter Tryz.func122, Tryz.ntmps122
    go_wp2
    go_ret
    refine ⟨?_, rfl⟩
    show Ending.returned (Value.int .i64 ((n : Int) - 97 + 10)) = _
    congr 2
    omega
  · rw [if_neg h]
    have h1 : ¬ (97 : Int) ≤ (n : Int) := by omega
    go_enter Tryz.func122, Tryz.ntmps122
    go_wp2
    go_ret
    refine ⟨?_, rfl⟩
    show Ending.returned (Value.int .i64 ((n : Int) - 48)) = _
    congr 2
    omega
/-- The bytes of hexadecimal digits. -/
def unb (s : List UInt8) (k : Nat) : UInt8 := UInt8.ofNat (16 * hv (s.getD (2 * k) 0) + hv (s.getD (2 * k + 1) 0))
def unh (s : List UInt8) (n : Nat) : List UInt8 := (List.range n).map (unb s)
theorem unh_succ (s : List UInt8) (n : Nat) : unh s (n + 1) = unh s n ++ [unb s n] := by unfold unh; rw [List.range_succ, List.map_append]; rfl
theorem unh_len (s : List UInt8) (n : Nat) : (unh s n).length = n := by unfold unh; simp
theorem append_opE {w : World} {o : Oper} {a : Act} {K : Act → World → Prop} {Q : Exit → Act → World → Prop} (s x : Operand)
    (ho : o.op = .call { callee := .builtin .append, args := #[s, x], argTypes := #[22, 22] })
    (base : Nat) (i : TypeInfo) (hi : Tryz.prog.info? 5 = some i) (hz : i.zero = some (.int .u8 0)) (hsize : i.size = 1) (hby : i.bytes = 1)
    (v : Value) (n : Nat) (xs : List UInt8) (hs : a.eval s = v) (hown : w.ownsRow base 5 1 v n (xs.map B))
    (ad : Addr) (m c : Nat) (l : List UInt8) (hx : a.eval x = .slice (some ad) m c) (hl : l.length = m) (_h0 : some ad = none → m = 0 ∧ c = 0) (hrd : Rd w (some ad) l)
    (hbytes : n + m ≤ 100000000000) (hbase : base ≤ w.heap.size)
    (h : ∀ v' w', w'.ownsRow base 5 1 v' (n + m) ((xs ++ l).map B) → w.grownBy w' v.ownBlock → K (a.put o.dst v') w') : o.wp Tryz.prog a w K Q := by
  refine wp_append_own_wide w s x 22 ho base 5 i (.int .u8 0) 1 1 Tryz.underlying22 hi hz hsize hby rfl (by decide) v n (xs.map B) hs hown ad m c (l.map B) hx (by simpa using hl) ?_ (oneB l) (by unfold maxLen; omega) (by omega) hbase ?_
  · intro j u hu
    rcases hrd with h0 | ⟨b, off, e, hb, hc⟩
    · subst h0; simp at hu
    · cases e
      have hj : j < l.length := by
        have := (List.getElem?_eq_some_iff.1 hu).1
        simpa using this
      rw [Addr.add_lit, hc j hj]
      simp [List.getElem?_map, List.getElem?_eq_getElem hj] at hu
      rw [← hu, List.getD_eq_getElem?_getD, List.getElem?_eq_getElem hj, Option.getD_some]
  · intro v' w' h1 h2 _
    exact h v' w' (by rw [List.map_append]; exact h1) h2
theorem rd_lit (w : World) (Z : Nat) (c : UInt8) (hc : c = UInt8.ofNat Z) (hZ : Z < 256) : Rd (w.alloc (.cells #[.int .u8 (Z : Int)] 5)) (some ⟨w.heap.size, 0, none⟩) [c] := by
  have hb := alloc_bl w [.int .u8 (Z : Int)] 5
  refine .inr ⟨w.heap.size, 0, rfl, by rw [World.size_alloc]; omega, fun j hj => ?_⟩
  obtain rfl : j = 0 := by simpa using hj
  rw [Nat.zero_add, hb.cell 0 (by simp)]
  subst hc
  show some (Value.int .u8 (Z : Int)) = some (B (UInt8.ofNat Z))
  unfold B
  rw [UInt8.toNat_ofNat', Nat.mod_eq_of_lt (show Z < 2 ^ 8 from hZ)]

set_option maxHeartbeats 8000000 in
theorem unhex_v (s : List UInt8) (n : Nat) (w : World) (hn : s.length = 2 * n) (hs : ∀ c ∈ s, hexOk c) (hb : n ≤ 1000) : Calls Tryz.prog 85 #[.string ⟨s.toArray⟩] w fun e w' => ∃ v, e = .returned v ∧ Owb w' w.heap.size v (unh s n) ∧ Below w.heap.size w w' := by
  obtain ⟨i, hi, hz, hsize, hby⟩ := info_u8
  have HN : Hid (s.length = 2 * n) := hn
  have hln : ((s.length : Nat) : Int) = 2 * (n : Int) := by omega
  have HS : Hid (∀ c ∈ s, hexOk c) := hs
  have HU : Hid (unh s 0 = []) := rfl
  clear hn hs
  go_enter Tryz.func85, Tryz.ntmps85
  go_wp2
  go_loopw [3, 4] (fun s3 s4 wr => ∃ (w' : World) (k : Nat) (v : Value), w' = wr ∧ v = s3 ∧ s4 = .int .i64 (2 * (k : Int)) ∧ k ≤ n ∧ Hid (Owb w' w.heap.size v (unh s k) ∧ Below w.heap.size w w')) (fun _ s4 _ => 2 * n - (intOf s4).toNat)
  case atStart => exact ⟨w, 0, .slice none 0 0, rfl, rfl, by simp, Nat.zero_le _, Owb.nil w w.heap.size, Below.refl _ _⟩
  case round =>
    obtain ⟨w', k, v, rfl, rfl, rfl, hk, HI⟩ := hrel
    by_cases hlt : k < n
    · obtain ⟨K, hK⟩ : ∃ K : Nat, K = 2 * k := ⟨_, rfl⟩
      have hl1 : K < s.length := by have := HN.out; omega
      have hl2 : K + 1 < s.length := by have := HN.out; omega
      obtain ⟨c, hc⟩ : ∃ c, s[K] = c := ⟨_, rfl⟩
      obtain ⟨d, hd⟩ : ∃ d, s[K + 1] = d := ⟨_, rfl⟩
      have okc : hexOk c := HS.out c (hc ▸ List.getElem_mem hl1)
      have okd : hexOk d := HS.out d (hd ▸ List.getElem_mem hl2)
      have Hcd : Hid (unb s k = UInt8.ofNat (16 * hv c + hv d)) := (by unfold unb; rw [← hK, List.getD_eq_getElem?_getD, List.getD_eq_getElem?_getD, List.getElem?_eq_getElem hl1, List.getElem?_eq_getElem hl2, Option.getD_some, Option.getD_some, hc, hd] : unb s k = UInt8.ofNat (16 * hv c + hv d))
      have hKi : 2 * (k : Int) = (K : Int) := by omega
      have h1 : (K : Int) + 1 < 2 * (n : Int) := by omega
      have h1' : (K : Int) < 2 * (n : Int) := by omega
      have gx1 : (⟨s.toArray⟩ : ByteArray)[K]'(by show K < s.toArray.size; simpa using hl1) = c := hc
      have gx2 : (⟨s.toArray⟩ : ByteArray)[K + 1]'(by show K + 1 < s.toArray.size; simpa using hl2) = d := hd
      have hwK : IntKind.i64.wrap ((K : Int) + 1) = ((K + 1 : Nat) : Int) := by rw [IntKind.wrap_i64]; omega
      have hKn : K < 2 * n := by omega
      have hK0 : (0 : Int) ≤ (K : Int) + 1 := by omega
      have hKn1 : K + 1 < 2 * n := by omega
      have h1'' : ((K + 1 : Nat) : Int) < 2 * (n : Int) := by omega
      have HK : Hid (K = 2 * k) := hK
      rw [hKi]
      clear hc hd hK
      obtain ⟨C, HC⟩ : ∃ C : Nat, Hid (C = hv c) := ⟨_, rfl⟩
      obtain ⟨D, HD⟩ : ∃ D : Nat, Hid (D = hv d) := ⟨_, rfl⟩
      have CC := fun w => ldigit_v c w okc
      have CD := fun w => ldigit_v d w okd
      rw [← HC.out] at CC
      rw [← HD.out] at CD
      have hC16 : C < 16 := by rw [HC.out]; exact hv_lt okc
      have hD16 : D < 16 := by rw [HD.out]; exact hv_lt okd
      obtain ⟨Z, hZ⟩ : ∃ Z : Nat, 16 * C + D = Z := ⟨_, rfl⟩
      have hZ1 : (16 : Int) * (C : Int) + (D : Int) = (Z : Int) := by omega
      have hZ256 : Z < 256 := by omega
      have hwC : IntKind.i64.wrap (16 * (C : Int)) = 16 * (C : Int) := by rw [IntKind.wrap_i64]; omega
      have hwZ : IntKind.i64.wrap ((Z : Nat) : Int) = (Z : Int) := by rw [IntKind.wrap_i64]; omega
      have hw8 : IntKind.u8.wrap ((Z : Nat) : Int) = (Z : Int) := by rw [IntKind.wrap_u8]; omega
      have HZ : Hid (Z = 16 * C + D) := hZ.symm
      clear hZ okc okd hKi
      go_wp2_with fail
      have HId : Hid (Owb w'.drew w.heap.size v (unh s k) ∧ Below w.heap.size w w'.drew) := ⟨HI.out.1.drewN 1, below_drewN HI.out.2 1⟩
      refine wp_region_K 14 (fun (w1 : World) => Below w.heap.size w w1) (by kernel_rfl) ?_
      have hHeld : ((fun (w1 : World) => Below w.heap.size w w1)) (World.drew _) := HId.out.2
      refine wpAnyK_take0 0 (v := ?v10) rfl (by kernel_rfl) (fun _ _ _ h => h) (Or.inl ⟨by rfl, ?hy10⟩) (fun _ => hHeld) ?_
      case hy10 => (intro w hSw; go_simp; try with_reducible rfl)
      try simp only [Act.put, List.setIfInBounds_toArray, List.set_cons_zero, List.set_cons_succ]
      refine wpAnyK_take0 1 (v := ?v11) rfl (by kernel_rfl) (fun _ _ _ h => h) (Or.inl ⟨by rfl, ?hy11⟩) (fun _ => hHeld) ?_
      case hy11 => (intro w hSw; go_simp; try with_reducible rfl)
      try simp only [Act.put, List.setIfInBounds_toArray, List.set_cons_zero, List.set_cons_succ]
      refine wpAnyK_take0 2 (v := ?v12) rfl (by kernel_rfl) (fun _ _ _ h => h) (Or.inl ⟨by rfl, ?hy12⟩) (fun _ => hHeld) ?_
      case hy12 => (intro w hSw; go_simp; try with_reducible rfl)
      try simp only [Act.put, List.setIfInBounds_toArray, List.set_cons_zero, List.set_cons_succ]
      refine wpAnyK_take0 3 (v := ?v13) rfl (by kernel_rfl) (fun _ _ _ h => h) (Or.inl ⟨by rfl, ?hy13⟩) (fun _ => hHeld) ?_
      case hy13 => (intro w hSw; go_simp; try with_reducible rfl)
      try simp only [Act.put, List.setIfInBounds_toArray, List.set_cons_zero, List.set_cons_succ]
      refine wpAnyK_take0 6 (v := ?v14) rfl (by kernel_rfl) (fun _ _ _ h => h) (Or.inl ⟨by rfl, ?hy14⟩) (fun _ => hHeld) ?_
      case hy14 => (intro w hSw; go_simp; try with_reducible rfl)
      try simp only [Act.put, List.setIfInBounds_toArray, List.set_cons_zero, List.set_cons_succ]
      refine wpAnyK_take0 7 (v := ?v15) rfl (by kernel_rfl) (fun _ _ _ h => h) (Or.inl ⟨by rfl, ?hy15⟩) (fun _ => hHeld) ?_
      case hy15 => (intro w hSw; go_simp; try with_reducible rfl)
      try simp only [Act.put, List.setIfInBounds_toArray, List.set_cons_zero, List.set_cons_succ]
      refine wpAnyK_take0 8 (v := ?v16) rfl (by kernel_rfl) (fun _ _ _ h => h) (Or.inl ⟨by rfl, ?hy16⟩) (fun _ => hHeld) ?_
      case hy16 => (intro w hSw; go_simp; try with_reducible rfl)
      try simp only [Act.put, List.setIfInBounds_toArray, List.set_cons_zero, List.set_cons_succ]
      refine wpAnyK_take0 9 (v := ?v17) rfl (by kernel_rfl) (fun _ _ _ h => h) (Or.inl ⟨by rfl, ?hy17⟩) (fun _ => hHeld) ?_
      case hy17 => (intro w hSw; go_simp; try with_reducible rfl)
      try simp only [Act.put, List.setIfInBounds_toArray, List.set_cons_zero, List.set_cons_succ]
      refine wpAnyK_step 4 rfl (by kernel_rfl) (fun K hK => ?_)
      go_simp
      refine (CC _).mono ?_
      rintro e w'd ⟨rfl, rfl⟩
      try dsimp only
      refine hK.out _ _ ?hk18 ?_
      case hk18 => exact fun _ => HId.out.2
      have hHeld : ((fun (w1 : World) => Below w.heap.size w w1)) _ := HId.out.2
      clear hK K
      try simp only [Act.put, List.setIfInBounds_toArray, List.set_cons_zero, List.set_cons_succ]
      refine wpAnyK_take0 5 (v := ?v19) rfl (by kernel_rfl) (fun _ _ _ h => h) (Or.inl ⟨by rfl, ?hy19⟩) (fun _ => hHeld) ?_
      case hy19 => (intro w hSw; go_simp; try with_reducible rfl)
      try simp only [Act.put, List.setIfInBounds_toArray, List.set_cons_zero, List.set_cons_succ]
      refine wpAnyK_step 10 rfl (by kernel_rfl) (fun K hK => ?_)
      go_simp
      refine (CD _).mono ?_
      rintro e w'd ⟨rfl, rfl⟩
      try dsimp only
      refine hK.out _ _ ?hk20 ?_
      case hk20 => exact fun _ => HId.out.2
      have hHeld : ((fun (w1 : World) => Below w.heap.size w w1)) _ := HId.out.2
      clear hK K
      try simp only [Act.put, List.setIfInBounds_toArray, List.set_cons_zero, List.set_cons_succ]
      refine wpAnyK_take0 11 (v := ?v21) rfl (by kernel_rfl) (fun _ _ _ h => h) (Or.inl ⟨by rfl, ?hy21⟩) (fun _ => hHeld) ?_
      case hy21 => (intro w hSw; go_simp; try with_reducible rfl)
      try simp only [Act.put, List.setIfInBounds_toArray, List.set_cons_zero, List.set_cons_succ]
      refine wpAnyK_take0 12 (v := ?v22) rfl (by kernel_rfl) (fun _ _ _ h => h) (Or.inl ⟨by rfl, ?hy22⟩) (fun _ => hHeld) ?_
      case hy22 => (intro w hSw; go_simp; try with_reducible rfl)
      try simp only [Act.put, List.setIfInBounds_toArray, List.set_cons_zero, List.set_cons_succ]
      refine wpAnyK_step 13 rfl (by kernel_rfl) (fun K hK => ?_)
      go_simp
      have HB2 : Hid (Below w.heap.size w (w'.drew.alloc (.cells #[.int .u8 (Z : Int)] 5))) := HId.out.2.alloc HId.out.2.size _
      have HO2 : Hid (Owb (w'.drew.alloc (.cells #[.int .u8 (Z : Int)] 5)) w.heap.size v (unh s k)) := HId.out.1.below (alloc_below _ _) (Nat.le_refl _)
      have HR2 : Hid (Rd (w'.drew.alloc (.cells #[.int .u8 (Z : Int)] 5)) (some ⟨w'.drew.heap.size, 0, none⟩) [unb s k]) := rd_lit _ _ _ (by rw [Hcd.out, HZ.out, HC.out, HD.out]) hZ256
      try dsimp only
      refine hK.out _ _ ?hk23 ?_
      case hk23 => exact fun _ => HB2.out
      have hHeld : ((fun (w1 : World) => Below w.heap.size w w1)) _ := HB2.out
      clear hK K
      try simp only [Act.put, List.setIfInBounds_toArray, List.set_cons_zero, List.set_cons_succ]
      refine wpAnyK_step 14 rfl (by kernel_rfl) (fun K' hK => ?_)
      rw [if_pos (by kernel_rfl)]
      refine append_opE (.tmp 12) (.tmp 25) rfl w.heap.size i hi hz hsize hby v k (unh s k) rfl (by have h := HO2.out; unfold Owb at h; rw [unh_len] at h; exact h) _ 1 1 [unb s k] rfl rfl (fun e => by cases e) HR2.out (by omega) HB2.out.size ?_
      intro v1 w4 ho4 hg4
      rw [← unh_succ] at ho4
      have HF : Hid (Owb w4 w.heap.size v1 (unh s (k + 1)) ∧ Below w.heap.size w w4) := ⟨by unfold Owb; rw [unh_len]; exact ho4, HB2.out.grown hg4 HB2.out.size (fun q hq => (HO2.out.lt q hq).1)⟩
      clear ho4 hg4
      refine hK.out _ _ ?hk99 ?_
      case hk99 => exact (fun h => nomatch (h.symm.trans (show _ = true by kernel_rfl)))
      clear hK K'
      try simp only [Act.put]
      refine wpAnyK_take0 15 (v := ?v99) rfl (by kernel_rfl) (fun _ _ _ h => h) (Or.inl ⟨by rfl, ?hy99⟩) (fun h => nomatch (h.symm.trans (show _ = true by kernel_rfl))) ?_
      case hy99 => (intro w hSw; go_simp; try with_reducible rfl)
      try simp only [Act.put, List.setIfInBounds_toArray, List.set_cons_zero, List.set_cons_succ]
      refine wpAnyK_done (by kernel_rfl) ?_ _
      go_wp2
      refine ⟨⟨_, k + 1, _, rfl, rfl, ?_, by omega, HF.out⟩, by simp [intOf]; omega⟩
      have := HK.out
      go_num
    · obtain rfl : k = n := by omega
      have h1 : ¬ 2 * (k : Int) + 1 < 2 * (k : Int) := by omega
      obtain ⟨vo, vc, rfl, _⟩ := own_rdE HI.out.1
      go_wp2
      go_ret
      exact ⟨_, rfl, HI.out.1, HI.out.2⟩
end Go.Proofs.YtjpjepfmphlneaaGreatDoor
