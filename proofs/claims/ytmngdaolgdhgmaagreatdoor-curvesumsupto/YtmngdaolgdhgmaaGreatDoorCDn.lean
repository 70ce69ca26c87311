import Derived.Test.YtmngdaolgdhgmaaGreatDoorCAl
import Derived.Test.YtmngdaolgdhgmaaGreatDoorCNh
namespace Go.Proofs.YtmngdaolgdhgmaaGreatDoor
open Go.RowKit

set_option maxRecDepth 100000

theorem Mk.own_but {w w' : World} {base b : Nat} {v : Value} {V k : Nat} (h : Mk w base v V k) (hb : But w w' b) (hf : v.ownBlock ≠ some b) : Mk w' base v V k := ⟨_root_.Go.Proofs.YtmngdaolgdhgmaaGreatDoor.own_but h.1 hb hf, h.2⟩
theorem nil_nq (w : World) : Nq w (.slice none 0 0) 0 384 := (Mk.none w 0 384).nq
set_option maxHeartbeats 8000000 in
theorem negq_bad (c : Int) (x y : Value) (X Y : Nat) (inf : Bool) (w : World) (hx : Nu w x X) (hy : Nu w y Y) (D : ∀ (x y : Value) (w : World), Nu w x X → Nu w y Y → Calls Tryz.prog 19 #[.int .i64 c, .agg #[x, y, .bool inf]] w fun e w' => e = .returned (.bool false) ∧ Below w.heap.size w w') :
    Calls Tryz.prog 24 #[.int .i64 c, .agg #[x, y, .bool inf]] w fun e w' => e = .returned (.tuple #[.agg #[.slice none 0 0, .slice none 0 0, .bool false], .int .i64 93]) ∧ Below w.heap.size w w' := by
  obtain ⟨x0, x1, x2, rfl⟩ := hx.shape
  obtain ⟨y0, y1, y2, rfl⟩ := hy.shape
  have Hx0 : Hid (Nu w (.slice x0 x1 x2) X) := hx
  have Hy0 : Hid (Nu w (.slice y0 y1 y2) Y) := hy
  have HB0 : Hid (Below w.heap.size w w) := Below.refl _ _
  clear hx hy
  have hfm : Fm w ((w.alloc (.cells #[.slice x0 x1 x2, .slice y0 y1 y2, .bool inf] 26)).alloc (.cells #[.slice none 0 0, .slice none 0 0, .bool false] 26)) [(26, [.slice x0 x1 x2, .slice y0 y1 y2, .bool inf]), (26, [.slice none 0 0, .slice none 0 0, .bool false])] [] [] := ((Fm.nil (w := w) (A := []) ar_nil).push (by simp) 26 [.slice x0 x1 x2, .slice y0 y1 y2, .bool inf]).push (by simp) 26 [.slice none 0 0, .slice none 0 0, .bool false]
  have Hsz : Hid (w.heap.size + 2 ≤ ((w.alloc (.cells #[.slice x0 x1 x2, .slice y0 y1 y2, .bool inf] 26)).alloc (.cells #[.slice none 0 0, .slice none 0 0, .bool false] 26)).heap.size) := hfm.sz
  have Hs1 : Hid (Below w.heap.size w ((w.alloc (.cells #[.slice x0 x1 x2, .slice y0 y1 y2, .bool inf] 26)).alloc (.cells #[.slice none 0 0, .slice none 0 0, .bool false] 26))) := hfm.bel
  have HbP0 : Hid (Bl 26 ((w.alloc (.cells #[.slice x0 x1 x2, .slice y0 y1 y2, .bool inf] 26)).alloc (.cells #[.slice none 0 0, .slice none 0 0, .bool false] 26)) w.heap.size [.slice x0 x1 x2, .slice y0 y1 y2, .bool inf]) := hfm.bx 0 (by simp)
  have HbR0 : Hid (Bl 26 ((w.alloc (.cells #[.slice x0 x1 x2, .slice y0 y1 y2, .bool inf] 26)).alloc (.cells #[.slice none 0 0, .slice none 0 0, .bool false] 26)) (w.heap.size + 1) [.slice none 0 0, .slice none 0 0, .bool false]) := hfm.bx 1 (by simp)
  clear hfm
  go_enter Tryz.func24, Tryz.ntmps24
  have kP_0 : ((w.alloc (.cells #[.slice x0 x1 x2, .slice y0 y1 y2, .bool inf] 26)).alloc (.cells #[.slice none 0 0, .slice none 0 0, .bool false] 26)).cell? ⟨w.heap.size, 0, none⟩ = some (.slice x0 x1 x2) := HbP0.out.cell 0 (by simp)
  have kP_1 : ((w.alloc (.cells #[.slice x0 x1 x2, .slice y0 y1 y2, .bool inf] 26)).alloc (.cells #[.slice none 0 0, .slice none 0 0, .bool false] 26)).cell? ⟨w.heap.size, 1, none⟩ = some (.slice y0 y1 y2) := HbP0.out.cell 1 (by simp)
  have kP_2 : ((w.alloc (.cells #[.slice x0 x1 x2, .slice y0 y1 y2, .bool inf] 26)).alloc (.cells #[.slice none 0 0, .slice none 0 0, .bool false] 26)).cell? ⟨w.heap.size, 2, none⟩ = some (.bool inf) := HbP0.out.cell 2 (by simp)
  go_wp2_with fail
  clear kP_0 kP_1 kP_2
  generalize ((w.alloc (.cells #[.slice x0 x1 x2, .slice y0 y1 y2, .bool inf] 26)).alloc (.cells #[.slice none 0 0, .slice none 0 0, .bool false] 26)) = wv2 at *
  have Hx1 : Hid (Nu _ _ _) := Hx0.out.below Hs1.out (Nat.le_refl _)
  have Hy1 : Hid (Nu _ _ _) := Hy0.out.below Hs1.out (Nat.le_refl _)
  refine (D _ _ _ Hx1.out Hy1.out).mono ?_
  rintro e w3 ⟨rfl, hB⟩
  have Hs4 : Hid (Below _ _ _) := hB
  clear hB
  have HbR1 : Hid (Bl _ _ _ _) := HbR0.out.below Hs4.out HbR0.out.lt
  have HB1 : Hid (Below _ _ _) := HB0.out.trans ((btr Hs1.out Hs4.out).mono HB0.out.size)
  have c0 : w3.cell? ⟨w.heap.size + 1, 0, none⟩ = some (.slice none 0 0) := HbR1.out.cell 0 (by simp)
  have f0 : w3.frozen? ⟨w.heap.size + 1, 0, none⟩ = false := HbR1.out.frozen 0
  have c1 : w3.cell? ⟨w.heap.size + 1, 1, none⟩ = some (.slice none 0 0) := HbR1.out.cell 1 (by simp)
  have f1 : w3.frozen? ⟨w.heap.size + 1, 1, none⟩ = false := HbR1.out.frozen 1
  have c2 : w3.cell? ⟨w.heap.size + 1, 2, none⟩ = some (.bool false) := HbR1.out.cell 2 (by simp)
  have f2 : w3.frozen? ⟨w.heap.size + 1, 2, none⟩ = false := HbR1.out.frozen 2
  go_wp2
  (try simp only [Exit.inBlock, Exit.then])
  have hb := (((But.refl w3 (w.heap.size + 1)).set 0 (.slice none 0 0)).set 1 (.slice none 0 0)).set 2 (.bool false)
  refine bodyPost_ret (v := .tuple #[.agg #[.slice none 0 0, .slice none 0 0, .bool false], .int .i64 93]) ?_ rfl ⟨rfl, by first | exact HB1.out.trans (hb.below HB1.out.size (Nat.le_succ _)) | exact HB1.out⟩
  rw [results_cell_tmp rfl]; go_simp
set_option maxHeartbeats 8000000 in
theorem negq_true {c s : Int} {p b n gx gy : Nat} (hk : Kv c p b n gx gy s) (x y : Value) (X Y : Nat) (w : World) (hx : Nu w x X) (hy : Nu w y Y) (ho : onB p b X Y true = true) :
    Calls Tryz.prog 24 #[.int .i64 c, .agg #[x, y, .bool true]] w fun e w' => ∃ a r, e = .returned (.tuple #[.agg #[a, r, .bool true], .int .i64 0]) ∧ Mk w' w.heap.size a X 384 ∧ Mk w' w.heap.size r (fS p 0 Y) 384 ∧ Below w.heap.size w w' := by
  have HP : Hid (X < pw 384 ∧ Y < pw 384) := onB_lt hk.pm ho
  have HO : Hid (onB p b X Y true = true) := ho
  clear ho
  obtain ⟨x0, x1, x2, rfl⟩ := hx.shape
  obtain ⟨y0, y1, y2, rfl⟩ := hy.shape
  have Hx0 : Hid (Nu w (.slice x0 x1 x2) X) := hx
  have Hy0 : Hid (Nu w (.slice y0 y1 y2) Y) := hy
  have HB0 : Hid (Below w.heap.size w w) := Below.refl _ _
  clear hx hy
  have hfm : Fm w ((w.alloc (.cells #[.slice x0 x1 x2, .slice y0 y1 y2, .bool true] 26)).alloc (.cells #[.slice none 0 0, .slice none 0 0, .bool false] 26)) [(26, [.slice x0 x1 x2, .slice y0 y1 y2, .bool true]), (26, [.slice none 0 0, .slice none 0 0, .bool false])] [] [] := ((Fm.nil (w := w) (A := []) ar_nil).push (by simp) 26 [.slice x0 x1 x2, .slice y0 y1 y2, .bool true]).push (by simp) 26 [.slice none 0 0, .slice none 0 0, .bool false]
  have Hsz : Hid (w.heap.size + 2 ≤ ((w.alloc (.cells #[.slice x0 x1 x2, .slice y0 y1 y2, .bool true] 26)).alloc (.cells #[.slice none 0 0, .slice none 0 0, .bool false] 26)).heap.size) := hfm.sz
  have Hs1 : Hid (Below w.heap.size w ((w.alloc (.cells #[.slice x0 x1 x2, .slice y0 y1 y2, .bool true] 26)).alloc (.cells #[.slice none 0 0, .slice none 0 0, .bool false] 26))) := hfm.bel
  have HbP0 : Hid (Bl 26 ((w.alloc (.cells #[.slice x0 x1 x2, .slice y0 y1 y2, .bool true] 26)).alloc (.cells #[.slice none 0 0, .slice none 0 0, .bool false] 26)) w.heap.size [.slice x0 x1 x2, .slice y0 y1 y2, .bool true]) := hfm.bx 0 (by simp)
  have HbR0 : Hid (Bl 26 ((w.alloc (.cells #[.slice x0 x1 x2, .slice y0 y1 y2, .bool true] 26)).alloc (.cells #[.slice none 0 0, .slice none 0 0, .bool false] 26)) (w.heap.size + 1) [.slice none 0 0, .slice none 0 0, .bool false]) := hfm.bx 1 (by simp)
  clear hfm
  go_enter Tryz.func24, Tryz.ntmps24
  have kP_0 : ((w.alloc (.cells #[.slice x0 x1 x2, .slice y0 y1 y2, .bool true] 26)).alloc (.cells #[.slice none 0 0, .slice none 0 0, .bool false] 26)).cell? ⟨w.heap.size, 0, none⟩ = some (.slice x0 x1 x2) := HbP0.out.cell 0 (by simp)
  have kP_1 : ((w.alloc (.cells #[.slice x0 x1 x2, .slice y0 y1 y2, .bool true] 26)).alloc (.cells #[.slice none 0 0, .slice none 0 0, .bool false] 26)).cell? ⟨w.heap.size, 1, none⟩ = some (.slice y0 y1 y2) := HbP0.out.cell 1 (by simp)
  have kP_2 : ((w.alloc (.cells #[.slice x0 x1 x2, .slice y0 y1 y2, .bool true] 26)).alloc (.cells #[.slice none 0 0, .slice none 0 0, .bool false] 26)).cell? ⟨w.heap.size, 2, none⟩ = some (.bool true) := HbP0.out.cell 2 (by simp)
  go_wp2_with fail
  clear kP_0 kP_1 kP_2
  generalize ((w.alloc (.cells #[.slice x0 x1 x2, .slice y0 y1 y2, .bool true] 26)).alloc (.cells #[.slice none 0 0, .slice none 0 0, .bool false] 26)) = wv2 at *
  have Hx1 : Hid (Nu _ _ _) := Hx0.out.below Hs1.out (Nat.le_refl _)
  have Hy1 : Hid (Nu _ _ _) := Hy0.out.below Hs1.out (Nat.le_refl _)
  have C := onq hk _ _ X Y _ Hx1.out Hy1.out true
  rw [HO.out] at C
  refine (C).mono ?_
  rintro e w3 ⟨rfl, hB⟩
  have Hs4 : Hid (Below _ _ _) := hB
  clear hB C
  have HbP1 : Hid (Bl _ _ _ _) := HbP0.out.below Hs4.out HbP0.out.lt
  have kP_0 : w3.cell? ⟨w.heap.size, 0, none⟩ = some (.slice x0 x1 x2) := HbP1.out.cell 0 (by simp)
  have kP_1 : w3.cell? ⟨w.heap.size, 1, none⟩ = some (.slice y0 y1 y2) := HbP1.out.cell 1 (by simp)
  have kP_2 : w3.cell? ⟨w.heap.size, 2, none⟩ = some (.bool true) := HbP1.out.cell 2 (by simp)
  go_wp2_with fail
  clear kP_0 kP_1 kP_2
  have Hx2 : Hid (Nu _ _ _) := Hx1.out.below Hs4.out (Nat.le_refl _)
  have Hy2 : Hid (Nu _ _ _) := Hy1.out.below Hs4.out (Nat.le_refl _)
  have HB1 : Hid (Below _ _ _) := HB0.out.trans ((btr Hs1.out Hs4.out).mono HB0.out.size)
  have HW0 : Hid (w.heap.size + 2 ≤ w3.heap.size) := (Nat.le_trans Hsz.out (Hs4.out).size)
  refine (proper_p _ _ X Y true _ Hx2.out Hy2.out).mono ?_
  rintro e w5 ⟨av, bv_, rfl, m1, m2, hB⟩
  have Hs6 : Hid (Below _ _ _) := hB
  obtain ⟨a0, a1, a2, rfl⟩ := m1.nu.shape
  obtain ⟨b0, b1, b2, rfl⟩ := m2.nu.shape
  have Ha0 : Hid (Mk w5 w3.heap.size (.slice a0 a1 a2) X 384) := m1.mk HP.out.1
  have Hb0 : Hid (Mk w5 w3.heap.size (.slice b0 b1 b2) Y 384) := m2.mk HP.out.2
  have Hva : Hid (∀ g, (Value.slice a0 a1 a2).ownBlock = some g → g < w5.heap.size) := fun g e => (World.ownsRow.lt m1.1 g e).2
  have HWQ : Hid (w3.heap.size ≤ w5.heap.size) := hB.size
  clear m1 m2 hB
  have Hs7 : Hid (Below w5.heap.size w5 (w5.alloc (.cells #[.slice a0 a1 a2, .slice b0 b1 b2, .bool true] 26))) := alloc_below _ _
  have Hbq0 : Hid (Bl _ _ _ _) := alloc_bl w5 [.slice a0 a1 a2, .slice b0 b1 b2, .bool true] 26
  have hxy : X = 0 ∧ Y = 0 := ((onB_iff hk.pm).1 HO.out).2 rfl
  have HXY : Hid (X = 0 ∧ Y = 0) := hxy
  clear hxy
  have kq_0 : (w5.alloc (.cells #[.slice a0 a1 a2, .slice b0 b1 b2, .bool true] 26)).cell? ⟨w5.heap.size, 0, none⟩ = some (.slice a0 a1 a2) := Hbq0.out.cell 0 (by simp)
  have kq_1 : (w5.alloc (.cells #[.slice a0 a1 a2, .slice b0 b1 b2, .bool true] 26)).cell? ⟨w5.heap.size, 1, none⟩ = some (.slice b0 b1 b2) := Hbq0.out.cell 1 (by simp)
  have kq_2 : (w5.alloc (.cells #[.slice a0 a1 a2, .slice b0 b1 b2, .bool true] 26)).cell? ⟨w5.heap.size, 2, none⟩ = some (.bool true) := Hbq0.out.cell 2 (by simp)
  have HbR1 : Hid (Bl _ _ _ _) := HbR0.out.below (btr Hs4.out (btr Hs6.out Hs7.out)) HbR0.out.lt
  have HB2 : Hid (Below _ _ _) := HB1.out.trans ((btr Hs6.out Hs7.out).mono HB1.out.size)
  have Ha1 : Hid (Mk _ _ _ _ _) := Ha0.out.below Hs7.out
  have Hb1 : Hid (Mk _ _ _ _ _) := Hb0.out.below Hs7.out
  have c0 : (w5.alloc (.cells #[.slice a0 a1 a2, .slice b0 b1 b2, .bool true] 26)).cell? ⟨w.heap.size + 1, 0, none⟩ = some (.slice none 0 0) := HbR1.out.cell 0 (by simp)
  have f0 : (w5.alloc (.cells #[.slice a0 a1 a2, .slice b0 b1 b2, .bool true] 26)).frozen? ⟨w.heap.size + 1, 0, none⟩ = false := HbR1.out.frozen 0
  have c1 : (w5.alloc (.cells #[.slice a0 a1 a2, .slice b0 b1 b2, .bool true] 26)).cell? ⟨w.heap.size + 1, 1, none⟩ = some (.slice none 0 0) := HbR1.out.cell 1 (by simp)
  have f1 : (w5.alloc (.cells #[.slice a0 a1 a2, .slice b0 b1 b2, .bool true] 26)).frozen? ⟨w.heap.size + 1, 1, none⟩ = false := HbR1.out.frozen 1
  have c2 : (w5.alloc (.cells #[.slice a0 a1 a2, .slice b0 b1 b2, .bool true] 26)).cell? ⟨w.heap.size + 1, 2, none⟩ = some (.bool false) := HbR1.out.cell 2 (by simp)
  have f2 : (w5.alloc (.cells #[.slice a0 a1 a2, .slice b0 b1 b2, .bool true] 26)).frozen? ⟨w.heap.size + 1, 2, none⟩ = false := HbR1.out.frozen 2
  go_wp2
  (try simp only [Exit.inBlock, Exit.then])
  have hb := (((But.refl (w5.alloc (.cells #[.slice a0 a1 a2, .slice b0 b1 b2, .bool true] 26)) (w.heap.size + 1)).set 0 (.slice a0 a1 a2)).set 1 (.slice b0 b1 b2)).set 2 (.bool true)
  refine bodyPost_ret (v := .tuple #[.agg #[.slice a0 a1 a2, .slice b0 b1 b2, .bool true], .int .i64 0]) ?_ rfl ⟨_, _, rfl, (Ha1.out.but hb (by have := HW0.out; omega)).base (by have := HW0.out; omega), (by rw [show fS p 0 Y = Y from (by obtain ⟨h1, h2⟩ := HXY.out; rw [h2]; unfold fS lessV; simp)]; exact (Hb1.out.but hb (by have := HW0.out; omega)).base (by have := HW0.out; omega)), HB2.out.trans (hb.below HB2.out.size (Nat.le_succ _))⟩
  rw [results_cell_tmp rfl]; go_simp
set_option maxHeartbeats 8000000 in
theorem negq_false {c s : Int} {p b n gx gy : Nat} (hk : Kv c p b n gx gy s) (x y : Value) (X Y : Nat) (w : World) (hx : Nu w x X) (hy : Nu w y Y) (ho : onB p b X Y false = true) :
    Calls Tryz.prog 24 #[.int .i64 c, .agg #[x, y, .bool false]] w fun e w' => ∃ a r, e = .returned (.tuple #[.agg #[a, r, .bool false], .int .i64 0]) ∧ Mk w' w.heap.size a X 384 ∧ Mk w' w.heap.size r (fS p 0 Y) 384 ∧ Below w.heap.size w w' := by
  have HP : Hid (X < pw 384 ∧ Y < pw 384) := onB_lt hk.pm ho
  have HO : Hid (onB p b X Y false = true) := ho
  clear ho
  obtain ⟨x0, x1, x2, rfl⟩ := hx.shape
  obtain ⟨y0, y1, y2, rfl⟩ := hy.shape
  have Hx0 : Hid (Nu w (.slice x0 x1 x2) X) := hx
  have Hy0 : Hid (Nu w (.slice y0 y1 y2) Y) := hy
  have HB0 : Hid (Below w.heap.size w w) := Below.refl _ _
  clear hx hy
  have hfm : Fm w ((w.alloc (.cells #[.slice x0 x1 x2, .slice y0 y1 y2, .bool false] 26)).alloc (.cells #[.slice none 0 0, .slice none 0 0, .bool false] 26)) [(26, [.slice x0 x1 x2, .slice y0 y1 y2, .bool false]), (26, [.slice none 0 0, .slice none 0 0, .bool false])] [] [] := ((Fm.nil (w := w) (A := []) ar_nil).push (by simp) 26 [.slice x0 x1 x2, .slice y0 y1 y2, .bool false]).push (by simp) 26 [.slice none 0 0, .slice none 0 0, .bool false]
  have Hsz : Hid (w.heap.size + 2 ≤ ((w.alloc (.cells #[.slice x0 x1 x2, .slice y0 y1 y2, .bool false] 26)).alloc (.cells #[.slice none 0 0, .slice none 0 0, .bool false] 26)).heap.size) := hfm.sz
  have Hs1 : Hid (Below w.heap.size w ((w.alloc (.cells #[.slice x0 x1 x2, .slice y0 y1 y2, .bool false] 26)).alloc (.cells #[.slice none 0 0, .slice none 0 0, .bool false] 26))) := hfm.bel
  have HbP0 : Hid (Bl 26 ((w.alloc (.cells #[.slice x0 x1 x2, .slice y0 y1 y2, .bool false] 26)).alloc (.cells #[.slice none 0 0, .slice none 0 0, .bool false] 26)) w.heap.size [.slice x0 x1 x2, .slice y0 y1 y2, .bool false]) := hfm.bx 0 (by simp)
  have HbR0 : Hid (Bl 26 ((w.alloc (.cells #[.slice x0 x1 x2, .slice y0 y1 y2, .bool false] 26)).alloc (.cells #[.slice none 0 0, .slice none 0 0, .bool false] 26)) (w.heap.size + 1) [.slice none 0 0, .slice none 0 0, .bool false]) := hfm.bx 1 (by simp)
  clear hfm
  go_enter Tryz.func24, Tryz.ntmps24
  have kP_0 : ((w.alloc (.cells #[.slice x0 x1 x2, .slice y0 y1 y2, .bool false] 26)).alloc (.cells #[.slice none 0 0, .slice none 0 0, .bool false] 26)).cell? ⟨w.heap.size, 0, none⟩ = some (.slice x0 x1 x2) := HbP0.out.cell 0 (by simp)
  have kP_1 : ((w.alloc (.cells #[.slice x0 x1 x2, .slice y0 y1 y2, .bool false] 26)).alloc (.cells #[.slice none 0 0, .slice none 0 0, .bool false] 26)).cell? ⟨w.heap.size, 1, none⟩ = some (.slice y0 y1 y2) := HbP0.out.cell 1 (by simp)
  have kP_2 : ((w.alloc (.cells #[.slice x0 x1 x2, .slice y0 y1 y2, .bool false] 26)).alloc (.cells #[.slice none 0 0, .slice none 0 0, .bool false] 26)).cell? ⟨w.heap.size, 2, none⟩ = some (.bool false) := HbP0.out.cell 2 (by simp)
  go_wp2_with fail
  clear kP_0 kP_1 kP_2
  generalize ((w.alloc (.cells #[.slice x0 x1 x2, .slice y0 y1 y2, .bool false] 26)).alloc (.cells #[.slice none 0 0, .slice none 0 0, .bool false] 26)) = wv2 at *
  have Hx1 : Hid (Nu _ _ _) := Hx0.out.below Hs1.out (Nat.le_refl _)
  have Hy1 : Hid (Nu _ _ _) := Hy0.out.below Hs1.out (Nat.le_refl _)
  have C := onq hk _ _ X Y _ Hx1.out Hy1.out false
  rw [HO.out] at C
  refine (C).mono ?_
  rintro e w3 ⟨rfl, hB⟩
  have Hs4 : Hid (Below _ _ _) := hB
  clear hB C
  have HbP1 : Hid (Bl _ _ _ _) := HbP0.out.below Hs4.out HbP0.out.lt
  have kP_0 : w3.cell? ⟨w.heap.size, 0, none⟩ = some (.slice x0 x1 x2) := HbP1.out.cell 0 (by simp)
  have kP_1 : w3.cell? ⟨w.heap.size, 1, none⟩ = some (.slice y0 y1 y2) := HbP1.out.cell 1 (by simp)
  have kP_2 : w3.cell? ⟨w.heap.size, 2, none⟩ = some (.bool false) := HbP1.out.cell 2 (by simp)
  go_wp2_with fail
  clear kP_0 kP_1 kP_2
  have Hx2 : Hid (Nu _ _ _) := Hx1.out.below Hs4.out (Nat.le_refl _)
  have Hy2 : Hid (Nu _ _ _) := Hy1.out.below Hs4.out (Nat.le_refl _)
  have HB1 : Hid (Below _ _ _) := HB0.out.trans ((btr Hs1.out Hs4.out).mono HB0.out.size)
  have HW0 : Hid (w.heap.size + 2 ≤ w3.heap.size) := (Nat.le_trans Hsz.out (Hs4.out).size)
  refine (proper_p _ _ X Y false _ Hx2.out Hy2.out).mono ?_
  rintro e w5 ⟨av, bv_, rfl, m1, m2, hB⟩
  have Hs6 : Hid (Below _ _ _) := hB
  obtain ⟨a0, a1, a2, rfl⟩ := m1.nu.shape
  obtain ⟨b0, b1, b2, rfl⟩ := m2.nu.shape
  have Ha0 : Hid (Mk w5 w3.heap.size (.slice a0 a1 a2) X 384) := m1.mk HP.out.1
  have Hb0 : Hid (Mk w5 w3.heap.size (.slice b0 b1 b2) Y 384) := m2.mk HP.out.2
  have Hva : Hid (∀ g, (Value.slice a0 a1 a2).ownBlock = some g → g < w5.heap.size) := fun g e => (World.ownsRow.lt m1.1 g e).2
  have HWQ : Hid (w3.heap.size ≤ w5.heap.size) := hB.size
  clear m1 m2 hB
  have Hs7 : Hid (Below w5.heap.size w5 (w5.alloc (.cells #[.slice a0 a1 a2, .slice b0 b1 b2, .bool false] 26))) := alloc_below _ _
  have Hbq0 : Hid (Bl _ _ _ _) := alloc_bl w5 [.slice a0 a1 a2, .slice b0 b1 b2, .bool false] 26
  have kq_0 : (w5.alloc (.cells #[.slice a0 a1 a2, .slice b0 b1 b2, .bool false] 26)).cell? ⟨w5.heap.size, 0, none⟩ = some (.slice a0 a1 a2) := Hbq0.out.cell 0 (by simp)
  have kq_1 : (w5.alloc (.cells #[.slice a0 a1 a2, .slice b0 b1 b2, .bool false] 26)).cell? ⟨w5.heap.size, 1, none⟩ = some (.slice b0 b1 b2) := Hbq0.out.cell 1 (by simp)
  have kq_2 : (w5.alloc (.cells #[.slice a0 a1 a2, .slice b0 b1 b2, .bool false] 26)).cell? ⟨w5.heap.size, 2, none⟩ = some (.bool false) := Hbq0.out.cell 2 (by simp)
  go_wp2_with fail
  clear kq_0 kq_1 kq_2
  generalize (w5.alloc (.cells #[.slice a0 a1 a2, .slice b0 b1 b2, .bool false] 26)) = wv8 at *
  have Hb1 : Hid (Mk _ _ _ _ _) := Hb0.out.below Hs7.out
  have HW1 : Hid (w5.heap.size < wv8.heap.size) := Hbq0.out.lt
  refine (subq hk (nil_nq _) Hb1.out.nq).mono ?_
  rintro e w9 ⟨rv, rfl, m, hB⟩
  have Hs10 : Hid (Below _ _ _) := hB
  obtain ⟨r0, r1, r2, rfl⟩ := m.nk.sl
  have Hr0 : Hid (Mk w9 wv8.heap.size (.slice r0 r1 r2) (fS p 0 Y) 384) := m
  clear m hB
  have Hbq1 : Hid (Bl _ _ _ _) := Hbq0.out.below Hs10.out Hbq0.out.lt
  have HbR1 : Hid (Bl _ _ _ _) := HbR0.out.below (btr Hs4.out (btr Hs6.out (btr Hs7.out Hs10.out))) HbR0.out.lt
  have HB2 : Hid (Below _ _ _) := HB1.out.trans ((btr Hs6.out (btr Hs7.out Hs10.out)).mono HB1.out.size)
  have Ha1 : Hid (Mk _ _ _ _ _) := Ha0.out.below (btr Hs7.out Hs10.out)
  have hbq := (But.refl w9 w5.heap.size).set 1 (.slice r0 r1 r2)
  have hR2 : Bl 26 (w9.setCell ⟨w5.heap.size, 1, none⟩ (.slice r0 r1 r2)) (w.heap.size + 1) [.slice none 0 0, .slice none 0 0, .bool false] := HbR1.out.but hbq (by have := HW0.out; have := HWQ.out; omega)
  have hq2 : Bl 26 (w9.setCell ⟨w5.heap.size, 1, none⟩ (.slice r0 r1 r2)) w5.heap.size [.slice a0 a1 a2, .slice r0 r1 r2, .bool false] := Hbq1.out.set 1 (.slice r0 r1 r2)
  have d0 : w9.cell? ⟨w5.heap.size, 0, none⟩ = some (.slice a0 a1 a2) := Hbq1.out.cell 0 (by simp)
  have d1 : w9.cell? ⟨w5.heap.size, 1, none⟩ = some (.slice b0 b1 b2) := Hbq1.out.cell 1 (by simp)
  have d2 : w9.cell? ⟨w5.heap.size, 2, none⟩ = some (.bool false) := Hbq1.out.cell 2 (by simp)
  have df : w9.frozen? ⟨w5.heap.size, 1, none⟩ = false := Hbq1.out.frozen 1
  have g0 : (w9.setCell ⟨w5.heap.size, 1, none⟩ (.slice r0 r1 r2)).cell? ⟨w5.heap.size, 0, none⟩ = some (.slice a0 a1 a2) := hq2.cell 0 (by simp)
  have g1 : (w9.setCell ⟨w5.heap.size, 1, none⟩ (.slice r0 r1 r2)).cell? ⟨w5.heap.size, 1, none⟩ = some (.slice r0 r1 r2) := hq2.cell 1 (by simp)
  have g2 : (w9.setCell ⟨w5.heap.size, 1, none⟩ (.slice r0 r1 r2)).cell? ⟨w5.heap.size, 2, none⟩ = some (.bool false) := hq2.cell 2 (by simp)
  have HA2 : Hid (Mk (w9.setCell ⟨w5.heap.size, 1, none⟩ (.slice r0 r1 r2)) w3.heap.size (.slice a0 a1 a2) X 384 ∧ Mk (w9.setCell ⟨w5.heap.size, 1, none⟩ (.slice r0 r1 r2)) wv8.heap.size (.slice r0 r1 r2) (fS p 0 Y) 384) := ⟨Ha1.out.own_but hbq (fun e => by have := Hva.out _ e; omega), Hr0.out.but hbq HW1.out⟩
  have HB2 : Hid (Below w.heap.size w (w9.setCell ⟨w5.heap.size, 1, none⟩ (.slice r0 r1 r2))) := (HB2.out.trans (hbq.below HB2.out.size (by have := HW0.out; have := HWQ.out; omega)))
  have c0 : (w9.setCell ⟨w5.heap.size, 1, none⟩ (.slice r0 r1 r2)).cell? ⟨w.heap.size + 1, 0, none⟩ = some (.slice none 0 0) := hR2.cell 0 (by simp)
  have f0 : (w9.setCell ⟨w5.heap.size, 1, none⟩ (.slice r0 r1 r2)).frozen? ⟨w.heap.size + 1, 0, none⟩ = false := hR2.frozen 0
  have c1 : (w9.setCell ⟨w5.heap.size, 1, none⟩ (.slice r0 r1 r2)).cell? ⟨w.heap.size + 1, 1, none⟩ = some (.slice none 0 0) := hR2.cell 1 (by simp)
  have f1 : (w9.setCell ⟨w5.heap.size, 1, none⟩ (.slice r0 r1 r2)).frozen? ⟨w.heap.size + 1, 1, none⟩ = false := hR2.frozen 1
  have c2 : (w9.setCell ⟨w5.heap.size, 1, none⟩ (.slice r0 r1 r2)).cell? ⟨w.heap.size + 1, 2, none⟩ = some (.bool false) := hR2.cell 2 (by simp)
  have f2 : (w9.setCell ⟨w5.heap.size, 1, none⟩ (.slice r0 r1 r2)).frozen? ⟨w.heap.size + 1, 2, none⟩ = false := hR2.frozen 2
  clear hbq hR2 hq2
  go_wp2
  (try simp only [Exit.inBlock, Exit.then])
  have hb := (((But.refl (w9.setCell ⟨w5.heap.size, 1, none⟩ (.slice r0 r1 r2)) (w.heap.size + 1)).set 0 (.slice a0 a1 a2)).set 1 (.slice r0 r1 r2)).set 2 (.bool false)
  refine bodyPost_ret (v := .tuple #[.agg #[.slice a0 a1 a2, .slice r0 r1 r2, .bool false], .int .i64 0]) ?_ rfl ⟨_, _, rfl, (HA2.out.1.but hb (by have := HW0.out; omega)).base (by have := HW0.out; omega), (HA2.out.2.but hb (by have := HW1.out; have := HW0.out; have := HWQ.out; omega)).base (by have := HW1.out; have := HW0.out; have := HWQ.out; omega), HB2.out.trans (hb.below HB2.out.size (Nat.le_succ _))⟩
  rw [results_cell_tmp rfl]; go_simp
end Go.Proofs.YtmngdaolgdhgmaaGreatDoor
