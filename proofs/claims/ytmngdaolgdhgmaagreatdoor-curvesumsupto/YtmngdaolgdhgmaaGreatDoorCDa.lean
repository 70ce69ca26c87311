import Derived.Test.YtmngdaolgdhgmaaGreatDoorCSu
namespace Go.Proofs.YtmngdaolgdhgmaaGreatDoor
open Go.RowKit

set_option maxRecDepth 100000

set_option maxHeartbeats 8000000 in
theorem dadd_bad1 (c : Int) (x y u v : Value) (X Y U V : Nat) (inf jnf : Bool) (w : World) (hx : Nu w x X) (hy : Nu w y Y) (hu : Nu w u U) (hv : Nu w v V) (D1 : (∀ (x y : Value) (w : World), Nu w x X → Nu w y Y → Calls Tryz.prog 19 #[.int .i64 c, .agg #[x, y, .bool inf]] w fun e w' => e = .returned (.bool false) ∧ Below w.heap.size w w')) :
    Calls Tryz.prog 25 #[.int .i64 c, .agg #[x, y, .bool inf], .agg #[u, v, .bool jnf]] w fun e w' => e = .returned (.tuple #[.agg #[.slice none 0 0, .slice none 0 0, .bool false], .int .i64 93]) ∧ Below w.heap.size w w' := by
  obtain ⟨x0, x1, x2, rfl⟩ := hx.shape
  have Hx0 : Hid (Nu w (.slice x0 x1 x2) X) := hx
  obtain ⟨y0, y1, y2, rfl⟩ := hy.shape
  have Hy0 : Hid (Nu w (.slice y0 y1 y2) Y) := hy
  obtain ⟨u0, u1, u2, rfl⟩ := hu.shape
  have Hu0 : Hid (Nu w (.slice u0 u1 u2) U) := hu
  obtain ⟨v0, v1, v2, rfl⟩ := hv.shape
  have Hv0 : Hid (Nu w (.slice v0 v1 v2) V) := hv
  have HB0 : Hid (Below w.heap.size w w) := Below.refl _ _
  clear hx hy hu hv
  have hfm : Fm w (((w.alloc (.cells #[.slice x0 x1 x2, .slice y0 y1 y2, .bool inf] 26)).alloc (.cells #[.slice u0 u1 u2, .slice v0 v1 v2, .bool jnf] 26)).alloc (.cells #[.slice none 0 0, .slice none 0 0, .bool false] 26)) [(26, [.slice x0 x1 x2, .slice y0 y1 y2, .bool inf]), (26, [.slice u0 u1 u2, .slice v0 v1 v2, .bool jnf]), (26, [.slice none 0 0, .slice none 0 0, .bool false])] [] [] := ((((Fm.nil (w := w) (A := []) ar_nil).push (by simp) 26 [.slice x0 x1 x2, .slice y0 y1 y2, .bool inf]).push (by simp) 26 [.slice u0 u1 u2, .slice v0 v1 v2, .bool jnf]).push (by simp) 26 [.slice none 0 0, .slice none 0 0, .bool false])
  have Hsz : Hid (w.heap.size + 3 ≤ (((w.alloc (.cells #[.slice x0 x1 x2, .slice y0 y1 y2, .bool inf] 26)).alloc (.cells #[.slice u0 u1 u2, .slice v0 v1 v2, .bool jnf] 26)).alloc (.cells #[.slice none 0 0, .slice none 0 0, .bool false] 26)).heap.size) := hfm.sz
  have Hs1 : Hid (Below w.heap.size w (((w.alloc (.cells #[.slice x0 x1 x2, .slice y0 y1 y2, .bool inf] 26)).alloc (.cells #[.slice u0 u1 u2, .slice v0 v1 v2, .bool jnf] 26)).alloc (.cells #[.slice none 0 0, .slice none 0 0, .bool false] 26))) := hfm.bel
  have HbP0 : Hid (Bl 26 (((w.alloc (.cells #[.slice x0 x1 x2, .slice y0 y1 y2, .bool inf] 26)).alloc (.cells #[.slice u0 u1 u2, .slice v0 v1 v2, .bool jnf] 26)).alloc (.cells #[.slice none 0 0, .slice none 0 0, .bool false] 26)) (w.heap.size) [.slice x0 x1 x2, .slice y0 y1 y2, .bool inf]) := hfm.bx 0 (by simp)
  have HbQ0 : Hid (Bl 26 (((w.alloc (.cells #[.slice x0 x1 x2, .slice y0 y1 y2, .bool inf] 26)).alloc (.cells #[.slice u0 u1 u2, .slice v0 v1 v2, .bool jnf] 26)).alloc (.cells #[.slice none 0 0, .slice none 0 0, .bool false] 26)) (w.heap.size + 1) [.slice u0 u1 u2, .slice v0 v1 v2, .bool jnf]) := hfm.bx 1 (by simp)
  have HbR0 : Hid (Bl 26 (((w.alloc (.cells #[.slice x0 x1 x2, .slice y0 y1 y2, .bool inf] 26)).alloc (.cells #[.slice u0 u1 u2, .slice v0 v1 v2, .bool jnf] 26)).alloc (.cells #[.slice none 0 0, .slice none 0 0, .bool false] 26)) (w.heap.size + 2) [.slice none 0 0, .slice none 0 0, .bool false]) := hfm.bx 2 (by simp)
  clear hfm
  go_enter Tryz.func25, Tryz.ntmps25
  have kP_0 : (((w.alloc (.cells #[.slice x0 x1 x2, .slice y0 y1 y2, .bool inf] 26)).alloc (.cells #[.slice u0 u1 u2, .slice v0 v1 v2, .bool jnf] 26)).alloc (.cells #[.slice none 0 0, .slice none 0 0, .bool false] 26)).cell? ⟨w.heap.size, 0, none⟩ = some (.slice x0 x1 x2) := HbP0.out.cell 0 (by simp)
  have kP_1 : (((w.alloc (.cells #[.slice x0 x1 x2, .slice y0 y1 y2, .bool inf] 26)).alloc (.cells #[.slice u0 u1 u2, .slice v0 v1 v2, .bool jnf] 26)).alloc (.cells #[.slice none 0 0, .slice none 0 0, .bool false] 26)).cell? ⟨w.heap.size, 1, none⟩ = some (.slice y0 y1 y2) := HbP0.out.cell 1 (by simp)
  have kP_2 : (((w.alloc (.cells #[.slice x0 x1 x2, .slice y0 y1 y2, .bool inf] 26)).alloc (.cells #[.slice u0 u1 u2, .slice v0 v1 v2, .bool jnf] 26)).alloc (.cells #[.slice none 0 0, .slice none 0 0, .bool false] 26)).cell? ⟨w.heap.size, 2, none⟩ = some (.bool inf) := HbP0.out.cell 2 (by simp)
  have kQ_0 : (((w.alloc (.cells #[.slice x0 x1 x2, .slice y0 y1 y2, .bool inf] 26)).alloc (.cells #[.slice u0 u1 u2, .slice v0 v1 v2, .bool jnf] 26)).alloc (.cells #[.slice none 0 0, .slice none 0 0, .bool false] 26)).cell? ⟨w.heap.size + 1, 0, none⟩ = some (.slice u0 u1 u2) := HbQ0.out.cell 0 (by simp)
  have kQ_1 : (((w.alloc (.cells #[.slice x0 x1 x2, .slice y0 y1 y2, .bool inf] 26)).alloc (.cells #[.slice u0 u1 u2, .slice v0 v1 v2, .bool jnf] 26)).alloc (.cells #[.slice none 0 0, .slice none 0 0, .bool false] 26)).cell? ⟨w.heap.size + 1, 1, none⟩ = some (.slice v0 v1 v2) := HbQ0.out.cell 1 (by simp)
  have kQ_2 : (((w.alloc (.cells #[.slice x0 x1 x2, .slice y0 y1 y2, .bool inf] 26)).alloc (.cells #[.slice u0 u1 u2, .slice v0 v1 v2, .bool jnf] 26)).alloc (.cells #[.slice none 0 0, .slice none 0 0, .bool false] 26)).cell? ⟨w.heap.size + 1, 2, none⟩ = some (.bool jnf) := HbQ0.out.cell 2 (by simp)
  go_wp2_with fail
  clear kP_0 kP_1 kP_2 kQ_0 kQ_1 kQ_2
  generalize (((w.alloc (.cells #[.slice x0 x1 x2, .slice y0 y1 y2, .bool inf] 26)).alloc (.cells #[.slice u0 u1 u2, .slice v0 v1 v2, .bool jnf] 26)).alloc (.cells #[.slice none 0 0, .slice none 0 0, .bool false] 26)) = wv2 at *
  have Hx1 : Hid (Nu _ _ _) := Hx0.out.below Hs1.out (Nat.le_refl _)
  have Hy1 : Hid (Nu _ _ _) := Hy0.out.below Hs1.out (Nat.le_refl _)
  refine (D1 _ _ _ Hx1.out Hy1.out).mono ?_
  rintro e w3 ⟨rfl, hB⟩
  have Hs4 : Hid (Below _ _ _) := hB
  clear hB
  have HbR1 : Hid (Bl _ _ _ _) := HbR0.out.below Hs4.out HbR0.out.lt
  have HB1 : Hid (Below _ _ _) := HB0.out.trans ((btr Hs1.out Hs4.out).mono HB0.out.size)
  have c0 : w3.cell? ⟨w.heap.size + 2, 0, none⟩ = some (.slice none 0 0) := HbR1.out.cell 0 (by simp)
  have f0 : w3.frozen? ⟨w.heap.size + 2, 0, none⟩ = false := HbR1.out.frozen 0
  have c1 : w3.cell? ⟨w.heap.size + 2, 1, none⟩ = some (.slice none 0 0) := HbR1.out.cell 1 (by simp)
  have f1 : w3.frozen? ⟨w.heap.size + 2, 1, none⟩ = false := HbR1.out.frozen 1
  have c2 : w3.cell? ⟨w.heap.size + 2, 2, none⟩ = some (.bool false) := HbR1.out.cell 2 (by simp)
  have f2 : w3.frozen? ⟨w.heap.size + 2, 2, none⟩ = false := HbR1.out.frozen 2
  go_wp2
  (try simp only [Exit.inBlock, Exit.then])
  have hb := (((But.refl w3 (w.heap.size + 2)).set 0 (.slice none 0 0)).set 1 (.slice none 0 0)).set 2 (.bool false)
  refine bodyPost_ret (v := .tuple #[.agg #[.slice none 0 0, .slice none 0 0, .bool false], .int .i64 93]) ?_ rfl ⟨rfl, by first | exact HB1.out.trans (hb.below HB1.out.size (Nat.le_add_right _ _)) | exact HB1.out⟩
  rw [results_cell_tmp rfl]; go_simp
set_option maxHeartbeats 8000000 in
theorem dadd_bad2 (c : Int) (x y u v : Value) (X Y U V : Nat) (inf jnf : Bool) (w : World) (hx : Nu w x X) (hy : Nu w y Y) (hu : Nu w u U) (hv : Nu w v V) (D1 : (∀ (x y : Value) (w : World), Nu w x X → Nu w y Y → Calls Tryz.prog 19 #[.int .i64 c, .agg #[x, y, .bool inf]] w fun e w' => e = .returned (.bool true) ∧ Below w.heap.size w w')) (D2 : (∀ (x y : Value) (w : World), Nu w x U → Nu w y V → Calls Tryz.prog 19 #[.int .i64 c, .agg #[x, y, .bool jnf]] w fun e w' => e = .returned (.bool false) ∧ Below w.heap.size w w')) :
    Calls Tryz.prog 25 #[.int .i64 c, .agg #[x, y, .bool inf], .agg #[u, v, .bool jnf]] w fun e w' => e = .returned (.tuple #[.agg #[.slice none 0 0, .slice none 0 0, .bool false], .int .i64 93]) ∧ Below w.heap.size w w' := by
  obtain ⟨x0, x1, x2, rfl⟩ := hx.shape
  have Hx0 : Hid (Nu w (.slice x0 x1 x2) X) := hx
  obtain ⟨y0, y1, y2, rfl⟩ := hy.shape
  have Hy0 : Hid (Nu w (.slice y0 y1 y2) Y) := hy
  obtain ⟨u0, u1, u2, rfl⟩ := hu.shape
  have Hu0 : Hid (Nu w (.slice u0 u1 u2) U) := hu
  obtain ⟨v0, v1, v2, rfl⟩ := hv.shape
  have Hv0 : Hid (Nu w (.slice v0 v1 v2) V) := hv
  have HB0 : Hid (Below w.heap.size w w) := Below.refl _ _
  clear hx hy hu hv
  have hfm : Fm w (((w.alloc (.cells #[.slice x0 x1 x2, .slice y0 y1 y2, .bool inf] 26)).alloc (.cells #[.slice u0 u1 u2, .slice v0 v1 v2, .bool jnf] 26)).alloc (.cells #[.slice none 0 0, .slice none 0 0, .bool false] 26)) [(26, [.slice x0 x1 x2, .slice y0 y1 y2, .bool inf]), (26, [.slice u0 u1 u2, .slice v0 v1 v2, .bool jnf]), (26, [.slice none 0 0, .slice none 0 0, .bool false])] [] [] := ((((Fm.nil (w := w) (A := []) ar_nil).push (by simp) 26 [.slice x0 x1 x2, .slice y0 y1 y2, .bool inf]).push (by simp) 26 [.slice u0 u1 u2, .slice v0 v1 v2, .bool jnf]).push (by simp) 26 [.slice none 0 0, .slice none 0 0, .bool false])
  have Hsz : Hid (w.heap.size + 3 ≤ (((w.alloc (.cells #[.slice x0 x1 x2, .slice y0 y1 y2, .bool inf] 26)).alloc (.cells #[.slice u0 u1 u2, .slice v0 v1 v2, .bool jnf] 26)).alloc (.cells #[.slice none 0 0, .slice none 0 0, .bool false] 26)).heap.size) := hfm.sz
  have Hs1 : Hid (Below w.heap.size w (((w.alloc (.cells #[.slice x0 x1 x2, .slice y0 y1 y2, .bool inf] 26)).alloc (.cells #[.slice u0 u1 u2, .slice v0 v1 v2, .bool jnf] 26)).alloc (.cells #[.slice none 0 0, .slice none 0 0, .bool false] 26))) := hfm.bel
  have HbP0 : Hid (Bl 26 (((w.alloc (.cells #[.slice x0 x1 x2, .slice y0 y1 y2, .bool inf] 26)).alloc (.cells #[.slice u0 u1 u2, .slice v0 v1 v2, .bool jnf] 26)).alloc (.cells #[.slice none 0 0, .slice none 0 0, .bool false] 26)) (w.heap.size) [.slice x0 x1 x2, .slice y0 y1 y2, .bool inf]) := hfm.bx 0 (by simp)
  have HbQ0 : Hid (Bl 26 (((w.alloc (.cells #[.slice x0 x1 x2, .slice y0 y1 y2, .bool inf] 26)).alloc (.cells #[.slice u0 u1 u2, .slice v0 v1 v2, .bool jnf] 26)).alloc (.cells #[.slice none 0 0, .slice none 0 0, .bool false] 26)) (w.heap.size + 1) [.slice u0 u1 u2, .slice v0 v1 v2, .bool jnf]) := hfm.bx 1 (by simp)
  have HbR0 : Hid (Bl 26 (((w.alloc (.cells #[.slice x0 x1 x2, .slice y0 y1 y2, .bool inf] 26)).alloc (.cells #[.slice u0 u1 u2, .slice v0 v1 v2, .bool jnf] 26)).alloc (.cells #[.slice none 0 0, .slice none 0 0, .bool false] 26)) (w.heap.size + 2) [.slice none 0 0, .slice none 0 0, .bool false]) := hfm.bx 2 (by simp)
  clear hfm
  go_enter Tryz.func25, Tryz.ntmps25
  have kP_0 : (((w.alloc (.cells #[.slice x0 x1 x2, .slice y0 y1 y2, .bool inf] 26)).alloc (.cells #[.slice u0 u1 u2, .slice v0 v1 v2, .bool jnf] 26)).alloc (.cells #[.slice none 0 0, .slice none 0 0, .bool false] 26)).cell? ⟨w.heap.size, 0, none⟩ = some (.slice x0 x1 x2) := HbP0.out.cell 0 (by simp)
  have kP_1 : (((w.alloc (.cells #[.slice x0 x1 x2, .slice y0 y1 y2, .bool inf] 26)).alloc (.cells #[.slice u0 u1 u2, .slice v0 v1 v2, .bool jnf] 26)).alloc (.cells #[.slice none 0 0, .slice none 0 0, .bool false] 26)).cell? ⟨w.heap.size, 1, none⟩ = some (.slice y0 y1 y2) := HbP0.out.cell 1 (by simp)
  have kP_2 : (((w.alloc (.cells #[.slice x0 x1 x2, .slice y0 y1 y2, .bool inf] 26)).alloc (.cells #[.slice u0 u1 u2, .slice v0 v1 v2, .bool jnf] 26)).alloc (.cells #[.slice none 0 0, .slice none 0 0, .bool false] 26)).cell? ⟨w.heap.size, 2, none⟩ = some (.bool inf) := HbP0.out.cell 2 (by simp)
  have kQ_0 : (((w.alloc (.cells #[.slice x0 x1 x2, .slice y0 y1 y2, .bool inf] 26)).alloc (.cells #[.slice u0 u1 u2, .slice v0 v1 v2, .bool jnf] 26)).alloc (.cells #[.slice none 0 0, .slice none 0 0, .bool false] 26)).cell? ⟨w.heap.size + 1, 0, none⟩ = some (.slice u0 u1 u2) := HbQ0.out.cell 0 (by simp)
  have kQ_1 : (((w.alloc (.cells #[.slice x0 x1 x2, .slice y0 y1 y2, .bool inf] 26)).alloc (.cells #[.slice u0 u1 u2, .slice v0 v1 v2, .bool jnf] 26)).alloc (.cells #[.slice none 0 0, .slice none 0 0, .bool false] 26)).cell? ⟨w.heap.size + 1, 1, none⟩ = some (.slice v0 v1 v2) := HbQ0.out.cell 1 (by simp)
  have kQ_2 : (((w.alloc (.cells #[.slice x0 x1 x2, .slice y0 y1 y2, .bool inf] 26)).alloc (.cells #[.slice u0 u1 u2, .slice v0 v1 v2, .bool jnf] 26)).alloc (.cells #[.slice none 0 0, .slice none 0 0, .bool false] 26)).cell? ⟨w.heap.size + 1, 2, none⟩ = some (.bool jnf) := HbQ0.out.cell 2 (by simp)
  go_wp2_with fail
  clear kP_0 kP_1 kP_2 kQ_0 kQ_1 kQ_2
  generalize (((w.alloc (.cells #[.slice x0 x1 x2, .slice y0 y1 y2, .bool inf] 26)).alloc (.cells #[.slice u0 u1 u2, .slice v0 v1 v2, .bool jnf] 26)).alloc (.cells #[.slice none 0 0, .slice none 0 0, .bool false] 26)) = wv2 at *
  have Hx1 : Hid (Nu _ _ _) := Hx0.out.below Hs1.out (Nat.le_refl _)
  have Hy1 : Hid (Nu _ _ _) := Hy0.out.below Hs1.out (Nat.le_refl _)
  refine (D1 _ _ _ Hx1.out Hy1.out).mono ?_
  rintro e w3 ⟨rfl, hB⟩
  have Hs4 : Hid (Below _ _ _) := hB
  clear hB
  have HbP1 : Hid (Bl _ _ _ _) := HbP0.out.below Hs4.out HbP0.out.lt
  have kP_0 : w3.cell? ⟨w.heap.size, 0, none⟩ = some (.slice x0 x1 x2) := HbP1.out.cell 0 (by simp)
  have kP_1 : w3.cell? ⟨w.heap.size, 1, none⟩ = some (.slice y0 y1 y2) := HbP1.out.cell 1 (by simp)
  have kP_2 : w3.cell? ⟨w.heap.size, 2, none⟩ = some (.bool inf) := HbP1.out.cell 2 (by simp)
  have HbQ1 : Hid (Bl _ _ _ _) := HbQ0.out.below Hs4.out HbQ0.out.lt
  have kQ_0 : w3.cell? ⟨w.heap.size + 1, 0, none⟩ = some (.slice u0 u1 u2) := HbQ1.out.cell 0 (by simp)
  have kQ_1 : w3.cell? ⟨w.heap.size + 1, 1, none⟩ = some (.slice v0 v1 v2) := HbQ1.out.cell 1 (by simp)
  have kQ_2 : w3.cell? ⟨w.heap.size + 1, 2, none⟩ = some (.bool jnf) := HbQ1.out.cell 2 (by simp)
  go_wp2_with fail
  clear kP_0 kP_1 kP_2 kQ_0 kQ_1 kQ_2
  have Hu1 : Hid (Nu _ _ _) := Hu0.out.below (btr Hs1.out Hs4.out) (Nat.le_refl _)
  have Hv1 : Hid (Nu _ _ _) := Hv0.out.below (btr Hs1.out Hs4.out) (Nat.le_refl _)
  refine (D2 _ _ _ Hu1.out Hv1.out).mono ?_
  rintro e w5 ⟨rfl, hB⟩
  have Hs6 : Hid (Below _ _ _) := hB
  clear hB
  have HbR1 : Hid (Bl _ _ _ _) := HbR0.out.below (btr Hs4.out Hs6.out) HbR0.out.lt
  have HB1 : Hid (Below _ _ _) := HB0.out.trans ((btr Hs1.out (btr Hs4.out Hs6.out)).mono HB0.out.size)
  have c0 : w5.cell? ⟨w.heap.size + 2, 0, none⟩ = some (.slice none 0 0) := HbR1.out.cell 0 (by simp)
  have f0 : w5.frozen? ⟨w.heap.size + 2, 0, none⟩ = false := HbR1.out.frozen 0
  have c1 : w5.cell? ⟨w.heap.size + 2, 1, none⟩ = some (.slice none 0 0) := HbR1.out.cell 1 (by simp)
  have f1 : w5.frozen? ⟨w.heap.size + 2, 1, none⟩ = false := HbR1.out.frozen 1
  have c2 : w5.cell? ⟨w.heap.size + 2, 2, none⟩ = some (.bool false) := HbR1.out.cell 2 (by simp)
  have f2 : w5.frozen? ⟨w.heap.size + 2, 2, none⟩ = false := HbR1.out.frozen 2
  go_wp2
  (try simp only [Exit.inBlock, Exit.then])
  have hb := (((But.refl w5 (w.heap.size + 2)).set 0 (.slice none 0 0)).set 1 (.slice none 0 0)).set 2 (.bool false)
  refine bodyPost_ret (v := .tuple #[.agg #[.slice none 0 0, .slice none 0 0, .bool false], .int .i64 93]) ?_ rfl ⟨rfl, by first | exact HB1.out.trans (hb.below HB1.out.size (Nat.le_add_right _ _)) | exact HB1.out⟩
  rw [results_cell_tmp rfl]; go_simp
/-- A point that the document answers with OK. -/
def Aq (w w' : World) (e : Ending) (P : Pt) : Prop := ∃ a b j A B, e = .returned (.tuple #[.agg #[a, b, .bool j], .int .i64 0]) ∧ Mk w' w.heap.size a A 384 ∧ Mk w' w.heap.size b B 384 ∧ ptO A B j = P ∧ (j = true → A = 0 ∧ B = 0) ∧ Below w.heap.size w w'
theorem row_cell {w : World} {g : Nat} {cs : Array Value} {e : TypeId} {f : Nat × Nat} {v : Value} (h : w.heap[g]? = some (.cells cs e f)) (j : Nat) (hv : cs[j]? = some v) : w.cell? ⟨g, j, none⟩ = some v := by
  simp only [World.cell?, h]
  simpa using hv
set_option maxHeartbeats 8000000 in
theorem dadd_ok {c s : Int} {p b n gx gy : Nat} (hk : Kv c p b n gx gy s) (HSum : ∀ (x y u v : Value) (X Y U V : Nat) (inf jnf : Bool) (w : World) (β : Nat), β ≤ w.heap.size → Mk w β x X 384 → Mk w β y Y 384 → Mk w β u U 384 → Mk w β v V 384 → (onP p b (ptO X Y inf) ∧ (inf = true → X = 0 ∧ Y = 0)) → (onP p b (ptO U V jnf) ∧ (jnf = true → U = 0 ∧ V = 0)) → Calls Tryz.prog 56 #[.int .i64 c, .agg #[x, y, .bool inf], .agg #[u, v, .bool jnf]] w fun e w' => Sq w w' β e (sm p (ptO X Y inf) (ptO U V jnf))) (x y u v : Value) (X Y U V : Nat) (inf jnf : Bool) (w : World) (hx : Nu w x X) (hy : Nu w y Y) (hu : Nu w u U) (hv : Nu w v V) (o1 : onB p b X Y inf = true) (o2 : onB p b U V jnf = true) :
    Calls Tryz.prog 25 #[.int .i64 c, .agg #[x, y, .bool inf], .agg #[u, v, .bool jnf]] w fun e w' => Aq w w' e (sm p (ptO X Y inf) (ptO U V jnf)) := by
  have HO : Hid (onB p b X Y inf = true ∧ onB p b U V jnf = true) := ⟨o1, o2⟩
  have HP : Hid ((X < pw 384 ∧ Y < pw 384) ∧ U < pw 384 ∧ V < pw 384) := ⟨onB_lt hk.pm o1, onB_lt hk.pm o2⟩
  clear o1 o2
  obtain ⟨x0, x1, x2, rfl⟩ := hx.shape
  have Hx0 : Hid (Nu w (.slice x0 x1 x2) X) := hx
  obtain ⟨y0, y1, y2, rfl⟩ := hy.shape
  have Hy0 : Hid (Nu w (.slice y0 y1 y2) Y) := hy
  obtain ⟨u0, u1, u2, rfl⟩ := hu.shape
  have Hu0 : Hid (Nu w (.slice u0 u1 u2) U) := hu
  obtain ⟨v0, v1, v2, rfl⟩ := hv.shape
  have Hv0 : Hid (Nu w (.slice v0 v1 v2) V) := hv
  have HB0 : Hid (Below w.heap.size w w) := Below.refl _ _
  clear hx hy hu hv
  have hfm : Fm w (((w.alloc (.cells #[.slice x0 x1 x2, .slice y0 y1 y2, .bool inf] 26)).alloc (.cells #[.slice u0 u1 u2, .slice v0 v1 v2, .bool jnf] 26)).alloc (.cells #[.slice none 0 0, .slice none 0 0, .bool false] 26)) [(26, [.slice x0 x1 x2, .slice y0 y1 y2, .bool inf]), (26, [.slice u0 u1 u2, .slice v0 v1 v2, .bool jnf]), (26, [.slice none 0 0, .slice none 0 0, .bool false])] [] [] := ((((Fm.nil (w := w) (A := []) ar_nil).push (by simp) 26 [.slice x0 x1 x2, .slice y0 y1 y2, .bool inf]).push (by simp) 26 [.slice u0 u1 u2, .slice v0 v1 v2, .bool jnf]).push (by simp) 26 [.slice none 0 0, .slice none 0 0, .bool false])
  have Hsz : Hid (w.heap.size + 3 ≤ (((w.alloc (.cells #[.slice x0 x1 x2, .slice y0 y1 y2, .bool inf] 26)).alloc (.cells #[.slice u0 u1 u2, .slice v0 v1 v2, .bool jnf] 26)).alloc (.cells #[.slice none 0 0, .slice none 0 0, .bool false] 26)).heap.size) := hfm.sz
  have Hs1 : Hid (Below w.heap.size w (((w.alloc (.cells #[.slice x0 x1 x2, .slice y0 y1 y2, .bool inf] 26)).alloc (.cells #[.slice u0 u1 u2, .slice v0 v1 v2, .bool jnf] 26)).alloc (.cells #[.slice none 0 0, .slice none 0 0, .bool false] 26))) := hfm.bel
  have HbP0 : Hid (Bl 26 (((w.alloc (.cells #[.slice x0 x1 x2, .slice y0 y1 y2, .bool inf] 26)).alloc (.cells #[.slice u0 u1 u2, .slice v0 v1 v2, .bool jnf] 26)).alloc (.cells #[.slice none 0 0, .slice none 0 0, .bool false] 26)) (w.heap.size) [.slice x0 x1 x2, .slice y0 y1 y2, .bool inf]) := hfm.bx 0 (by simp)
  have HbQ0 : Hid (Bl 26 (((w.alloc (.cells #[.slice x0 x1 x2, .slice y0 y1 y2, .bool inf] 26)).alloc (.cells #[.slice u0 u1 u2, .slice v0 v1 v2, .bool jnf] 26)).alloc (.cells #[.slice none 0 0, .slice none 0 0, .bool false] 26)) (w.heap.size + 1) [.slice u0 u1 u2, .slice v0 v1 v2, .bool jnf]) := hfm.bx 1 (by simp)
  have HbR0 : Hid (Bl 26 (((w.alloc (.cells #[.slice x0 x1 x2, .slice y0 y1 y2, .bool inf] 26)).alloc (.cells #[.slice u0 u1 u2, .slice v0 v1 v2, .bool jnf] 26)).alloc (.cells #[.slice none 0 0, .slice none 0 0, .bool false] 26)) (w.heap.size + 2) [.slice none 0 0, .slice none 0 0, .bool false]) := hfm.bx 2 (by simp)
  clear hfm
  go_enter Tryz.func25, Tryz.ntmps25
  have kP_0 : (((w.alloc (.cells #[.slice x0 x1 x2, .slice y0 y1 y2, .bool inf] 26)).alloc (.cells #[.slice u0 u1 u2, .slice v0 v1 v2, .bool jnf] 26)).alloc (.cells #[.slice none 0 0, .slice none 0 0, .bool false] 26)).cell? ⟨w.heap.size, 0, none⟩ = some (.slice x0 x1 x2) := HbP0.out.cell 0 (by simp)
  have kP_1 : (((w.alloc (.cells #[.slice x0 x1 x2, .slice y0 y1 y2, .bool inf] 26)).alloc (.cells #[.slice u0 u1 u2, .slice v0 v1 v2, .bool jnf] 26)).alloc (.cells #[.slice none 0 0, .slice none 0 0, .bool false] 26)).cell? ⟨w.heap.size, 1, none⟩ = some (.slice y0 y1 y2) := HbP0.out.cell 1 (by simp)
  have kP_2 : (((w.alloc (.cells #[.slice x0 x1 x2, .slice y0 y1 y2, .bool inf] 26)).alloc (.cells #[.slice u0 u1 u2, .slice v0 v1 v2, .bool jnf] 26)).alloc (.cells #[.slice none 0 0, .slice none 0 0, .bool false] 26)).cell? ⟨w.heap.size, 2, none⟩ = some (.bool inf) := HbP0.out.cell 2 (by simp)
  have kQ_0 : (((w.alloc (.cells #[.slice x0 x1 x2, .slice y0 y1 y2, .bool inf] 26)).alloc (.cells #[.slice u0 u1 u2, .slice v0 v1 v2, .bool jnf] 26)).alloc (.cells #[.slice none 0 0, .slice none 0 0, .bool false] 26)).cell? ⟨w.heap.size + 1, 0, none⟩ = some (.slice u0 u1 u2) := HbQ0.out.cell 0 (by simp)
  have kQ_1 : (((w.alloc (.cells #[.slice x0 x1 x2, .slice y0 y1 y2, .bool inf] 26)).alloc (.cells #[.slice u0 u1 u2, .slice v0 v1 v2, .bool jnf] 26)).alloc (.cells #[.slice none 0 0, .slice none 0 0, .bool false] 26)).cell? ⟨w.heap.size + 1, 1, none⟩ = some (.slice v0 v1 v2) := HbQ0.out.cell 1 (by simp)
  have kQ_2 : (((w.alloc (.cells #[.slice x0 x1 x2, .slice y0 y1 y2, .bool inf] 26)).alloc (.cells #[.slice u0 u1 u2, .slice v0 v1 v2, .bool jnf] 26)).alloc (.cells #[.slice none 0 0, .slice none 0 0, .bool false] 26)).cell? ⟨w.heap.size + 1, 2, none⟩ = some (.bool jnf) := HbQ0.out.cell 2 (by simp)
  go_wp2_with fail
  clear kP_0 kP_1 kP_2 kQ_0 kQ_1 kQ_2
  generalize (((w.alloc (.cells #[.slice x0 x1 x2, .slice y0 y1 y2, .bool inf] 26)).alloc (.cells #[.slice u0 u1 u2, .slice v0 v1 v2, .bool jnf] 26)).alloc (.cells #[.slice none 0 0, .slice none 0 0, .bool false] 26)) = wv2 at *
  have Hx1 : Hid (Nu _ _ _) := Hx0.out.below Hs1.out (Nat.le_refl _)
  have Hy1 : Hid (Nu _ _ _) := Hy0.out.below Hs1.out (Nat.le_refl _)
  have C := onq hk _ _ X Y _ Hx1.out Hy1.out inf
  rw [HO.out.1] at C
  refine (C).mono ?_
  rintro e w3 ⟨rfl, hB⟩
  have Hs4 : Hid (Below _ _ _) := hB
  clear hB C
  have HbP1 : Hid (Bl _ _ _ _) := HbP0.out.below Hs4.out HbP0.out.lt
  have kP_0 : w3.cell? ⟨w.heap.size, 0, none⟩ = some (.slice x0 x1 x2) := HbP1.out.cell 0 (by simp)
  have kP_1 : w3.cell? ⟨w.heap.size, 1, none⟩ = some (.slice y0 y1 y2) := HbP1.out.cell 1 (by simp)
  have kP_2 : w3.cell? ⟨w.heap.size, 2, none⟩ = some (.bool inf) := HbP1.out.cell 2 (by simp)
  have HbQ1 : Hid (Bl _ _ _ _) := HbQ0.out.below Hs4.out HbQ0.out.lt
  have kQ_0 : w3.cell? ⟨w.heap.size + 1, 0, none⟩ = some (.slice u0 u1 u2) := HbQ1.out.cell 0 (by simp)
  have kQ_1 : w3.cell? ⟨w.heap.size + 1, 1, none⟩ = some (.slice v0 v1 v2) := HbQ1.out.cell 1 (by simp)
  have kQ_2 : w3.cell? ⟨w.heap.size + 1, 2, none⟩ = some (.bool jnf) := HbQ1.out.cell 2 (by simp)
  go_wp2_with fail
  clear kP_0 kP_1 kP_2 kQ_0 kQ_1 kQ_2
  have Hu1 : Hid (Nu _ _ _) := Hu0.out.below (btr Hs1.out Hs4.out) (Nat.le_refl _)
  have Hv1 : Hid (Nu _ _ _) := Hv0.out.below (btr Hs1.out Hs4.out) (Nat.le_refl _)
  have C := onq hk _ _ U V _ Hu1.out Hv1.out jnf
  rw [HO.out.2] at C
  refine (C).mono ?_
  rintro e w5 ⟨rfl, hB⟩
  have Hs6 : Hid (Below _ _ _) := hB
  clear hB C
  have HbP2 : Hid (Bl _ _ _ _) := HbP1.out.below Hs6.out HbP1.out.lt
  have kP_0 : w5.cell? ⟨w.heap.size, 0, none⟩ = some (.slice x0 x1 x2) := HbP2.out.cell 0 (by simp)
  have kP_1 : w5.cell? ⟨w.heap.size, 1, none⟩ = some (.slice y0 y1 y2) := HbP2.out.cell 1 (by simp)
  have kP_2 : w5.cell? ⟨w.heap.size, 2, none⟩ = some (.bool inf) := HbP2.out.cell 2 (by simp)
  have HbQ2 : Hid (Bl _ _ _ _) := HbQ1.out.below Hs6.out HbQ1.out.lt
  have kQ_0 : w5.cell? ⟨w.heap.size + 1, 0, none⟩ = some (.slice u0 u1 u2) := HbQ2.out.cell 0 (by simp)
  have kQ_1 : w5.cell? ⟨w.heap.size + 1, 1, none⟩ = some (.slice v0 v1 v2) := HbQ2.out.cell 1 (by simp)
  have kQ_2 : w5.cell? ⟨w.heap.size + 1, 2, none⟩ = some (.bool jnf) := HbQ2.out.cell 2 (by simp)
  go_wp2_with fail
  clear kP_0 kP_1 kP_2 kQ_0 kQ_1 kQ_2
  have HW0 : Hid (w.heap.size + 3 ≤ w5.drew.heap.size) := Nat.le_trans Hsz.out ((btr Hs4.out Hs6.out)).size
  have Hs7 : Hid (Below w5.heap.size w5 w5.drew) := below_drewN (Below.refl _ _) 1
  have HbP3 : Hid (Bl _ _ _ _) := HbP2.out.below Hs7.out HbP2.out.lt
  have HbQ3 : Hid (Bl _ _ _ _) := HbQ2.out.below Hs7.out HbQ2.out.lt
  refine wp_region_K 6 (fun (w' : World) => w'.cell? ⟨w.heap.size, 0, none⟩ = some (.slice x0 x1 x2) ∧ w'.cell? ⟨w.heap.size, 1, none⟩ = some (.slice y0 y1 y2) ∧ w'.cell? ⟨w.heap.size, 2, none⟩ = some (.bool inf) ∧ w'.cell? ⟨w.heap.size + 1, 0, none⟩ = some (.slice u0 u1 u2) ∧ w'.cell? ⟨w.heap.size + 1, 1, none⟩ = some (.slice v0 v1 v2) ∧ w'.cell? ⟨w.heap.size + 1, 2, none⟩ = some (.bool jnf)) (by kernel_rfl) ?_
  have hHeld : ((fun (w' : World) => w'.cell? ⟨w.heap.size, 0, none⟩ = some (.slice x0 x1 x2) ∧ w'.cell? ⟨w.heap.size, 1, none⟩ = some (.slice y0 y1 y2) ∧ w'.cell? ⟨w.heap.size, 2, none⟩ = some (.bool inf) ∧ w'.cell? ⟨w.heap.size + 1, 0, none⟩ = some (.slice u0 u1 u2) ∧ w'.cell? ⟨w.heap.size + 1, 1, none⟩ = some (.slice v0 v1 v2) ∧ w'.cell? ⟨w.heap.size + 1, 2, none⟩ = some (.bool jnf))) (World.drew _) := ⟨HbP3.out.cell 0 (by simp), HbP3.out.cell 1 (by simp), HbP3.out.cell 2 (by simp), HbQ3.out.cell 0 (by simp), HbQ3.out.cell 1 (by simp), HbQ3.out.cell 2 (by simp)⟩
  refine wpAnyK_take0 0 (v := ?v1) rfl (by kernel_rfl) (fun _ _ _ h => h) (Or.inl ⟨by rfl, ?hy1⟩) (fun _ => hHeld) ?_
  case hy1 => (intro w hSw; go_simp; try with_reducible rfl)
  try simp only [Act.put, List.setIfInBounds_toArray, List.set_cons_zero, List.set_cons_succ]
  refine wpAnyK_take 1 [2, 4, 5, 6] (v := ?v2) rfl (by kernel_rfl) (fun _ _ _ h => h) (Or.inl ⟨by rfl, ?hy2⟩) hHeld ?_
  case hy2 => (intro w hSw; (try dsimp only at hSw); go_simp; try with_reducible rfl)
  try simp only [Act.put, List.setIfInBounds_toArray, List.set_cons_zero, List.set_cons_succ]
  refine wpAnyK_take 3 [4, 5, 6] (v := ?v3) rfl (by kernel_rfl) (fun _ _ _ h => h) (Or.inl ⟨by rfl, ?hy3⟩) hHeld ?_
  case hy3 => (intro w hSw; (try dsimp only at hSw); go_simp; try with_reducible rfl)
  try simp only [Act.put, List.setIfInBounds_toArray, List.set_cons_zero, List.set_cons_succ]
  refine wpAnyK_step 2 rfl (by kernel_rfl) (fun K hK => ?_)
  go_simp
  have Hx2 : Hid (Nu _ _ _) := Hx1.out.below (btr Hs4.out (btr Hs6.out Hs7.out)) (Nat.le_refl _)
  have Hy2 : Hid (Nu _ _ _) := Hy1.out.below (btr Hs4.out (btr Hs6.out Hs7.out)) (Nat.le_refl _)
  refine (proper_p _ _ X Y inf _ Hx2.out Hy2.out).mono ?_
  rintro e w8 ⟨pav, pbv, rfl, m1, m2, hB⟩
  have Hs9 : Hid (Below _ _ _) := hB
  obtain ⟨pa0, pa1, pa2, rfl⟩ := m1.nu.shape
  obtain ⟨pb0, pb1, pb2, rfl⟩ := m2.nu.shape
  have Hpa0 : Hid (Mk w8 w5.drew.heap.size (.slice pa0 pa1 pa2) X 384) := (m1.mk HP.out.1.1).base (Nat.le_refl _)
  have Hpb0 : Hid (Mk w8 w5.drew.heap.size (.slice pb0 pb1 pb2) Y 384) := (m2.mk HP.out.1.2).base (Nat.le_refl _)
  clear m1 m2 hB
  have HbP4 : Hid (Bl _ _ _ _) := HbP3.out.below Hs9.out HbP3.out.lt
  have HbQ4 : Hid (Bl _ _ _ _) := HbQ3.out.below Hs9.out HbQ3.out.lt
  try dsimp only
  refine (fun hHeld => hK.out _ _ (fun _ => hHeld) ?_) ⟨HbP4.out.cell 0 (by simp), HbP4.out.cell 1 (by simp), HbP4.out.cell 2 (by simp), HbQ4.out.cell 0 (by simp), HbQ4.out.cell 1 (by simp), HbQ4.out.cell 2 (by simp)⟩
  clear hK K
  try simp only [Act.put, List.setIfInBounds_toArray, List.set_cons_zero, List.set_cons_succ]
  refine wpAnyK_step 4 rfl (by kernel_rfl) (fun K hK => ?_)
  go_simp
  have Hu2 : Hid (Nu _ _ _) := Hu1.out.below (btr Hs6.out (btr Hs7.out Hs9.out)) (Nat.le_refl _)
  have Hv2 : Hid (Nu _ _ _) := Hv1.out.below (btr Hs6.out (btr Hs7.out Hs9.out)) (Nat.le_refl _)
  refine (proper_p _ _ U V jnf _ Hu2.out Hv2.out).mono ?_
  rintro e w10 ⟨qav, qbv, rfl, m1, m2, hB⟩
  have Hs11 : Hid (Below _ _ _) := hB
  obtain ⟨qa0, qa1, qa2, rfl⟩ := m1.nu.shape
  obtain ⟨qb0, qb1, qb2, rfl⟩ := m2.nu.shape
  have Hqa0 : Hid (Mk w10 w5.drew.heap.size (.slice qa0 qa1 qa2) U 384) := (m1.mk HP.out.2.1).base Hs9.out.size
  have Hqb0 : Hid (Mk w10 w5.drew.heap.size (.slice qb0 qb1 qb2) V 384) := (m2.mk HP.out.2.2).base Hs9.out.size
  clear m1 m2 hB
  have HbP5 : Hid (Bl _ _ _ _) := HbP4.out.below Hs11.out HbP4.out.lt
  have HbQ5 : Hid (Bl _ _ _ _) := HbQ4.out.below Hs11.out HbQ4.out.lt
  try dsimp only
  refine (fun hHeld => hK.out _ _ (fun _ => hHeld) ?_) ⟨HbP5.out.cell 0 (by simp), HbP5.out.cell 1 (by simp), HbP5.out.cell 2 (by simp), HbQ5.out.cell 0 (by simp), HbQ5.out.cell 1 (by simp), HbQ5.out.cell 2 (by simp)⟩
  clear hK K
  try simp only [Act.put, List.setIfInBounds_toArray, List.set_cons_zero, List.set_cons_succ]
  refine wpAnyK_step 5 rfl (by kernel_rfl) (fun K hK => ?_)
  go_simp
  have Hpa1 : Hid (Mk _ _ _ _ _) := Hpa0.out.below Hs11.out
  have Hpb1 : Hid (Mk _ _ _ _ _) := Hpb0.out.below Hs11.out
  refine (HSum _ _ _ _ X Y U V inf jnf _ w5.drew.heap.size (btr Hs9.out Hs11.out).size Hpa1.out Hpb1.out Hqa0.out Hqb0.out ((onB_iff hk.pm).1 HO.out.1) ((onB_iff hk.pm).1 HO.out.2)).mono ?_
  rintro e w12 ⟨ra, rb, rj, RA, RB, rfl, m1, m2, hpt, hz, hB⟩
  have Hs13 : Hid (Below _ _ _) := hB
  obtain ⟨ra0, ra1, ra2, rfl⟩ := m1.nk.sl
  obtain ⟨rb0, rb1, rb2, rfl⟩ := m2.nk.sl
  have HR_ : Hid (Mk w12 w5.drew.heap.size (.slice ra0 ra1 ra2) RA 384 ∧ Mk w12 w5.drew.heap.size (.slice rb0 rb1 rb2) RB 384 ∧ ptO RA RB rj = sm p (ptO X Y inf) (ptO U V jnf) ∧ (rj = true → RA = 0 ∧ RB = 0)) := ⟨m1, m2, hpt, hz⟩
  clear m1 m2 hpt hz hB
  have HbP6 : Hid (Bl _ _ _ _) := HbP5.out.below Hs13.out HbP5.out.lt
  have HbQ6 : Hid (Bl _ _ _ _) := HbQ5.out.below Hs13.out HbQ5.out.lt
  have HbR1 : Hid (Bl _ _ _ _) := HbR0.out.below (btr Hs4.out (btr Hs6.out (btr Hs7.out (btr Hs9.out (btr Hs11.out Hs13.out))))) HbR0.out.lt
  have HB1 : Hid (Below _ _ _) := HB0.out.trans ((btr Hs1.out (btr Hs4.out (btr Hs6.out (btr Hs7.out (btr Hs9.out (btr Hs11.out Hs13.out)))))).mono HB0.out.size)
  try dsimp only
  refine (fun hHeld => hK.out _ _ (fun _ => hHeld) ?_) ⟨HbP6.out.cell 0 (by simp), HbP6.out.cell 1 (by simp), HbP6.out.cell 2 (by simp), HbQ6.out.cell 0 (by simp), HbQ6.out.cell 1 (by simp), HbQ6.out.cell 2 (by simp)⟩
  clear hK K
  try simp only [Act.put, List.setIfInBounds_toArray, List.set_cons_zero, List.set_cons_succ]
  refine wpAnyK_step 6 rfl (by kernel_rfl) (fun K hK => ?_)
  rw [if_pos (by kernel_rfl)]
  refine wp_store_row 26 _ _ rfl (w.heap.size + 2) #[.slice ra0 ra1 ra2, .slice rb0 rb1 rb2, .bool rj] rfl rfl 26 #[.slice none 0 0, .slice none 0 0, .bool false] (HbR1.out) (by kernel_rfl) rfl (by simp [Value.oneCell']) ?_
  refine hK.out _ _ ?hk7 ?_
  case hk7 => exact (fun h => nomatch (h.symm.trans (show _ = true by kernel_rfl)))
  clear hK K
  try simp only [Act.put]
  refine wpAnyK_take0 7 (v := ?v8) rfl (by kernel_rfl) (fun _ _ _ h => h) (Or.inl ⟨by rfl, ?hy8⟩) (fun h => nomatch (h.symm.trans (show _ = true by kernel_rfl))) ?_
  case hy8 => (intro w hSw; go_simp; try with_reducible rfl)
  try simp only [Act.put, List.setIfInBounds_toArray, List.set_cons_zero, List.set_cons_succ]
  refine wpAnyK_done (by kernel_rfl) ?_ _
  go_wp2
  (try simp only [Exit.inBlock, Exit.then])
  have hb := But.setRow w12 (w.heap.size + 2) #[.slice ra0 ra1 ra2, .slice rb0 rb1 rb2, .bool rj]
  have hs2 := HW0.out
  refine bodyPost_ret (v := .tuple #[.agg #[.slice ra0 ra1 ra2, .slice rb0 rb1 rb2, .bool rj], .int .i64 0]) ?_ rfl ⟨_, _, _, _, _, rfl, (HR_.out.1.but hb (by omega)).base (by omega), (HR_.out.2.1.but hb (by omega)).base (by omega), HR_.out.2.2.1, HR_.out.2.2.2, HB1.out.trans (hb.below HB1.out.size (Nat.le_add_right _ _))⟩
  have hrow : (w12.setRow (w.heap.size + 2) #[.slice ra0 ra1 ra2, .slice rb0 rb1 rb2, .bool rj]).heap[w.heap.size + 2]? = some (.cells #[.slice ra0 ra1 ra2, .slice rb0 rb1 rb2, .bool rj] 26 (0, 0)) := setRow_heap _ _ _ _ _ _ (HbR1.out)
  have rc0 : (w12.setRow (w.heap.size + 2) #[.slice ra0 ra1 ra2, .slice rb0 rb1 rb2, .bool rj]).cell? ⟨w.heap.size + 2, 0, none⟩ = some (.slice ra0 ra1 ra2) := row_cell hrow 0 rfl
  have rc1 : (w12.setRow (w.heap.size + 2) #[.slice ra0 ra1 ra2, .slice rb0 rb1 rb2, .bool rj]).cell? ⟨w.heap.size + 2, 1, none⟩ = some (.slice rb0 rb1 rb2) := row_cell hrow 1 rfl
  have rc2 : (w12.setRow (w.heap.size + 2) #[.slice ra0 ra1 ra2, .slice rb0 rb1 rb2, .bool rj]).cell? ⟨w.heap.size + 2, 2, none⟩ = some (.bool rj) := row_cell hrow 2 rfl
  rw [results_cell_tmp rfl]; go_simp
end Go.Proofs.YtmngdaolgdhgmaaGreatDoor
