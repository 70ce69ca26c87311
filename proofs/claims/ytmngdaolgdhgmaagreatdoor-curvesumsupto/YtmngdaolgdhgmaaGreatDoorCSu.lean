import Derived.Test.YtmngdaolgdhgmaaGreatDoorCDn
import Derived.Deep.CutRange
namespace Go.Proofs.YtmngdaolgdhgmaaGreatDoor
open Go.RowKit

set_option maxRecDepth 100000

section
variable {P : Program} {md : Region.Mode} {ops : Array Oper} {Q : Exit → Act → World → Prop} {k : Nat} {S : World → Prop}
theorem rdy2 (i0 i1 : Nat) {o0 : Oper} {r0 : List Oper} {o1 : Oper} {r1 : List Oper} {fuel : Nat} {listed : Array Bool} {a : Act} {w : World} (h0 : ops.toList.drop i0 = o0 :: r0) (h1 : ops.toList.drop i1 = o1 :: r1) (hr : Region.ready md ops listed = [i0, i1])
    (s0 : ∀ K' : Act → World → Prop, Shut (∀ a w, ((listed.setIfInBounds i0 true).getD k true = false → S w) → wpAnyK P md ops Q k S fuel (listed.setIfInBounds i0 true) a w → K' a w) → if Region.wanted o0 (yielded ops a.tmps) = true then Oper.wp P o0 a w K' Q else K' (a.put o0.dst undef) w)
    (s1 : ∀ K' : Act → World → Prop, Shut (∀ a w, ((listed.setIfInBounds i1 true).getD k true = false → S w) → wpAnyK P md ops Q k S fuel (listed.setIfInBounds i1 true) a w → K' a w) → if Region.wanted o1 (yielded ops a.tmps) = true then Oper.wp P o1 a w K' Q else K' (a.put o1.dst undef) w)
    : wpAnyK P md ops Q k S (fuel + 1) listed a w := by
  refine ⟨fun h0 => (by rw [hr] at h0; cases h0), fun j hj => ?_⟩
  rw [hr] at hj
  simp only [List.mem_cons, List.not_mem_nil, or_false] at hj
  rcases hj with rfl | rfl
  · exact wpOp_step (op_at h0) (fun K' hK => s0 K' (fun a w hS hW => hK a w ⟨hS, hW⟩))
  · exact wpOp_step (op_at h1) (fun K' hK => s1 K' (fun a w hS hW => hK a w ⟨hS, hW⟩))
theorem rdy3 (i0 i1 i2 : Nat) {o0 : Oper} {r0 : List Oper} {o1 : Oper} {r1 : List Oper} {o2 : Oper} {r2 : List Oper} {fuel : Nat} {listed : Array Bool} {a : Act} {w : World} (h0 : ops.toList.drop i0 = o0 :: r0) (h1 : ops.toList.drop i1 = o1 :: r1) (h2 : ops.toList.drop i2 = o2 :: r2) (hr : Region.ready md ops listed = [i0, i1, i2])
    (s0 : ∀ K' : Act → World → Prop, Shut (∀ a w, ((listed.setIfInBounds i0 true).getD k true = false → S w) → wpAnyK P md ops Q k S fuel (listed.setIfInBounds i0 true) a w → K' a w) → if Region.wanted o0 (yielded ops a.tmps) = true then Oper.wp P o0 a w K' Q else K' (a.put o0.dst undef) w)
    (s1 : ∀ K' : Act → World → Prop, Shut (∀ a w, ((listed.setIfInBounds i1 true).getD k true = false → S w) → wpAnyK P md ops Q k S fuel (listed.setIfInBounds i1 true) a w → K' a w) → if Region.wanted o1 (yielded ops a.tmps) = true then Oper.wp P o1 a w K' Q else K' (a.put o1.dst undef) w)
    (s2 : ∀ K' : Act → World → Prop, Shut (∀ a w, ((listed.setIfInBounds i2 true).getD k true = false → S w) → wpAnyK P md ops Q k S fuel (listed.setIfInBounds i2 true) a w → K' a w) → if Region.wanted o2 (yielded ops a.tmps) = true then Oper.wp P o2 a w K' Q else K' (a.put o2.dst undef) w)
    : wpAnyK P md ops Q k S (fuel + 1) listed a w := by
  refine ⟨fun h0 => (by rw [hr] at h0; cases h0), fun j hj => ?_⟩
  rw [hr] at hj
  simp only [List.mem_cons, List.not_mem_nil, or_false] at hj
  rcases hj with rfl | rfl | rfl
  · exact wpOp_step (op_at h0) (fun K' hK => s0 K' (fun a w hS hW => hK a w ⟨hS, hW⟩))
  · exact wpOp_step (op_at h1) (fun K' hK => s1 K' (fun a w hS hW => hK a w ⟨hS, hW⟩))
  · exact wpOp_step (op_at h2) (fun K' hK => s2 K' (fun a w hS hW => hK a w ⟨hS, hW⟩))
theorem rdy4 (i0 i1 i2 i3 : Nat) {o0 : Oper} {r0 : List Oper} {o1 : Oper} {r1 : List Oper} {o2 : Oper} {r2 : List Oper} {o3 : Oper} {r3 : List Oper} {fuel : Nat} {listed : Array Bool} {a : Act} {w : World} (h0 : ops.toList.drop i0 = o0 :: r0) (h1 : ops.toList.drop i1 = o1 :: r1) (h2 : ops.toList.drop i2 = o2 :: r2) (h3 : ops.toList.drop i3 = o3 :: r3) (hr : Region.ready md ops listed = [i0, i1, i2, i3])
    (s0 : ∀ K' : Act → World → Prop, Shut (∀ a w, ((listed.setIfInBounds i0 true).getD k true = false → S w) → wpAnyK P md ops Q k S fuel (listed.setIfInBounds i0 true) a w → K' a w) → if Region.wanted o0 (yielded ops a.tmps) = true then Oper.wp P o0 a w K' Q else K' (a.put o0.dst undef) w)
    (s1 : ∀ K' : Act → World → Prop, Shut (∀ a w, ((listed.setIfInBounds i1 true).getD k true = false → S w) → wpAnyK P md ops Q k S fuel (listed.setIfInBounds i1 true) a w → K' a w) → if Region.wanted o1 (yielded ops a.tmps) = true then Oper.wp P o1 a w K' Q else K' (a.put o1.dst undef) w)
    (s2 : ∀ K' : Act → World → Prop, Shut (∀ a w, ((listed.setIfInBounds i2 true).getD k true = false → S w) → wpAnyK P md ops Q k S fuel (listed.setIfInBounds i2 true) a w → K' a w) → if Region.wanted o2 (yielded ops a.tmps) = true then Oper.wp P o2 a w K' Q else K' (a.put o2.dst undef) w)
    (s3 : ∀ K' : Act → World → Prop, Shut (∀ a w, ((listed.setIfInBounds i3 true).getD k true = false → S w) → wpAnyK P md ops Q k S fuel (listed.setIfInBounds i3 true) a w → K' a w) → if Region.wanted o3 (yielded ops a.tmps) = true then Oper.wp P o3 a w K' Q else K' (a.put o3.dst undef) w)
    : wpAnyK P md ops Q k S (fuel + 1) listed a w := by
  refine ⟨fun h0 => (by rw [hr] at h0; cases h0), fun j hj => ?_⟩
  rw [hr] at hj
  simp only [List.mem_cons, List.not_mem_nil, or_false] at hj
  rcases hj with rfl | rfl | rfl | rfl
  · exact wpOp_step (op_at h0) (fun K' hK => s0 K' (fun a w hS hW => hK a w ⟨hS, hW⟩))
  · exact wpOp_step (op_at h1) (fun K' hK => s1 K' (fun a w hS hW => hK a w ⟨hS, hW⟩))
  · exact wpOp_step (op_at h2) (fun K' hK => s2 K' (fun a w hS hW => hK a w ⟨hS, hW⟩))
  · exact wpOp_step (op_at h3) (fun K' hK => s3 K' (fun a w hS hW => hK a w ⟨hS, hW⟩))
end
/-- Numbers at hand. -/
def Pool (w : World) (l : List (Value × Nat)) : Prop := ∀ q ∈ l, Nq w q.1 q.2 384
theorem Pool.below {w w' : World} {l : List (Value × Nat)} (h : Pool w l) (hb : Below w.heap.size w w') : Pool w' l := fun q hq => (h q hq).below hb (Nat.le_refl _)
theorem Pool.step {w w' : World} {l : List (Value × Nat)} {b : Nat} {v : Value} {V : Nat} (h : Pool w l) (hb : Below w.heap.size w w') (m : Mk w' b v V 384) : Pool w' ((v, V) :: l) := fun q hq => by
  rcases List.mem_cons.1 hq with e | e
  · subst e; exact m.nq
  · exact h.below hb q e
theorem Pool.lit {w : World} {l : List (Value × Nat)} (h : Pool w l) (V : Nat) (hV : V < Bs) (hp : V < pw 384) : Pool (w.alloc (.cells #[.int .u32 (V : Int)] 51)) ((.slice (some ⟨w.heap.size, 0, none⟩) 1 1, V) :: l) := fun q hq => by
  rcases List.mem_cons.1 hq with e | e
  · subst e; exact lit_q w V hV hp
  · exact h.below (alloc_below _ _) q e
/-- What the tangent's region keeps: the first point's box, the numbers at hand, all elder memory. -/
structure Rg (W0 W : World) (g : Nat) (bx : List Value) (l : List (Value × Nat)) : Prop where
  b : Bl 26 W g bx
  p : Pool W l
  e : Below W0.heap.size W0 W
theorem Rg.below {W0 W W' : World} {g : Nat} {bx : List Value} {l : List (Value × Nat)} {b : Nat} {v : Value} {V : Nat} (h : Rg W0 W g bx l) (hb : Below W.heap.size W W') (m : Mk W' b v V 384) : Rg W0 W' g bx ((v, V) :: l) := ⟨h.b.below hb h.b.lt, h.p.step hb m, btr h.e hb⟩
theorem Rg.lit {W0 W : World} {g : Nat} {bx : List Value} {l : List (Value × Nat)} (h : Rg W0 W g bx l) (V : Nat) (hV : V < Bs) (hp : V < pw 384) : Rg W0 (W.alloc (.cells #[.int .u32 (V : Int)] 51)) g bx ((.slice (some ⟨W.heap.size, 0, none⟩) 1 1, V) :: l) := ⟨h.b.below (alloc_below _ _) h.b.lt, h.p.lit V hV hp, btr h.e (alloc_below _ _)⟩
theorem Rg.k {W0 W : World} {g : Nat} {a b : Value} {r : List Value} {l : List (Value × Nat)} (h : Rg W0 W g (a :: b :: r) l) : W.cell? ⟨g, 0, none⟩ = some a ∧ W.cell? ⟨g, 1, none⟩ = some b := ⟨h.b.cell 0 (by simp), h.b.cell 1 (by simp)⟩
theorem ltQ2 : 2 < pw 384 := by decide +kernel
theorem ltQ3 : 3 < pw 384 := by decide +kernel
theorem ltB2 : 2 < Bs := by decide
theorem ltB3 : 3 < Bs := by decide
/-- A point that the document answers. -/
def Sq (w w' : World) (β : Nat) (e : Ending) (P : Pt) : Prop := ∃ a b j A B, e = .returned (.agg #[a, b, .bool j]) ∧ Mk w' β a A 384 ∧ Mk w' β b B 384 ∧ ptO A B j = P ∧ (j = true → A = 0 ∧ B = 0) ∧ Below w.heap.size w w'
set_option maxHeartbeats 20000000 in
theorem sum_l {c s : Int} {p b n gx gy : Nat} (hk : Kv c p b n gx gy s) (x y u v : Value) (X Y U V : Nat) (w : World) {β : Nat} (hβ : β ≤ w.heap.size) (hx : Mk w β x X 384) (hy : Mk w β y Y 384) (hu : Mk w β u U 384) (hv : Mk w β v V 384) (jnf : Bool) (ho : onP p b (ptO U V jnf) ∧ (jnf = true → U = 0 ∧ V = 0)) :
    Calls Tryz.prog 56 #[.int .i64 c, .agg #[x, y, .bool true], .agg #[u, v, .bool jnf]] w fun e w' => Sq w w' β e (sm p .O (ptO U V jnf)) := by
  have HO : Hid (onP p b (ptO U V jnf) ∧ (jnf = true → U = 0 ∧ V = 0)) := ho
  clear ho
  obtain ⟨x0, x1, x2, rfl⟩ := hx.nk.sl
  have Hx0 : Hid (Mk w β (.slice x0 x1 x2) X 384) := hx
  obtain ⟨y0, y1, y2, rfl⟩ := hy.nk.sl
  have Hy0 : Hid (Mk w β (.slice y0 y1 y2) Y 384) := hy
  obtain ⟨u0, u1, u2, rfl⟩ := hu.nk.sl
  have Hu0 : Hid (Mk w β (.slice u0 u1 u2) U 384) := hu
  obtain ⟨v0, v1, v2, rfl⟩ := hv.nk.sl
  have Hv0 : Hid (Mk w β (.slice v0 v1 v2) V 384) := hv
  have Hold : Hid (∀ g, ((Value.slice x0 x1 x2).ownBlock = some g ∨ (Value.slice y0 y1 y2).ownBlock = some g ∨ (Value.slice u0 u1 u2).ownBlock = some g ∨ (Value.slice v0 v1 v2).ownBlock = some g) → g < w.heap.size) := fun g e => by
    rcases e with e | e | e | e
    · exact (World.ownsRow.lt hx.1 g e).2
    · exact (World.ownsRow.lt hy.1 g e).2
    · exact (World.ownsRow.lt hu.1 g e).2
    · exact (World.ownsRow.lt hv.1 g e).2
  have HB0 : Hid (Below w.heap.size w w) := Below.refl _ _
  have Hβ : Hid (β ≤ w.heap.size) := hβ
  clear hx hy hu hv hβ
  have hfm : Fm w (((w.alloc (.cells #[.slice x0 x1 x2, .slice y0 y1 y2, .bool true] 26)).alloc (.cells #[.slice u0 u1 u2, .slice v0 v1 v2, .bool jnf] 26)).alloc (.cells #[.slice none 0 0, .slice none 0 0, .bool false] 26)) [(26, [.slice x0 x1 x2, .slice y0 y1 y2, .bool true]), (26, [.slice u0 u1 u2, .slice v0 v1 v2, .bool jnf]), (26, [.slice none 0 0, .slice none 0 0, .bool false])] [] [] := ((((Fm.nil (w := w) (A := []) ar_nil).push (by simp) 26 [.slice x0 x1 x2, .slice y0 y1 y2, .bool true]).push (by simp) 26 [.slice u0 u1 u2, .slice v0 v1 v2, .bool jnf]).push (by simp) 26 [.slice none 0 0, .slice none 0 0, .bool false])
  have Hsz : Hid (w.heap.size + 3 ≤ (((w.alloc (.cells #[.slice x0 x1 x2, .slice y0 y1 y2, .bool true] 26)).alloc (.cells #[.slice u0 u1 u2, .slice v0 v1 v2, .bool jnf] 26)).alloc (.cells #[.slice none 0 0, .slice none 0 0, .bool false] 26)).heap.size) := hfm.sz
  have Hs1 : Hid (Below w.heap.size w (((w.alloc (.cells #[.slice x0 x1 x2, .slice y0 y1 y2, .bool true] 26)).alloc (.cells #[.slice u0 u1 u2, .slice v0 v1 v2, .bool jnf] 26)).alloc (.cells #[.slice none 0 0, .slice none 0 0, .bool false] 26))) := hfm.bel
  have HbP0 : Hid (Bl 26 (((w.alloc (.cells #[.slice x0 x1 x2, .slice y0 y1 y2, .bool true] 26)).alloc (.cells #[.slice u0 u1 u2, .slice v0 v1 v2, .bool jnf] 26)).alloc (.cells #[.slice none 0 0, .slice none 0 0, .bool false] 26)) (w.heap.size) [.slice x0 x1 x2, .slice y0 y1 y2, .bool true]) := hfm.bx 0 (by simp)
  have HbQ0 : Hid (Bl 26 (((w.alloc (.cells #[.slice x0 x1 x2, .slice y0 y1 y2, .bool true] 26)).alloc (.cells #[.slice u0 u1 u2, .slice v0 v1 v2, .bool jnf] 26)).alloc (.cells #[.slice none 0 0, .slice none 0 0, .bool false] 26)) (w.heap.size + 1) [.slice u0 u1 u2, .slice v0 v1 v2, .bool jnf]) := hfm.bx 1 (by simp)
  have HbR0 : Hid (Bl 26 (((w.alloc (.cells #[.slice x0 x1 x2, .slice y0 y1 y2, .bool true] 26)).alloc (.cells #[.slice u0 u1 u2, .slice v0 v1 v2, .bool jnf] 26)).alloc (.cells #[.slice none 0 0, .slice none 0 0, .bool false] 26)) (w.heap.size + 2) [.slice none 0 0, .slice none 0 0, .bool false]) := hfm.bx 2 (by simp)
  clear hfm
  go_enter Tryz.func56, Tryz.ntmps56
  have kP_0 : (((w.alloc (.cells #[.slice x0 x1 x2, .slice y0 y1 y2, .bool true] 26)).alloc (.cells #[.slice u0 u1 u2, .slice v0 v1 v2, .bool jnf] 26)).alloc (.cells #[.slice none 0 0, .slice none 0 0, .bool false] 26)).cell? ⟨w.heap.size, 0, none⟩ = some (.slice x0 x1 x2) := HbP0.out.cell 0 (by simp)
  have kP_1 : (((w.alloc (.cells #[.slice x0 x1 x2, .slice y0 y1 y2, .bool true] 26)).alloc (.cells #[.slice u0 u1 u2, .slice v0 v1 v2, .bool jnf] 26)).alloc (.cells #[.slice none 0 0, .slice none 0 0, .bool false] 26)).cell? ⟨w.heap.size, 1, none⟩ = some (.slice y0 y1 y2) := HbP0.out.cell 1 (by simp)
  have kP_2 : (((w.alloc (.cells #[.slice x0 x1 x2, .slice y0 y1 y2, .bool true] 26)).alloc (.cells #[.slice u0 u1 u2, .slice v0 v1 v2, .bool jnf] 26)).alloc (.cells #[.slice none 0 0, .slice none 0 0, .bool false] 26)).cell? ⟨w.heap.size, 2, none⟩ = some (.bool true) := HbP0.out.cell 2 (by simp)
  have kQ_0 : (((w.alloc (.cells #[.slice x0 x1 x2, .slice y0 y1 y2, .bool true] 26)).alloc (.cells #[.slice u0 u1 u2, .slice v0 v1 v2, .bool jnf] 26)).alloc (.cells #[.slice none 0 0, .slice none 0 0, .bool false] 26)).cell? ⟨w.heap.size + 1, 0, none⟩ = some (.slice u0 u1 u2) := HbQ0.out.cell 0 (by simp)
  have kQ_1 : (((w.alloc (.cells #[.slice x0 x1 x2, .slice y0 y1 y2, .bool true] 26)).alloc (.cells #[.slice u0 u1 u2, .slice v0 v1 v2, .bool jnf] 26)).alloc (.cells #[.slice none 0 0, .slice none 0 0, .bool false] 26)).cell? ⟨w.heap.size + 1, 1, none⟩ = some (.slice v0 v1 v2) := HbQ0.out.cell 1 (by simp)
  have kQ_2 : (((w.alloc (.cells #[.slice x0 x1 x2, .slice y0 y1 y2, .bool true] 26)).alloc (.cells #[.slice u0 u1 u2, .slice v0 v1 v2, .bool jnf] 26)).alloc (.cells #[.slice none 0 0, .slice none 0 0, .bool false] 26)).cell? ⟨w.heap.size + 1, 2, none⟩ = some (.bool jnf) := HbQ0.out.cell 2 (by simp)
  have hfz : Fm w (((w.alloc (.cells #[.slice x0 x1 x2, .slice y0 y1 y2, .bool true] 26)).alloc (.cells #[.slice u0 u1 u2, .slice v0 v1 v2, .bool jnf] 26)).alloc (.cells #[.slice u0 u1 u2, .slice v0 v1 v2, .bool jnf] 26)) [(26, [.slice x0 x1 x2, .slice y0 y1 y2, .bool true]), (26, [.slice u0 u1 u2, .slice v0 v1 v2, .bool jnf]), (26, [.slice u0 u1 u2, .slice v0 v1 v2, .bool jnf])] [] [] := ((((Fm.nil (w := w) (A := []) ar_nil).push (by simp) 26 [.slice x0 x1 x2, .slice y0 y1 y2, .bool true]).push (by simp) 26 [.slice u0 u1 u2, .slice v0 v1 v2, .bool jnf]).push (by simp) 26 [.slice u0 u1 u2, .slice v0 v1 v2, .bool jnf])
  go_wp2
  (try simp only [Exit.inBlock, Exit.then])
  refine bodyPost_ret (v := .agg #[.slice u0 u1 u2, .slice v0 v1 v2, .bool jnf]) ?_ rfl ⟨_, _, _, _, _, rfl, Hu0.out.below hfz.bel, Hv0.out.below hfz.bel, (hk.cv.zl HO.out.1).symm, HO.out.2, hfz.bel⟩
  rw [results_cell rfl]; go_simp
set_option maxHeartbeats 20000000 in
theorem sum_r {c s : Int} {p b n gx gy : Nat} (hk : Kv c p b n gx gy s) (x y u v : Value) (X Y U V : Nat) (w : World) {β : Nat} (hβ : β ≤ w.heap.size) (hx : Mk w β x X 384) (hy : Mk w β y Y 384) (hu : Mk w β u U 384) (hv : Mk w β v V 384) (ho : onP p b (.A X Y)) :
    Calls Tryz.prog 56 #[.int .i64 c, .agg #[x, y, .bool false], .agg #[u, v, .bool true]] w fun e w' => Sq w w' β e (sm p (.A X Y) .O) := by
  have HO : Hid (onP p b (.A X Y)) := ho
  clear ho
  obtain ⟨x0, x1, x2, rfl⟩ := hx.nk.sl
  have Hx0 : Hid (Mk w β (.slice x0 x1 x2) X 384) := hx
  obtain ⟨y0, y1, y2, rfl⟩ := hy.nk.sl
  have Hy0 : Hid (Mk w β (.slice y0 y1 y2) Y 384) := hy
  obtain ⟨u0, u1, u2, rfl⟩ := hu.nk.sl
  have Hu0 : Hid (Mk w β (.slice u0 u1 u2) U 384) := hu
  obtain ⟨v0, v1, v2, rfl⟩ := hv.nk.sl
  have Hv0 : Hid (Mk w β (.slice v0 v1 v2) V 384) := hv
  have Hold : Hid (∀ g, ((Value.slice x0 x1 x2).ownBlock = some g ∨ (Value.slice y0 y1 y2).ownBlock = some g ∨ (Value.slice u0 u1 u2).ownBlock = some g ∨ (Value.slice v0 v1 v2).ownBlock = some g) → g < w.heap.size) := fun g e => by
    rcases e with e | e | e | e
    · exact (World.ownsRow.lt hx.1 g e).2
    · exact (World.ownsRow.lt hy.1 g e).2
    · exact (World.ownsRow.lt hu.1 g e).2
    · exact (World.ownsRow.lt hv.1 g e).2
  have HB0 : Hid (Below w.heap.size w w) := Below.refl _ _
  have Hβ : Hid (β ≤ w.heap.size) := hβ
  clear hx hy hu hv hβ
  have hfm : Fm w (((w.alloc (.cells #[.slice x0 x1 x2, .slice y0 y1 y2, .bool false] 26)).alloc (.cells #[.slice u0 u1 u2, .slice v0 v1 v2, .bool true] 26)).alloc (.cells #[.slice none 0 0, .slice none 0 0, .bool false] 26)) [(26, [.slice x0 x1 x2, .slice y0 y1 y2, .bool false]), (26, [.slice u0 u1 u2, .slice v0 v1 v2, .bool true]), (26, [.slice none 0 0, .slice none 0 0, .bool false])] [] [] := ((((Fm.nil (w := w) (A := []) ar_nil).push (by simp) 26 [.slice x0 x1 x2, .slice y0 y1 y2, .bool false]).push (by simp) 26 [.slice u0 u1 u2, .slice v0 v1 v2, .bool true]).push (by simp) 26 [.slice none 0 0, .slice none 0 0, .bool false])
  have Hsz : Hid (w.heap.size + 3 ≤ (((w.alloc (.cells #[.slice x0 x1 x2, .slice y0 y1 y2, .bool false] 26)).alloc (.cells #[.slice u0 u1 u2, .slice v0 v1 v2, .bool true] 26)).alloc (.cells #[.slice none 0 0, .slice none 0 0, .bool false] 26)).heap.size) := hfm.sz
  have Hs1 : Hid (Below w.heap.size w (((w.alloc (.cells #[.slice x0 x1 x2, .slice y0 y1 y2, .bool false] 26)).alloc (.cells #[.slice u0 u1 u2, .slice v0 v1 v2, .bool true] 26)).alloc (.cells #[.slice none 0 0, .slice none 0 0, .bool false] 26))) := hfm.bel
  have HbP0 : Hid (Bl 26 (((w.alloc (.cells #[.slice x0 x1 x2, .slice y0 y1 y2, .bool false] 26)).alloc (.cells #[.slice u0 u1 u2, .slice v0 v1 v2, .bool true] 26)).alloc (.cells #[.slice none 0 0, .slice none 0 0, .bool false] 26)) (w.heap.size) [.slice x0 x1 x2, .slice y0 y1 y2, .bool false]) := hfm.bx 0 (by simp)
  have HbQ0 : Hid (Bl 26 (((w.alloc (.cells #[.slice x0 x1 x2, .slice y0 y1 y2, .bool false] 26)).alloc (.cells #[.slice u0 u1 u2, .slice v0 v1 v2, .bool true] 26)).alloc (.cells #[.slice none 0 0, .slice none 0 0, .bool false] 26)) (w.heap.size + 1) [.slice u0 u1 u2, .slice v0 v1 v2, .bool true]) := hfm.bx 1 (by simp)
  have HbR0 : Hid (Bl 26 (((w.alloc (.cells #[.slice x0 x1 x2, .slice y0 y1 y2, .bool false] 26)).alloc (.cells #[.slice u0 u1 u2, .slice v0 v1 v2, .bool true] 26)).alloc (.cells #[.slice none 0 0, .slice none 0 0, .bool false] 26)) (w.heap.size + 2) [.slice none 0 0, .slice none 0 0, .bool false]) := hfm.bx 2 (by simp)
  clear hfm
  go_enter Tryz.func56, Tryz.ntmps56
  have kP_0 : (((w.alloc (.cells #[.slice x0 x1 x2, .slice y0 y1 y2, .bool false] 26)).alloc (.cells #[.slice u0 u1 u2, .slice v0 v1 v2, .bool true] 26)).alloc (.cells #[.slice none 0 0, .slice none 0 0, .bool false] 26)).cell? ⟨w.heap.size, 0, none⟩ = some (.slice x0 x1 x2) := HbP0.out.cell 0 (by simp)
  have kP_1 : (((w.alloc (.cells #[.slice x0 x1 x2, .slice y0 y1 y2, .bool false] 26)).alloc (.cells #[.slice u0 u1 u2, .slice v0 v1 v2, .bool true] 26)).alloc (.cells #[.slice none 0 0, .slice none 0 0, .bool false] 26)).cell? ⟨w.heap.size, 1, none⟩ = some (.slice y0 y1 y2) := HbP0.out.cell 1 (by simp)
  have kP_2 : (((w.alloc (.cells #[.slice x0 x1 x2, .slice y0 y1 y2, .bool false] 26)).alloc (.cells #[.slice u0 u1 u2, .slice v0 v1 v2, .bool true] 26)).alloc (.cells #[.slice none 0 0, .slice none 0 0, .bool false] 26)).cell? ⟨w.heap.size, 2, none⟩ = some (.bool false) := HbP0.out.cell 2 (by simp)
  have kQ_0 : (((w.alloc (.cells #[.slice x0 x1 x2, .slice y0 y1 y2, .bool false] 26)).alloc (.cells #[.slice u0 u1 u2, .slice v0 v1 v2, .bool true] 26)).alloc (.cells #[.slice none 0 0, .slice none 0 0, .bool false] 26)).cell? ⟨w.heap.size + 1, 0, none⟩ = some (.slice u0 u1 u2) := HbQ0.out.cell 0 (by simp)
  have kQ_1 : (((w.alloc (.cells #[.slice x0 x1 x2, .slice y0 y1 y2, .bool false] 26)).alloc (.cells #[.slice u0 u1 u2, .slice v0 v1 v2, .bool true] 26)).alloc (.cells #[.slice none 0 0, .slice none 0 0, .bool false] 26)).cell? ⟨w.heap.size + 1, 1, none⟩ = some (.slice v0 v1 v2) := HbQ0.out.cell 1 (by simp)
  have kQ_2 : (((w.alloc (.cells #[.slice x0 x1 x2, .slice y0 y1 y2, .bool false] 26)).alloc (.cells #[.slice u0 u1 u2, .slice v0 v1 v2, .bool true] 26)).alloc (.cells #[.slice none 0 0, .slice none 0 0, .bool false] 26)).cell? ⟨w.heap.size + 1, 2, none⟩ = some (.bool true) := HbQ0.out.cell 2 (by simp)
  have hfz : Fm w (((w.alloc (.cells #[.slice x0 x1 x2, .slice y0 y1 y2, .bool false] 26)).alloc (.cells #[.slice u0 u1 u2, .slice v0 v1 v2, .bool true] 26)).alloc (.cells #[.slice x0 x1 x2, .slice y0 y1 y2, .bool false] 26)) [(26, [.slice x0 x1 x2, .slice y0 y1 y2, .bool false]), (26, [.slice u0 u1 u2, .slice v0 v1 v2, .bool true]), (26, [.slice x0 x1 x2, .slice y0 y1 y2, .bool false])] [] [] := ((((Fm.nil (w := w) (A := []) ar_nil).push (by simp) 26 [.slice x0 x1 x2, .slice y0 y1 y2, .bool false]).push (by simp) 26 [.slice u0 u1 u2, .slice v0 v1 v2, .bool true]).push (by simp) 26 [.slice x0 x1 x2, .slice y0 y1 y2, .bool false])
  go_wp2
  (try simp only [Exit.inBlock, Exit.then])
  refine bodyPost_ret (v := .agg #[.slice x0 x1 x2, .slice y0 y1 y2, .bool false]) ?_ rfl ⟨_, _, _, _, _, rfl, Hx0.out.below hfz.bel, Hy0.out.below hfz.bel, (hk.cv.zr HO.out).symm, (fun h => by cases h), hfz.bel⟩
  rw [results_cell rfl]; go_simp
theorem opp_sum {p b x y v : Nat} (C : Cv p b) (h1 : onP p b (.A x y)) (h2 : onP p b (.A x v)) (h : fA p y v = 0) : sm p (.A x y) (.A x v) = .O := C.sm_is h1 h2 (.inl ⟨rfl, h, rfl⟩)
theorem diff_pos {p X U : Nat} (hp : Pm p) (h1 : X < p) (h2 : U < p) (h : X ≠ U) : 0 < fS p U X := by
  rcases Nat.eq_zero_or_pos (fS p U X) with h0 | h0
  · exfalso
    have h3 := fS_cg hp U X
    rw [h0] at h3
    exact h (eq_of_dvd h1 h2 (lc1 1 h3 (by grind)))
  · exact h0
theorem two_pos {p b X Y : Nat} (C : Cv p b) (_hp : Pm p) (h : onP p b (.A X Y)) : 0 < fM p 2 Y := by
  rcases Nat.eq_zero_or_pos (fM p 2 Y) with h0 | h0
  · exfalso
    have h3 := fM_cg p 2 Y
    rw [h0] at h3
    exact C.ynz h.2.2 (C.two (lc1 (-1) h3 (by grind)))
  · exact h0
set_option maxHeartbeats 20000000 in
theorem sum_opp {c s : Int} {p b n gx gy : Nat} (hk : Kv c p b n gx gy s) (x y u v : Value) (X Y U V : Nat) (w : World) {β : Nat} (hβ : β ≤ w.heap.size) (hx : Mk w β x X 384) (hy : Mk w β y Y 384) (hu : Mk w β u U 384) (hv : Mk w β v V 384) (o1 : onP p b (.A X Y)) (o2 : onP p b (.A U V)) (hX : X = U) (hY : fA p Y V = 0) :
    Calls Tryz.prog 56 #[.int .i64 c, .agg #[x, y, .bool false], .agg #[u, v, .bool false]] w fun e w' => Sq w w' β e (sm p (.A X Y) (.A U V)) := by
  have HO : Hid (onP p b (.A X Y) ∧ onP p b (.A U V)) := ⟨o1, o2⟩
  have HX : Hid (X = U) := hX
  have HY : Hid (fA p Y V = 0) := hY
  clear hX hY
  clear o1 o2
  obtain ⟨x0, x1, x2, rfl⟩ := hx.nk.sl
  have Hx0 : Hid (Mk w β (.slice x0 x1 x2) X 384) := hx
  obtain ⟨y0, y1, y2, rfl⟩ := hy.nk.sl
  have Hy0 : Hid (Mk w β (.slice y0 y1 y2) Y 384) := hy
  obtain ⟨u0, u1, u2, rfl⟩ := hu.nk.sl
  have Hu0 : Hid (Mk w β (.slice u0 u1 u2) U 384) := hu
  obtain ⟨v0, v1, v2, rfl⟩ := hv.nk.sl
  have Hv0 : Hid (Mk w β (.slice v0 v1 v2) V 384) := hv
  have Hold : Hid (∀ g, ((Value.slice x0 x1 x2).ownBlock = some g ∨ (Value.slice y0 y1 y2).ownBlock = some g ∨ (Value.slice u0 u1 u2).ownBlock = some g ∨ (Value.slice v0 v1 v2).ownBlock = some g) → g < w.heap.size) := fun g e => by
    rcases e with e | e | e | e
    · exact (World.ownsRow.lt hx.1 g e).2
    · exact (World.ownsRow.lt hy.1 g e).2
    · exact (World.ownsRow.lt hu.1 g e).2
    · exact (World.ownsRow.lt hv.1 g e).2
  have HB0 : Hid (Below w.heap.size w w) := Below.refl _ _
  have Hβ : Hid (β ≤ w.heap.size) := hβ
  clear hx hy hu hv hβ
  have hfm : Fm w (((w.alloc (.cells #[.slice x0 x1 x2, .slice y0 y1 y2, .bool false] 26)).alloc (.cells #[.slice u0 u1 u2, .slice v0 v1 v2, .bool false] 26)).alloc (.cells #[.slice none 0 0, .slice none 0 0, .bool false] 26)) [(26, [.slice x0 x1 x2, .slice y0 y1 y2, .bool false]), (26, [.slice u0 u1 u2, .slice v0 v1 v2, .bool false]), (26, [.slice none 0 0, .slice none 0 0, .bool false])] [] [] := ((((Fm.nil (w := w) (A := []) ar_nil).push (by simp) 26 [.slice x0 x1 x2, .slice y0 y1 y2, .bool false]).push (by simp) 26 [.slice u0 u1 u2, .slice v0 v1 v2, .bool false]).push (by simp) 26 [.slice none 0 0, .slice none 0 0, .bool false])
  have Hsz : Hid (w.heap.size + 3 ≤ (((w.alloc (.cells #[.slice x0 x1 x2, .slice y0 y1 y2, .bool false] 26)).alloc (.cells #[.slice u0 u1 u2, .slice v0 v1 v2, .bool false] 26)).alloc (.cells #[.slice none 0 0, .slice none 0 0, .bool false] 26)).heap.size) := hfm.sz
  have Hs1 : Hid (Below w.heap.size w (((w.alloc (.cells #[.slice x0 x1 x2, .slice y0 y1 y2, .bool false] 26)).alloc (.cells #[.slice u0 u1 u2, .slice v0 v1 v2, .bool false] 26)).alloc (.cells #[.slice none 0 0, .slice none 0 0, .bool false] 26))) := hfm.bel
  have HbP0 : Hid (Bl 26 (((w.alloc (.cells #[.slice x0 x1 x2, .slice y0 y1 y2, .bool false] 26)).alloc (.cells #[.slice u0 u1 u2, .slice v0 v1 v2, .bool false] 26)).alloc (.cells #[.slice none 0 0, .slice none 0 0, .bool false] 26)) (w.heap.size) [.slice x0 x1 x2, .slice y0 y1 y2, .bool false]) := hfm.bx 0 (by simp)
  have HbQ0 : Hid (Bl 26 (((w.alloc (.cells #[.slice x0 x1 x2, .slice y0 y1 y2, .bool false] 26)).alloc (.cells #[.slice u0 u1 u2, .slice v0 v1 v2, .bool false] 26)).alloc (.cells #[.slice none 0 0, .slice none 0 0, .bool false] 26)) (w.heap.size + 1) [.slice u0 u1 u2, .slice v0 v1 v2, .bool false]) := hfm.bx 1 (by simp)
  have HbR0 : Hid (Bl 26 (((w.alloc (.cells #[.slice x0 x1 x2, .slice y0 y1 y2, .bool false] 26)).alloc (.cells #[.slice u0 u1 u2, .slice v0 v1 v2, .bool false] 26)).alloc (.cells #[.slice none 0 0, .slice none 0 0, .bool false] 26)) (w.heap.size + 2) [.slice none 0 0, .slice none 0 0, .bool false]) := hfm.bx 2 (by simp)
  clear hfm
  go_enter Tryz.func56, Tryz.ntmps56
  have kP_0 : (((w.alloc (.cells #[.slice x0 x1 x2, .slice y0 y1 y2, .bool false] 26)).alloc (.cells #[.slice u0 u1 u2, .slice v0 v1 v2, .bool false] 26)).alloc (.cells #[.slice none 0 0, .slice none 0 0, .bool false] 26)).cell? ⟨w.heap.size, 0, none⟩ = some (.slice x0 x1 x2) := HbP0.out.cell 0 (by simp)
  have kP_1 : (((w.alloc (.cells #[.slice x0 x1 x2, .slice y0 y1 y2, .bool false] 26)).alloc (.cells #[.slice u0 u1 u2, .slice v0 v1 v2, .bool false] 26)).alloc (.cells #[.slice none 0 0, .slice none 0 0, .bool false] 26)).cell? ⟨w.heap.size, 1, none⟩ = some (.slice y0 y1 y2) := HbP0.out.cell 1 (by simp)
  have kP_2 : (((w.alloc (.cells #[.slice x0 x1 x2, .slice y0 y1 y2, .bool false] 26)).alloc (.cells #[.slice u0 u1 u2, .slice v0 v1 v2, .bool false] 26)).alloc (.cells #[.slice none 0 0, .slice none 0 0, .bool false] 26)).cell? ⟨w.heap.size, 2, none⟩ = some (.bool false) := HbP0.out.cell 2 (by simp)
  have kQ_0 : (((w.alloc (.cells #[.slice x0 x1 x2, .slice y0 y1 y2, .bool false] 26)).alloc (.cells #[.slice u0 u1 u2, .slice v0 v1 v2, .bool false] 26)).alloc (.cells #[.slice none 0 0, .slice none 0 0, .bool false] 26)).cell? ⟨w.heap.size + 1, 0, none⟩ = some (.slice u0 u1 u2) := HbQ0.out.cell 0 (by simp)
  have kQ_1 : (((w.alloc (.cells #[.slice x0 x1 x2, .slice y0 y1 y2, .bool false] 26)).alloc (.cells #[.slice u0 u1 u2, .slice v0 v1 v2, .bool false] 26)).alloc (.cells #[.slice none 0 0, .slice none 0 0, .bool false] 26)).cell? ⟨w.heap.size + 1, 1, none⟩ = some (.slice v0 v1 v2) := HbQ0.out.cell 1 (by simp)
  have kQ_2 : (((w.alloc (.cells #[.slice x0 x1 x2, .slice y0 y1 y2, .bool false] 26)).alloc (.cells #[.slice u0 u1 u2, .slice v0 v1 v2, .bool false] 26)).alloc (.cells #[.slice none 0 0, .slice none 0 0, .bool false] 26)).cell? ⟨w.heap.size + 1, 2, none⟩ = some (.bool false) := HbQ0.out.cell 2 (by simp)
  go_wp2_with fail
  clear kP_0 kP_1 kP_2 kQ_0 kQ_1 kQ_2
  generalize (((w.alloc (.cells #[.slice x0 x1 x2, .slice y0 y1 y2, .bool false] 26)).alloc (.cells #[.slice u0 u1 u2, .slice v0 v1 v2, .bool false] 26)).alloc (.cells #[.slice none 0 0, .slice none 0 0, .bool false] 26)) = wv2 at *
  have Hx1 : Hid (Mk _ _ _ _ _) := Hx0.out.below Hs1.out
  have Hu1 : Hid (Mk _ _ _ _ _) := Hu0.out.below Hs1.out
  obtain ⟨zq, Hzq⟩ : ∃ z : Int, Hid (z = cmp3 ((X : Nat) : Int) ((U : Nat) : Int)) := ⟨_, rfl⟩
  have hzq : (zq == 0) = true := by rw [Hzq.out, cmp_is0, decide_eq_true HX.out]
  have C := rcmpq Hx1.out.nk.1 Hu1.out.nk.1
  rw [← Hzq.out] at C
  refine C.mono ?_
  clear C
  rintro e wv2 ⟨rfl, rfl⟩
  have kP_0 : wv2.cell? ⟨w.heap.size, 0, none⟩ = some (.slice x0 x1 x2) := HbP0.out.cell 0 (by simp)
  have kP_1 : wv2.cell? ⟨w.heap.size, 1, none⟩ = some (.slice y0 y1 y2) := HbP0.out.cell 1 (by simp)
  have kP_2 : wv2.cell? ⟨w.heap.size, 2, none⟩ = some (.bool false) := HbP0.out.cell 2 (by simp)
  have kQ_0 : wv2.cell? ⟨w.heap.size + 1, 0, none⟩ = some (.slice u0 u1 u2) := HbQ0.out.cell 0 (by simp)
  have kQ_1 : wv2.cell? ⟨w.heap.size + 1, 1, none⟩ = some (.slice v0 v1 v2) := HbQ0.out.cell 1 (by simp)
  have kQ_2 : wv2.cell? ⟨w.heap.size + 1, 2, none⟩ = some (.bool false) := HbQ0.out.cell 2 (by simp)
  go_wp2_with fail
  clear kP_0 kP_1 kP_2 kQ_0 kQ_1 kQ_2
  have Hy1 : Hid (Mk _ _ _ _ _) := Hy0.out.below Hs1.out
  have Hv1 : Hid (Mk _ _ _ _ _) := Hv0.out.below Hs1.out
  refine (addq hk Hy1.out.nq Hv1.out.nq).mono ?_
  rintro e w3 ⟨sv, rfl, m, hB⟩
  have Hs4 : Hid (Below _ _ _) := hB
  obtain ⟨s0, s1, s2, rfl⟩ := m.nk.sl
  have Hs0 : Hid (Mk w3 (w.heap.size + 3) (.slice s0 s1 s2) (fA p Y V) 384) := m.base Hsz.out
  clear m hB
  go_wp2_with fail
  obtain ⟨zs, Hzs⟩ : ∃ z : Int, Hid (z = cmp3 ((fA p Y V : Nat) : Int) ((0 : Nat) : Int)) := ⟨_, rfl⟩
  have hzs : (zs == 0) = true := by rw [Hzs.out, cmp_is0, decide_eq_true HY.out]
  have C := rcmpq Hs0.out.nk.1 (nil_nq _).nk.1
  rw [← Hzs.out] at C
  refine C.mono ?_
  clear C
  rintro e w3 ⟨rfl, rfl⟩
  have HbR1 : Hid (Bl _ _ _ _) := HbR0.out.below Hs4.out HbR0.out.lt
  have HB1 : Hid (Below _ _ _) := HB0.out.trans ((btr Hs1.out Hs4.out).mono HB0.out.size)
  have c0 : w3.cell? ⟨w.heap.size + 2, 0, none⟩ = some (.slice none 0 0) := HbR1.out.cell 0 (by simp)
  have f0 : w3.frozen? ⟨w.heap.size + 2, 0, none⟩ = false := HbR1.out.frozen 0
  have c1 : w3.cell? ⟨w.heap.size + 2, 1, none⟩ = some (.slice none 0 0) := HbR1.out.cell 1 (by simp)
  have f1 : w3.frozen? ⟨w.heap.size + 2, 1, none⟩ = false := HbR1.out.frozen 1
  have c2 : w3.cell? ⟨w.heap.size + 2, 2, none⟩ = some (.bool false) := HbR1.out.cell 2 (by simp)
  have f2 : w3.frozen? ⟨w.heap.size + 2, 2, none⟩ = false := HbR1.out.frozen 2
  go_wp2
  (try simp only [Exit.inBlock, Exit.then])
  have hb := (((But.refl w3 (w.heap.size + 2)).set 0 (.slice none 0 0)).set 1 (.slice none 0 0)).set 2 (.bool true)
  refine bodyPost_ret (v := .agg #[.slice none 0 0, .slice none 0 0, .bool true]) ?_ rfl ⟨_, _, _, _, _, rfl, Mk.none _ _ _, Mk.none _ _ _, (by rw [HX.out]; exact (opp_sum hk.cv (HX.out ▸ HO.out.1) HO.out.2 HY.out).symm), (fun _ => ⟨rfl, rfl⟩), HB1.out.trans (hb.below HB1.out.size (Nat.le_add_right _ _))⟩
  rw [results_cell rfl]; go_simp
set_option maxHeartbeats 20000000 in
theorem sum_chord {c s : Int} {p b n gx gy : Nat} (hk : Kv c p b n gx gy s) (x y u v : Value) (X Y U V : Nat) (w : World) {β : Nat} (hβ : β ≤ w.heap.size) (hx : Mk w β x X 384) (hy : Mk w β y Y 384) (hu : Mk w β u U 384) (hv : Mk w β v V 384) (o1 : onP p b (.A X Y)) (o2 : onP p b (.A U V)) (hX : X ≠ U) :
    Calls Tryz.prog 56 #[.int .i64 c, .agg #[x, y, .bool false], .agg #[u, v, .bool false]] w fun e w' => Sq w w' β e (sm p (.A X Y) (.A U V)) := by
  have HO : Hid (onP p b (.A X Y) ∧ onP p b (.A U V)) := ⟨o1, o2⟩
  have HX : Hid (X ≠ U) := hX
  clear hX
  clear o1 o2
  obtain ⟨x0, x1, x2, rfl⟩ := hx.nk.sl
  have Hx0 : Hid (Mk w β (.slice x0 x1 x2) X 384) := hx
  obtain ⟨y0, y1, y2, rfl⟩ := hy.nk.sl
  have Hy0 : Hid (Mk w β (.slice y0 y1 y2) Y 384) := hy
  obtain ⟨u0, u1, u2, rfl⟩ := hu.nk.sl
  have Hu0 : Hid (Mk w β (.slice u0 u1 u2) U 384) := hu
  obtain ⟨v0, v1, v2, rfl⟩ := hv.nk.sl
  have Hv0 : Hid (Mk w β (.slice v0 v1 v2) V 384) := hv
  have Hold : Hid (∀ g, ((Value.slice x0 x1 x2).ownBlock = some g ∨ (Value.slice y0 y1 y2).ownBlock = some g ∨ (Value.slice u0 u1 u2).ownBlock = some g ∨ (Value.slice v0 v1 v2).ownBlock = some g) → g < w.heap.size) := fun g e => by
    rcases e with e | e | e | e
    · exact (World.ownsRow.lt hx.1 g e).2
    · exact (World.ownsRow.lt hy.1 g e).2
    · exact (World.ownsRow.lt hu.1 g e).2
    · exact (World.ownsRow.lt hv.1 g e).2
  have HB0 : Hid (Below w.heap.size w w) := Below.refl _ _
  have Hβ : Hid (β ≤ w.heap.size) := hβ
  clear hx hy hu hv hβ
  have hfm : Fm w (((w.alloc (.cells #[.slice x0 x1 x2, .slice y0 y1 y2, .bool false] 26)).alloc (.cells #[.slice u0 u1 u2, .slice v0 v1 v2, .bool false] 26)).alloc (.cells #[.slice none 0 0, .slice none 0 0, .bool false] 26)) [(26, [.slice x0 x1 x2, .slice y0 y1 y2, .bool false]), (26, [.slice u0 u1 u2, .slice v0 v1 v2, .bool false]), (26, [.slice none 0 0, .slice none 0 0, .bool false])] [] [] := ((((Fm.nil (w := w) (A := []) ar_nil).push (by simp) 26 [.slice x0 x1 x2, .slice y0 y1 y2, .bool false]).push (by simp) 26 [.slice u0 u1 u2, .slice v0 v1 v2, .bool false]).push (by simp) 26 [.slice none 0 0, .slice none 0 0, .bool false])
  have Hsz : Hid (w.heap.size + 3 ≤ (((w.alloc (.cells #[.slice x0 x1 x2, .slice y0 y1 y2, .bool false] 26)).alloc (.cells #[.slice u0 u1 u2, .slice v0 v1 v2, .bool false] 26)).alloc (.cells #[.slice none 0 0, .slice none 0 0, .bool false] 26)).heap.size) := hfm.sz
  have Hs1 : Hid (Below w.heap.size w (((w.alloc (.cells #[.slice x0 x1 x2, .slice y0 y1 y2, .bool false] 26)).alloc (.cells #[.slice u0 u1 u2, .slice v0 v1 v2, .bool false] 26)).alloc (.cells #[.slice none 0 0, .slice none 0 0, .bool false] 26))) := hfm.bel
  have HbP0 : Hid (Bl 26 (((w.alloc (.cells #[.slice x0 x1 x2, .slice y0 y1 y2, .bool false] 26)).alloc (.cells #[.slice u0 u1 u2, .slice v0 v1 v2, .bool false] 26)).alloc (.cells #[.slice none 0 0, .slice none 0 0, .bool false] 26)) (w.heap.size) [.slice x0 x1 x2, .slice y0 y1 y2, .bool false]) := hfm.bx 0 (by simp)
  have HbQ0 : Hid (Bl 26 (((w.alloc (.cells #[.slice x0 x1 x2, .slice y0 y1 y2, .bool false] 26)).alloc (.cells #[.slice u0 u1 u2, .slice v0 v1 v2, .bool false] 26)).alloc (.cells #[.slice none 0 0, .slice none 0 0, .bool false] 26)) (w.heap.size + 1) [.slice u0 u1 u2, .slice v0 v1 v2, .bool false]) := hfm.bx 1 (by simp)
  have HbR0 : Hid (Bl 26 (((w.alloc (.cells #[.slice x0 x1 x2, .slice y0 y1 y2, .bool false] 26)).alloc (.cells #[.slice u0 u1 u2, .slice v0 v1 v2, .bool false] 26)).alloc (.cells #[.slice none 0 0, .slice none 0 0, .bool false] 26)) (w.heap.size + 2) [.slice none 0 0, .slice none 0 0, .bool false]) := hfm.bx 2 (by simp)
  clear hfm
  go_enter Tryz.func56, Tryz.ntmps56
  have kP_0 : (((w.alloc (.cells #[.slice x0 x1 x2, .slice y0 y1 y2, .bool false] 26)).alloc (.cells #[.slice u0 u1 u2, .slice v0 v1 v2, .bool false] 26)).alloc (.cells #[.slice none 0 0, .slice none 0 0, .bool false] 26)).cell? ⟨w.heap.size, 0, none⟩ = some (.slice x0 x1 x2) := HbP0.out.cell 0 (by simp)
  have kP_1 : (((w.alloc (.cells #[.slice x0 x1 x2, .slice y0 y1 y2, .bool false] 26)).alloc (.cells #[.slice u0 u1 u2, .slice v0 v1 v2, .bool false] 26)).alloc (.cells #[.slice none 0 0, .slice none 0 0, .bool false] 26)).cell? ⟨w.heap.size, 1, none⟩ = some (.slice y0 y1 y2) := HbP0.out.cell 1 (by simp)
  have kP_2 : (((w.alloc (.cells #[.slice x0 x1 x2, .slice y0 y1 y2, .bool false] 26)).alloc (.cells #[.slice u0 u1 u2, .slice v0 v1 v2, .bool false] 26)).alloc (.cells #[.slice none 0 0, .slice none 0 0, .bool false] 26)).cell? ⟨w.heap.size, 2, none⟩ = some (.bool false) := HbP0.out.cell 2 (by simp)
  have kQ_0 : (((w.alloc (.cells #[.slice x0 x1 x2, .slice y0 y1 y2, .bool false] 26)).alloc (.cells #[.slice u0 u1 u2, .slice v0 v1 v2, .bool false] 26)).alloc (.cells #[.slice none 0 0, .slice none 0 0, .bool false] 26)).cell? ⟨w.heap.size + 1, 0, none⟩ = some (.slice u0 u1 u2) := HbQ0.out.cell 0 (by simp)
  have kQ_1 : (((w.alloc (.cells #[.slice x0 x1 x2, .slice y0 y1 y2, .bool false] 26)).alloc (.cells #[.slice u0 u1 u2, .slice v0 v1 v2, .bool false] 26)).alloc (.cells #[.slice none 0 0, .slice none 0 0, .bool false] 26)).cell? ⟨w.heap.size + 1, 1, none⟩ = some (.slice v0 v1 v2) := HbQ0.out.cell 1 (by simp)
  have kQ_2 : (((w.alloc (.cells #[.slice x0 x1 x2, .slice y0 y1 y2, .bool false] 26)).alloc (.cells #[.slice u0 u1 u2, .slice v0 v1 v2, .bool false] 26)).alloc (.cells #[.slice none 0 0, .slice none 0 0, .bool false] 26)).cell? ⟨w.heap.size + 1, 2, none⟩ = some (.bool false) := HbQ0.out.cell 2 (by simp)
  go_wp2_with fail
  clear kP_0 kP_1 kP_2 kQ_0 kQ_1 kQ_2
  generalize (((w.alloc (.cells #[.slice x0 x1 x2, .slice y0 y1 y2, .bool false] 26)).alloc (.cells #[.slice u0 u1 u2, .slice v0 v1 v2, .bool false] 26)).alloc (.cells #[.slice none 0 0, .slice none 0 0, .bool false] 26)) = wv2 at *
  have Hx1 : Hid (Mk _ _ _ _ _) := Hx0.out.below Hs1.out
  have Hu1 : Hid (Mk _ _ _ _ _) := Hu0.out.below Hs1.out
  obtain ⟨zq, Hzq⟩ : ∃ z : Int, Hid (z = cmp3 ((X : Nat) : Int) ((U : Nat) : Int)) := ⟨_, rfl⟩
  have hzq : (zq == 0) = false := by rw [Hzq.out, cmp_is0, decide_eq_false HX.out]
  have C := rcmpq Hx1.out.nk.1 Hu1.out.nk.1
  rw [← Hzq.out] at C
  refine C.mono ?_
  clear C
  rintro e wv2 ⟨rfl, rfl⟩
  go_wp2_with fail
  have Hs3 : Hid (Below wv2.heap.size wv2 wv2.drew) := below_drewN (Below.refl _ _) 1
  have HbP1 : Hid (Bl _ _ _ _) := HbP0.out.below Hs3.out HbP0.out.lt
  have HbQ1 : Hid (Bl _ _ _ _) := HbQ0.out.below Hs3.out HbQ0.out.lt
  refine wp_region_K 13 (fun (w' : World) => w'.cell? ⟨w.heap.size, 0, none⟩ = some (.slice x0 x1 x2) ∧ w'.cell? ⟨w.heap.size, 1, none⟩ = some (.slice y0 y1 y2) ∧ w'.cell? ⟨w.heap.size, 2, none⟩ = some (.bool false) ∧ w'.cell? ⟨w.heap.size + 1, 0, none⟩ = some (.slice u0 u1 u2) ∧ w'.cell? ⟨w.heap.size + 1, 1, none⟩ = some (.slice v0 v1 v2) ∧ w'.cell? ⟨w.heap.size + 1, 2, none⟩ = some (.bool false)) (by kernel_rfl) ?_
  have hHeld : ((fun (w' : World) => w'.cell? ⟨w.heap.size, 0, none⟩ = some (.slice x0 x1 x2) ∧ w'.cell? ⟨w.heap.size, 1, none⟩ = some (.slice y0 y1 y2) ∧ w'.cell? ⟨w.heap.size, 2, none⟩ = some (.bool false) ∧ w'.cell? ⟨w.heap.size + 1, 0, none⟩ = some (.slice u0 u1 u2) ∧ w'.cell? ⟨w.heap.size + 1, 1, none⟩ = some (.slice v0 v1 v2) ∧ w'.cell? ⟨w.heap.size + 1, 2, none⟩ = some (.bool false))) (World.drew _) := ⟨HbP1.out.cell 0 (by simp), HbP1.out.cell 1 (by simp), HbP1.out.cell 2 (by simp), HbQ1.out.cell 0 (by simp), HbQ1.out.cell 1 (by simp), HbQ1.out.cell 2 (by simp)⟩
  refine wpAnyK_take0 0 (v := ?v1) rfl (by kernel_rfl) (fun _ _ _ h => h) (Or.inl ⟨by rfl, ?hy1⟩) (fun _ => hHeld) ?_
  case hy1 => (intro w hSw; go_simp; try with_reducible rfl)
  try simp only [Act.put, List.setIfInBounds_toArray, List.set_cons_zero, List.set_cons_succ]
  refine wpAnyK_take0 1 (v := ?v2) rfl (by kernel_rfl) (fun _ _ _ h => h) (Or.inl ⟨by rfl, ?hy2⟩) (fun _ => hHeld) ?_
  case hy2 => (intro w hSw; go_simp; try with_reducible rfl)
  try simp only [Act.put, List.setIfInBounds_toArray, List.set_cons_zero, List.set_cons_succ]
  refine wpAnyK_take0 2 (v := ?v3) rfl (by kernel_rfl) (fun _ _ _ h => h) (Or.inl ⟨by rfl, ?hy3⟩) (fun _ => hHeld) ?_
  case hy3 => (intro w hSw; go_simp; try with_reducible rfl)
  try simp only [Act.put, List.setIfInBounds_toArray, List.set_cons_zero, List.set_cons_succ]
  refine wpAnyK_take 3 [6, 13] (v := ?v4) rfl (by kernel_rfl) (fun _ _ _ h => h) (Or.inl ⟨by rfl, ?hy4⟩) hHeld ?_
  case hy4 => (intro w hSw; (try dsimp only at hSw); go_simp; try with_reducible rfl)
  try simp only [Act.put, List.setIfInBounds_toArray, List.set_cons_zero, List.set_cons_succ]
  refine wpAnyK_take0 4 (v := ?v5) rfl (by kernel_rfl) (fun _ _ _ h => h) (Or.inl ⟨by rfl, ?hy5⟩) (fun _ => hHeld) ?_
  case hy5 => (intro w hSw; go_simp; try with_reducible rfl)
  try simp only [Act.put, List.setIfInBounds_toArray, List.set_cons_zero, List.set_cons_succ]
  refine wpAnyK_take 5 [6, 13] (v := ?v6) rfl (by kernel_rfl) (fun _ _ _ h => h) (Or.inl ⟨by rfl, ?hy6⟩) hHeld ?_
  case hy6 => (intro w hSw; (try dsimp only at hSw); go_simp; try with_reducible rfl)
  try simp only [Act.put, List.setIfInBounds_toArray, List.set_cons_zero, List.set_cons_succ]
  refine wpAnyK_take0 7 (v := ?v7) rfl (by kernel_rfl) (fun _ _ _ h => h) (Or.inl ⟨by rfl, ?hy7⟩) (fun _ => hHeld) ?_
  case hy7 => (intro w hSw; go_simp; try with_reducible rfl)
  try simp only [Act.put, List.setIfInBounds_toArray, List.set_cons_zero, List.set_cons_succ]
  refine wpAnyK_take0 8 (v := ?v8) rfl (by kernel_rfl) (fun _ _ _ h => h) (Or.inl ⟨by rfl, ?hy8⟩) (fun _ => hHeld) ?_
  case hy8 => (intro w hSw; go_simp; try with_reducible rfl)
  try simp only [Act.put, List.setIfInBounds_toArray, List.set_cons_zero, List.set_cons_succ]
  refine wpAnyK_take 9 [12, 13] (v := ?v9) rfl (by kernel_rfl) (fun _ _ _ h => h) (Or.inl ⟨by rfl, ?hy9⟩) hHeld ?_
  case hy9 => (intro w hSw; (try dsimp only at hSw); go_simp; try with_reducible rfl)
  try simp only [Act.put, List.setIfInBounds_toArray, List.set_cons_zero, List.set_cons_succ]
  refine wpAnyK_take0 10 (v := ?v10) rfl (by kernel_rfl) (fun _ _ _ h => h) (Or.inl ⟨by rfl, ?hy10⟩) (fun _ => hHeld) ?_
  case hy10 => (intro w hSw; go_simp; try with_reducible rfl)
  try simp only [Act.put, List.setIfInBounds_toArray, List.set_cons_zero, List.set_cons_succ]
  refine wpAnyK_take 11 [12, 13] (v := ?v11) rfl (by kernel_rfl) (fun _ _ _ h => h) (Or.inl ⟨by rfl, ?hy11⟩) hHeld ?_
  case hy11 => (intro w hSw; (try dsimp only at hSw); go_simp; try with_reducible rfl)
  try simp only [Act.put, List.setIfInBounds_toArray, List.set_cons_zero, List.set_cons_succ]
  refine wpAnyK_step 6 rfl (by kernel_rfl) (fun K hK => ?_)
  go_simp
  have Hv1 : Hid (Mk _ _ _ _ _) := Hv0.out.below (btr Hs1.out Hs3.out)
  have Hy1 : Hid (Mk _ _ _ _ _) := Hy0.out.below (btr Hs1.out Hs3.out)
  refine (subq hk Hv1.out.nq Hy1.out.nq).mono ?_
  rintro e w4 ⟨d1v, rfl, m, hB⟩
  have Hs5 : Hid (Below _ _ _) := hB
  obtain ⟨d10, d11, d12, rfl⟩ := m.nk.sl
  have Hd10 : Hid (Mk w4 (w.heap.size + 3) (.slice d10 d11 d12) (fS p V Y) 384) := m.base (Nat.le_trans Hsz.out (Hs3.out).size)
  clear m hB
  have HbP2 : Hid (Bl _ _ _ _) := HbP1.out.below Hs5.out HbP1.out.lt
  have HbQ2 : Hid (Bl _ _ _ _) := HbQ1.out.below Hs5.out HbQ1.out.lt
  try dsimp only
  refine (fun hHeld => hK.out _ _ (fun _ => hHeld) ?_) ⟨HbP2.out.cell 0 (by simp), HbP2.out.cell 1 (by simp), HbP2.out.cell 2 (by simp), HbQ2.out.cell 0 (by simp), HbQ2.out.cell 1 (by simp), HbQ2.out.cell 2 (by simp)⟩
  clear hK K
  try simp only [Act.put, List.setIfInBounds_toArray, List.set_cons_zero, List.set_cons_succ]
  refine wpAnyK_step 12 rfl (by kernel_rfl) (fun K hK => ?_)
  go_simp
  have Hu2 : Hid (Mk _ _ _ _ _) := Hu1.out.below (btr Hs3.out Hs5.out)
  have Hx2 : Hid (Mk _ _ _ _ _) := Hx1.out.below (btr Hs3.out Hs5.out)
  refine (subq hk Hu2.out.nq Hx2.out.nq).mono ?_
  rintro e w6 ⟨d2v, rfl, m, hB⟩
  have Hs7 : Hid (Below _ _ _) := hB
  obtain ⟨d20, d21, d22, rfl⟩ := m.nk.sl
  have Hd20 : Hid (Mk w6 (w.heap.size + 3) (.slice d20 d21 d22) (fS p U X) 384) := m.base (Nat.le_trans Hsz.out ((btr Hs3.out Hs5.out)).size)
  clear m hB
  have HbP3 : Hid (Bl _ _ _ _) := HbP2.out.below Hs7.out HbP2.out.lt
  have HbQ3 : Hid (Bl _ _ _ _) := HbQ2.out.below Hs7.out HbQ2.out.lt
  try dsimp only
  refine (fun hHeld => hK.out _ _ (fun _ => hHeld) ?_) ⟨HbP3.out.cell 0 (by simp), HbP3.out.cell 1 (by simp), HbP3.out.cell 2 (by simp), HbQ3.out.cell 0 (by simp), HbQ3.out.cell 1 (by simp), HbQ3.out.cell 2 (by simp)⟩
  clear hK K
  try simp only [Act.put, List.setIfInBounds_toArray, List.set_cons_zero, List.set_cons_succ]
  refine wpAnyK_step 13 rfl (by kernel_rfl) (fun K hK => ?_)
  go_simp
  have Hd11 : Hid (Mk _ _ _ _ _) := Hd10.out.below Hs7.out
  refine (overq hk Hd11.out.nq Hd20.out.nq (diff_pos hk.pm HO.out.1.1 HO.out.2.1 HX.out) (fS_lt hk.pm _ _)).mono ?_
  rintro e w8 ⟨tv, Z, hZ, rfl, m, hB⟩
  have Hs9 : Hid (Below _ _ _) := hB
  obtain ⟨t0, t1, t2, rfl⟩ := m.nk.sl
  have HZ : Hid (Inz (fS p U X) p Z) := hZ
  have Ht0 : Hid (Mk w8 (w.heap.size + 3) (.slice t0 t1 t2) (fM p (fS p V Y) Z) 384) := m.base (Nat.le_trans Hsz.out ((btr Hs3.out (btr Hs5.out Hs7.out))).size)
  clear m hB hZ
  have HbP4 : Hid (Bl _ _ _ _) := HbP3.out.below Hs9.out HbP3.out.lt
  have HbQ4 : Hid (Bl _ _ _ _) := HbQ3.out.below Hs9.out HbQ3.out.lt
  try dsimp only
  refine (fun hHeld => hK.out _ _ (fun _ => hHeld) ?_) ⟨HbP4.out.cell 0 (by simp), HbP4.out.cell 1 (by simp), HbP4.out.cell 2 (by simp), HbQ4.out.cell 0 (by simp), HbQ4.out.cell 1 (by simp), HbQ4.out.cell 2 (by simp)⟩
  clear hK K
  try simp only [Act.put, List.setIfInBounds_toArray, List.set_cons_zero, List.set_cons_succ]
  refine wpAnyK_take0 14 (v := ?v15) rfl (by kernel_rfl) (fun _ _ _ h => h) (Or.inl ⟨by rfl, ?hy15⟩) (fun _ => hHeld) ?_
  case hy15 => (intro w hSw; go_simp; try with_reducible rfl)
  try simp only [Act.put, List.setIfInBounds_toArray, List.set_cons_zero, List.set_cons_succ]
  refine wpAnyK_done (by kernel_rfl) ?_ _
  obtain ⟨T, HT⟩ : ∃ T, Hid (T = fM p (fS p V Y) Z) := ⟨_, rfl⟩
  have HSl : Hid (SlP p X Y U V T) := (by rw [HT.out]; exact doc_chord hk.cv hk.pm HO.out.1 HO.out.2 HX.out HZ.out : SlP p X Y U V T)
  have HNo : Hid (¬ (X = U ∧ (Y + V) % p = 0)) := fun h => HX.out h.1
  have Ht1 : Hid (Mk w8 (w.heap.size + 3) (.slice t0 t1 t2) T 384) := (by rw [HT.out]; exact Ht0.out : Mk _ _ _ _ _)
  go_wp2_with fail
  have Hs10 : Hid (Below w8.heap.size w8 w8.drew) := below_drewN (Below.refl _ _) 1
  have HbP5 : Hid (Bl _ _ _ _) := HbP4.out.below Hs10.out HbP4.out.lt
  have HbQ5 : Hid (Bl _ _ _ _) := HbQ4.out.below Hs10.out HbQ4.out.lt
  refine wp_region_K 11 (fun (w' : World) => w'.cell? ⟨w.heap.size, 0, none⟩ = some (.slice x0 x1 x2) ∧ w'.cell? ⟨w.heap.size, 1, none⟩ = some (.slice y0 y1 y2) ∧ w'.cell? ⟨w.heap.size, 2, none⟩ = some (.bool false) ∧ w'.cell? ⟨w.heap.size + 1, 0, none⟩ = some (.slice u0 u1 u2) ∧ w'.cell? ⟨w.heap.size + 1, 1, none⟩ = some (.slice v0 v1 v2) ∧ w'.cell? ⟨w.heap.size + 1, 2, none⟩ = some (.bool false)) (by kernel_rfl) ?_
  have hHeld : ((fun (w' : World) => w'.cell? ⟨w.heap.size, 0, none⟩ = some (.slice x0 x1 x2) ∧ w'.cell? ⟨w.heap.size, 1, none⟩ = some (.slice y0 y1 y2) ∧ w'.cell? ⟨w.heap.size, 2, none⟩ = some (.bool false) ∧ w'.cell? ⟨w.heap.size + 1, 0, none⟩ = some (.slice u0 u1 u2) ∧ w'.cell? ⟨w.heap.size + 1, 1, none⟩ = some (.slice v0 v1 v2) ∧ w'.cell? ⟨w.heap.size + 1, 2, none⟩ = some (.bool false))) (World.drew _) := ⟨HbP5.out.cell 0 (by simp), HbP5.out.cell 1 (by simp), HbP5.out.cell 2 (by simp), HbQ5.out.cell 0 (by simp), HbQ5.out.cell 1 (by simp), HbQ5.out.cell 2 (by simp)⟩
  refine wpAnyK_take0 0 (v := ?v16) rfl (by kernel_rfl) (fun _ _ _ h => h) (Or.inl ⟨by rfl, ?hy16⟩) (fun _ => hHeld) ?_
  case hy16 => (intro w hSw; go_simp; try with_reducible rfl)
  try simp only [Act.put, List.setIfInBounds_toArray, List.set_cons_zero, List.set_cons_succ]
  refine wpAnyK_take0 1 (v := ?v17) rfl (by kernel_rfl) (fun _ _ _ h => h) (Or.inl ⟨by rfl, ?hy17⟩) (fun _ => hHeld) ?_
  case hy17 => (intro w hSw; go_simp; try with_reducible rfl)
  try simp only [Act.put, List.setIfInBounds_toArray, List.set_cons_zero, List.set_cons_succ]
  refine wpAnyK_take0 2 (v := ?v18) rfl (by kernel_rfl) (fun _ _ _ h => h) (Or.inl ⟨by rfl, ?hy18⟩) (fun _ => hHeld) ?_
  case hy18 => (intro w hSw; go_simp; try with_reducible rfl)
  try simp only [Act.put, List.setIfInBounds_toArray, List.set_cons_zero, List.set_cons_succ]
  refine wpAnyK_take0 3 (v := ?v19) rfl (by kernel_rfl) (fun _ _ _ h => h) (Or.inl ⟨by rfl, ?hy19⟩) (fun _ => hHeld) ?_
  case hy19 => (intro w hSw; go_simp; try with_reducible rfl)
  try simp only [Act.put, List.setIfInBounds_toArray, List.set_cons_zero, List.set_cons_succ]
  refine wpAnyK_take0 4 (v := ?v20) rfl (by kernel_rfl) (fun _ _ _ h => h) (Or.inl ⟨by rfl, ?hy20⟩) (fun _ => hHeld) ?_
  case hy20 => (intro w hSw; go_simp; try with_reducible rfl)
  try simp only [Act.put, List.setIfInBounds_toArray, List.set_cons_zero, List.set_cons_succ]
  refine wpAnyK_take0 6 (v := ?v21) rfl (by kernel_rfl) (fun _ _ _ h => h) (Or.inl ⟨by rfl, ?hy21⟩) (fun _ => hHeld) ?_
  case hy21 => (intro w hSw; go_simp; try with_reducible rfl)
  try simp only [Act.put, List.setIfInBounds_toArray, List.set_cons_zero, List.set_cons_succ]
  refine wpAnyK_take 7 [8, 11] (v := ?v22) rfl (by kernel_rfl) (fun _ _ _ h => h) (Or.inl ⟨by rfl, ?hy22⟩) hHeld ?_
  case hy22 => (intro w hSw; (try dsimp only at hSw); go_simp; try with_reducible rfl)
  try simp only [Act.put, List.setIfInBounds_toArray, List.set_cons_zero, List.set_cons_succ]
  refine wpAnyK_take0 9 (v := ?v23) rfl (by kernel_rfl) (fun _ _ _ h => h) (Or.inl ⟨by rfl, ?hy23⟩) (fun _ => hHeld) ?_
  case hy23 => (intro w hSw; go_simp; try with_reducible rfl)
  try simp only [Act.put, List.setIfInBounds_toArray, List.set_cons_zero, List.set_cons_succ]
  refine wpAnyK_take 10 [11] (v := ?v24) rfl (by kernel_rfl) (fun _ _ _ h => h) (Or.inl ⟨by rfl, ?hy24⟩) hHeld ?_
  case hy24 => (intro w hSw; (try dsimp only at hSw); go_simp; try with_reducible rfl)
  try simp only [Act.put, List.setIfInBounds_toArray, List.set_cons_zero, List.set_cons_succ]
  refine wpAnyK_step 5 rfl (by kernel_rfl) (fun K hK => ?_)
  go_simp
  have Ht2 : Hid (Mk _ _ _ _ _) := Ht1.out.below Hs10.out
  refine (mulq hk Ht2.out.nq Ht2.out.nq).mono ?_
  rintro e w11 ⟨e1v, rfl, m, hB⟩
  have Hs12 : Hid (Below _ _ _) := hB
  obtain ⟨e10, e11, e12, rfl⟩ := m.nk.sl
  have He10 : Hid (Mk w11 (w.heap.size + 3) (.slice e10 e11 e12) (fM p T T) 384) := m.base (Nat.le_trans Hsz.out ((btr Hs3.out (btr Hs5.out (btr Hs7.out (btr Hs9.out Hs10.out))))).size)
  clear m hB
  have HbP6 : Hid (Bl _ _ _ _) := HbP5.out.below Hs12.out HbP5.out.lt
  have HbQ6 : Hid (Bl _ _ _ _) := HbQ5.out.below Hs12.out HbQ5.out.lt
  try dsimp only
  refine (fun hHeld => hK.out _ _ (fun _ => hHeld) ?_) ⟨HbP6.out.cell 0 (by simp), HbP6.out.cell 1 (by simp), HbP6.out.cell 2 (by simp), HbQ6.out.cell 0 (by simp), HbQ6.out.cell 1 (by simp), HbQ6.out.cell 2 (by simp)⟩
  clear hK K
  try simp only [Act.put, List.setIfInBounds_toArray, List.set_cons_zero, List.set_cons_succ]
  refine wpAnyK_step 8 rfl (by kernel_rfl) (fun K hK => ?_)
  go_simp
  have Hx3 : Hid (Mk _ _ _ _ _) := Hx2.out.below (btr Hs7.out (btr Hs9.out (btr Hs10.out Hs12.out)))
  refine (subq hk He10.out.nq Hx3.out.nq).mono ?_
  rintro e w13 ⟨e2v, rfl, m, hB⟩
  have Hs14 : Hid (Below _ _ _) := hB
  obtain ⟨e20, e21, e22, rfl⟩ := m.nk.sl
  have He20 : Hid (Mk w13 (w.heap.size + 3) (.slice e20 e21 e22) (fS p (fM p T T) X) 384) := m.base (Nat.le_trans Hsz.out ((btr Hs3.out (btr Hs5.out (btr Hs7.out (btr Hs9.out (btr Hs10.out Hs12.out)))))).size)
  clear m hB
  have HbP7 : Hid (Bl _ _ _ _) := HbP6.out.below Hs14.out HbP6.out.lt
  have HbQ7 : Hid (Bl _ _ _ _) := HbQ6.out.below Hs14.out HbQ6.out.lt
  try dsimp only
  refine (fun hHeld => hK.out _ _ (fun _ => hHeld) ?_) ⟨HbP7.out.cell 0 (by simp), HbP7.out.cell 1 (by simp), HbP7.out.cell 2 (by simp), HbQ7.out.cell 0 (by simp), HbQ7.out.cell 1 (by simp), HbQ7.out.cell 2 (by simp)⟩
  clear hK K
  try simp only [Act.put, List.setIfInBounds_toArray, List.set_cons_zero, List.set_cons_succ]
  refine wpAnyK_step 11 rfl (by kernel_rfl) (fun K hK => ?_)
  go_simp
  have Hu3 : Hid (Mk _ _ _ _ _) := Hu2.out.below (btr Hs7.out (btr Hs9.out (btr Hs10.out (btr Hs12.out Hs14.out))))
  refine (subq hk He20.out.nq Hu3.out.nq).mono ?_
  rintro e w15 ⟨e3v, rfl, m, hB⟩
  have Hs16 : Hid (Below _ _ _) := hB
  obtain ⟨e30, e31, e32, rfl⟩ := m.nk.sl
  have He30 : Hid (Mk w15 (w.heap.size + 3) (.slice e30 e31 e32) (dX p T X U) 384) := m.base (Nat.le_trans Hsz.out ((btr Hs3.out (btr Hs5.out (btr Hs7.out (btr Hs9.out (btr Hs10.out (btr Hs12.out Hs14.out))))))).size)
  clear m hB
  have HbP8 : Hid (Bl _ _ _ _) := HbP7.out.below Hs16.out HbP7.out.lt
  have HbQ8 : Hid (Bl _ _ _ _) := HbQ7.out.below Hs16.out HbQ7.out.lt
  try dsimp only
  refine (fun hHeld => hK.out _ _ (fun _ => hHeld) ?_) ⟨HbP8.out.cell 0 (by simp), HbP8.out.cell 1 (by simp), HbP8.out.cell 2 (by simp), HbQ8.out.cell 0 (by simp), HbQ8.out.cell 1 (by simp), HbQ8.out.cell 2 (by simp)⟩
  clear hK K
  try simp only [Act.put, List.setIfInBounds_toArray, List.set_cons_zero, List.set_cons_succ]
  refine wpAnyK_take0 12 (v := ?v28) rfl (by kernel_rfl) (fun _ _ _ h => h) (Or.inl ⟨by rfl, ?hy28⟩) (fun _ => hHeld) ?_
  case hy28 => (intro w hSw; go_simp; try with_reducible rfl)
  try simp only [Act.put, List.setIfInBounds_toArray, List.set_cons_zero, List.set_cons_succ]
  refine wpAnyK_done (by kernel_rfl) ?_ _
  go_wp2_with fail
  have Hs17 : Hid (Below w15.heap.size w15 w15.drew) := below_drewN (Below.refl _ _) 1
  have HbP9 : Hid (Bl _ _ _ _) := HbP8.out.below Hs17.out HbP8.out.lt
  have HbQ9 : Hid (Bl _ _ _ _) := HbQ8.out.below Hs17.out HbQ8.out.lt
  refine wp_region_K 11 (fun (w' : World) => w'.cell? ⟨w.heap.size, 0, none⟩ = some (.slice x0 x1 x2) ∧ w'.cell? ⟨w.heap.size, 1, none⟩ = some (.slice y0 y1 y2) ∧ w'.cell? ⟨w.heap.size, 2, none⟩ = some (.bool false) ∧ w'.cell? ⟨w.heap.size + 1, 0, none⟩ = some (.slice u0 u1 u2) ∧ w'.cell? ⟨w.heap.size + 1, 1, none⟩ = some (.slice v0 v1 v2) ∧ w'.cell? ⟨w.heap.size + 1, 2, none⟩ = some (.bool false)) (by kernel_rfl) ?_
  have hHeld : ((fun (w' : World) => w'.cell? ⟨w.heap.size, 0, none⟩ = some (.slice x0 x1 x2) ∧ w'.cell? ⟨w.heap.size, 1, none⟩ = some (.slice y0 y1 y2) ∧ w'.cell? ⟨w.heap.size, 2, none⟩ = some (.bool false) ∧ w'.cell? ⟨w.heap.size + 1, 0, none⟩ = some (.slice u0 u1 u2) ∧ w'.cell? ⟨w.heap.size + 1, 1, none⟩ = some (.slice v0 v1 v2) ∧ w'.cell? ⟨w.heap.size + 1, 2, none⟩ = some (.bool false))) (World.drew _) := ⟨HbP9.out.cell 0 (by simp), HbP9.out.cell 1 (by simp), HbP9.out.cell 2 (by simp), HbQ9.out.cell 0 (by simp), HbQ9.out.cell 1 (by simp), HbQ9.out.cell 2 (by simp)⟩
  refine wpAnyK_take0 0 (v := ?v29) rfl (by kernel_rfl) (fun _ _ _ h => h) (Or.inl ⟨by rfl, ?hy29⟩) (fun _ => hHeld) ?_
  case hy29 => (intro w hSw; go_simp; try with_reducible rfl)
  try simp only [Act.put, List.setIfInBounds_toArray, List.set_cons_zero, List.set_cons_succ]
  refine wpAnyK_take0 1 (v := ?v30) rfl (by kernel_rfl) (fun _ _ _ h => h) (Or.inl ⟨by rfl, ?hy30⟩) (fun _ => hHeld) ?_
  case hy30 => (intro w hSw; go_simp; try with_reducible rfl)
  try simp only [Act.put, List.setIfInBounds_toArray, List.set_cons_zero, List.set_cons_succ]
  refine wpAnyK_take0 2 (v := ?v31) rfl (by kernel_rfl) (fun _ _ _ h => h) (Or.inl ⟨by rfl, ?hy31⟩) (fun _ => hHeld) ?_
  case hy31 => (intro w hSw; go_simp; try with_reducible rfl)
  try simp only [Act.put, List.setIfInBounds_toArray, List.set_cons_zero, List.set_cons_succ]
  refine wpAnyK_take0 3 (v := ?v32) rfl (by kernel_rfl) (fun _ _ _ h => h) (Or.inl ⟨by rfl, ?hy32⟩) (fun _ => hHeld) ?_
  case hy32 => (intro w hSw; go_simp; try with_reducible rfl)
  try simp only [Act.put, List.setIfInBounds_toArray, List.set_cons_zero, List.set_cons_succ]
  refine wpAnyK_take0 4 (v := ?v33) rfl (by kernel_rfl) (fun _ _ _ h => h) (Or.inl ⟨by rfl, ?hy33⟩) (fun _ => hHeld) ?_
  case hy33 => (intro w hSw; go_simp; try with_reducible rfl)
  try simp only [Act.put, List.setIfInBounds_toArray, List.set_cons_zero, List.set_cons_succ]
  refine wpAnyK_take 5 [7, 8, 11] (v := ?v34) rfl (by kernel_rfl) (fun _ _ _ h => h) (Or.inl ⟨by rfl, ?hy34⟩) hHeld ?_
  case hy34 => (intro w hSw; (try dsimp only at hSw); go_simp; try with_reducible rfl)
  try simp only [Act.put, List.setIfInBounds_toArray, List.set_cons_zero, List.set_cons_succ]
  refine wpAnyK_take0 6 (v := ?v35) rfl (by kernel_rfl) (fun _ _ _ h => h) (Or.inl ⟨by rfl, ?hy35⟩) (fun _ => hHeld) ?_
  case hy35 => (intro w hSw; go_simp; try with_reducible rfl)
  try simp only [Act.put, List.setIfInBounds_toArray, List.set_cons_zero, List.set_cons_succ]
  refine wpAnyK_take0 9 (v := ?v36) rfl (by kernel_rfl) (fun _ _ _ h => h) (Or.inl ⟨by rfl, ?hy36⟩) (fun _ => hHeld) ?_
  case hy36 => (intro w hSw; go_simp; try with_reducible rfl)
  try simp only [Act.put, List.setIfInBounds_toArray, List.set_cons_zero, List.set_cons_succ]
  refine wpAnyK_take 10 [11] (v := ?v37) rfl (by kernel_rfl) (fun _ _ _ h => h) (Or.inl ⟨by rfl, ?hy37⟩) hHeld ?_
  case hy37 => (intro w hSw; (try dsimp only at hSw); go_simp; try with_reducible rfl)
  try simp only [Act.put, List.setIfInBounds_toArray, List.set_cons_zero, List.set_cons_succ]
  refine wpAnyK_step 7 rfl (by kernel_rfl) (fun K hK => ?_)
  go_simp
  have Hx4 : Hid (Mk _ _ _ _ _) := Hx3.out.below (btr Hs14.out (btr Hs16.out Hs17.out))
  have He31 : Hid (Mk _ _ _ _ _) := He30.out.below Hs17.out
  refine (subq hk Hx4.out.nq He31.out.nq).mono ?_
  rintro e w18 ⟨e4v, rfl, m, hB⟩
  have Hs19 : Hid (Below _ _ _) := hB
  obtain ⟨e40, e41, e42, rfl⟩ := m.nk.sl
  have He40 : Hid (Mk w18 (w.heap.size + 3) (.slice e40 e41 e42) (fS p X (dX p T X U)) 384) := m.base (Nat.le_trans Hsz.out ((btr Hs3.out (btr Hs5.out (btr Hs7.out (btr Hs9.out (btr Hs10.out (btr Hs12.out (btr Hs14.out (btr Hs16.out Hs17.out))))))))).size)
  clear m hB
  have HbP10 : Hid (Bl _ _ _ _) := HbP9.out.below Hs19.out HbP9.out.lt
  have HbQ10 : Hid (Bl _ _ _ _) := HbQ9.out.below Hs19.out HbQ9.out.lt
  try dsimp only
  refine (fun hHeld => hK.out _ _ (fun _ => hHeld) ?_) ⟨HbP10.out.cell 0 (by simp), HbP10.out.cell 1 (by simp), HbP10.out.cell 2 (by simp), HbQ10.out.cell 0 (by simp), HbQ10.out.cell 1 (by simp), HbQ10.out.cell 2 (by simp)⟩
  clear hK K
  try simp only [Act.put, List.setIfInBounds_toArray, List.set_cons_zero, List.set_cons_succ]
  refine wpAnyK_step 8 rfl (by kernel_rfl) (fun K hK => ?_)
  go_simp
  have Ht3 : Hid (Mk _ _ _ _ _) := Ht2.out.below (btr Hs12.out (btr Hs14.out (btr Hs16.out (btr Hs17.out Hs19.out))))
  refine (mulq hk Ht3.out.nq He40.out.nq).mono ?_
  rintro e w20 ⟨e5v, rfl, m, hB⟩
  have Hs21 : Hid (Below _ _ _) := hB
  obtain ⟨e50, e51, e52, rfl⟩ := m.nk.sl
  have He50 : Hid (Mk w20 (w.heap.size + 3) (.slice e50 e51 e52) (fM p T (fS p X (dX p T X U))) 384) := m.base (Nat.le_trans Hsz.out ((btr Hs3.out (btr Hs5.out (btr Hs7.out (btr Hs9.out (btr Hs10.out (btr Hs12.out (btr Hs14.out (btr Hs16.out (btr Hs17.out Hs19.out)))))))))).size)
  clear m hB
  have HbP11 : Hid (Bl _ _ _ _) := HbP10.out.below Hs21.out HbP10.out.lt
  have HbQ11 : Hid (Bl _ _ _ _) := HbQ10.out.below Hs21.out HbQ10.out.lt
  try dsimp only
  refine (fun hHeld => hK.out _ _ (fun _ => hHeld) ?_) ⟨HbP11.out.cell 0 (by simp), HbP11.out.cell 1 (by simp), HbP11.out.cell 2 (by simp), HbQ11.out.cell 0 (by simp), HbQ11.out.cell 1 (by simp), HbQ11.out.cell 2 (by simp)⟩
  clear hK K
  try simp only [Act.put, List.setIfInBounds_toArray, List.set_cons_zero, List.set_cons_succ]
  refine wpAnyK_step 11 rfl (by kernel_rfl) (fun K hK => ?_)
  go_simp
  have Hy2 : Hid (Mk _ _ _ _ _) := Hy1.out.below (btr Hs5.out (btr Hs7.out (btr Hs9.out (btr Hs10.out (btr Hs12.out (btr Hs14.out (btr Hs16.out (btr Hs17.out (btr Hs19.out Hs21.out)))))))))
  refine (subq hk He50.out.nq Hy2.out.nq).mono ?_
  rintro e w22 ⟨e6v, rfl, m, hB⟩
  have Hs23 : Hid (Below _ _ _) := hB
  obtain ⟨e60, e61, e62, rfl⟩ := m.nk.sl
  have He60 : Hid (Mk w22 (w.heap.size + 3) (.slice e60 e61 e62) (dY p T X (dX p T X U) Y) 384) := m.base (Nat.le_trans Hsz.out ((btr Hs3.out (btr Hs5.out (btr Hs7.out (btr Hs9.out (btr Hs10.out (btr Hs12.out (btr Hs14.out (btr Hs16.out (btr Hs17.out (btr Hs19.out Hs21.out))))))))))).size)
  clear m hB
  have HbP12 : Hid (Bl _ _ _ _) := HbP11.out.below Hs23.out HbP11.out.lt
  have HbQ12 : Hid (Bl _ _ _ _) := HbQ11.out.below Hs23.out HbQ11.out.lt
  try dsimp only
  refine (fun hHeld => hK.out _ _ (fun _ => hHeld) ?_) ⟨HbP12.out.cell 0 (by simp), HbP12.out.cell 1 (by simp), HbP12.out.cell 2 (by simp), HbQ12.out.cell 0 (by simp), HbQ12.out.cell 1 (by simp), HbQ12.out.cell 2 (by simp)⟩
  clear hK K
  try simp only [Act.put, List.setIfInBounds_toArray, List.set_cons_zero, List.set_cons_succ]
  refine wpAnyK_take0 12 (v := ?v41) rfl (by kernel_rfl) (fun _ _ _ h => h) (Or.inl ⟨by rfl, ?hy41⟩) (fun _ => hHeld) ?_
  case hy41 => (intro w hSw; go_simp; try with_reducible rfl)
  try simp only [Act.put, List.setIfInBounds_toArray, List.set_cons_zero, List.set_cons_succ]
  refine wpAnyK_done (by kernel_rfl) ?_ _
  have He32 : Hid (Mk _ _ _ _ _) := He31.out.below (btr Hs19.out (btr Hs21.out Hs23.out))
  have HbR1 : Hid (Bl _ _ _ _) := HbR0.out.below (btr Hs3.out (btr Hs5.out (btr Hs7.out (btr Hs9.out (btr Hs10.out (btr Hs12.out (btr Hs14.out (btr Hs16.out (btr Hs17.out (btr Hs19.out (btr Hs21.out Hs23.out))))))))))) HbR0.out.lt
  have HB1 : Hid (Below _ _ _) := HB0.out.trans ((btr Hs1.out (btr Hs3.out (btr Hs5.out (btr Hs7.out (btr Hs9.out (btr Hs10.out (btr Hs12.out (btr Hs14.out (btr Hs16.out (btr Hs17.out (btr Hs19.out (btr Hs21.out Hs23.out)))))))))))).mono HB0.out.size)
  have c0 : w22.cell? ⟨w.heap.size + 2, 0, none⟩ = some (.slice none 0 0) := HbR1.out.cell 0 (by simp)
  have f0 : w22.frozen? ⟨w.heap.size + 2, 0, none⟩ = false := HbR1.out.frozen 0
  have c1 : w22.cell? ⟨w.heap.size + 2, 1, none⟩ = some (.slice none 0 0) := HbR1.out.cell 1 (by simp)
  have f1 : w22.frozen? ⟨w.heap.size + 2, 1, none⟩ = false := HbR1.out.frozen 1
  have c2 : w22.cell? ⟨w.heap.size + 2, 2, none⟩ = some (.bool false) := HbR1.out.cell 2 (by simp)
  have f2 : w22.frozen? ⟨w.heap.size + 2, 2, none⟩ = false := HbR1.out.frozen 2
  go_wp2
  (try simp only [Exit.inBlock, Exit.then])
  have hb := (((But.refl w22 (w.heap.size + 2)).set 0 (.slice e30 e31 e32)).set 1 (.slice e60 e61 e62)).set 2 (.bool false)
  refine bodyPost_ret (v := .agg #[.slice e30 e31 e32, .slice e60 e61 e62, .bool false]) ?_ rfl ⟨_, _, _, _, _, rfl, (He32.out.but hb (by omega)).base (Nat.le_trans Hβ.out (Nat.le_add_right _ 3)), (He60.out.but hb (by omega)).base (Nat.le_trans Hβ.out (Nat.le_add_right _ 3)), (doc_sum hk.cv hk.pm HO.out.1 HO.out.2 HNo.out HSl.out).symm, (fun h => by cases h), HB1.out.trans (hb.below HB1.out.size (Nat.le_add_right _ _))⟩
  rw [results_cell rfl]; go_simp
end Go.Proofs.YtmngdaolgdhgmaaGreatDoor
