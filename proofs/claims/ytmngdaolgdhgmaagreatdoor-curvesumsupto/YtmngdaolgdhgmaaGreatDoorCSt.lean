import Derived.Test.YtmngdaolgdhgmaaGreatDoorCSu
import Derived.Deep.CutRange
namespace Go.Proofs.YtmngdaolgdhgmaaGreatDoor
open Go.RowKit

set_option maxRecDepth 100000

set_option maxHeartbeats 20000000 in
theorem sum_tan {c s : Int} {p b n gx gy : Nat} (hk : Kv c p b n gx gy s) (x y u v : Value) (X Y U V : Nat) (w : World) {β : Nat} (hβ : β ≤ w.heap.size) (hx : Mk w β x X 384) (hy : Mk w β y Y 384) (hu : Mk w β u U 384) (hv : Mk w β v V 384) (o1 : onP p b (.A X Y)) (o2 : onP p b (.A U V)) (hX : X = U) (hY : fA p Y V ≠ 0) :
    Calls Tryz.prog 56 #[.int .i64 c, .agg #[x, y, .bool false], .agg #[u, v, .bool false]] w fun e w' => Sq w w' β e (sm p (.A X Y) (.A U V)) := by
  have HO : Hid (onP p b (.A X Y) ∧ onP p b (.A U V)) := ⟨o1, o2⟩
  have HX : Hid (X = U) := hX
  have HY : Hid (fA p Y V ≠ 0) := hY
  clear hX hY
  clear o1 o2
  obtain ⟨x0, x1, x2, rfl⟩ := hx.nk.sl
  have Hx0 : Hid (Mk w β (.slice x0 x1 x2) X 384) := hx
  obtain ⟨y0, y1, y2, rfl⟩ := hy.nk.sl
  have Hy0 : Hid (Mk w β (.slice y0 y1 y2) Y 384) := hy
  obtain ⟨u0, u1, u2, rfl⟩ := hu.nk.sl
  have Hu0 : Hid (Mk w β (.slice u0 u1 u2) U 384) := hu
  obtain ⟨v0, v1, v2, rfl⟩ := hv.nk.sl
  have Hv0 : Hid (Mk w β (.slice v0 v1 v2) V 384) := hv
  have Hold : Hid (∀ g, ((Value.slice x0 x1 x2).ownBlock = some g ∨ (Value.slice y0 y1 y2).ownBlock = some g ∨ (Value.slice u0 u1 u2).ownBlock = some g ∨ (Value.slice v0 v1 v2).ownBlock = some g) → g < w.heap.size) := fun g e => by
    rcases e with e | e | e | e
    · exact (World.ownsRow.lt hx.1 g e).2
    · exact (World.ownsRow.lt hy.1 g e).2
    · exact (World.ownsRow.lt hu.1 g e).2
    · exact (World.ownsRow.lt hv.1 g e).2
  have HB0 : Hid (Below w.heap.size w w) := Below.refl _ _
  have Hβ : Hid (β ≤ w.heap.size) := hβ
  clear hx hy hu hv hβ
  have hfm : Fm w (((w.alloc (.cells #[.slice x0 x1 x2, .slice y0 y1 y2, .bool false] 26)).alloc (.cells #[.slice u0 u1 u2, .slice v0 v1 v2, .bool false] 26)).alloc (.cells #[.slice none 0 0, .slice none 0 0, .bool false] 26)) [(26, [.slice x0 x1 x2, .slice y0 y1 y2, .bool false]), (26, [.slice u0 u1 u2, .slice v0 v1 v2, .bool false]), (26, [.slice none 0 0, .slice none 0 0, .bool false])] [] [] := ((((Fm.nil (w := w) (A := []) ar_nil).push (by simp) 26 [.slice x0 x1 x2, .slice y0 y1 y2, .bool false]).push (by simp) 26 [.slice u0 u1 u2, .slice v0 v1 v2, .bool false]).push (by simp) 26 [.slice none 0 0, .slice none 0 0, .bool false])
  have Hsz : Hid (w.heap.size + 3 ≤ (((w.alloc (.cells #[.slice x0 x1 x2, .slice y0 y1 y2, .bool false] 26)).alloc (.cells #[.slice u0 u1 u2, .slice v0 v1 v2, .bool false] 26)).alloc (.cells #[.slice none 0 0, .slice none 0 0, .bool false] 26)).heap.size) := hfm.sz
  have Hs1 : Hid (Below w.heap.size w (((w.alloc (.cells #[.slice x0 x1 x2, .slice y0 y1 y2, .bool false] 26)).alloc (.cells #[.slice u0 u1 u2, .slice v0 v1 v2, .bool false] 26)).alloc (.cells #[.slice none 0 0, .slice none 0 0, .bool false] 26))) := hfm.bel
  have HbP0 : Hid (Bl 26 (((w.alloc (.cells #[.slice x0 x1 x2, .slice y0 y1 y2, .bool false] 26)).alloc (.cells #[.slice u0 u1 u2, .slice v0 v1 v2, .bool false] 26)).alloc (.cells #[.slice none 0 0, .slice none 0 0, .bool false] 26)) (w.heap.size) [.slice x0 x1 x2, .slice y0 y1 y2, .bool false]) := hfm.bx 0 (by simp)
  have HbQ0 : Hid (Bl 26 (((w.alloc (.cells #[.slice x0 x1 x2, .slice y0 y1 y2, .bool false] 26)).alloc (.cells #[.slice u0 u1 u2, .slice v0 v1 v2, .bool false] 26)).alloc (.cells #[.slice none 0 0, .slice none 0 0, .bool false] 26)) (w.heap.size + 1) [.slice u0 u1 u2, .slice v0 v1 v2, .bool false]) := hfm.bx 1 (by simp)
  have HbR0 : Hid (Bl 26 (((w.alloc (.cells #[.slice x0 x1 x2, .slice y0 y1 y2, .bool false] 26)).alloc (.cells #[.slice u0 u1 u2, .slice v0 v1 v2, .bool false] 26)).alloc (.cells #[.slice none 0 0, .slice none 0 0, .bool false] 26)) (w.heap.size + 2) [.slice none 0 0, .slice none 0 0, .bool false]) := hfm.bx 2 (by simp)
  clear hfm
  go_enter Tryz.func56, Tryz.ntmps56
  have kP_0 : (((w.alloc (.cells #[.slice x0 x1 x2, .slice y0 y1 y2, .bool false] 26)).alloc (.cells #[.slice u0 u1 u2, .slice v0 v1 v2, .bool false] 26)).alloc (.cells #[.slice none 0 0, .slice none 0 0, .bool false] 26)).cell? ⟨w.heap.size, 0, none⟩ = some (.slice x0 x1 x2) := HbP0.out.cell 0 (by simp)
  have kP_1 : (((w.alloc (.cells #[.slice x0 x1 x2, .slice y0 y1 y2, .bool false] 26)).alloc (.cells #[.slice u0 u1 u2, .slice v0 v1 v2, .bool false] 26)).alloc (.cells #[.slice none 0 0, .slice none 0 0, .bool false] 26)).cell? ⟨w.heap.size, 1, none⟩ = some (.slice y0 y1 y2) := HbP0.out.cell 1 (by simp)
  have kP_2 : (((w.alloc (.cells #[.slice x0 x1 x2, .slice y0 y1 y2, .bool false] 26)).alloc (.cells #[.slice u0 u1 u2, .slice v0 v1 v2, .bool false] 26)).alloc (.cells #[.slice none 0 0, .slice none 0 0, .bool false] 26)).cell? ⟨w.heap.size, 2, none⟩ = some (.bool false) := HbP0.out.cell 2 (by simp)
  have kQ_0 : (((w.alloc (.cells #[.slice x0 x1 x2, .slice y0 y1 y2, .bool false] 26)).alloc (.cells #[.slice u0 u1 u2, .slice v0 v1 v2, .bool false] 26)).alloc (.cells #[.slice none 0 0, .slice none 0 0, .bool false] 26)).cell? ⟨w.heap.size + 1, 0, none⟩ = some (.slice u0 u1 u2) := HbQ0.out.cell 0 (by simp)
  have kQ_1 : (((w.alloc (.cells #[.slice x0 x1 x2, .slice y0 y1 y2, .bool false] 26)).alloc (.cells #[.slice u0 u1 u2, .slice v0 v1 v2, .bool false] 26)).alloc (.cells #[.slice none 0 0, .slice none 0 0, .bool false] 26)).cell? ⟨w.heap.size + 1, 1, none⟩ = some (.slice v0 v1 v2) := HbQ0.out.cell 1 (by simp)
  have kQ_2 : (((w.alloc (.cells #[.slice x0 x1 x2, .slice y0 y1 y2, .bool false] 26)).alloc (.cells #[.slice u0 u1 u2, .slice v0 v1 v2, .bool false] 26)).alloc (.cells #[.slice none 0 0, .slice none 0 0, .bool false] 26)).cell? ⟨w.heap.size + 1, 2, none⟩ = some (.bool false) := HbQ0.out.cell 2 (by simp)
  go_wp2_with fail
  clear kP_0 kP_1 kP_2 kQ_0 kQ_1 kQ_2
  generalize (((w.alloc (.cells #[.slice x0 x1 x2, .slice y0 y1 y2, .bool false] 26)).alloc (.cells #[.slice u0 u1 u2, .slice v0 v1 v2, .bool false] 26)).alloc (.cells #[.slice none 0 0, .slice none 0 0, .bool false] 26)) = wv2 at *
  have Hx1 : Hid (Mk _ _ _ _ _) := Hx0.out.below Hs1.out
  have Hu1 : Hid (Mk _ _ _ _ _) := Hu0.out.below Hs1.out
  obtain ⟨zq, Hzq⟩ : ∃ z : Int, Hid (z = cmp3 ((X : Nat) : Int) ((U : Nat) : Int)) := ⟨_, rfl⟩
  have hzq : (zq == 0) = true := by rw [Hzq.out, cmp_is0, decide_eq_true HX.out]
  have C := rcmpq Hx1.out.nk.1 Hu1.out.nk.1
  rw [← Hzq.out] at C
  refine C.mono ?_
  clear C
  rintro e wv2 ⟨rfl, rfl⟩
  have kP_0 : wv2.cell? ⟨w.heap.size, 0, none⟩ = some (.slice x0 x1 x2) := HbP0.out.cell 0 (by simp)
  have kP_1 : wv2.cell? ⟨w.heap.size, 1, none⟩ = some (.slice y0 y1 y2) := HbP0.out.cell 1 (by simp)
  have kP_2 : wv2.cell? ⟨w.heap.size, 2, none⟩ = some (.bool false) := HbP0.out.cell 2 (by simp)
  have kQ_0 : wv2.cell? ⟨w.heap.size + 1, 0, none⟩ = some (.slice u0 u1 u2) := HbQ0.out.cell 0 (by simp)
  have kQ_1 : wv2.cell? ⟨w.heap.size + 1, 1, none⟩ = some (.slice v0 v1 v2) := HbQ0.out.cell 1 (by simp)
  have kQ_2 : wv2.cell? ⟨w.heap.size + 1, 2, none⟩ = some (.bool false) := HbQ0.out.cell 2 (by simp)
  go_wp2_with fail
  clear kP_0 kP_1 kP_2 kQ_0 kQ_1 kQ_2
  have Hy1 : Hid (Mk _ _ _ _ _) := Hy0.out.below Hs1.out
  have Hv1 : Hid (Mk _ _ _ _ _) := Hv0.out.below Hs1.out
  refine (addq hk Hy1.out.nq Hv1.out.nq).mono ?_
  rintro e w3 ⟨sv, rfl, m, hB⟩
  have Hs4 : Hid (Below _ _ _) := hB
  obtain ⟨s0, s1, s2, rfl⟩ := m.nk.sl
  have Hs0 : Hid (Mk w3 (w.heap.size + 3) (.slice s0 s1 s2) (fA p Y V) 384) := m.base Hsz.out
  clear m hB
  go_wp2_with fail
  obtain ⟨zs, Hzs⟩ : ∃ z : Int, Hid (z = cmp3 ((fA p Y V : Nat) : Int) ((0 : Nat) : Int)) := ⟨_, rfl⟩
  have hzs : (zs == 0) = false := by rw [Hzs.out, cmp_is0, decide_eq_false HY.out]
  have C := rcmpq Hs0.out.nk.1 (nil_nq _).nk.1
  rw [← Hzs.out] at C
  refine C.mono ?_
  clear C
  rintro e w3 ⟨rfl, rfl⟩
  go_wp2_with fail
  have HbP1 : Hid (Bl _ _ _ _) := HbP0.out.below Hs4.out HbP0.out.lt
  have Hx2 : Hid (Mk _ _ _ _ _) := Hx1.out.below Hs4.out
  have Hy2 : Hid (Mk _ _ _ _ _) := Hy1.out.below Hs4.out
  have HW0 : Hid (w.heap.size + 3 ≤ w3.heap.size) := Nat.le_trans Hsz.out (Hs4.out).size
  go_cut [7] from 31 to 49 (fun s7 wx => ∃ (w' : World) (t0 : Option Addr) (t1 t2 Z : Nat), w' = wx ∧ s7 = .slice t0 t1 t2 ∧ Hid (Inz (fM p 2 Y) p Z ∧ Mk w' (w.heap.size + 3) (.slice t0 t1 t2) (fM p (fS p (fM p 3 (fM p X X)) 3) Z) 384 ∧ Below w3.heap.size w3 w'))
  case first =>
    have HR : Hid (Rg w3 w3.drew w.heap.size [.slice x0 x1 x2, .slice y0 y1 y2, .bool false] [(.slice x0 x1 x2, X), (.slice y0 y1 y2, Y)]) := ⟨HbP1.out, (fun q hq => by simp only [List.mem_cons, List.not_mem_nil, or_false] at hq; rcases hq with rfl | rfl; exact Hx2.out.nq; exact Hy2.out.nq : Pool _ _), below_drewN (Below.refl _ _) 1⟩
    refine wp_region_K 18 (fun (w' : World) => w'.cell? ⟨w.heap.size, 0, none⟩ = some (.slice x0 x1 x2) ∧ w'.cell? ⟨w.heap.size, 1, none⟩ = some (.slice y0 y1 y2)) (by kernel_rfl) ?_
    have hHeld : ((fun (w' : World) => w'.cell? ⟨w.heap.size, 0, none⟩ = some (.slice x0 x1 x2) ∧ w'.cell? ⟨w.heap.size, 1, none⟩ = some (.slice y0 y1 y2))) (World.drew _) := HR.out.k
    refine wpAnyK_take0 0 (v := ?v42) rfl (by kernel_rfl) (fun _ _ _ h => h) (Or.inl ⟨by rfl, ?hy42⟩) (fun _ => hHeld) ?_
    case hy42 => (intro w hSw; go_simp; try with_reducible rfl)
    try simp only [Act.put, List.setIfInBounds_toArray, List.set_cons_zero, List.set_cons_succ]
    refine wpAnyK_take0 1 (v := ?v43) rfl (by kernel_rfl) (fun _ _ _ h => h) (Or.inl ⟨by rfl, ?hy43⟩) (fun _ => hHeld) ?_
    case hy43 => (intro w hSw; go_simp; try with_reducible rfl)
    try simp only [Act.put, List.setIfInBounds_toArray, List.set_cons_zero, List.set_cons_succ]
    refine wpAnyK_take0 2 (v := ?v44) rfl (by kernel_rfl) (fun _ _ _ h => h) (Or.inl ⟨by rfl, ?hy44⟩) (fun _ => hHeld) ?_
    case hy44 => (intro w hSw; go_simp; try with_reducible rfl)
    try simp only [Act.put, List.setIfInBounds_toArray, List.set_cons_zero, List.set_cons_succ]
    refine wpAnyK_take0 4 (v := ?v45) rfl (by kernel_rfl) (fun _ _ _ h => h) (Or.inl ⟨by rfl, ?hy45⟩) (fun _ => hHeld) ?_
    case hy45 => (intro w hSw; go_simp; try with_reducible rfl)
    try simp only [Act.put, List.setIfInBounds_toArray, List.set_cons_zero, List.set_cons_succ]
    refine wpAnyK_take0 5 (v := ?v46) rfl (by kernel_rfl) (fun _ _ _ h => h) (Or.inl ⟨by rfl, ?hy46⟩) (fun _ => hHeld) ?_
    case hy46 => (intro w hSw; go_simp; try with_reducible rfl)
    try simp only [Act.put, List.setIfInBounds_toArray, List.set_cons_zero, List.set_cons_succ]
    refine wpAnyK_take 6 [9, 10, 12, 18] (v := ?v47) rfl (by kernel_rfl) (fun _ _ _ h => h) (Or.inl ⟨by rfl, ?hy47⟩) hHeld ?_
    case hy47 => (intro w hSw; (try dsimp only at hSw); go_simp; try with_reducible rfl)
    try simp only [Act.put, List.setIfInBounds_toArray, List.set_cons_zero, List.set_cons_succ]
    refine wpAnyK_take0 7 (v := ?v48) rfl (by kernel_rfl) (fun _ _ _ h => h) (Or.inl ⟨by rfl, ?hy48⟩) (fun _ => hHeld) ?_
    case hy48 => (intro w hSw; go_simp; try with_reducible rfl)
    try simp only [Act.put, List.setIfInBounds_toArray, List.set_cons_zero, List.set_cons_succ]
    refine wpAnyK_take 8 [9, 10, 12, 18] (v := ?v49) rfl (by kernel_rfl) (fun _ _ _ h => h) (Or.inl ⟨by rfl, ?hy49⟩) hHeld ?_
    case hy49 => (intro w hSw; (try dsimp only at hSw); go_simp; try with_reducible rfl)
    try simp only [Act.put, List.setIfInBounds_toArray, List.set_cons_zero, List.set_cons_succ]
    refine wpAnyK_take0 13 (v := ?v50) rfl (by kernel_rfl) (fun _ _ _ h => h) (Or.inl ⟨by rfl, ?hy50⟩) (fun _ => hHeld) ?_
    case hy50 => (intro w hSw; go_simp; try with_reducible rfl)
    try simp only [Act.put, List.setIfInBounds_toArray, List.set_cons_zero, List.set_cons_succ]
    refine wpAnyK_take0 15 (v := ?v51) rfl (by kernel_rfl) (fun _ _ _ h => h) (Or.inl ⟨by rfl, ?hy51⟩) (fun _ => hHeld) ?_
    case hy51 => (intro w hSw; go_simp; try with_reducible rfl)
    try simp only [Act.put, List.setIfInBounds_toArray, List.set_cons_zero, List.set_cons_succ]
    refine wpAnyK_take 16 [17, 18] (v := ?v52) rfl (by kernel_rfl) (fun _ _ _ h => h) (Or.inl ⟨by rfl, ?hy52⟩) hHeld ?_
    case hy52 => (intro w hSw; (try dsimp only at hSw); go_simp; try with_reducible rfl)
    try simp only [Act.put, List.setIfInBounds_toArray, List.set_cons_zero, List.set_cons_succ]
    generalize hwd : w3.drew = wd at *
    clear hwd
    refine rdy4 3 9 11 14 rfl rfl rfl rfl (by kernel_rfl) (fun K hK => ?_) (fun K hK => ?_) (fun K hK => ?_) (fun K hK => ?_)
    ·
     go_simp
     have HR : Hid (Rg _ _ _ _ _) := HR.out.lit 3 ltB3 ltQ3; refine hK.out _ _ (fun _ => HR.out.k) ?_
     refine rdy3 9 11 14 rfl rfl rfl (by kernel_rfl) (fun K hK => ?_) (fun K hK => ?_) (fun K hK => ?_)
     ·
      go_simp
      refine (mulq hk (HR.out.p (_, X) (by simp)) (HR.out.p (_, X) (by simp))).mono ?_; rintro e wn ⟨rv, rfl, m, hB⟩; obtain ⟨ka0, ka1, ka2, rfl⟩ := m.nk.sl; have HR : Hid (Rg _ _ _ _ _) := HR.out.below hB m; clear m hB; refine hK.out _ _ (fun _ => HR.out.k) ?_; clear hK K; try simp only [Act.put, List.setIfInBounds_toArray, List.set_cons_zero, List.set_cons_succ]
      refine rdy3 10 11 14 rfl rfl rfl (by kernel_rfl) (fun K hK => ?_) (fun K hK => ?_) (fun K hK => ?_)
      ·
       go_simp
       refine (mulq hk (HR.out.p (_, 3) (by simp)) (HR.out.p (_, fM p X X) (by simp))).mono ?_; rintro e wn ⟨rv, rfl, m, hB⟩; obtain ⟨kb0, kb1, kb2, rfl⟩ := m.nk.sl; have HR : Hid (Rg _ _ _ _ _) := HR.out.below hB m; clear m hB; refine hK.out _ _ (fun _ => HR.out.k) ?_; clear hK K; try simp only [Act.put, List.setIfInBounds_toArray, List.set_cons_zero, List.set_cons_succ]
       refine rdy2 11 14 rfl rfl (by kernel_rfl) (fun K hK => ?_) (fun K hK => ?_)
       ·
        go_simp
        have HR : Hid (Rg _ _ _ _ _) := HR.out.lit 3 ltB3 ltQ3; refine hK.out _ _ (fun _ => HR.out.k) ?_
        refine rdy2 12 14 rfl rfl (by kernel_rfl) (fun K hK => ?_) (fun K hK => ?_)
        ·
         go_simp
         refine (subq hk (HR.out.p (_, fM p 3 (fM p X X)) (by simp)) (HR.out.p (_, 3) (by simp))).mono ?_; rintro e wn ⟨rv, rfl, m, hB⟩; obtain ⟨kc0, kc1, kc2, rfl⟩ := m.nk.sl; have HR : Hid (Rg _ _ _ _ _) := HR.out.below hB m; clear m hB; refine hK.out _ _ (fun _ => HR.out.k) ?_; clear hK K; try simp only [Act.put, List.setIfInBounds_toArray, List.set_cons_zero, List.set_cons_succ]
         refine wpAnyK_step 14 rfl (by kernel_rfl) (fun K hK => ?_)
         go_simp
         have HR : Hid (Rg _ _ _ _ _) := HR.out.lit 2 ltB2 ltQ2; refine hK.out _ _ (fun _ => HR.out.k) ?_
         refine wpAnyK_step 17 rfl (by kernel_rfl) (fun K hK => ?_)
         go_simp
         refine (mulq hk (HR.out.p (_, 2) (by simp)) (HR.out.p (_, Y) (by simp))).mono ?_; rintro e wn ⟨rv, rfl, m, hB⟩; obtain ⟨kd0, kd1, kd2, rfl⟩ := m.nk.sl; have HR : Hid (Rg _ _ _ _ _) := HR.out.below hB m; clear m hB; refine hK.out _ _ (fun _ => HR.out.k) ?_; clear hK K; try simp only [Act.put, List.setIfInBounds_toArray, List.set_cons_zero, List.set_cons_succ]
         refine wpAnyK_step 18 rfl (by kernel_rfl) (fun K hK => ?_)
         go_simp
         refine (overq hk (HR.out.p (_, fS p (fM p 3 (fM p X X)) 3) (by simp)) (HR.out.p (_, fM p 2 Y) (by simp)) (two_pos hk.cv hk.pm HO.out.1) (fM_lt hk.pm _ _)).mono ?_; rintro e wn ⟨rv, Z, hZ, rfl, m, hB⟩; obtain ⟨r0, r1, r2, rfl⟩ := m.nk.sl; have HF : Hid (Inz (fM p 2 Y) p Z ∧ Mk _ (w.heap.size + 3) (.slice r0 r1 r2) (fM p (fS p (fM p 3 (fM p X X)) 3) Z) 384 ∧ Below _ _ _) := ⟨hZ, m.base (Nat.le_trans HW0.out HR.out.e.size), btr HR.out.e hB⟩; have HR : Hid (Rg _ _ _ _ _) := HR.out.below hB m; clear m hB hZ; refine hK.out _ _ (fun _ => HR.out.k) ?_; clear hK K; try simp only [Act.put, List.setIfInBounds_toArray, List.set_cons_zero, List.set_cons_succ]
         refine wpAnyK_take0 19 (v := ?v53) rfl (by kernel_rfl) (fun _ _ _ h => h) (Or.inl ⟨by rfl, ?hy53⟩) (fun h => nomatch (h.symm.trans (show _ = true by kernel_rfl))) ?_
         case hy53 => (intro w hSw; go_simp; try with_reducible rfl)
         try simp only [Act.put, List.setIfInBounds_toArray, List.set_cons_zero, List.set_cons_succ]
         refine wpAnyK_done (by kernel_rfl) ?_ _
         go_wp2_with fail
         go_meet
         exact ⟨_, _, _, _, Z, rfl, rfl, HF.out⟩
        ·
         go_simp
         have HR : Hid (Rg _ _ _ _ _) := HR.out.lit 2 ltB2 ltQ2; refine hK.out _ _ (fun _ => HR.out.k) ?_
         refine wpAnyK_step 12 rfl (by kernel_rfl) (fun K hK => ?_)
         go_simp
         refine (subq hk (HR.out.p (_, fM p 3 (fM p X X)) (by simp)) (HR.out.p (_, 3) (by simp))).mono ?_; rintro e wn ⟨rv, rfl, m, hB⟩; obtain ⟨kc0, kc1, kc2, rfl⟩ := m.nk.sl; have HR : Hid (Rg _ _ _ _ _) := HR.out.below hB m; clear m hB; refine hK.out _ _ (fun _ => HR.out.k) ?_; clear hK K; try simp only [Act.put, List.setIfInBounds_toArray, List.set_cons_zero, List.set_cons_succ]
         refine wpAnyK_step 17 rfl (by kernel_rfl) (fun K hK => ?_)
         go_simp
         refine (mulq hk (HR.out.p (_, 2) (by simp)) (HR.out.p (_, Y) (by simp))).mono ?_; rintro e wn ⟨rv, rfl, m, hB⟩; obtain ⟨kd0, kd1, kd2, rfl⟩ := m.nk.sl; have HR : Hid (Rg _ _ _ _ _) := HR.out.below hB m; clear m hB; refine hK.out _ _ (fun _ => HR.out.k) ?_; clear hK K; try simp only [Act.put, List.setIfInBounds_toArray, List.set_cons_zero, List.set_cons_succ]
         refine wpAnyK_step 18 rfl (by kernel_rfl) (fun K hK => ?_)
         go_simp
         refine (overq hk (HR.out.p (_, fS p (fM p 3 (fM p X X)) 3) (by simp)) (HR.out.p (_, fM p 2 Y) (by simp)) (two_pos hk.cv hk.pm HO.out.1) (fM_lt hk.pm _ _)).mono ?_; rintro e wn ⟨rv, Z, hZ, rfl, m, hB⟩; obtain ⟨r0, r1, r2, rfl⟩ := m.nk.sl; have HF : Hid (Inz (fM p 2 Y) p Z ∧ Mk _ (w.heap.size + 3) (.slice r0 r1 r2) (fM p (fS p (fM p 3 (fM p X X)) 3) Z) 384 ∧ Below _ _ _) := ⟨hZ, m.base (Nat.le_trans HW0.out HR.out.e.size), btr HR.out.e hB⟩; have HR : Hid (Rg _ _ _ _ _) := HR.out.below hB m; clear m hB hZ; refine hK.out _ _ (fun _ => HR.out.k) ?_; clear hK K; try simp only [Act.put, List.setIfInBounds_toArray, List.set_cons_zero, List.set_cons_succ]
         refine wpAnyK_take0 19 (v := ?v54) rfl (by kernel_rfl) (fun _ _ _ h => h) (Or.inl ⟨by rfl, ?hy54⟩) (fun h => nomatch (h.symm.trans (show _ = true by kernel_rfl))) ?_
         case hy54 => (intro w hSw; go_simp; try with_reducible rfl)
         try simp only [Act.put, List.setIfInBounds_toArray, List.set_cons_zero, List.set_cons_succ]
         refine wpAnyK_done (by kernel_rfl) ?_ _
         go_wp2_with fail
         go_meet
         exact ⟨_, _, _, _, Z, rfl, rfl, HF.out⟩
       ·
        go_simp
        have HR : Hid (Rg _ _ _ _ _) := HR.out.lit 2 ltB2 ltQ2; refine hK.out _ _ (fun _ => HR.out.k) ?_
        refine wpAnyK_step 11 rfl (by kernel_rfl) (fun K hK => ?_)
        go_simp
        have HR : Hid (Rg _ _ _ _ _) := HR.out.lit 3 ltB3 ltQ3; refine hK.out _ _ (fun _ => HR.out.k) ?_
        refine wpAnyK_step 12 rfl (by kernel_rfl) (fun K hK => ?_)
        go_simp
        refine (subq hk (HR.out.p (_, fM p 3 (fM p X X)) (by simp)) (HR.out.p (_, 3) (by simp))).mono ?_; rintro e wn ⟨rv, rfl, m, hB⟩; obtain ⟨kc0, kc1, kc2, rfl⟩ := m.nk.sl; have HR : Hid (Rg _ _ _ _ _) := HR.out.below hB m; clear m hB; refine hK.out _ _ (fun _ => HR.out.k) ?_; clear hK K; try simp only [Act.put, List.setIfInBounds_toArray, List.set_cons_zero, List.set_cons_succ]
        refine wpAnyK_step 17 rfl (by kernel_rfl) (fun K hK => ?_)
        go_simp
        refine (mulq hk (HR.out.p (_, 2) (by simp)) (HR.out.p (_, Y) (by simp))).mono ?_; rintro e wn ⟨rv, rfl, m, hB⟩; obtain ⟨kd0, kd1, kd2, rfl⟩ := m.nk.sl; have HR : Hid (Rg _ _ _ _ _) := HR.out.below hB m; clear m hB; refine hK.out _ _ (fun _ => HR.out.k) ?_; clear hK K; try simp only [Act.put, List.setIfInBounds_toArray, List.set_cons_zero, List.set_cons_succ]
        refine wpAnyK_step 18 rfl (by kernel_rfl) (fun K hK => ?_)
        go_simp
        refine (overq hk (HR.out.p (_, fS p (fM p 3 (fM p X X)) 3) (by simp)) (HR.out.p (_, fM p 2 Y) (by simp)) (two_pos hk.cv hk.pm HO.out.1) (fM_lt hk.pm _ _)).mono ?_; rintro e wn ⟨rv, Z, hZ, rfl, m, hB⟩; obtain ⟨r0, r1, r2, rfl⟩ := m.nk.sl; have HF : Hid (Inz (fM p 2 Y) p Z ∧ Mk _ (w.heap.size + 3) (.slice r0 r1 r2) (fM p (fS p (fM p 3 (fM p X X)) 3) Z) 384 ∧ Below _ _ _) := ⟨hZ, m.base (Nat.le_trans HW0.out HR.out.e.size), btr HR.out.e hB⟩; have HR : Hid (Rg _ _ _ _ _) := HR.out.below hB m; clear m hB hZ; refine hK.out _ _ (fun _ => HR.out.k) ?_; clear hK K; try simp only [Act.put, List.setIfInBounds_toArray, List.set_cons_zero, List.set_cons_succ]
        refine wpAnyK_take0 19 (v := ?v55) rfl (by kernel_rfl) (fun _ _ _ h => h) (Or.inl ⟨by rfl, ?hy55⟩) (fun h => nomatch (h.symm.trans (show _ = true by kernel_rfl))) ?_
        case hy55 => (intro w hSw; go_simp; try with_reducible rfl)
        try simp only [Act.put, List.setIfInBounds_toArray, List.set_cons_zero, List.set_cons_succ]
        refine wpAnyK_done (by kernel_rfl) ?_ _
        go_wp2_with fail
        go_meet
        exact ⟨_, _, _, _, Z, rfl, rfl, HF.out⟩
      ·
       go_simp
       have HR : Hid (Rg _ _ _ _ _) := HR.out.lit 3 ltB3 ltQ3; refine hK.out _ _ (fun _ => HR.out.k) ?_
       refine rdy2 10 14 rfl rfl (by kernel_rfl) (fun K hK => ?_) (fun K hK => ?_)
       ·
        go_simp
        refine (mulq hk (HR.out.p (_, 3) (by simp)) (HR.out.p (_, fM p X X) (by simp))).mono ?_; rintro e wn ⟨rv, rfl, m, hB⟩; obtain ⟨kb0, kb1, kb2, rfl⟩ := m.nk.sl; have HR : Hid (Rg _ _ _ _ _) := HR.out.below hB m; clear m hB; refine hK.out _ _ (fun _ => HR.out.k) ?_; clear hK K; try simp only [Act.put, List.setIfInBounds_toArray, List.set_cons_zero, List.set_cons_succ]
        refine rdy2 12 14 rfl rfl (by kernel_rfl) (fun K hK => ?_) (fun K hK => ?_)
        ·
         go_simp
         refine (subq hk (HR.out.p (_, fM p 3 (fM p X X)) (by simp)) (HR.out.p (_, 3) (by simp))).mono ?_; rintro e wn ⟨rv, rfl, m, hB⟩; obtain ⟨kc0, kc1, kc2, rfl⟩ := m.nk.sl; have HR : Hid (Rg _ _ _ _ _) := HR.out.below hB m; clear m hB; refine hK.out _ _ (fun _ => HR.out.k) ?_; clear hK K; try simp only [Act.put, List.setIfInBounds_toArray, List.set_cons_zero, List.set_cons_succ]
         refine wpAnyK_step 14 rfl (by kernel_rfl) (fun K hK => ?_)
         go_simp
         have HR : Hid (Rg _ _ _ _ _) := HR.out.lit 2 ltB2 ltQ2; refine hK.out _ _ (fun _ => HR.out.k) ?_
         refine wpAnyK_step 17 rfl (by kernel_rfl) (fun K hK => ?_)
         go_simp
         refine (mulq hk (HR.out.p (_, 2) (by simp)) (HR.out.p (_, Y) (by simp))).mono ?_; rintro e wn ⟨rv, rfl, m, hB⟩; obtain ⟨kd0, kd1, kd2, rfl⟩ := m.nk.sl; have HR : Hid (Rg _ _ _ _ _) := HR.out.below hB m; clear m hB; refine hK.out _ _ (fun _ => HR.out.k) ?_; clear hK K; try simp only [Act.put, List.setIfInBounds_toArray, List.set_cons_zero, List.set_cons_succ]
         refine wpAnyK_step 18 rfl (by kernel_rfl) (fun K hK => ?_)
         go_simp
         refine (overq hk (HR.out.p (_, fS p (fM p 3 (fM p X X)) 3) (by simp)) (HR.out.p (_, fM p 2 Y) (by simp)) (two_pos hk.cv hk.pm HO.out.1) (fM_lt hk.pm _ _)).mono ?_; rintro e wn ⟨rv, Z, hZ, rfl, m, hB⟩; obtain ⟨r0, r1, r2, rfl⟩ := m.nk.sl; have HF : Hid (Inz (fM p 2 Y) p Z ∧ Mk _ (w.heap.size + 3) (.slice r0 r1 r2) (fM p (fS p (fM p 3 (fM p X X)) 3) Z) 384 ∧ Below _ _ _) := ⟨hZ, m.base (Nat.le_trans HW0.out HR.out.e.size), btr HR.out.e hB⟩; have HR : Hid (Rg _ _ _ _ _) := HR.out.below hB m; clear m hB hZ; refine hK.out _ _ (fun _ => HR.out.k) ?_; clear hK K; try simp only [Act.put, List.setIfInBounds_toArray, List.set_cons_zero, List.set_cons_succ]
         refine wpAnyK_take0 19 (v := ?v56) rfl (by kernel_rfl) (fun _ _ _ h => h) (Or.inl ⟨by rfl, ?hy56⟩) (fun h => nomatch (h.symm.trans (show _ = true by kernel_rfl))) ?_
         case hy56 => (intro w hSw; go_simp; try with_reducible rfl)
         try simp only [Act.put, List.setIfInBounds_toArray, List.set_cons_zero, List.set_cons_succ]
         refine wpAnyK_done (by kernel_rfl) ?_ _
         go_wp2_with fail
         go_meet
         exact ⟨_, _, _, _, Z, rfl, rfl, HF.out⟩
        ·
         go_simp
         have HR : Hid (Rg _ _ _ _ _) := HR.out.lit 2 ltB2 ltQ2; refine hK.out _ _ (fun _ => HR.out.k) ?_
         refine wpAnyK_step 12 rfl (by kernel_rfl) (fun K hK => ?_)
         go_simp
         refine (subq hk (HR.out.p (_, fM p 3 (fM p X X)) (by simp)) (HR.out.p (_, 3) (by simp))).mono ?_; rintro e wn ⟨rv, rfl, m, hB⟩; obtain ⟨kc0, kc1, kc2, rfl⟩ := m.nk.sl; have HR : Hid (Rg _ _ _ _ _) := HR.out.below hB m; clear m hB; refine hK.out _ _ (fun _ => HR.out.k) ?_; clear hK K; try simp only [Act.put, List.setIfInBounds_toArray, List.set_cons_zero, List.set_cons_succ]
         refine wpAnyK_step 17 rfl (by kernel_rfl) (fun K hK => ?_)
         go_simp
         refine (mulq hk (HR.out.p (_, 2) (by simp)) (HR.out.p (_, Y) (by simp))).mono ?_; rintro e wn ⟨rv, rfl, m, hB⟩; obtain ⟨kd0, kd1, kd2, rfl⟩ := m.nk.sl; have HR : Hid (Rg _ _ _ _ _) := HR.out.below hB m; clear m hB; refine hK.out _ _ (fun _ => HR.out.k) ?_; clear hK K; try simp only [Act.put, List.setIfInBounds_toArray, List.set_cons_zero, List.set_cons_succ]
         refine wpAnyK_step 18 rfl (by kernel_rfl) (fun K hK => ?_)
         go_simp
         refine (overq hk (HR.out.p (_, fS p (fM p 3 (fM p X X)) 3) (by simp)) (HR.out.p (_, fM p 2 Y) (by simp)) (two_pos hk.cv hk.pm HO.out.1) (fM_lt hk.pm _ _)).mono ?_; rintro e wn ⟨rv, Z, hZ, rfl, m, hB⟩; obtain ⟨r0, r1, r2, rfl⟩ := m.nk.sl; have HF : Hid (Inz (fM p 2 Y) p Z ∧ Mk _ (w.heap.size + 3) (.slice r0 r1 r2) (fM p (fS p (fM p 3 (fM p X X)) 3) Z) 384 ∧ Below _ _ _) := ⟨hZ, m.base (Nat.le_trans HW0.out HR.out.e.size), btr HR.out.e hB⟩; have HR : Hid (Rg _ _ _ _ _) := HR.out.below hB m; clear m hB hZ; refine hK.out _ _ (fun _ => HR.out.k) ?_; clear hK K; try simp only [Act.put, List.setIfInBounds_toArray, List.set_cons_zero, List.set_cons_succ]
         refine wpAnyK_take0 19 (v := ?v57) rfl (by kernel_rfl) (fun _ _ _ h => h) (Or.inl ⟨by rfl, ?hy57⟩) (fun h => nomatch (h.symm.trans (show _ = true by kernel_rfl))) ?_
         case hy57 => (intro w hSw; go_simp; try with_reducible rfl)
         try simp only [Act.put, List.setIfInBounds_toArray, List.set_cons_zero, List.set_cons_succ]
         refine wpAnyK_done (by kernel_rfl) ?_ _
         go_wp2_with fail
         go_meet
         exact ⟨_, _, _, _, Z, rfl, rfl, HF.out⟩
       ·
        go_simp
        have HR : Hid (Rg _ _ _ _ _) := HR.out.lit 2 ltB2 ltQ2; refine hK.out _ _ (fun _ => HR.out.k) ?_
        refine wpAnyK_step 10 rfl (by kernel_rfl) (fun K hK => ?_)
        go_simp
        refine (mulq hk (HR.out.p (_, 3) (by simp)) (HR.out.p (_, fM p X X) (by simp))).mono ?_; rintro e wn ⟨rv, rfl, m, hB⟩; obtain ⟨kb0, kb1, kb2, rfl⟩ := m.nk.sl; have HR : Hid (Rg _ _ _ _ _) := HR.out.below hB m; clear m hB; refine hK.out _ _ (fun _ => HR.out.k) ?_; clear hK K; try simp only [Act.put, List.setIfInBounds_toArray, List.set_cons_zero, List.set_cons_succ]
        refine wpAnyK_step 12 rfl (by kernel_rfl) (fun K hK => ?_)
        go_simp
        refine (subq hk (HR.out.p (_, fM p 3 (fM p X X)) (by simp)) (HR.out.p (_, 3) (by simp))).mono ?_; rintro e wn ⟨rv, rfl, m, hB⟩; obtain ⟨kc0, kc1, kc2, rfl⟩ := m.nk.sl; have HR : Hid (Rg _ _ _ _ _) := HR.out.below hB m; clear m hB; refine hK.out _ _ (fun _ => HR.out.k) ?_; clear hK K; try simp only [Act.put, List.setIfInBounds_toArray, List.set_cons_zero, List.set_cons_succ]
        refine wpAnyK_step 17 rfl (by kernel_rfl) (fun K hK => ?_)
        go_simp
        refine (mulq hk (HR.out.p (_, 2) (by simp)) (HR.out.p (_, Y) (by simp))).mono ?_; rintro e wn ⟨rv, rfl, m, hB⟩; obtain ⟨kd0, kd1, kd2, rfl⟩ := m.nk.sl; have HR : Hid (Rg _ _ _ _ _) := HR.out.below hB m; clear m hB; refine hK.out _ _ (fun _ => HR.out.k) ?_; clear hK K; try simp only [Act.put, List.setIfInBounds_toArray, List.set_cons_zero, List.set_cons_succ]
        refine wpAnyK_step 18 rfl (by kernel_rfl) (fun K hK => ?_)
        go_simp
        refine (overq hk (HR.out.p (_, fS p (fM p 3 (fM p X X)) 3) (by simp)) (HR.out.p (_, fM p 2 Y) (by simp)) (two_pos hk.cv hk.pm HO.out.1) (fM_lt hk.pm _ _)).mono ?_; rintro e wn ⟨rv, Z, hZ, rfl, m, hB⟩; obtain ⟨r0, r1, r2, rfl⟩ := m.nk.sl; have HF : Hid (Inz (fM p 2 Y) p Z ∧ Mk _ (w.heap.size + 3) (.slice r0 r1 r2) (fM p (fS p (fM p 3 (fM p X X)) 3) Z) 384 ∧ Below _ _ _) := ⟨hZ, m.base (Nat.le_trans HW0.out HR.out.e.size), btr HR.out.e hB⟩; have HR : Hid (Rg _ _ _ _ _) := HR.out.below hB m; clear m hB hZ; refine hK.out _ _ (fun _ => HR.out.k) ?_; clear hK K; try simp only [Act.put, List.setIfInBounds_toArray, List.set_cons_zero, List.set_cons_succ]
        refine wpAnyK_take0 19 (v := ?v58) rfl (by kernel_rfl) (fun _ _ _ h => h) (Or.inl ⟨by rfl, ?hy58⟩) (fun h => nomatch (h.symm.trans (show _ = true by kernel_rfl))) ?_
        case hy58 => (intro w hSw; go_simp; try with_reducible rfl)
        try simp only [Act.put, List.setIfInBounds_toArray, List.set_cons_zero, List.set_cons_succ]
        refine wpAnyK_done (by kernel_rfl) ?_ _
        go_wp2_with fail
        go_meet
        exact ⟨_, _, _, _, Z, rfl, rfl, HF.out⟩
      ·
       go_simp
       have HR : Hid (Rg _ _ _ _ _) := HR.out.lit 2 ltB2 ltQ2; refine hK.out _ _ (fun _ => HR.out.k) ?_
       refine rdy2 10 11 rfl rfl (by kernel_rfl) (fun K hK => ?_) (fun K hK => ?_)
       ·
        go_simp
        refine (mulq hk (HR.out.p (_, 3) (by simp)) (HR.out.p (_, fM p X X) (by simp))).mono ?_; rintro e wn ⟨rv, rfl, m, hB⟩; obtain ⟨kb0, kb1, kb2, rfl⟩ := m.nk.sl; have HR : Hid (Rg _ _ _ _ _) := HR.out.below hB m; clear m hB; refine hK.out _ _ (fun _ => HR.out.k) ?_; clear hK K; try simp only [Act.put, List.setIfInBounds_toArray, List.set_cons_zero, List.set_cons_succ]
        refine wpAnyK_step 11 rfl (by kernel_rfl) (fun K hK => ?_)
        go_simp
        have HR : Hid (Rg _ _ _ _ _) := HR.out.lit 3 ltB3 ltQ3; refine hK.out _ _ (fun _ => HR.out.k) ?_
        refine wpAnyK_step 12 rfl (by kernel_rfl) (fun K hK => ?_)
        go_simp
        refine (subq hk (HR.out.p (_, fM p 3 (fM p X X)) (by simp)) (HR.out.p (_, 3) (by simp))).mono ?_; rintro e wn ⟨rv, rfl, m, hB⟩; obtain ⟨kc0, kc1, kc2, rfl⟩ := m.nk.sl; have HR : Hid (Rg _ _ _ _ _) := HR.out.below hB m; clear m hB; refine hK.out _ _ (fun _ => HR.out.k) ?_; clear hK K; try simp only [Act.put, List.setIfInBounds_toArray, List.set_cons_zero, List.set_cons_succ]
        refine wpAnyK_step 17 rfl (by kernel_rfl) (fun K hK => ?_)
        go_simp
        refine (mulq hk (HR.out.p (_, 2) (by simp)) (HR.out.p (_, Y) (by simp))).mono ?_; rintro e wn ⟨rv, rfl, m, hB⟩; obtain ⟨kd0, kd1, kd2, rfl⟩ := m.nk.sl; have HR : Hid (Rg _ _ _ _ _) := HR.out.below hB m; clear m hB; refine hK.out _ _ (fun _ => HR.out.k) ?_; clear hK K; try simp only [Act.put, List.setIfInBounds_toArray, List.set_cons_zero, List.set_cons_succ]
        refine wpAnyK_step 18 rfl (by kernel_rfl) (fun K hK => ?_)
        go_simp
        refine (overq hk (HR.out.p (_, fS p (fM p 3 (fM p X X)) 3) (by simp)) (HR.out.p (_, fM p 2 Y) (by simp)) (two_pos hk.cv hk.pm HO.out.1) (fM_lt hk.pm _ _)).mono ?_; rintro e wn ⟨rv, Z, hZ, rfl, m, hB⟩; obtain ⟨r0, r1, r2, rfl⟩ := m.nk.sl; have HF : Hid (Inz (fM p 2 Y) p Z ∧ Mk _ (w.heap.size + 3) (.slice r0 r1 r2) (fM p (fS p (fM p 3 (fM p X X)) 3) Z) 384 ∧ Below _ _ _) := ⟨hZ, m.base (Nat.le_trans HW0.out HR.out.e.size), btr HR.out.e hB⟩; have HR : Hid (Rg _ _ _ _ _) := HR.out.below hB m; clear m hB hZ; refine hK.out _ _ (fun _ => HR.out.k) ?_; clear hK K; try simp only [Act.put, List.setIfInBounds_toArray, List.set_cons_zero, List.set_cons_succ]
        refine wpAnyK_take0 19 (v := ?v59) rfl (by kernel_rfl) (fun _ _ _ h => h) (Or.inl ⟨by rfl, ?hy59⟩) (fun h => nomatch (h.symm.trans (show _ = true by kernel_rfl))) ?_
        case hy59 => (intro w hSw; go_simp; try with_reducible rfl)
        try simp only [Act.put, List.setIfInBounds_toArray, List.set_cons_zero, List.set_cons_succ]
        refine wpAnyK_done (by kernel_rfl) ?_ _
        go_wp2_with fail
        go_meet
        exact ⟨_, _, _, _, Z, rfl, rfl, HF.out⟩
       ·
        go_simp
        have HR : Hid (Rg _ _ _ _ _) := HR.out.lit 3 ltB3 ltQ3; refine hK.out _ _ (fun _ => HR.out.k) ?_
        refine wpAnyK_step 10 rfl (by kernel_rfl) (fun K hK => ?_)
        go_simp
        refine (mulq hk (HR.out.p (_, 3) (by simp)) (HR.out.p (_, fM p X X) (by simp))).mono ?_; rintro e wn ⟨rv, rfl, m, hB⟩; obtain ⟨kb0, kb1, kb2, rfl⟩ := m.nk.sl; have HR : Hid (Rg _ _ _ _ _) := HR.out.below hB m; clear m hB; refine hK.out _ _ (fun _ => HR.out.k) ?_; clear hK K; try simp only [Act.put, List.setIfInBounds_toArray, List.set_cons_zero, List.set_cons_succ]
        refine wpAnyK_step 12 rfl (by kernel_rfl) (fun K hK => ?_)
        go_simp
        refine (subq hk (HR.out.p (_, fM p 3 (fM p X X)) (by simp)) (HR.out.p (_, 3) (by simp))).mono ?_; rintro e wn ⟨rv, rfl, m, hB⟩; obtain ⟨kc0, kc1, kc2, rfl⟩ := m.nk.sl; have HR : Hid (Rg _ _ _ _ _) := HR.out.below hB m; clear m hB; refine hK.out _ _ (fun _ => HR.out.k) ?_; clear hK K; try simp only [Act.put, List.setIfInBounds_toArray, List.set_cons_zero, List.set_cons_succ]
        refine wpAnyK_step 17 rfl (by kernel_rfl) (fun K hK => ?_)
        go_simp
        refine (mulq hk (HR.out.p (_, 2) (by simp)) (HR.out.p (_, Y) (by simp))).mono ?_; rintro e wn ⟨rv, rfl, m, hB⟩; obtain ⟨kd0, kd1, kd2, rfl⟩ := m.nk.sl; have HR : Hid (Rg _ _ _ _ _) := HR.out.below hB m; clear m hB; refine hK.out _ _ (fun _ => HR.out.k) ?_; clear hK K; try simp only [Act.put, List.setIfInBounds_toArray, List.set_cons_zero, List.set_cons_succ]
        refine wpAnyK_step 18 rfl (by kernel_rfl) (fun K hK => ?_)
        go_simp
        refine (overq hk (HR.out.p (_, fS p (fM p 3 (fM p X X)) 3) (by simp)) (HR.out.p (_, fM p 2 Y) (by simp)) (two_pos hk.cv hk.pm HO.out.1) (fM_lt hk.pm _ _)).mono ?_; rintro e wn ⟨rv, Z, hZ, rfl, m, hB⟩; obtain ⟨r0, r1, r2, rfl⟩ := m.nk.sl; have HF : Hid (Inz (fM p 2 Y) p Z ∧ Mk _ (w.heap.size + 3) (.slice r0 r1 r2) (fM p (fS p (fM p 3 (fM p X X)) 3) Z) 384 ∧ Below _ _ _) := ⟨hZ, m.base (Nat.le_trans HW0.out HR.out.e.size), btr HR.out.e hB⟩; have HR : Hid (Rg _ _ _ _ _) := HR.out.below hB m; clear m hB hZ; refine hK.out _ _ (fun _ => HR.out.k) ?_; clear hK K; try simp only [Act.put, List.setIfInBounds_toArray, List.set_cons_zero, List.set_cons_succ]
        refine wpAnyK_take0 19 (v := ?v60) rfl (by kernel_rfl) (fun _ _ _ h => h) (Or.inl ⟨by rfl, ?hy60⟩) (fun h => nomatch (h.symm.trans (show _ = true by kernel_rfl))) ?_
        case hy60 => (intro w hSw; go_simp; try with_reducible rfl)
        try simp only [Act.put, List.setIfInBounds_toArray, List.set_cons_zero, List.set_cons_succ]
        refine wpAnyK_done (by kernel_rfl) ?_ _
        go_wp2_with fail
        go_meet
        exact ⟨_, _, _, _, Z, rfl, rfl, HF.out⟩
     ·
      go_simp
      have HR : Hid (Rg _ _ _ _ _) := HR.out.lit 3 ltB3 ltQ3; refine hK.out _ _ (fun _ => HR.out.k) ?_
      refine rdy2 9 14 rfl rfl (by kernel_rfl) (fun K hK => ?_) (fun K hK => ?_)
      ·
       go_simp
       refine (mulq hk (HR.out.p (_, X) (by simp)) (HR.out.p (_, X) (by simp))).mono ?_; rintro e wn ⟨rv, rfl, m, hB⟩; obtain ⟨ka0, ka1, ka2, rfl⟩ := m.nk.sl; have HR : Hid (Rg _ _ _ _ _) := HR.out.below hB m; clear m hB; refine hK.out _ _ (fun _ => HR.out.k) ?_; clear hK K; try simp only [Act.put, List.setIfInBounds_toArray, List.set_cons_zero, List.set_cons_succ]
       refine rdy2 10 14 rfl rfl (by kernel_rfl) (fun K hK => ?_) (fun K hK => ?_)
       ·
        go_simp
        refine (mulq hk (HR.out.p (_, 3) (by simp)) (HR.out.p (_, fM p X X) (by simp))).mono ?_; rintro e wn ⟨rv, rfl, m, hB⟩; obtain ⟨kb0, kb1, kb2, rfl⟩ := m.nk.sl; have HR : Hid (Rg _ _ _ _ _) := HR.out.below hB m; clear m hB; refine hK.out _ _ (fun _ => HR.out.k) ?_; clear hK K; try simp only [Act.put, List.setIfInBounds_toArray, List.set_cons_zero, List.set_cons_succ]
        refine rdy2 12 14 rfl rfl (by kernel_rfl) (fun K hK => ?_) (fun K hK => ?_)
        ·
         go_simp
         refine (subq hk (HR.out.p (_, fM p 3 (fM p X X)) (by simp)) (HR.out.p (_, 3) (by simp))).mono ?_; rintro e wn ⟨rv, rfl, m, hB⟩; obtain ⟨kc0, kc1, kc2, rfl⟩ := m.nk.sl; have HR : Hid (Rg _ _ _ _ _) := HR.out.below hB m; clear m hB; refine hK.out _ _ (fun _ => HR.out.k) ?_; clear hK K; try simp only [Act.put, List.setIfInBounds_toArray, List.set_cons_zero, List.set_cons_succ]
         refine wpAnyK_step 14 rfl (by kernel_rfl) (fun K hK => ?_)
         go_simp
         have HR : Hid (Rg _ _ _ _ _) := HR.out.lit 2 ltB2 ltQ2; refine hK.out _ _ (fun _ => HR.out.k) ?_
         refine wpAnyK_step 17 rfl (by kernel_rfl) (fun K hK => ?_)
         go_simp
         refine (mulq hk (HR.out.p (_, 2) (by simp)) (HR.out.p (_, Y) (by simp))).mono ?_; rintro e wn ⟨rv, rfl, m, hB⟩; obtain ⟨kd0, kd1, kd2, rfl⟩ := m.nk.sl; have HR : Hid (Rg _ _ _ _ _) := HR.out.below hB m; clear m hB; refine hK.out _ _ (fun _ => HR.out.k) ?_; clear hK K; try simp only [Act.put, List.setIfInBounds_toArray, List.set_cons_zero, List.set_cons_succ]
         refine wpAnyK_step 18 rfl (by kernel_rfl) (fun K hK => ?_)
         go_simp
         refine (overq hk (HR.out.p (_, fS p (fM p 3 (fM p X X)) 3) (by simp)) (HR.out.p (_, fM p 2 Y) (by simp)) (two_pos hk.cv hk.pm HO.out.1) (fM_lt hk.pm _ _)).mono ?_; rintro e wn ⟨rv, Z, hZ, rfl, m, hB⟩; obtain ⟨r0, r1, r2, rfl⟩ := m.nk.sl; have HF : Hid (Inz (fM p 2 Y) p Z ∧ Mk _ (w.heap.size + 3) (.slice r0 r1 r2) (fM p (fS p (fM p 3 (fM p X X)) 3) Z) 384 ∧ Below _ _ _) := ⟨hZ, m.base (Nat.le_trans HW0.out HR.out.e.size), btr HR.out.e hB⟩; have HR : Hid (Rg _ _ _ _ _) := HR.out.below hB m; clear m hB hZ; refine hK.out _ _ (fun _ => HR.out.k) ?_; clear hK K; try simp only [Act.put, List.setIfInBounds_toArray, List.set_cons_zero, List.set_cons_succ]
         refine wpAnyK_take0 19 (v := ?v61) rfl (by kernel_rfl) (fun _ _ _ h => h) (Or.inl ⟨by rfl, ?hy61⟩) (fun h => nomatch (h.symm.trans (show _ = true by kernel_rfl))) ?_
         case hy61 => (intro w hSw; go_simp; try with_reducible rfl)
         try simp only [Act.put, List.setIfInBounds_toArray, List.set_cons_zero, List.set_cons_succ]
         refine wpAnyK_done (by kernel_rfl) ?_ _
         go_wp2_with fail
         go_meet
         exact ⟨_, _, _, _, Z, rfl, rfl, HF.out⟩
        ·
         go_simp
         have HR : Hid (Rg _ _ _ _ _) := HR.out.lit 2 ltB2 ltQ2; refine hK.out _ _ (fun _ => HR.out.k) ?_
         refine wpAnyK_step 12 rfl (by kernel_rfl) (fun K hK => ?_)
         go_simp
         refine (subq hk (HR.out.p (_, fM p 3 (fM p X X)) (by simp)) (HR.out.p (_, 3) (by simp))).mono ?_; rintro e wn ⟨rv, rfl, m, hB⟩; obtain ⟨kc0, kc1, kc2, rfl⟩ := m.nk.sl; have HR : Hid (Rg _ _ _ _ _) := HR.out.below hB m; clear m hB; refine hK.out _ _ (fun _ => HR.out.k) ?_; clear hK K; try simp only [Act.put, List.setIfInBounds_toArray, List.set_cons_zero, List.set_cons_succ]
         refine wpAnyK_step 17 rfl (by kernel_rfl) (fun K hK => ?_)
         go_simp
         refine (mulq hk (HR.out.p (_, 2) (by simp)) (HR.out.p (_, Y) (by simp))).mono ?_; rintro e wn ⟨rv, rfl, m, hB⟩; obtain ⟨kd0, kd1, kd2, rfl⟩ := m.nk.sl; have HR : Hid (Rg _ _ _ _ _) := HR.out.below hB m; clear m hB; refine hK.out _ _ (fun _ => HR.out.k) ?_; clear hK K; try simp only [Act.put, List.setIfInBounds_toArray, List.set_cons_zero, List.set_cons_succ]
         refine wpAnyK_step 18 rfl (by kernel_rfl) (fun K hK => ?_)
         go_simp
         refine (overq hk (HR.out.p (_, fS p (fM p 3 (fM p X X)) 3) (by simp)) (HR.out.p (_, fM p 2 Y) (by simp)) (two_pos hk.cv hk.pm HO.out.1) (fM_lt hk.pm _ _)).mono ?_; rintro e wn ⟨rv, Z, hZ, rfl, m, hB⟩; obtain ⟨r0, r1, r2, rfl⟩ := m.nk.sl; have HF : Hid (Inz (fM p 2 Y) p Z ∧ Mk _ (w.heap.size + 3) (.slice r0 r1 r2) (fM p (fS p (fM p 3 (fM p X X)) 3) Z) 384 ∧ Below _ _ _) := ⟨hZ, m.base (Nat.le_trans HW0.out HR.out.e.size), btr HR.out.e hB⟩; have HR : Hid (Rg _ _ _ _ _) := HR.out.below hB m; clear m hB hZ; refine hK.out _ _ (fun _ => HR.out.k) ?_; clear hK K; try simp only [Act.put, List.setIfInBounds_toArray, List.set_cons_zero, List.set_cons_succ]
         refine wpAnyK_take0 19 (v := ?v62) rfl (by kernel_rfl) (fun _ _ _ h => h) (Or.inl ⟨by rfl, ?hy62⟩) (fun h => nomatch (h.symm.trans (show _ = true by kernel_rfl))) ?_
         case hy62 => (intro w hSw; go_simp; try with_reducible rfl)
         try simp only [Act.put, List.setIfInBounds_toArray, List.set_cons_zero, List.set_cons_succ]
         refine wpAnyK_done (by kernel_rfl) ?_ _
         go_wp2_with fail
         go_meet
         exact ⟨_, _, _, _, Z, rfl, rfl, HF.out⟩
       ·
        go_simp
        have HR : Hid (Rg _ _ _ _ _) := HR.out.lit 2 ltB2 ltQ2; refine hK.out _ _ (fun _ => HR.out.k) ?_
        refine wpAnyK_step 10 rfl (by kernel_rfl) (fun K hK => ?_)
        go_simp
        refine (mulq hk (HR.out.p (_, 3) (by simp)) (HR.out.p (_, fM p X X) (by simp))).mono ?_; rintro e wn ⟨rv, rfl, m, hB⟩; obtain ⟨kb0, kb1, kb2, rfl⟩ := m.nk.sl; have HR : Hid (Rg _ _ _ _ _) := HR.out.below hB m; clear m hB; refine hK.out _ _ (fun _ => HR.out.k) ?_; clear hK K; try simp only [Act.put, List.setIfInBounds_toArray, List.set_cons_zero, List.set_cons_succ]
        refine wpAnyK_step 12 rfl (by kernel_rfl) (fun K hK => ?_)
        go_simp
        refine (subq hk (HR.out.p (_, fM p 3 (fM p X X)) (by simp)) (HR.out.p (_, 3) (by simp))).mono ?_; rintro e wn ⟨rv, rfl, m, hB⟩; obtain ⟨kc0, kc1, kc2, rfl⟩ := m.nk.sl; have HR : Hid (Rg _ _ _ _ _) := HR.out.below hB m; clear m hB; refine hK.out _ _ (fun _ => HR.out.k) ?_; clear hK K; try simp only [Act.put, List.setIfInBounds_toArray, List.set_cons_zero, List.set_cons_succ]
        refine wpAnyK_step 17 rfl (by kernel_rfl) (fun K hK => ?_)
        go_simp
        refine (mulq hk (HR.out.p (_, 2) (by simp)) (HR.out.p (_, Y) (by simp))).mono ?_; rintro e wn ⟨rv, rfl, m, hB⟩; obtain ⟨kd0, kd1, kd2, rfl⟩ := m.nk.sl; have HR : Hid (Rg _ _ _ _ _) := HR.out.below hB m; clear m hB; refine hK.out _ _ (fun _ => HR.out.k) ?_; clear hK K; try simp only [Act.put, List.setIfInBounds_toArray, List.set_cons_zero, List.set_cons_succ]
        refine wpAnyK_step 18 rfl (by kernel_rfl) (fun K hK => ?_)
        go_simp
        refine (overq hk (HR.out.p (_, fS p (fM p 3 (fM p X X)) 3) (by simp)) (HR.out.p (_, fM p 2 Y) (by simp)) (two_pos hk.cv hk.pm HO.out.1) (fM_lt hk.pm _ _)).mono ?_; rintro e wn ⟨rv, Z, hZ, rfl, m, hB⟩; obtain ⟨r0, r1, r2, rfl⟩ := m.nk.sl; have HF : Hid (Inz (fM p 2 Y) p Z ∧ Mk _ (w.heap.size + 3) (.slice r0 r1 r2) (fM p (fS p (fM p 3 (fM p X X)) 3) Z) 384 ∧ Below _ _ _) := ⟨hZ, m.base (Nat.le_trans HW0.out HR.out.e.size), btr HR.out.e hB⟩; have HR : Hid (Rg _ _ _ _ _) := HR.out.below hB m; clear m hB hZ; refine hK.out _ _ (fun _ => HR.out.k) ?_; clear hK K; try simp only [Act.put, List.setIfInBounds_toArray, List.set_cons_zero, List.set_cons_succ]
        refine wpAnyK_take0 19 (v := ?v63) rfl (by kernel_rfl) (fun _ _ _ h => h) (Or.inl ⟨by rfl, ?hy63⟩) (fun h => nomatch (h.symm.trans (show _ = true by kernel_rfl))) ?_
        case hy63 => (intro w hSw; go_simp; try with_reducible rfl)
        try simp only [Act.put, List.setIfInBounds_toArray, List.set_cons_zero, List.set_cons_succ]
        refine wpAnyK_done (by kernel_rfl) ?_ _
        go_wp2_with fail
        go_meet
        exact ⟨_, _, _, _, Z, rfl, rfl, HF.out⟩
      ·
       go_simp
       have HR : Hid (Rg _ _ _ _ _) := HR.out.lit 2 ltB2 ltQ2; refine hK.out _ _ (fun _ => HR.out.k) ?_
       refine wpAnyK_step 9 rfl (by kernel_rfl) (fun K hK => ?_)
       go_simp
       refine (mulq hk (HR.out.p (_, X) (by simp)) (HR.out.p (_, X) (by simp))).mono ?_; rintro e wn ⟨rv, rfl, m, hB⟩; obtain ⟨ka0, ka1, ka2, rfl⟩ := m.nk.sl; have HR : Hid (Rg _ _ _ _ _) := HR.out.below hB m; clear m hB; refine hK.out _ _ (fun _ => HR.out.k) ?_; clear hK K; try simp only [Act.put, List.setIfInBounds_toArray, List.set_cons_zero, List.set_cons_succ]
       refine wpAnyK_step 10 rfl (by kernel_rfl) (fun K hK => ?_)
       go_simp
       refine (mulq hk (HR.out.p (_, 3) (by simp)) (HR.out.p (_, fM p X X) (by simp))).mono ?_; rintro e wn ⟨rv, rfl, m, hB⟩; obtain ⟨kb0, kb1, kb2, rfl⟩ := m.nk.sl; have HR : Hid (Rg _ _ _ _ _) := HR.out.below hB m; clear m hB; refine hK.out _ _ (fun _ => HR.out.k) ?_; clear hK K; try simp only [Act.put, List.setIfInBounds_toArray, List.set_cons_zero, List.set_cons_succ]
       refine wpAnyK_step 12 rfl (by kernel_rfl) (fun K hK => ?_)
       go_simp
       refine (subq hk (HR.out.p (_, fM p 3 (fM p X X)) (by simp)) (HR.out.p (_, 3) (by simp))).mono ?_; rintro e wn ⟨rv, rfl, m, hB⟩; obtain ⟨kc0, kc1, kc2, rfl⟩ := m.nk.sl; have HR : Hid (Rg _ _ _ _ _) := HR.out.below hB m; clear m hB; refine hK.out _ _ (fun _ => HR.out.k) ?_; clear hK K; try simp only [Act.put, List.setIfInBounds_toArray, List.set_cons_zero, List.set_cons_succ]
       refine wpAnyK_step 17 rfl (by kernel_rfl) (fun K hK => ?_)
       go_simp
       refine (mulq hk (HR.out.p (_, 2) (by simp)) (HR.out.p (_, Y) (by simp))).mono ?_; rintro e wn ⟨rv, rfl, m, hB⟩; obtain ⟨kd0, kd1, kd2, rfl⟩ := m.nk.sl; have HR : Hid (Rg _ _ _ _ _) := HR.out.below hB m; clear m hB; refine hK.out _ _ (fun _ => HR.out.k) ?_; clear hK K; try simp only [Act.put, List.setIfInBounds_toArray, List.set_cons_zero, List.set_cons_succ]
       refine wpAnyK_step 18 rfl (by kernel_rfl) (fun K hK => ?_)
       go_simp
       refine (overq hk (HR.out.p (_, fS p (fM p 3 (fM p X X)) 3) (by simp)) (HR.out.p (_, fM p 2 Y) (by simp)) (two_pos hk.cv hk.pm HO.out.1) (fM_lt hk.pm _ _)).mono ?_; rintro e wn ⟨rv, Z, hZ, rfl, m, hB⟩; obtain ⟨r0, r1, r2, rfl⟩ := m.nk.sl; have HF : Hid (Inz (fM p 2 Y) p Z ∧ Mk _ (w.heap.size + 3) (.slice r0 r1 r2) (fM p (fS p (fM p 3 (fM p X X)) 3) Z) 384 ∧ Below _ _ _) := ⟨hZ, m.base (Nat.le_trans HW0.out HR.out.e.size), btr HR.out.e hB⟩; have HR : Hid (Rg _ _ _ _ _) := HR.out.below hB m; clear m hB hZ; refine hK.out _ _ (fun _ => HR.out.k) ?_; clear hK K; try simp only [Act.put, List.setIfInBounds_toArray, List.set_cons_zero, List.set_cons_succ]
       refine wpAnyK_take0 19 (v := ?v64) rfl (by kernel_rfl) (fun _ _ _ h => h) (Or.inl ⟨by rfl, ?hy64⟩) (fun h => nomatch (h.symm.trans (show _ = true by kernel_rfl))) ?_
       case hy64 => (intro w hSw; go_simp; try with_reducible rfl)
       try simp only [Act.put, List.setIfInBounds_toArray, List.set_cons_zero, List.set_cons_succ]
       refine wpAnyK_done (by kernel_rfl) ?_ _
       go_wp2_with fail
       go_meet
       exact ⟨_, _, _, _, Z, rfl, rfl, HF.out⟩
     ·
      go_simp
      have HR : Hid (Rg _ _ _ _ _) := HR.out.lit 2 ltB2 ltQ2; refine hK.out _ _ (fun _ => HR.out.k) ?_
      refine rdy2 9 11 rfl rfl (by kernel_rfl) (fun K hK => ?_) (fun K hK => ?_)
      ·
       go_simp
       refine (mulq hk (HR.out.p (_, X) (by simp)) (HR.out.p (_, X) (by simp))).mono ?_; rintro e wn ⟨rv, rfl, m, hB⟩; obtain ⟨ka0, ka1, ka2, rfl⟩ := m.nk.sl; have HR : Hid (Rg _ _ _ _ _) := HR.out.below hB m; clear m hB; refine hK.out _ _ (fun _ => HR.out.k) ?_; clear hK K; try simp only [Act.put, List.setIfInBounds_toArray, List.set_cons_zero, List.set_cons_succ]
       refine rdy2 10 11 rfl rfl (by kernel_rfl) (fun K hK => ?_) (fun K hK => ?_)
       ·
        go_simp
        refine (mulq hk (HR.out.p (_, 3) (by simp)) (HR.out.p (_, fM p X X) (by simp))).mono ?_; rintro e wn ⟨rv, rfl, m, hB⟩; obtain ⟨kb0, kb1, kb2, rfl⟩ := m.nk.sl; have HR : Hid (Rg _ _ _ _ _) := HR.out.below hB m; clear m hB; refine hK.out _ _ (fun _ => HR.out.k) ?_; clear hK K; try simp only [Act.put, List.setIfInBounds_toArray, List.set_cons_zero, List.set_cons_succ]
        refine wpAnyK_step 11 rfl (by kernel_rfl) (fun K hK => ?_)
        go_simp
        have HR : Hid (Rg _ _ _ _ _) := HR.out.lit 3 ltB3 ltQ3; refine hK.out _ _ (fun _ => HR.out.k) ?_
        refine wpAnyK_step 12 rfl (by kernel_rfl) (fun K hK => ?_)
        go_simp
        refine (subq hk (HR.out.p (_, fM p 3 (fM p X X)) (by simp)) (HR.out.p (_, 3) (by simp))).mono ?_; rintro e wn ⟨rv, rfl, m, hB⟩; obtain ⟨kc0, kc1, kc2, rfl⟩ := m.nk.sl; have HR : Hid (Rg _ _ _ _ _) := HR.out.below hB m; clear m hB; refine hK.out _ _ (fun _ => HR.out.k) ?_; clear hK K; try simp only [Act.put, List.setIfInBounds_toArray, List.set_cons_zero, List.set_cons_succ]
        refine wpAnyK_step 17 rfl (by kernel_rfl) (fun K hK => ?_)
        go_simp
        refine (mulq hk (HR.out.p (_, 2) (by simp)) (HR.out.p (_, Y) (by simp))).mono ?_; rintro e wn ⟨rv, rfl, m, hB⟩; obtain ⟨kd0, kd1, kd2, rfl⟩ := m.nk.sl; have HR : Hid (Rg _ _ _ _ _) := HR.out.below hB m; clear m hB; refine hK.out _ _ (fun _ => HR.out.k) ?_; clear hK K; try simp only [Act.put, List.setIfInBounds_toArray, List.set_cons_zero, List.set_cons_succ]
        refine wpAnyK_step 18 rfl (by kernel_rfl) (fun K hK => ?_)
        go_simp
        refine (overq hk (HR.out.p (_, fS p (fM p 3 (fM p X X)) 3) (by simp)) (HR.out.p (_, fM p 2 Y) (by simp)) (two_pos hk.cv hk.pm HO.out.1) (fM_lt hk.pm _ _)).mono ?_; rintro e wn ⟨rv, Z, hZ, rfl, m, hB⟩; obtain ⟨r0, r1, r2, rfl⟩ := m.nk.sl; have HF : Hid (Inz (fM p 2 Y) p Z ∧ Mk _ (w.heap.size + 3) (.slice r0 r1 r2) (fM p (fS p (fM p 3 (fM p X X)) 3) Z) 384 ∧ Below _ _ _) := ⟨hZ, m.base (Nat.le_trans HW0.out HR.out.e.size), btr HR.out.e hB⟩; have HR : Hid (Rg _ _ _ _ _) := HR.out.below hB m; clear m hB hZ; refine hK.out _ _ (fun _ => HR.out.k) ?_; clear hK K; try simp only [Act.put, List.setIfInBounds_toArray, List.set_cons_zero, List.set_cons_succ]
        refine wpAnyK_take0 19 (v := ?v65) rfl (by kernel_rfl) (fun _ _ _ h => h) (Or.inl ⟨by rfl, ?hy65⟩) (fun h => nomatch (h.symm.trans (show _ = true by kernel_rfl))) ?_
        case hy65 => (intro w hSw; go_simp; try with_reducible rfl)
        try simp only [Act.put, List.setIfInBounds_toArray, List.set_cons_zero, List.set_cons_succ]
        refine wpAnyK_done (by kernel_rfl) ?_ _
        go_wp2_with fail
        go_meet
        exact ⟨_, _, _, _, Z, rfl, rfl, HF.out⟩
       ·
        go_simp
        have HR : Hid (Rg _ _ _ _ _) := HR.out.lit 3 ltB3 ltQ3; refine hK.out _ _ (fun _ => HR.out.k) ?_
        refine wpAnyK_step 10 rfl (by kernel_rfl) (fun K hK => ?_)
        go_simp
        refine (mulq hk (HR.out.p (_, 3) (by simp)) (HR.out.p (_, fM p X X) (by simp))).mono ?_; rintro e wn ⟨rv, rfl, m, hB⟩; obtain ⟨kb0, kb1, kb2, rfl⟩ := m.nk.sl; have HR : Hid (Rg _ _ _ _ _) := HR.out.below hB m; clear m hB; refine hK.out _ _ (fun _ => HR.out.k) ?_; clear hK K; try simp only [Act.put, List.setIfInBounds_toArray, List.set_cons_zero, List.set_cons_succ]
        refine wpAnyK_step 12 rfl (by kernel_rfl) (fun K hK => ?_)
        go_simp
        refine (subq hk (HR.out.p (_, fM p 3 (fM p X X)) (by simp)) (HR.out.p (_, 3) (by simp))).mono ?_; rintro e wn ⟨rv, rfl, m, hB⟩; obtain ⟨kc0, kc1, kc2, rfl⟩ := m.nk.sl; have HR : Hid (Rg _ _ _ _ _) := HR.out.below hB m; clear m hB; refine hK.out _ _ (fun _ => HR.out.k) ?_; clear hK K; try simp only [Act.put, List.setIfInBounds_toArray, List.set_cons_zero, List.set_cons_succ]
        refine wpAnyK_step 17 rfl (by kernel_rfl) (fun K hK => ?_)
        go_simp
        refine (mulq hk (HR.out.p (_, 2) (by simp)) (HR.out.p (_, Y) (by simp))).mono ?_; rintro e wn ⟨rv, rfl, m, hB⟩; obtain ⟨kd0, kd1, kd2, rfl⟩ := m.nk.sl; have HR : Hid (Rg _ _ _ _ _) := HR.out.below hB m; clear m hB; refine hK.out _ _ (fun _ => HR.out.k) ?_; clear hK K; try simp only [Act.put, List.setIfInBounds_toArray, List.set_cons_zero, List.set_cons_succ]
        refine wpAnyK_step 18 rfl (by kernel_rfl) (fun K hK => ?_)
        go_simp
        refine (overq hk (HR.out.p (_, fS p (fM p 3 (fM p X X)) 3) (by simp)) (HR.out.p (_, fM p 2 Y) (by simp)) (two_pos hk.cv hk.pm HO.out.1) (fM_lt hk.pm _ _)).mono ?_; rintro e wn ⟨rv, Z, hZ, rfl, m, hB⟩; obtain ⟨r0, r1, r2, rfl⟩ := m.nk.sl; have HF : Hid (Inz (fM p 2 Y) p Z ∧ Mk _ (w.heap.size + 3) (.slice r0 r1 r2) (fM p (fS p (fM p 3 (fM p X X)) 3) Z) 384 ∧ Below _ _ _) := ⟨hZ, m.base (Nat.le_trans HW0.out HR.out.e.size), btr HR.out.e hB⟩; have HR : Hid (Rg _ _ _ _ _) := HR.out.below hB m; clear m hB hZ; refine hK.out _ _ (fun _ => HR.out.k) ?_; clear hK K; try simp only [Act.put, List.setIfInBounds_toArray, List.set_cons_zero, List.set_cons_succ]
        refine wpAnyK_take0 19 (v := ?v66) rfl (by kernel_rfl) (fun _ _ _ h => h) (Or.inl ⟨by rfl, ?hy66⟩) (fun h => nomatch (h.symm.trans (show _ = true by kernel_rfl))) ?_
        case hy66 => (intro w hSw; go_simp; try with_reducible rfl)
        try simp only [Act.put, List.setIfInBounds_toArray, List.set_cons_zero, List.set_cons_succ]
        refine wpAnyK_done (by kernel_rfl) ?_ _
        go_wp2_with fail
        go_meet
        exact ⟨_, _, _, _, Z, rfl, rfl, HF.out⟩
      ·
       go_simp
       have HR : Hid (Rg _ _ _ _ _) := HR.out.lit 3 ltB3 ltQ3; refine hK.out _ _ (fun _ => HR.out.k) ?_
       refine wpAnyK_step 9 rfl (by kernel_rfl) (fun K hK => ?_)
       go_simp
       refine (mulq hk (HR.out.p (_, X) (by simp)) (HR.out.p (_, X) (by simp))).mono ?_; rintro e wn ⟨rv, rfl, m, hB⟩; obtain ⟨ka0, ka1, ka2, rfl⟩ := m.nk.sl; have HR : Hid (Rg _ _ _ _ _) := HR.out.below hB m; clear m hB; refine hK.out _ _ (fun _ => HR.out.k) ?_; clear hK K; try simp only [Act.put, List.setIfInBounds_toArray, List.set_cons_zero, List.set_cons_succ]
       refine wpAnyK_step 10 rfl (by kernel_rfl) (fun K hK => ?_)
       go_simp
       refine (mulq hk (HR.out.p (_, 3) (by simp)) (HR.out.p (_, fM p X X) (by simp))).mono ?_; rintro e wn ⟨rv, rfl, m, hB⟩; obtain ⟨kb0, kb1, kb2, rfl⟩ := m.nk.sl; have HR : Hid (Rg _ _ _ _ _) := HR.out.below hB m; clear m hB; refine hK.out _ _ (fun _ => HR.out.k) ?_; clear hK K; try simp only [Act.put, List.setIfInBounds_toArray, List.set_cons_zero, List.set_cons_succ]
       refine wpAnyK_step 12 rfl (by kernel_rfl) (fun K hK => ?_)
       go_simp
       refine (subq hk (HR.out.p (_, fM p 3 (fM p X X)) (by simp)) (HR.out.p (_, 3) (by simp))).mono ?_; rintro e wn ⟨rv, rfl, m, hB⟩; obtain ⟨kc0, kc1, kc2, rfl⟩ := m.nk.sl; have HR : Hid (Rg _ _ _ _ _) := HR.out.below hB m; clear m hB; refine hK.out _ _ (fun _ => HR.out.k) ?_; clear hK K; try simp only [Act.put, List.setIfInBounds_toArray, List.set_cons_zero, List.set_cons_succ]
       refine wpAnyK_step 17 rfl (by kernel_rfl) (fun K hK => ?_)
       go_simp
       refine (mulq hk (HR.out.p (_, 2) (by simp)) (HR.out.p (_, Y) (by simp))).mono ?_; rintro e wn ⟨rv, rfl, m, hB⟩; obtain ⟨kd0, kd1, kd2, rfl⟩ := m.nk.sl; have HR : Hid (Rg _ _ _ _ _) := HR.out.below hB m; clear m hB; refine hK.out _ _ (fun _ => HR.out.k) ?_; clear hK K; try simp only [Act.put, List.setIfInBounds_toArray, List.set_cons_zero, List.set_cons_succ]
       refine wpAnyK_step 18 rfl (by kernel_rfl) (fun K hK => ?_)
       go_simp
       refine (overq hk (HR.out.p (_, fS p (fM p 3 (fM p X X)) 3) (by simp)) (HR.out.p (_, fM p 2 Y) (by simp)) (two_pos hk.cv hk.pm HO.out.1) (fM_lt hk.pm _ _)).mono ?_; rintro e wn ⟨rv, Z, hZ, rfl, m, hB⟩; obtain ⟨r0, r1, r2, rfl⟩ := m.nk.sl; have HF : Hid (Inz (fM p 2 Y) p Z ∧ Mk _ (w.heap.size + 3) (.slice r0 r1 r2) (fM p (fS p (fM p 3 (fM p X X)) 3) Z) 384 ∧ Below _ _ _) := ⟨hZ, m.base (Nat.le_trans HW0.out HR.out.e.size), btr HR.out.e hB⟩; have HR : Hid (Rg _ _ _ _ _) := HR.out.below hB m; clear m hB hZ; refine hK.out _ _ (fun _ => HR.out.k) ?_; clear hK K; try simp only [Act.put, List.setIfInBounds_toArray, List.set_cons_zero, List.set_cons_succ]
       refine wpAnyK_take0 19 (v := ?v67) rfl (by kernel_rfl) (fun _ _ _ h => h) (Or.inl ⟨by rfl, ?hy67⟩) (fun h => nomatch (h.symm.trans (show _ = true by kernel_rfl))) ?_
       case hy67 => (intro w hSw; go_simp; try with_reducible rfl)
       try simp only [Act.put, List.setIfInBounds_toArray, List.set_cons_zero, List.set_cons_succ]
       refine wpAnyK_done (by kernel_rfl) ?_ _
       go_wp2_with fail
       go_meet
       exact ⟨_, _, _, _, Z, rfl, rfl, HF.out⟩
    ·
     go_simp
     refine (mulq hk (HR.out.p (_, X) (by simp)) (HR.out.p (_, X) (by simp))).mono ?_; rintro e wn ⟨rv, rfl, m, hB⟩; obtain ⟨ka0, ka1, ka2, rfl⟩ := m.nk.sl; have HR : Hid (Rg _ _ _ _ _) := HR.out.below hB m; clear m hB; refine hK.out _ _ (fun _ => HR.out.k) ?_; clear hK K; try simp only [Act.put, List.setIfInBounds_toArray, List.set_cons_zero, List.set_cons_succ]
     refine rdy3 3 11 14 rfl rfl rfl (by kernel_rfl) (fun K hK => ?_) (fun K hK => ?_) (fun K hK => ?_)
     ·
      go_simp
      have HR : Hid (Rg _ _ _ _ _) := HR.out.lit 3 ltB3 ltQ3; refine hK.out _ _ (fun _ => HR.out.k) ?_
      refine rdy3 10 11 14 rfl rfl rfl (by kernel_rfl) (fun K hK => ?_) (fun K hK => ?_) (fun K hK => ?_)
      ·
       go_simp
       refine (mulq hk (HR.out.p (_, 3) (by simp)) (HR.out.p (_, fM p X X) (by simp))).mono ?_; rintro e wn ⟨rv, rfl, m, hB⟩; obtain ⟨kb0, kb1, kb2, rfl⟩ := m.nk.sl; have HR : Hid (Rg _ _ _ _ _) := HR.out.below hB m; clear m hB; refine hK.out _ _ (fun _ => HR.out.k) ?_; clear hK K; try simp only [Act.put, List.setIfInBounds_toArray, List.set_cons_zero, List.set_cons_succ]
       refine rdy2 11 14 rfl rfl (by kernel_rfl) (fun K hK => ?_) (fun K hK => ?_)
       ·
        go_simp
        have HR : Hid (Rg _ _ _ _ _) := HR.out.lit 3 ltB3 ltQ3; refine hK.out _ _ (fun _ => HR.out.k) ?_
        refine rdy2 12 14 rfl rfl (by kernel_rfl) (fun K hK => ?_) (fun K hK => ?_)
        ·
         go_simp
         refine (subq hk (HR.out.p (_, fM p 3 (fM p X X)) (by simp)) (HR.out.p (_, 3) (by simp))).mono ?_; rintro e wn ⟨rv, rfl, m, hB⟩; obtain ⟨kc0, kc1, kc2, rfl⟩ := m.nk.sl; have HR : Hid (Rg _ _ _ _ _) := HR.out.below hB m; clear m hB; refine hK.out _ _ (fun _ => HR.out.k) ?_; clear hK K; try simp only [Act.put, List.setIfInBounds_toArray, List.set_cons_zero, List.set_cons_succ]
         refine wpAnyK_step 14 rfl (by kernel_rfl) (fun K hK => ?_)
         go_simp
         have HR : Hid (Rg _ _ _ _ _) := HR.out.lit 2 ltB2 ltQ2; refine hK.out _ _ (fun _ => HR.out.k) ?_
         refine wpAnyK_step 17 rfl (by kernel_rfl) (fun K hK => ?_)
         go_simp
         refine (mulq hk (HR.out.p (_, 2) (by simp)) (HR.out.p (_, Y) (by simp))).mono ?_; rintro e wn ⟨rv, rfl, m, hB⟩; obtain ⟨kd0, kd1, kd2, rfl⟩ := m.nk.sl; have HR : Hid (Rg _ _ _ _ _) := HR.out.below hB m; clear m hB; refine hK.out _ _ (fun _ => HR.out.k) ?_; clear hK K; try simp only [Act.put, List.setIfInBounds_toArray, List.set_cons_zero, List.set_cons_succ]
         refine wpAnyK_step 18 rfl (by kernel_rfl) (fun K hK => ?_)
         go_simp
         refine (overq hk (HR.out.p (_, fS p (fM p 3 (fM p X X)) 3) (by simp)) (HR.out.p (_, fM p 2 Y) (by simp)) (two_pos hk.cv hk.pm HO.out.1) (fM_lt hk.pm _ _)).mono ?_; rintro e wn ⟨rv, Z, hZ, rfl, m, hB⟩; obtain ⟨r0, r1, r2, rfl⟩ := m.nk.sl; have HF : Hid (Inz (fM p 2 Y) p Z ∧ Mk _ (w.heap.size + 3) (.slice r0 r1 r2) (fM p (fS p (fM p 3 (fM p X X)) 3) Z) 384 ∧ Below _ _ _) := ⟨hZ, m.base (Nat.le_trans HW0.out HR.out.e.size), btr HR.out.e hB⟩; have HR : Hid (Rg _ _ _ _ _) := HR.out.below hB m; clear m hB hZ; refine hK.out _ _ (fun _ => HR.out.k) ?_; clear hK K; try simp only [Act.put, List.setIfInBounds_toArray, List.set_cons_zero, List.set_cons_succ]
         refine wpAnyK_take0 19 (v := ?v68) rfl (by kernel_rfl) (fun _ _ _ h => h) (Or.inl ⟨by rfl, ?hy68⟩) (fun h => nomatch (h.symm.trans (show _ = true by kernel_rfl))) ?_
         case hy68 => (intro w hSw; go_simp; try with_reducible rfl)
         try simp only [Act.put, List.setIfInBounds_toArray, List.set_cons_zero, List.set_cons_succ]
         refine wpAnyK_done (by kernel_rfl) ?_ _
         go_wp2_with fail
         go_meet
         exact ⟨_, _, _, _, Z, rfl, rfl, HF.out⟩
        ·
         go_simp
         have HR : Hid (Rg _ _ _ _ _) := HR.out.lit 2 ltB2 ltQ2; refine hK.out _ _ (fun _ => HR.out.k) ?_
         refine wpAnyK_step 12 rfl (by kernel_rfl) (fun K hK => ?_)
         go_simp
         refine (subq hk (HR.out.p (_, fM p 3 (fM p X X)) (by simp)) (HR.out.p (_, 3) (by simp))).mono ?_; rintro e wn ⟨rv, rfl, m, hB⟩; obtain ⟨kc0, kc1, kc2, rfl⟩ := m.nk.sl; have HR : Hid (Rg _ _ _ _ _) := HR.out.below hB m; clear m hB; refine hK.out _ _ (fun _ => HR.out.k) ?_; clear hK K; try simp only [Act.put, List.setIfInBounds_toArray, List.set_cons_zero, List.set_cons_succ]
         refine wpAnyK_step 17 rfl (by kernel_rfl) (fun K hK => ?_)
         go_simp
         refine (mulq hk (HR.out.p (_, 2) (by simp)) (HR.out.p (_, Y) (by simp))).mono ?_; rintro e wn ⟨rv, rfl, m, hB⟩; obtain ⟨kd0, kd1, kd2, rfl⟩ := m.nk.sl; have HR : Hid (Rg _ _ _ _ _) := HR.out.below hB m; clear m hB; refine hK.out _ _ (fun _ => HR.out.k) ?_; clear hK K; try simp only [Act.put, List.setIfInBounds_toArray, List.set_cons_zero, List.set_cons_succ]
         refine wpAnyK_step 18 rfl (by kernel_rfl) (fun K hK => ?_)
         go_simp
         refine (overq hk (HR.out.p (_, fS p (fM p 3 (fM p X X)) 3) (by simp)) (HR.out.p (_, fM p 2 Y) (by simp)) (two_pos hk.cv hk.pm HO.out.1) (fM_lt hk.pm _ _)).mono ?_; rintro e wn ⟨rv, Z, hZ, rfl, m, hB⟩; obtain ⟨r0, r1, r2, rfl⟩ := m.nk.sl; have HF : Hid (Inz (fM p 2 Y) p Z ∧ Mk _ (w.heap.size + 3) (.slice r0 r1 r2) (fM p (fS p (fM p 3 (fM p X X)) 3) Z) 384 ∧ Below _ _ _) := ⟨hZ, m.base (Nat.le_trans HW0.out HR.out.e.size), btr HR.out.e hB⟩; have HR : Hid (Rg _ _ _ _ _) := HR.out.below hB m; clear m hB hZ; refine hK.out _ _ (fun _ => HR.out.k) ?_; clear hK K; try simp only [Act.put, List.setIfInBounds_toArray, List.set_cons_zero, List.set_cons_succ]
         refine wpAnyK_take0 19 (v := ?v69) rfl (by kernel_rfl) (fun _ _ _ h => h) (Or.inl ⟨by rfl, ?hy69⟩) (fun h => nomatch (h.symm.trans (show _ = true by kernel_rfl))) ?_
         case hy69 => (intro w hSw; go_simp; try with_reducible rfl)
         try simp only [Act.put, List.setIfInBounds_toArray, List.set_cons_zero, List.set_cons_succ]
         refine wpAnyK_done (by kernel_rfl) ?_ _
         go_wp2_with fail
         go_meet
         exact ⟨_, _, _, _, Z, rfl, rfl, HF.out⟩
       ·
        go_simp
        have HR : Hid (Rg _ _ _ _ _) := HR.out.lit 2 ltB2 ltQ2; refine hK.out _ _ (fun _ => HR.out.k) ?_
        refine wpAnyK_step 11 rfl (by kernel_rfl) (fun K hK => ?_)
        go_simp
        have HR : Hid (Rg _ _ _ _ _) := HR.out.lit 3 ltB3 ltQ3; refine hK.out _ _ (fun _ => HR.out.k) ?_
        refine wpAnyK_step 12 rfl (by kernel_rfl) (fun K hK => ?_)
        go_simp
        refine (subq hk (HR.out.p (_, fM p 3 (fM p X X)) (by simp)) (HR.out.p (_, 3) (by simp))).mono ?_; rintro e wn ⟨rv, rfl, m, hB⟩; obtain ⟨kc0, kc1, kc2, rfl⟩ := m.nk.sl; have HR : Hid (Rg _ _ _ _ _) := HR.out.below hB m; clear m hB; refine hK.out _ _ (fun _ => HR.out.k) ?_; clear hK K; try simp only [Act.put, List.setIfInBounds_toArray, List.set_cons_zero, List.set_cons_succ]
        refine wpAnyK_step 17 rfl (by kernel_rfl) (fun K hK => ?_)
        go_simp
        refine (mulq hk (HR.out.p (_, 2) (by simp)) (HR.out.p (_, Y) (by simp))).mono ?_; rintro e wn ⟨rv, rfl, m, hB⟩; obtain ⟨kd0, kd1, kd2, rfl⟩ := m.nk.sl; have HR : Hid (Rg _ _ _ _ _) := HR.out.below hB m; clear m hB; refine hK.out _ _ (fun _ => HR.out.k) ?_; clear hK K; try simp only [Act.put, List.setIfInBounds_toArray, List.set_cons_zero, List.set_cons_succ]
        refine wpAnyK_step 18 rfl (by kernel_rfl) (fun K hK => ?_)
        go_simp
        refine (overq hk (HR.out.p (_, fS p (fM p 3 (fM p X X)) 3) (by simp)) (HR.out.p (_, fM p 2 Y) (by simp)) (two_pos hk.cv hk.pm HO.out.1) (fM_lt hk.pm _ _)).mono ?_; rintro e wn ⟨rv, Z, hZ, rfl, m, hB⟩; obtain ⟨r0, r1, r2, rfl⟩ := m.nk.sl; have HF : Hid (Inz (fM p 2 Y) p Z ∧ Mk _ (w.heap.size + 3) (.slice r0 r1 r2) (fM p (fS p (fM p 3 (fM p X X)) 3) Z) 384 ∧ Below _ _ _) := ⟨hZ, m.base (Nat.le_trans HW0.out HR.out.e.size), btr HR.out.e hB⟩; have HR : Hid (Rg _ _ _ _ _) := HR.out.below hB m; clear m hB hZ; refine hK.out _ _ (fun _ => HR.out.k) ?_; clear hK K; try simp only [Act.put, List.setIfInBounds_toArray, List.set_cons_zero, List.set_cons_succ]
        refine wpAnyK_take0 19 (v := ?v70) rfl (by kernel_rfl) (fun _ _ _ h => h) (Or.inl ⟨by rfl, ?hy70⟩) (fun h => nomatch (h.symm.trans (show _ = true by kernel_rfl))) ?_
        case hy70 => (intro w hSw; go_simp; try with_reducible rfl)
        try simp only [Act.put, List.setIfInBounds_toArray, List.set_cons_zero, List.set_cons_succ]
        refine wpAnyK_done (by kernel_rfl) ?_ _
        go_wp2_with fail
        go_meet
        exact ⟨_, _, _, _, Z, rfl, rfl, HF.out⟩
      ·
       go_simp
       have HR : Hid (Rg _ _ _ _ _) := HR.out.lit 3 ltB3 ltQ3; refine hK.out _ _ (fun _ => HR.out.k) ?_
       refine rdy2 10 14 rfl rfl (by kernel_rfl) (fun K hK => ?_) (fun K hK => ?_)
       ·
        go_simp
        refine (mulq hk (HR.out.p (_, 3) (by simp)) (HR.out.p (_, fM p X X) (by simp))).mono ?_; rintro e wn ⟨rv, rfl, m, hB⟩; obtain ⟨kb0, kb1, kb2, rfl⟩ := m.nk.sl; have HR : Hid (Rg _ _ _ _ _) := HR.out.below hB m; clear m hB; refine hK.out _ _ (fun _ => HR.out.k) ?_; clear hK K; try simp only [Act.put, List.setIfInBounds_toArray, List.set_cons_zero, List.set_cons_succ]
        refine rdy2 12 14 rfl rfl (by kernel_rfl) (fun K hK => ?_) (fun K hK => ?_)
        ·
         go_simp
         refine (subq hk (HR.out.p (_, fM p 3 (fM p X X)) (by simp)) (HR.out.p (_, 3) (by simp))).mono ?_; rintro e wn ⟨rv, rfl, m, hB⟩; obtain ⟨kc0, kc1, kc2, rfl⟩ := m.nk.sl; have HR : Hid (Rg _ _ _ _ _) := HR.out.below hB m; clear m hB; refine hK.out _ _ (fun _ => HR.out.k) ?_; clear hK K; try simp only [Act.put, List.setIfInBounds_toArray, List.set_cons_zero, List.set_cons_succ]
         refine wpAnyK_step 14 rfl (by kernel_rfl) (fun K hK => ?_)
         go_simp
         have HR : Hid (Rg _ _ _ _ _) := HR.out.lit 2 ltB2 ltQ2; refine hK.out _ _ (fun _ => HR.out.k) ?_
         refine wpAnyK_step 17 rfl (by kernel_rfl) (fun K hK => ?_)
         go_simp
         refine (mulq hk (HR.out.p (_, 2) (by simp)) (HR.out.p (_, Y) (by simp))).mono ?_; rintro e wn ⟨rv, rfl, m, hB⟩; obtain ⟨kd0, kd1, kd2, rfl⟩ := m.nk.sl; have HR : Hid (Rg _ _ _ _ _) := HR.out.below hB m; clear m hB; refine hK.out _ _ (fun _ => HR.out.k) ?_; clear hK K; try simp only [Act.put, List.setIfInBounds_toArray, List.set_cons_zero, List.set_cons_succ]
         refine wpAnyK_step 18 rfl (by kernel_rfl) (fun K hK => ?_)
         go_simp
         refine (overq hk (HR.out.p (_, fS p (fM p 3 (fM p X X)) 3) (by simp)) (HR.out.p (_, fM p 2 Y) (by simp)) (two_pos hk.cv hk.pm HO.out.1) (fM_lt hk.pm _ _)).mono ?_; rintro e wn ⟨rv, Z, hZ, rfl, m, hB⟩; obtain ⟨r0, r1, r2, rfl⟩ := m.nk.sl; have HF : Hid (Inz (fM p 2 Y) p Z ∧ Mk _ (w.heap.size + 3) (.slice r0 r1 r2) (fM p (fS p (fM p 3 (fM p X X)) 3) Z) 384 ∧ Below _ _ _) := ⟨hZ, m.base (Nat.le_trans HW0.out HR.out.e.size), btr HR.out.e hB⟩; have HR : Hid (Rg _ _ _ _ _) := HR.out.below hB m; clear m hB hZ; refine hK.out _ _ (fun _ => HR.out.k) ?_; clear hK K; try simp only [Act.put, List.setIfInBounds_toArray, List.set_cons_zero, List.set_cons_succ]
         refine wpAnyK_take0 19 (v := ?v71) rfl (by kernel_rfl) (fun _ _ _ h => h) (Or.inl ⟨by rfl, ?hy71⟩) (fun h => nomatch (h.symm.trans (show _ = true by kernel_rfl))) ?_
         case hy71 => (intro w hSw; go_simp; try with_reducible rfl)
         try simp only [Act.put, List.setIfInBounds_toArray, List.set_cons_zero, List.set_cons_succ]
         refine wpAnyK_done (by kernel_rfl) ?_ _
         go_wp2_with fail
         go_meet
         exact ⟨_, _, _, _, Z, rfl, rfl, HF.out⟩
        ·
         go_simp
         have HR : Hid (Rg _ _ _ _ _) := HR.out.lit 2 ltB2 ltQ2; refine hK.out _ _ (fun _ => HR.out.k) ?_
         refine wpAnyK_step 12 rfl (by kernel_rfl) (fun K hK => ?_)
         go_simp
         refine (subq hk (HR.out.p (_, fM p 3 (fM p X X)) (by simp)) (HR.out.p (_, 3) (by simp))).mono ?_; rintro e wn ⟨rv, rfl, m, hB⟩; obtain ⟨kc0, kc1, kc2, rfl⟩ := m.nk.sl; have HR : Hid (Rg _ _ _ _ _) := HR.out.below hB m; clear m hB; refine hK.out _ _ (fun _ => HR.out.k) ?_; clear hK K; try simp only [Act.put, List.setIfInBounds_toArray, List.set_cons_zero, List.set_cons_succ]
         refine wpAnyK_step 17 rfl (by kernel_rfl) (fun K hK => ?_)
         go_simp
         refine (mulq hk (HR.out.p (_, 2) (by simp)) (HR.out.p (_, Y) (by simp))).mono ?_; rintro e wn ⟨rv, rfl, m, hB⟩; obtain ⟨kd0, kd1, kd2, rfl⟩ := m.nk.sl; have HR : Hid (Rg _ _ _ _ _) := HR.out.below hB m; clear m hB; refine hK.out _ _ (fun _ => HR.out.k) ?_; clear hK K; try simp only [Act.put, List.setIfInBounds_toArray, List.set_cons_zero, List.set_cons_succ]
         refine wpAnyK_step 18 rfl (by kernel_rfl) (fun K hK => ?_)
         go_simp
         refine (overq hk (HR.out.p (_, fS p (fM p 3 (fM p X X)) 3) (by simp)) (HR.out.p (_, fM p 2 Y) (by simp)) (two_pos hk.cv hk.pm HO.out.1) (fM_lt hk.pm _ _)).mono ?_; rintro e wn ⟨rv, Z, hZ, rfl, m, hB⟩; obtain ⟨r0, r1, r2, rfl⟩ := m.nk.sl; have HF : Hid (Inz (fM p 2 Y) p Z ∧ Mk _ (w.heap.size + 3) (.slice r0 r1 r2) (fM p (fS p (fM p 3 (fM p X X)) 3) Z) 384 ∧ Below _ _ _) := ⟨hZ, m.base (Nat.le_trans HW0.out HR.out.e.size), btr HR.out.e hB⟩; have HR : Hid (Rg _ _ _ _ _) := HR.out.below hB m; clear m hB hZ; refine hK.out _ _ (fun _ => HR.out.k) ?_; clear hK K; try simp only [Act.put, List.setIfInBounds_toArray, List.set_cons_zero, List.set_cons_succ]
         refine wpAnyK_take0 19 (v := ?v72) rfl (by kernel_rfl) (fun _ _ _ h => h) (Or.inl ⟨by rfl, ?hy72⟩) (fun h => nomatch (h.symm.trans (show _ = true by kernel_rfl))) ?_
         case hy72 => (intro w hSw; go_simp; try with_reducible rfl)
         try simp only [Act.put, List.setIfInBounds_toArray, List.set_cons_zero, List.set_cons_succ]
         refine wpAnyK_done (by kernel_rfl) ?_ _
         go_wp2_with fail
         go_meet
         exact ⟨_, _, _, _, Z, rfl, rfl, HF.out⟩
       ·
        go_simp
        have HR : Hid (Rg _ _ _ _ _) := HR.out.lit 2 ltB2 ltQ2; refine hK.out _ _ (fun _ => HR.out.k) ?_
        refine wpAnyK_step 10 rfl (by kernel_rfl) (fun K hK => ?_)
        go_simp
        refine (mulq hk (HR.out.p (_, 3) (by simp)) (HR.out.p (_, fM p X X) (by simp))).mono ?_; rintro e wn ⟨rv, rfl, m, hB⟩; obtain ⟨kb0, kb1, kb2, rfl⟩ := m.nk.sl; have HR : Hid (Rg _ _ _ _ _) := HR.out.below hB m; clear m hB; refine hK.out _ _ (fun _ => HR.out.k) ?_; clear hK K; try simp only [Act.put, List.setIfInBounds_toArray, List.set_cons_zero, List.set_cons_succ]
        refine wpAnyK_step 12 rfl (by kernel_rfl) (fun K hK => ?_)
        go_simp
        refine (subq hk (HR.out.p (_, fM p 3 (fM p X X)) (by simp)) (HR.out.p (_, 3) (by simp))).mono ?_; rintro e wn ⟨rv, rfl, m, hB⟩; obtain ⟨kc0, kc1, kc2, rfl⟩ := m.nk.sl; have HR : Hid (Rg _ _ _ _ _) := HR.out.below hB m; clear m hB; refine hK.out _ _ (fun _ => HR.out.k) ?_; clear hK K; try simp only [Act.put, List.setIfInBounds_toArray, List.set_cons_zero, List.set_cons_succ]
        refine wpAnyK_step 17 rfl (by kernel_rfl) (fun K hK => ?_)
        go_simp
        refine (mulq hk (HR.out.p (_, 2) (by simp)) (HR.out.p (_, Y) (by simp))).mono ?_; rintro e wn ⟨rv, rfl, m, hB⟩; obtain ⟨kd0, kd1, kd2, rfl⟩ := m.nk.sl; have HR : Hid (Rg _ _ _ _ _) := HR.out.below hB m; clear m hB; refine hK.out _ _ (fun _ => HR.out.k) ?_; clear hK K; try simp only [Act.put, List.setIfInBounds_toArray, List.set_cons_zero, List.set_cons_succ]
        refine wpAnyK_step 18 rfl (by kernel_rfl) (fun K hK => ?_)
        go_simp
        refine (overq hk (HR.out.p (_, fS p (fM p 3 (fM p X X)) 3) (by simp)) (HR.out.p (_, fM p 2 Y) (by simp)) (two_pos hk.cv hk.pm HO.out.1) (fM_lt hk.pm _ _)).mono ?_; rintro e wn ⟨rv, Z, hZ, rfl, m, hB⟩; obtain ⟨r0, r1, r2, rfl⟩ := m.nk.sl; have HF : Hid (Inz (fM p 2 Y) p Z ∧ Mk _ (w.heap.size + 3) (.slice r0 r1 r2) (fM p (fS p (fM p 3 (fM p X X)) 3) Z) 384 ∧ Below _ _ _) := ⟨hZ, m.base (Nat.le_trans HW0.out HR.out.e.size), btr HR.out.e hB⟩; have HR : Hid (Rg _ _ _ _ _) := HR.out.below hB m; clear m hB hZ; refine hK.out _ _ (fun _ => HR.out.k) ?_; clear hK K; try simp only [Act.put, List.setIfInBounds_toArray, List.set_cons_zero, List.set_cons_succ]
        refine wpAnyK_take0 19 (v := ?v73) rfl (by kernel_rfl) (fun _ _ _ h => h) (Or.inl ⟨by rfl, ?hy73⟩) (fun h => nomatch (h.symm.trans (show _ = true by kernel_rfl))) ?_
        case hy73 => (intro w hSw; go_simp; try with_reducible rfl)
        try simp only [Act.put, List.setIfInBounds_toArray, List.set_cons_zero, List.set_cons_succ]
        refine wpAnyK_done (by kernel_rfl) ?_ _
        go_wp2_with fail
        go_meet
        exact ⟨_, _, _, _, Z, rfl, rfl, HF.out⟩
      ·
       go_simp
       have HR : Hid (Rg _ _ _ _ _) := HR.out.lit 2 ltB2 ltQ2; refine hK.out _ _ (fun _ => HR.out.k) ?_
       refine rdy2 10 11 rfl rfl (by kernel_rfl) (fun K hK => ?_) (fun K hK => ?_)
       ·
        go_simp
        refine (mulq hk (HR.out.p (_, 3) (by simp)) (HR.out.p (_, fM p X X) (by simp))).mono ?_; rintro e wn ⟨rv, rfl, m, hB⟩; obtain ⟨kb0, kb1, kb2, rfl⟩ := m.nk.sl; have HR : Hid (Rg _ _ _ _ _) := HR.out.below hB m; clear m hB; refine hK.out _ _ (fun _ => HR.out.k) ?_; clear hK K; try simp only [Act.put, List.setIfInBounds_toArray, List.set_cons_zero, List.set_cons_succ]
        refine wpAnyK_step 11 rfl (by kernel_rfl) (fun K hK => ?_)
        go_simp
        have HR : Hid (Rg _ _ _ _ _) := HR.out.lit 3 ltB3 ltQ3; refine hK.out _ _ (fun _ => HR.out.k) ?_
        refine wpAnyK_step 12 rfl (by kernel_rfl) (fun K hK => ?_)
        go_simp
        refine (subq hk (HR.out.p (_, fM p 3 (fM p X X)) (by simp)) (HR.out.p (_, 3) (by simp))).mono ?_; rintro e wn ⟨rv, rfl, m, hB⟩; obtain ⟨kc0, kc1, kc2, rfl⟩ := m.nk.sl; have HR : Hid (Rg _ _ _ _ _) := HR.out.below hB m; clear m hB; refine hK.out _ _ (fun _ => HR.out.k) ?_; clear hK K; try simp only [Act.put, List.setIfInBounds_toArray, List.set_cons_zero, List.set_cons_succ]
        refine wpAnyK_step 17 rfl (by kernel_rfl) (fun K hK => ?_)
        go_simp
        refine (mulq hk (HR.out.p (_, 2) (by simp)) (HR.out.p (_, Y) (by simp))).mono ?_; rintro e wn ⟨rv, rfl, m, hB⟩; obtain ⟨kd0, kd1, kd2, rfl⟩ := m.nk.sl; have HR : Hid (Rg _ _ _ _ _) := HR.out.below hB m; clear m hB; refine hK.out _ _ (fun _ => HR.out.k) ?_; clear hK K; try simp only [Act.put, List.setIfInBounds_toArray, List.set_cons_zero, List.set_cons_succ]
        refine wpAnyK_step 18 rfl (by kernel_rfl) (fun K hK => ?_)
        go_simp
        refine (overq hk (HR.out.p (_, fS p (fM p 3 (fM p X X)) 3) (by simp)) (HR.out.p (_, fM p 2 Y) (by simp)) (two_pos hk.cv hk.pm HO.out.1) (fM_lt hk.pm _ _)).mono ?_; rintro e wn ⟨rv, Z, hZ, rfl, m, hB⟩; obtain ⟨r0, r1, r2, rfl⟩ := m.nk.sl; have HF : Hid (Inz (fM p 2 Y) p Z ∧ Mk _ (w.heap.size + 3) (.slice r0 r1 r2) (fM p (fS p (fM p 3 (fM p X X)) 3) Z) 384 ∧ Below _ _ _) := ⟨hZ, m.base (Nat.le_trans HW0.out HR.out.e.size), btr HR.out.e hB⟩; have HR : Hid (Rg _ _ _ _ _) := HR.out.below hB m; clear m hB hZ; refine hK.out _ _ (fun _ => HR.out.k) ?_; clear hK K; try simp only [Act.put, List.setIfInBounds_toArray, List.set_cons_zero, List.set_cons_succ]
        refine wpAnyK_take0 19 (v := ?v74) rfl (by kernel_rfl) (fun _ _ _ h => h) (Or.inl ⟨by rfl, ?hy74⟩) (fun h => nomatch (h.symm.trans (show _ = true by kernel_rfl))) ?_
        case hy74 => (intro w hSw; go_simp; try with_reducible rfl)
        try simp only [Act.put, List.setIfInBounds_toArray, List.set_cons_zero, List.set_cons_succ]
        refine wpAnyK_done (by kernel_rfl) ?_ _
        go_wp2_with fail
        go_meet
        exact ⟨_, _, _, _, Z, rfl, rfl, HF.out⟩
       ·
        go_simp
        have HR : Hid (Rg _ _ _ _ _) := HR.out.lit 3 ltB3 ltQ3; refine hK.out _ _ (fun _ => HR.out.k) ?_
        refine wpAnyK_step 10 rfl (by kernel_rfl) (fun K hK => ?_)
        go_simp
        refine (mulq hk (HR.out.p (_, 3) (by simp)) (HR.out.p (_, fM p X X) (by simp))).mono ?_; rintro e wn ⟨rv, rfl, m, hB⟩; obtain ⟨kb0, kb1, kb2, rfl⟩ := m.nk.sl; have HR : Hid (Rg _ _ _ _ _) := HR.out.below hB m; clear m hB; refine hK.out _ _ (fun _ => HR.out.k) ?_; clear hK K; try simp only [Act.put, List.setIfInBounds_toArray, List.set_cons_zero, List.set_cons_succ]
        refine wpAnyK_step 12 rfl (by kernel_rfl) (fun K hK => ?_)
        go_simp
        refine (subq hk (HR.out.p (_, fM p 3 (fM p X X)) (by simp)) (HR.out.p (_, 3) (by simp))).mono ?_; rintro e wn ⟨rv, rfl, m, hB⟩; obtain ⟨kc0, kc1, kc2, rfl⟩ := m.nk.sl; have HR : Hid (Rg _ _ _ _ _) := HR.out.below hB m; clear m hB; refine hK.out _ _ (fun _ => HR.out.k) ?_; clear hK K; try simp only [Act.put, List.setIfInBounds_toArray, List.set_cons_zero, List.set_cons_succ]
        refine wpAnyK_step 17 rfl (by kernel_rfl) (fun K hK => ?_)
        go_simp
        refine (mulq hk (HR.out.p (_, 2) (by simp)) (HR.out.p (_, Y) (by simp))).mono ?_; rintro e wn ⟨rv, rfl, m, hB⟩; obtain ⟨kd0, kd1, kd2, rfl⟩ := m.nk.sl; have HR : Hid (Rg _ _ _ _ _) := HR.out.below hB m; clear m hB; refine hK.out _ _ (fun _ => HR.out.k) ?_; clear hK K; try simp only [Act.put, List.setIfInBounds_toArray, List.set_cons_zero, List.set_cons_succ]
        refine wpAnyK_step 18 rfl (by kernel_rfl) (fun K hK => ?_)
        go_simp
        refine (overq hk (HR.out.p (_, fS p (fM p 3 (fM p X X)) 3) (by simp)) (HR.out.p (_, fM p 2 Y) (by simp)) (two_pos hk.cv hk.pm HO.out.1) (fM_lt hk.pm _ _)).mono ?_; rintro e wn ⟨rv, Z, hZ, rfl, m, hB⟩; obtain ⟨r0, r1, r2, rfl⟩ := m.nk.sl; have HF : Hid (Inz (fM p 2 Y) p Z ∧ Mk _ (w.heap.size + 3) (.slice r0 r1 r2) (fM p (fS p (fM p 3 (fM p X X)) 3) Z) 384 ∧ Below _ _ _) := ⟨hZ, m.base (Nat.le_trans HW0.out HR.out.e.size), btr HR.out.e hB⟩; have HR : Hid (Rg _ _ _ _ _) := HR.out.below hB m; clear m hB hZ; refine hK.out _ _ (fun _ => HR.out.k) ?_; clear hK K; try simp only [Act.put, List.setIfInBounds_toArray, List.set_cons_zero, List.set_cons_succ]
        refine wpAnyK_take0 19 (v := ?v75) rfl (by kernel_rfl) (fun _ _ _ h => h) (Or.inl ⟨by rfl, ?hy75⟩) (fun h => nomatch (h.symm.trans (show _ = true by kernel_rfl))) ?_
        case hy75 => (intro w hSw; go_simp; try with_reducible rfl)
        try simp only [Act.put, List.setIfInBounds_toArray, List.set_cons_zero, List.set_cons_succ]
        refine wpAnyK_done (by kernel_rfl) ?_ _
        go_wp2_with fail
        go_meet
        exact ⟨_, _, _, _, Z, rfl, rfl, HF.out⟩
     ·
      go_simp
      have HR : Hid (Rg _ _ _ _ _) := HR.out.lit 3 ltB3 ltQ3; refine hK.out _ _ (fun _ => HR.out.k) ?_
      refine rdy2 3 14 rfl rfl (by kernel_rfl) (fun K hK => ?_) (fun K hK => ?_)
      ·
       go_simp
       have HR : Hid (Rg _ _ _ _ _) := HR.out.lit 3 ltB3 ltQ3; refine hK.out _ _ (fun _ => HR.out.k) ?_
       refine rdy2 10 14 rfl rfl (by kernel_rfl) (fun K hK => ?_) (fun K hK => ?_)
       ·
        go_simp
        refine (mulq hk (HR.out.p (_, 3) (by simp)) (HR.out.p (_, fM p X X) (by simp))).mono ?_; rintro e wn ⟨rv, rfl, m, hB⟩; obtain ⟨kb0, kb1, kb2, rfl⟩ := m.nk.sl; have HR : Hid (Rg _ _ _ _ _) := HR.out.below hB m; clear m hB; refine hK.out _ _ (fun _ => HR.out.k) ?_; clear hK K; try simp only [Act.put, List.setIfInBounds_toArray, List.set_cons_zero, List.set_cons_succ]
        refine rdy2 12 14 rfl rfl (by kernel_rfl) (fun K hK => ?_) (fun K hK => ?_)
        ·
         go_simp
         refine (subq hk (HR.out.p (_, fM p 3 (fM p X X)) (by simp)) (HR.out.p (_, 3) (by simp))).mono ?_; rintro e wn ⟨rv, rfl, m, hB⟩; obtain ⟨kc0, kc1, kc2, rfl⟩ := m.nk.sl; have HR : Hid (Rg _ _ _ _ _) := HR.out.below hB m; clear m hB; refine hK.out _ _ (fun _ => HR.out.k) ?_; clear hK K; try simp only [Act.put, List.setIfInBounds_toArray, List.set_cons_zero, List.set_cons_succ]
         refine wpAnyK_step 14 rfl (by kernel_rfl) (fun K hK => ?_)
         go_simp
         have HR : Hid (Rg _ _ _ _ _) := HR.out.lit 2 ltB2 ltQ2; refine hK.out _ _ (fun _ => HR.out.k) ?_
         refine wpAnyK_step 17 rfl (by kernel_rfl) (fun K hK => ?_)
         go_simp
         refine (mulq hk (HR.out.p (_, 2) (by simp)) (HR.out.p (_, Y) (by simp))).mono ?_; rintro e wn ⟨rv, rfl, m, hB⟩; obtain ⟨kd0, kd1, kd2, rfl⟩ := m.nk.sl; have HR : Hid (Rg _ _ _ _ _) := HR.out.below hB m; clear m hB; refine hK.out _ _ (fun _ => HR.out.k) ?_; clear hK K; try simp only [Act.put, List.setIfInBounds_toArray, List.set_cons_zero, List.set_cons_succ]
         refine wpAnyK_step 18 rfl (by kernel_rfl) (fun K hK => ?_)
         go_simp
         refine (overq hk (HR.out.p (_, fS p (fM p 3 (fM p X X)) 3) (by simp)) (HR.out.p (_, fM p 2 Y) (by simp)) (two_pos hk.cv hk.pm HO.out.1) (fM_lt hk.pm _ _)).mono ?_; rintro e wn ⟨rv, Z, hZ, rfl, m, hB⟩; obtain ⟨r0, r1, r2, rfl⟩ := m.nk.sl; have HF : Hid (Inz (fM p 2 Y) p Z ∧ Mk _ (w.heap.size + 3) (.slice r0 r1 r2) (fM p (fS p (fM p 3 (fM p X X)) 3) Z) 384 ∧ Below _ _ _) := ⟨hZ, m.base (Nat.le_trans HW0.out HR.out.e.size), btr HR.out.e hB⟩; have HR : Hid (Rg _ _ _ _ _) := HR.out.below hB m; clear m hB hZ; refine hK.out _ _ (fun _ => HR.out.k) ?_; clear hK K; try simp only [Act.put, List.setIfInBounds_toArray, List.set_cons_zero, List.set_cons_succ]
         refine wpAnyK_take0 19 (v := ?v76) rfl (by kernel_rfl) (fun _ _ _ h => h) (Or.inl ⟨by rfl, ?hy76⟩) (fun h => nomatch (h.symm.trans (show _ = true by kernel_rfl))) ?_
         case hy76 => (intro w hSw; go_simp; try with_reducible rfl)
         try simp only [Act.put, List.setIfInBounds_toArray, List.set_cons_zero, List.set_cons_succ]
         refine wpAnyK_done (by kernel_rfl) ?_ _
         go_wp2_with fail
         go_meet
         exact ⟨_, _, _, _, Z, rfl, rfl, HF.out⟩
        ·
         go_simp
         have HR : Hid (Rg _ _ _ _ _) := HR.out.lit 2 ltB2 ltQ2; refine hK.out _ _ (fun _ => HR.out.k) ?_
         refine wpAnyK_step 12 rfl (by kernel_rfl) (fun K hK => ?_)
         go_simp
         refine (subq hk (HR.out.p (_, fM p 3 (fM p X X)) (by simp)) (HR.out.p (_, 3) (by simp))).mono ?_; rintro e wn ⟨rv, rfl, m, hB⟩; obtain ⟨kc0, kc1, kc2, rfl⟩ := m.nk.sl; have HR : Hid (Rg _ _ _ _ _) := HR.out.below hB m; clear m hB; refine hK.out _ _ (fun _ => HR.out.k) ?_; clear hK K; try simp only [Act.put, List.setIfInBounds_toArray, List.set_cons_zero, List.set_cons_succ]
         refine wpAnyK_step 17 rfl (by kernel_rfl) (fun K hK => ?_)
         go_simp
         refine (mulq hk (HR.out.p (_, 2) (by simp)) (HR.out.p (_, Y) (by simp))).mono ?_; rintro e wn ⟨rv, rfl, m, hB⟩; obtain ⟨kd0, kd1, kd2, rfl⟩ := m.nk.sl; have HR : Hid (Rg _ _ _ _ _) := HR.out.below hB m; clear m hB; refine hK.out _ _ (fun _ => HR.out.k) ?_; clear hK K; try simp only [Act.put, List.setIfInBounds_toArray, List.set_cons_zero, List.set_cons_succ]
         refine wpAnyK_step 18 rfl (by kernel_rfl) (fun K hK => ?_)
         go_simp
         refine (overq hk (HR.out.p (_, fS p (fM p 3 (fM p X X)) 3) (by simp)) (HR.out.p (_, fM p 2 Y) (by simp)) (two_pos hk.cv hk.pm HO.out.1) (fM_lt hk.pm _ _)).mono ?_; rintro e wn ⟨rv, Z, hZ, rfl, m, hB⟩; obtain ⟨r0, r1, r2, rfl⟩ := m.nk.sl; have HF : Hid (Inz (fM p 2 Y) p Z ∧ Mk _ (w.heap.size + 3) (.slice r0 r1 r2) (fM p (fS p (fM p 3 (fM p X X)) 3) Z) 384 ∧ Below _ _ _) := ⟨hZ, m.base (Nat.le_trans HW0.out HR.out.e.size), btr HR.out.e hB⟩; have HR : Hid (Rg _ _ _ _ _) := HR.out.below hB m; clear m hB hZ; refine hK.out _ _ (fun _ => HR.out.k) ?_; clear hK K; try simp only [Act.put, List.setIfInBounds_toArray, List.set_cons_zero, List.set_cons_succ]
         refine wpAnyK_take0 19 (v := ?v77) rfl (by kernel_rfl) (fun _ _ _ h => h) (Or.inl ⟨by rfl, ?hy77⟩) (fun h => nomatch (h.symm.trans (show _ = true by kernel_rfl))) ?_
         case hy77 => (intro w hSw; go_simp; try with_reducible rfl)
         try simp only [Act.put, List.setIfInBounds_toArray, List.set_cons_zero, List.set_cons_succ]
         refine wpAnyK_done (by kernel_rfl) ?_ _
         go_wp2_with fail
         go_meet
         exact ⟨_, _, _, _, Z, rfl, rfl, HF.out⟩
       ·
        go_simp
        have HR : Hid (Rg _ _ _ _ _) := HR.out.lit 2 ltB2 ltQ2; refine hK.out _ _ (fun _ => HR.out.k) ?_
        refine wpAnyK_step 10 rfl (by kernel_rfl) (fun K hK => ?_)
        go_simp
        refine (mulq hk (HR.out.p (_, 3) (by simp)) (HR.out.p (_, fM p X X) (by simp))).mono ?_; rintro e wn ⟨rv, rfl, m, hB⟩; obtain ⟨kb0, kb1, kb2, rfl⟩ := m.nk.sl; have HR : Hid (Rg _ _ _ _ _) := HR.out.below hB m; clear m hB; refine hK.out _ _ (fun _ => HR.out.k) ?_; clear hK K; try simp only [Act.put, List.setIfInBounds_toArray, List.set_cons_zero, List.set_cons_succ]
        refine wpAnyK_step 12 rfl (by kernel_rfl) (fun K hK => ?_)
        go_simp
        refine (subq hk (HR.out.p (_, fM p 3 (fM p X X)) (by simp)) (HR.out.p (_, 3) (by simp))).mono ?_; rintro e wn ⟨rv, rfl, m, hB⟩; obtain ⟨kc0, kc1, kc2, rfl⟩ := m.nk.sl; have HR : Hid (Rg _ _ _ _ _) := HR.out.below hB m; clear m hB; refine hK.out _ _ (fun _ => HR.out.k) ?_; clear hK K; try simp only [Act.put, List.setIfInBounds_toArray, List.set_cons_zero, List.set_cons_succ]
        refine wpAnyK_step 17 rfl (by kernel_rfl) (fun K hK => ?_)
        go_simp
        refine (mulq hk (HR.out.p (_, 2) (by simp)) (HR.out.p (_, Y) (by simp))).mono ?_; rintro e wn ⟨rv, rfl, m, hB⟩; obtain ⟨kd0, kd1, kd2, rfl⟩ := m.nk.sl; have HR : Hid (Rg _ _ _ _ _) := HR.out.below hB m; clear m hB; refine hK.out _ _ (fun _ => HR.out.k) ?_; clear hK K; try simp only [Act.put, List.setIfInBounds_toArray, List.set_cons_zero, List.set_cons_succ]
        refine wpAnyK_step 18 rfl (by kernel_rfl) (fun K hK => ?_)
        go_simp
        refine (overq hk (HR.out.p (_, fS p (fM p 3 (fM p X X)) 3) (by simp)) (HR.out.p (_, fM p 2 Y) (by simp)) (two_pos hk.cv hk.pm HO.out.1) (fM_lt hk.pm _ _)).mono ?_; rintro e wn ⟨rv, Z, hZ, rfl, m, hB⟩; obtain ⟨r0, r1, r2, rfl⟩ := m.nk.sl; have HF : Hid (Inz (fM p 2 Y) p Z ∧ Mk _ (w.heap.size + 3) (.slice r0 r1 r2) (fM p (fS p (fM p 3 (fM p X X)) 3) Z) 384 ∧ Below _ _ _) := ⟨hZ, m.base (Nat.le_trans HW0.out HR.out.e.size), btr HR.out.e hB⟩; have HR : Hid (Rg _ _ _ _ _) := HR.out.below hB m; clear m hB hZ; refine hK.out _ _ (fun _ => HR.out.k) ?_; clear hK K; try simp only [Act.put, List.setIfInBounds_toArray, List.set_cons_zero, List.set_cons_succ]
        refine wpAnyK_take0 19 (v := ?v78) rfl (by kernel_rfl) (fun _ _ _ h => h) (Or.inl ⟨by rfl, ?hy78⟩) (fun h => nomatch (h.symm.trans (show _ = true by kernel_rfl))) ?_
        case hy78 => (intro w hSw; go_simp; try with_reducible rfl)
        try simp only [Act.put, List.setIfInBounds_toArray, List.set_cons_zero, List.set_cons_succ]
        refine wpAnyK_done (by kernel_rfl) ?_ _
        go_wp2_with fail
        go_meet
        exact ⟨_, _, _, _, Z, rfl, rfl, HF.out⟩
      ·
       go_simp
       have HR : Hid (Rg _ _ _ _ _) := HR.out.lit 2 ltB2 ltQ2; refine hK.out _ _ (fun _ => HR.out.k) ?_
       refine wpAnyK_step 3 rfl (by kernel_rfl) (fun K hK => ?_)
       go_simp
       have HR : Hid (Rg _ _ _ _ _) := HR.out.lit 3 ltB3 ltQ3; refine hK.out _ _ (fun _ => HR.out.k) ?_
       refine wpAnyK_step 10 rfl (by kernel_rfl) (fun K hK => ?_)
       go_simp
       refine (mulq hk (HR.out.p (_, 3) (by simp)) (HR.out.p (_, fM p X X) (by simp))).mono ?_; rintro e wn ⟨rv, rfl, m, hB⟩; obtain ⟨kb0, kb1, kb2, rfl⟩ := m.nk.sl; have HR : Hid (Rg _ _ _ _ _) := HR.out.below hB m; clear m hB; refine hK.out _ _ (fun _ => HR.out.k) ?_; clear hK K; try simp only [Act.put, List.setIfInBounds_toArray, List.set_cons_zero, List.set_cons_succ]
       refine wpAnyK_step 12 rfl (by kernel_rfl) (fun K hK => ?_)
       go_simp
       refine (subq hk (HR.out.p (_, fM p 3 (fM p X X)) (by simp)) (HR.out.p (_, 3) (by simp))).mono ?_; rintro e wn ⟨rv, rfl, m, hB⟩; obtain ⟨kc0, kc1, kc2, rfl⟩ := m.nk.sl; have HR : Hid (Rg _ _ _ _ _) := HR.out.below hB m; clear m hB; refine hK.out _ _ (fun _ => HR.out.k) ?_; clear hK K; try simp only [Act.put, List.setIfInBounds_toArray, List.set_cons_zero, List.set_cons_succ]
       refine wpAnyK_step 17 rfl (by kernel_rfl) (fun K hK => ?_)
       go_simp
       refine (mulq hk (HR.out.p (_, 2) (by simp)) (HR.out.p (_, Y) (by simp))).mono ?_; rintro e wn ⟨rv, rfl, m, hB⟩; obtain ⟨kd0, kd1, kd2, rfl⟩ := m.nk.sl; have HR : Hid (Rg _ _ _ _ _) := HR.out.below hB m; clear m hB; refine hK.out _ _ (fun _ => HR.out.k) ?_; clear hK K; try simp only [Act.put, List.setIfInBounds_toArray, List.set_cons_zero, List.set_cons_succ]
       refine wpAnyK_step 18 rfl (by kernel_rfl) (fun K hK => ?_)
       go_simp
       refine (overq hk (HR.out.p (_, fS p (fM p 3 (fM p X X)) 3) (by simp)) (HR.out.p (_, fM p 2 Y) (by simp)) (two_pos hk.cv hk.pm HO.out.1) (fM_lt hk.pm _ _)).mono ?_; rintro e wn ⟨rv, Z, hZ, rfl, m, hB⟩; obtain ⟨r0, r1, r2, rfl⟩ := m.nk.sl; have HF : Hid (Inz (fM p 2 Y) p Z ∧ Mk _ (w.heap.size + 3) (.slice r0 r1 r2) (fM p (fS p (fM p 3 (fM p X X)) 3) Z) 384 ∧ Below _ _ _) := ⟨hZ, m.base (Nat.le_trans HW0.out HR.out.e.size), btr HR.out.e hB⟩; have HR : Hid (Rg _ _ _ _ _) := HR.out.below hB m; clear m hB hZ; refine hK.out _ _ (fun _ => HR.out.k) ?_; clear hK K; try simp only [Act.put, List.setIfInBounds_toArray, List.set_cons_zero, List.set_cons_succ]
       refine wpAnyK_take0 19 (v := ?v79) rfl (by kernel_rfl) (fun _ _ _ h => h) (Or.inl ⟨by rfl, ?hy79⟩) (fun h => nomatch (h.symm.trans (show _ = true by kernel_rfl))) ?_
       case hy79 => (intro w hSw; go_simp; try with_reducible rfl)
       try simp only [Act.put, List.setIfInBounds_toArray, List.set_cons_zero, List.set_cons_succ]
       refine wpAnyK_done (by kernel_rfl) ?_ _
       go_wp2_with fail
       go_meet
       exact ⟨_, _, _, _, Z, rfl, rfl, HF.out⟩
     ·
      go_simp
      have HR : Hid (Rg _ _ _ _ _) := HR.out.lit 2 ltB2 ltQ2; refine hK.out _ _ (fun _ => HR.out.k) ?_
      refine rdy2 3 11 rfl rfl (by kernel_rfl) (fun K hK => ?_) (fun K hK => ?_)
      ·
       go_simp
       have HR : Hid (Rg _ _ _ _ _) := HR.out.lit 3 ltB3 ltQ3; refine hK.out _ _ (fun _ => HR.out.k) ?_
       refine rdy2 10 11 rfl rfl (by kernel_rfl) (fun K hK => ?_) (fun K hK => ?_)
       ·
        go_simp
        refine (mulq hk (HR.out.p (_, 3) (by simp)) (HR.out.p (_, fM p X X) (by simp))).mono ?_; rintro e wn ⟨rv, rfl, m, hB⟩; obtain ⟨kb0, kb1, kb2, rfl⟩ := m.nk.sl; have HR : Hid (Rg _ _ _ _ _) := HR.out.below hB m; clear m hB; refine hK.out _ _ (fun _ => HR.out.k) ?_; clear hK K; try simp only [Act.put, List.setIfInBounds_toArray, List.set_cons_zero, List.set_cons_succ]
        refine wpAnyK_step 11 rfl (by kernel_rfl) (fun K hK => ?_)
        go_simp
        have HR : Hid (Rg _ _ _ _ _) := HR.out.lit 3 ltB3 ltQ3; refine hK.out _ _ (fun _ => HR.out.k) ?_
        refine wpAnyK_step 12 rfl (by kernel_rfl) (fun K hK => ?_)
        go_simp
        refine (subq hk (HR.out.p (_, fM p 3 (fM p X X)) (by simp)) (HR.out.p (_, 3) (by simp))).mono ?_; rintro e wn ⟨rv, rfl, m, hB⟩; obtain ⟨kc0, kc1, kc2, rfl⟩ := m.nk.sl; have HR : Hid (Rg _ _ _ _ _) := HR.out.below hB m; clear m hB; refine hK.out _ _ (fun _ => HR.out.k) ?_; clear hK K; try simp only [Act.put, List.setIfInBounds_toArray, List.set_cons_zero, List.set_cons_succ]
        refine wpAnyK_step 17 rfl (by kernel_rfl) (fun K hK => ?_)
        go_simp
        refine (mulq hk (HR.out.p (_, 2) (by simp)) (HR.out.p (_, Y) (by simp))).mono ?_; rintro e wn ⟨rv, rfl, m, hB⟩; obtain ⟨kd0, kd1, kd2, rfl⟩ := m.nk.sl; have HR : Hid (Rg _ _ _ _ _) := HR.out.below hB m; clear m hB; refine hK.out _ _ (fun _ => HR.out.k) ?_; clear hK K; try simp only [Act.put, List.setIfInBounds_toArray, List.set_cons_zero, List.set_cons_succ]
        refine wpAnyK_step 18 rfl (by kernel_rfl) (fun K hK => ?_)
        go_simp
        refine (overq hk (HR.out.p (_, fS p (fM p 3 (fM p X X)) 3) (by simp)) (HR.out.p (_, fM p 2 Y) (by simp)) (two_pos hk.cv hk.pm HO.out.1) (fM_lt hk.pm _ _)).mono ?_; rintro e wn ⟨rv, Z, hZ, rfl, m, hB⟩; obtain ⟨r0, r1, r2, rfl⟩ := m.nk.sl; have HF : Hid (Inz (fM p 2 Y) p Z ∧ Mk _ (w.heap.size + 3) (.slice r0 r1 r2) (fM p (fS p (fM p 3 (fM p X X)) 3) Z) 384 ∧ Below _ _ _) := ⟨hZ, m.base (Nat.le_trans HW0.out HR.out.e.size), btr HR.out.e hB⟩; have HR : Hid (Rg _ _ _ _ _) := HR.out.below hB m; clear m hB hZ; refine hK.out _ _ (fun _ => HR.out.k) ?_; clear hK K; try simp only [Act.put, List.setIfInBounds_toArray, List.set_cons_zero, List.set_cons_succ]
        refine wpAnyK_take0 19 (v := ?v80) rfl (by kernel_rfl) (fun _ _ _ h => h) (Or.inl ⟨by rfl, ?hy80⟩) (fun h => nomatch (h.symm.trans (show _ = true by kernel_rfl))) ?_
        case hy80 => (intro w hSw; go_simp; try with_reducible rfl)
        try simp only [Act.put, List.setIfInBounds_toArray, List.set_cons_zero, List.set_cons_succ]
        refine wpAnyK_done (by kernel_rfl) ?_ _
        go_wp2_with fail
        go_meet
        exact ⟨_, _, _, _, Z, rfl, rfl, HF.out⟩
       ·
        go_simp
        have HR : Hid (Rg _ _ _ _ _) := HR.out.lit 3 ltB3 ltQ3; refine hK.out _ _ (fun _ => HR.out.k) ?_
        refine wpAnyK_step 10 rfl (by kernel_rfl) (fun K hK => ?_)
        go_simp
        refine (mulq hk (HR.out.p (_, 3) (by simp)) (HR.out.p (_, fM p X X) (by simp))).mono ?_; rintro e wn ⟨rv, rfl, m, hB⟩; obtain ⟨kb0, kb1, kb2, rfl⟩ := m.nk.sl; have HR : Hid (Rg _ _ _ _ _) := HR.out.below hB m; clear m hB; refine hK.out _ _ (fun _ => HR.out.k) ?_; clear hK K; try simp only [Act.put, List.setIfInBounds_toArray, List.set_cons_zero, List.set_cons_succ]
        refine wpAnyK_step 12 rfl (by kernel_rfl) (fun K hK => ?_)
        go_simp
        refine (subq hk (HR.out.p (_, fM p 3 (fM p X X)) (by simp)) (HR.out.p (_, 3) (by simp))).mono ?_; rintro e wn ⟨rv, rfl, m, hB⟩; obtain ⟨kc0, kc1, kc2, rfl⟩ := m.nk.sl; have HR : Hid (Rg _ _ _ _ _) := HR.out.below hB m; clear m hB; refine hK.out _ _ (fun _ => HR.out.k) ?_; clear hK K; try simp only [Act.put, List.setIfInBounds_toArray, List.set_cons_zero, List.set_cons_succ]
        refine wpAnyK_step 17 rfl (by kernel_rfl) (fun K hK => ?_)
        go_simp
        refine (mulq hk (HR.out.p (_, 2) (by simp)) (HR.out.p (_, Y) (by simp))).mono ?_; rintro e wn ⟨rv, rfl, m, hB⟩; obtain ⟨kd0, kd1, kd2, rfl⟩ := m.nk.sl; have HR : Hid (Rg _ _ _ _ _) := HR.out.below hB m; clear m hB; refine hK.out _ _ (fun _ => HR.out.k) ?_; clear hK K; try simp only [Act.put, List.setIfInBounds_toArray, List.set_cons_zero, List.set_cons_succ]
        refine wpAnyK_step 18 rfl (by kernel_rfl) (fun K hK => ?_)
        go_simp
        refine (overq hk (HR.out.p (_, fS p (fM p 3 (fM p X X)) 3) (by simp)) (HR.out.p (_, fM p 2 Y) (by simp)) (two_pos hk.cv hk.pm HO.out.1) (fM_lt hk.pm _ _)).mono ?_; rintro e wn ⟨rv, Z, hZ, rfl, m, hB⟩; obtain ⟨r0, r1, r2, rfl⟩ := m.nk.sl; have HF : Hid (Inz (fM p 2 Y) p Z ∧ Mk _ (w.heap.size + 3) (.slice r0 r1 r2) (fM p (fS p (fM p 3 (fM p X X)) 3) Z) 384 ∧ Below _ _ _) := ⟨hZ, m.base (Nat.le_trans HW0.out HR.out.e.size), btr HR.out.e hB⟩; have HR : Hid (Rg _ _ _ _ _) := HR.out.below hB m; clear m hB hZ; refine hK.out _ _ (fun _ => HR.out.k) ?_; clear hK K; try simp only [Act.put, List.setIfInBounds_toArray, List.set_cons_zero, List.set_cons_succ]
        refine wpAnyK_take0 19 (v := ?v81) rfl (by kernel_rfl) (fun _ _ _ h => h) (Or.inl ⟨by rfl, ?hy81⟩) (fun h => nomatch (h.symm.trans (show _ = true by kernel_rfl))) ?_
        case hy81 => (intro w hSw; go_simp; try with_reducible rfl)
        try simp only [Act.put, List.setIfInBounds_toArray, List.set_cons_zero, List.set_cons_succ]
        refine wpAnyK_done (by kernel_rfl) ?_ _
        go_wp2_with fail
        go_meet
        exact ⟨_, _, _, _, Z, rfl, rfl, HF.out⟩
      ·
       go_simp
       have HR : Hid (Rg _ _ _ _ _) := HR.out.lit 3 ltB3 ltQ3; refine hK.out _ _ (fun _ => HR.out.k) ?_
       refine wpAnyK_step 3 rfl (by kernel_rfl) (fun K hK => ?_)
       go_simp
       have HR : Hid (Rg _ _ _ _ _) := HR.out.lit 3 ltB3 ltQ3; refine hK.out _ _ (fun _ => HR.out.k) ?_
       refine wpAnyK_step 10 rfl (by kernel_rfl) (fun K hK => ?_)
       go_simp
       refine (mulq hk (HR.out.p (_, 3) (by simp)) (HR.out.p (_, fM p X X) (by simp))).mono ?_; rintro e wn ⟨rv, rfl, m, hB⟩; obtain ⟨kb0, kb1, kb2, rfl⟩ := m.nk.sl; have HR : Hid (Rg _ _ _ _ _) := HR.out.below hB m; clear m hB; refine hK.out _ _ (fun _ => HR.out.k) ?_; clear hK K; try simp only [Act.put, List.setIfInBounds_toArray, List.set_cons_zero, List.set_cons_succ]
       refine wpAnyK_step 12 rfl (by kernel_rfl) (fun K hK => ?_)
       go_simp
       refine (subq hk (HR.out.p (_, fM p 3 (fM p X X)) (by simp)) (HR.out.p (_, 3) (by simp))).mono ?_; rintro e wn ⟨rv, rfl, m, hB⟩; obtain ⟨kc0, kc1, kc2, rfl⟩ := m.nk.sl; have HR : Hid (Rg _ _ _ _ _) := HR.out.below hB m; clear m hB; refine hK.out _ _ (fun _ => HR.out.k) ?_; clear hK K; try simp only [Act.put, List.setIfInBounds_toArray, List.set_cons_zero, List.set_cons_succ]
       refine wpAnyK_step 17 rfl (by kernel_rfl) (fun K hK => ?_)
       go_simp
       refine (mulq hk (HR.out.p (_, 2) (by simp)) (HR.out.p (_, Y) (by simp))).mono ?_; rintro e wn ⟨rv, rfl, m, hB⟩; obtain ⟨kd0, kd1, kd2, rfl⟩ := m.nk.sl; have HR : Hid (Rg _ _ _ _ _) := HR.out.below hB m; clear m hB; refine hK.out _ _ (fun _ => HR.out.k) ?_; clear hK K; try simp only [Act.put, List.setIfInBounds_toArray, List.set_cons_zero, List.set_cons_succ]
       refine wpAnyK_step 18 rfl (by kernel_rfl) (fun K hK => ?_)
       go_simp
       refine (overq hk (HR.out.p (_, fS p (fM p 3 (fM p X X)) 3) (by simp)) (HR.out.p (_, fM p 2 Y) (by simp)) (two_pos hk.cv hk.pm HO.out.1) (fM_lt hk.pm _ _)).mono ?_; rintro e wn ⟨rv, Z, hZ, rfl, m, hB⟩; obtain ⟨r0, r1, r2, rfl⟩ := m.nk.sl; have HF : Hid (Inz (fM p 2 Y) p Z ∧ Mk _ (w.heap.size + 3) (.slice r0 r1 r2) (fM p (fS p (fM p 3 (fM p X X)) 3) Z) 384 ∧ Below _ _ _) := ⟨hZ, m.base (Nat.le_trans HW0.out HR.out.e.size), btr HR.out.e hB⟩; have HR : Hid (Rg _ _ _ _ _) := HR.out.below hB m; clear m hB hZ; refine hK.out _ _ (fun _ => HR.out.k) ?_; clear hK K; try simp only [Act.put, List.setIfInBounds_toArray, List.set_cons_zero, List.set_cons_succ]
       refine wpAnyK_take0 19 (v := ?v82) rfl (by kernel_rfl) (fun _ _ _ h => h) (Or.inl ⟨by rfl, ?hy82⟩) (fun h => nomatch (h.symm.trans (show _ = true by kernel_rfl))) ?_
       case hy82 => (intro w hSw; go_simp; try with_reducible rfl)
       try simp only [Act.put, List.setIfInBounds_toArray, List.set_cons_zero, List.set_cons_succ]
       refine wpAnyK_done (by kernel_rfl) ?_ _
       go_wp2_with fail
       go_meet
       exact ⟨_, _, _, _, Z, rfl, rfl, HF.out⟩
    ·
     go_simp
     have HR : Hid (Rg _ _ _ _ _) := HR.out.lit 3 ltB3 ltQ3; refine hK.out _ _ (fun _ => HR.out.k) ?_
     refine rdy3 3 9 14 rfl rfl rfl (by kernel_rfl) (fun K hK => ?_) (fun K hK => ?_) (fun K hK => ?_)
     ·
      go_simp
      have HR : Hid (Rg _ _ _ _ _) := HR.out.lit 3 ltB3 ltQ3; refine hK.out _ _ (fun _ => HR.out.k) ?_
      refine rdy2 9 14 rfl rfl (by kernel_rfl) (fun K hK => ?_) (fun K hK => ?_)
      ·
       go_simp
       refine (mulq hk (HR.out.p (_, X) (by simp)) (HR.out.p (_, X) (by simp))).mono ?_; rintro e wn ⟨rv, rfl, m, hB⟩; obtain ⟨ka0, ka1, ka2, rfl⟩ := m.nk.sl; have HR : Hid (Rg _ _ _ _ _) := HR.out.below hB m; clear m hB; refine hK.out _ _ (fun _ => HR.out.k) ?_; clear hK K; try simp only [Act.put, List.setIfInBounds_toArray, List.set_cons_zero, List.set_cons_succ]
       refine rdy2 10 14 rfl rfl (by kernel_rfl) (fun K hK => ?_) (fun K hK => ?_)
       ·
        go_simp
        refine (mulq hk (HR.out.p (_, 3) (by simp)) (HR.out.p (_, fM p X X) (by simp))).mono ?_; rintro e wn ⟨rv, rfl, m, hB⟩; obtain ⟨kb0, kb1, kb2, rfl⟩ := m.nk.sl; have HR : Hid (Rg _ _ _ _ _) := HR.out.below hB m; clear m hB; refine hK.out _ _ (fun _ => HR.out.k) ?_; clear hK K; try simp only [Act.put, List.setIfInBounds_toArray, List.set_cons_zero, List.set_cons_succ]
        refine rdy2 12 14 rfl rfl (by kernel_rfl) (fun K hK => ?_) (fun K hK => ?_)
        ·
         go_simp
         refine (subq hk (HR.out.p (_, fM p 3 (fM p X X)) (by simp)) (HR.out.p (_, 3) (by simp))).mono ?_; rintro e wn ⟨rv, rfl, m, hB⟩; obtain ⟨kc0, kc1, kc2, rfl⟩ := m.nk.sl; have HR : Hid (Rg _ _ _ _ _) := HR.out.below hB m; clear m hB; refine hK.out _ _ (fun _ => HR.out.k) ?_; clear hK K; try simp only [Act.put, List.setIfInBounds_toArray, List.set_cons_zero, List.set_cons_succ]
         refine wpAnyK_step 14 rfl (by kernel_rfl) (fun K hK => ?_)
         go_simp
         have HR : Hid (Rg _ _ _ _ _) := HR.out.lit 2 ltB2 ltQ2; refine hK.out _ _ (fun _ => HR.out.k) ?_
         refine wpAnyK_step 17 rfl (by kernel_rfl) (fun K hK => ?_)
         go_simp
         refine (mulq hk (HR.out.p (_, 2) (by simp)) (HR.out.p (_, Y) (by simp))).mono ?_; rintro e wn ⟨rv, rfl, m, hB⟩; obtain ⟨kd0, kd1, kd2, rfl⟩ := m.nk.sl; have HR : Hid (Rg _ _ _ _ _) := HR.out.below hB m; clear m hB; refine hK.out _ _ (fun _ => HR.out.k) ?_; clear hK K; try simp only [Act.put, List.setIfInBounds_toArray, List.set_cons_zero, List.set_cons_succ]
         refine wpAnyK_step 18 rfl (by kernel_rfl) (fun K hK => ?_)
         go_simp
         refine (overq hk (HR.out.p (_, fS p (fM p 3 (fM p X X)) 3) (by simp)) (HR.out.p (_, fM p 2 Y) (by simp)) (two_pos hk.cv hk.pm HO.out.1) (fM_lt hk.pm _ _)).mono ?_; rintro e wn ⟨rv, Z, hZ, rfl, m, hB⟩; obtain ⟨r0, r1, r2, rfl⟩ := m.nk.sl; have HF : Hid (Inz (fM p 2 Y) p Z ∧ Mk _ (w.heap.size + 3) (.slice r0 r1 r2) (fM p (fS p (fM p 3 (fM p X X)) 3) Z) 384 ∧ Below _ _ _) := ⟨hZ, m.base (Nat.le_trans HW0.out HR.out.e.size), btr HR.out.e hB⟩; have HR : Hid (Rg _ _ _ _ _) := HR.out.below hB m; clear m hB hZ; refine hK.out _ _ (fun _ => HR.out.k) ?_; clear hK K; try simp only [Act.put, List.setIfInBounds_toArray, List.set_cons_zero, List.set_cons_succ]
         refine wpAnyK_take0 19 (v := ?v83) rfl (by kernel_rfl) (fun _ _ _ h => h) (Or.inl ⟨by rfl, ?hy83⟩) (fun h => nomatch (h.symm.trans (show _ = true by kernel_rfl))) ?_
         case hy83 => (intro w hSw; go_simp; try with_reducible rfl)
         try simp only [Act.put, List.setIfInBounds_toArray, List.set_cons_zero, List.set_cons_succ]
         refine wpAnyK_done (by kernel_rfl) ?_ _
         go_wp2_with fail
         go_meet
         exact ⟨_, _, _, _, Z, rfl, rfl, HF.out⟩
        ·
         go_simp
         have HR : Hid (Rg _ _ _ _ _) := HR.out.lit 2 ltB2 ltQ2; refine hK.out _ _ (fun _ => HR.out.k) ?_
         refine wpAnyK_step 12 rfl (by kernel_rfl) (fun K hK => ?_)
         go_simp
         refine (subq hk (HR.out.p (_, fM p 3 (fM p X X)) (by simp)) (HR.out.p (_, 3) (by simp))).mono ?_; rintro e wn ⟨rv, rfl, m, hB⟩; obtain ⟨kc0, kc1, kc2, rfl⟩ := m.nk.sl; have HR : Hid (Rg _ _ _ _ _) := HR.out.below hB m; clear m hB; refine hK.out _ _ (fun _ => HR.out.k) ?_; clear hK K; try simp only [Act.put, List.setIfInBounds_toArray, List.set_cons_zero, List.set_cons_succ]
         refine wpAnyK_step 17 rfl (by kernel_rfl) (fun K hK => ?_)
         go_simp
         refine (mulq hk (HR.out.p (_, 2) (by simp)) (HR.out.p (_, Y) (by simp))).mono ?_; rintro e wn ⟨rv, rfl, m, hB⟩; obtain ⟨kd0, kd1, kd2, rfl⟩ := m.nk.sl; have HR : Hid (Rg _ _ _ _ _) := HR.out.below hB m; clear m hB; refine hK.out _ _ (fun _ => HR.out.k) ?_; clear hK K; try simp only [Act.put, List.setIfInBounds_toArray, List.set_cons_zero, List.set_cons_succ]
         refine wpAnyK_step 18 rfl (by kernel_rfl) (fun K hK => ?_)
         go_simp
         refine (overq hk (HR.out.p (_, fS p (fM p 3 (fM p X X)) 3) (by simp)) (HR.out.p (_, fM p 2 Y) (by simp)) (two_pos hk.cv hk.pm HO.out.1) (fM_lt hk.pm _ _)).mono ?_; rintro e wn ⟨rv, Z, hZ, rfl, m, hB⟩; obtain ⟨r0, r1, r2, rfl⟩ := m.nk.sl; have HF : Hid (Inz (fM p 2 Y) p Z ∧ Mk _ (w.heap.size + 3) (.slice r0 r1 r2) (fM p (fS p (fM p 3 (fM p X X)) 3) Z) 384 ∧ Below _ _ _) := ⟨hZ, m.base (Nat.le_trans HW0.out HR.out.e.size), btr HR.out.e hB⟩; have HR : Hid (Rg _ _ _ _ _) := HR.out.below hB m; clear m hB hZ; refine hK.out _ _ (fun _ => HR.out.k) ?_; clear hK K; try simp only [Act.put, List.setIfInBounds_toArray, List.set_cons_zero, List.set_cons_succ]
         refine wpAnyK_take0 19 (v := ?v84) rfl (by kernel_rfl) (fun _ _ _ h => h) (Or.inl ⟨by rfl, ?hy84⟩) (fun h => nomatch (h.symm.trans (show _ = true by kernel_rfl))) ?_
         case hy84 => (intro w hSw; go_simp; try with_reducible rfl)
         try simp only [Act.put, List.setIfInBounds_toArray, List.set_cons_zero, List.set_cons_succ]
         refine wpAnyK_done (by kernel_rfl) ?_ _
         go_wp2_with fail
         go_meet
         exact ⟨_, _, _, _, Z, rfl, rfl, HF.out⟩
       ·
        go_simp
        have HR : Hid (Rg _ _ _ _ _) := HR.out.lit 2 ltB2 ltQ2; refine hK.out _ _ (fun _ => HR.out.k) ?_
        refine wpAnyK_step 10 rfl (by kernel_rfl) (fun K hK => ?_)
        go_simp
        refine (mulq hk (HR.out.p (_, 3) (by simp)) (HR.out.p (_, fM p X X) (by simp))).mono ?_; rintro e wn ⟨rv, rfl, m, hB⟩; obtain ⟨kb0, kb1, kb2, rfl⟩ := m.nk.sl; have HR : Hid (Rg _ _ _ _ _) := HR.out.below hB m; clear m hB; refine hK.out _ _ (fun _ => HR.out.k) ?_; clear hK K; try simp only [Act.put, List.setIfInBounds_toArray, List.set_cons_zero, List.set_cons_succ]
        refine wpAnyK_step 12 rfl (by kernel_rfl) (fun K hK => ?_)
        go_simp
        refine (subq hk (HR.out.p (_, fM p 3 (fM p X X)) (by simp)) (HR.out.p (_, 3) (by simp))).mono ?_; rintro e wn ⟨rv, rfl, m, hB⟩; obtain ⟨kc0, kc1, kc2, rfl⟩ := m.nk.sl; have HR : Hid (Rg _ _ _ _ _) := HR.out.below hB m; clear m hB; refine hK.out _ _ (fun _ => HR.out.k) ?_; clear hK K; try simp only [Act.put, List.setIfInBounds_toArray, List.set_cons_zero, List.set_cons_succ]
        refine wpAnyK_step 17 rfl (by kernel_rfl) (fun K hK => ?_)
        go_simp
        refine (mulq hk (HR.out.p (_, 2) (by simp)) (HR.out.p (_, Y) (by simp))).mono ?_; rintro e wn ⟨rv, rfl, m, hB⟩; obtain ⟨kd0, kd1, kd2, rfl⟩ := m.nk.sl; have HR : Hid (Rg _ _ _ _ _) := HR.out.below hB m; clear m hB; refine hK.out _ _ (fun _ => HR.out.k) ?_; clear hK K; try simp only [Act.put, List.setIfInBounds_toArray, List.set_cons_zero, List.set_cons_succ]
        refine wpAnyK_step 18 rfl (by kernel_rfl) (fun K hK => ?_)
        go_simp
        refine (overq hk (HR.out.p (_, fS p (fM p 3 (fM p X X)) 3) (by simp)) (HR.out.p (_, fM p 2 Y) (by simp)) (two_pos hk.cv hk.pm HO.out.1) (fM_lt hk.pm _ _)).mono ?_; rintro e wn ⟨rv, Z, hZ, rfl, m, hB⟩; obtain ⟨r0, r1, r2, rfl⟩ := m.nk.sl; have HF : Hid (Inz (fM p 2 Y) p Z ∧ Mk _ (w.heap.size + 3) (.slice r0 r1 r2) (fM p (fS p (fM p 3 (fM p X X)) 3) Z) 384 ∧ Below _ _ _) := ⟨hZ, m.base (Nat.le_trans HW0.out HR.out.e.size), btr HR.out.e hB⟩; have HR : Hid (Rg _ _ _ _ _) := HR.out.below hB m; clear m hB hZ; refine hK.out _ _ (fun _ => HR.out.k) ?_; clear hK K; try simp only [Act.put, List.setIfInBounds_toArray, List.set_cons_zero, List.set_cons_succ]
        refine wpAnyK_take0 19 (v := ?v85) rfl (by kernel_rfl) (fun _ _ _ h => h) (Or.inl ⟨by rfl, ?hy85⟩) (fun h => nomatch (h.symm.trans (show _ = true by kernel_rfl))) ?_
        case hy85 => (intro w hSw; go_simp; try with_reducible rfl)
        try simp only [Act.put, List.setIfInBounds_toArray, List.set_cons_zero, List.set_cons_succ]
        refine wpAnyK_done (by kernel_rfl) ?_ _
        go_wp2_with fail
        go_meet
        exact ⟨_, _, _, _, Z, rfl, rfl, HF.out⟩
      ·
       go_simp
       have HR : Hid (Rg _ _ _ _ _) := HR.out.lit 2 ltB2 ltQ2; refine hK.out _ _ (fun _ => HR.out.k) ?_
       refine wpAnyK_step 9 rfl (by kernel_rfl) (fun K hK => ?_)
       go_simp
       refine (mulq hk (HR.out.p (_, X) (by simp)) (HR.out.p (_, X) (by simp))).mono ?_; rintro e wn ⟨rv, rfl, m, hB⟩; obtain ⟨ka0, ka1, ka2, rfl⟩ := m.nk.sl; have HR : Hid (Rg _ _ _ _ _) := HR.out.below hB m; clear m hB; refine hK.out _ _ (fun _ => HR.out.k) ?_; clear hK K; try simp only [Act.put, List.setIfInBounds_toArray, List.set_cons_zero, List.set_cons_succ]
       refine wpAnyK_step 10 rfl (by kernel_rfl) (fun K hK => ?_)
       go_simp
       refine (mulq hk (HR.out.p (_, 3) (by simp)) (HR.out.p (_, fM p X X) (by simp))).mono ?_; rintro e wn ⟨rv, rfl, m, hB⟩; obtain ⟨kb0, kb1, kb2, rfl⟩ := m.nk.sl; have HR : Hid (Rg _ _ _ _ _) := HR.out.below hB m; clear m hB; refine hK.out _ _ (fun _ => HR.out.k) ?_; clear hK K; try simp only [Act.put, List.setIfInBounds_toArray, List.set_cons_zero, List.set_cons_succ]
       refine wpAnyK_step 12 rfl (by kernel_rfl) (fun K hK => ?_)
       go_simp
       refine (subq hk (HR.out.p (_, fM p 3 (fM p X X)) (by simp)) (HR.out.p (_, 3) (by simp))).mono ?_; rintro e wn ⟨rv, rfl, m, hB⟩; obtain ⟨kc0, kc1, kc2, rfl⟩ := m.nk.sl; have HR : Hid (Rg _ _ _ _ _) := HR.out.below hB m; clear m hB; refine hK.out _ _ (fun _ => HR.out.k) ?_; clear hK K; try simp only [Act.put, List.setIfInBounds_toArray, List.set_cons_zero, List.set_cons_succ]
       refine wpAnyK_step 17 rfl (by kernel_rfl) (fun K hK => ?_)
       go_simp
       refine (mulq hk (HR.out.p (_, 2) (by simp)) (HR.out.p (_, Y) (by simp))).mono ?_; rintro e wn ⟨rv, rfl, m, hB⟩; obtain ⟨kd0, kd1, kd2, rfl⟩ := m.nk.sl; have HR : Hid (Rg _ _ _ _ _) := HR.out.below hB m; clear m hB; refine hK.out _ _ (fun _ => HR.out.k) ?_; clear hK K; try simp only [Act.put, List.setIfInBounds_toArray, List.set_cons_zero, List.set_cons_succ]
       refine wpAnyK_step 18 rfl (by kernel_rfl) (fun K hK => ?_)
       go_simp
       refine (overq hk (HR.out.p (_, fS p (fM p 3 (fM p X X)) 3) (by simp)) (HR.out.p (_, fM p 2 Y) (by simp)) (two_pos hk.cv hk.pm HO.out.1) (fM_lt hk.pm _ _)).mono ?_; rintro e wn ⟨rv, Z, hZ, rfl, m, hB⟩; obtain ⟨r0, r1, r2, rfl⟩ := m.nk.sl; have HF : Hid (Inz (fM p 2 Y) p Z ∧ Mk _ (w.heap.size + 3) (.slice r0 r1 r2) (fM p (fS p (fM p 3 (fM p X X)) 3) Z) 384 ∧ Below _ _ _) := ⟨hZ, m.base (Nat.le_trans HW0.out HR.out.e.size), btr HR.out.e hB⟩; have HR : Hid (Rg _ _ _ _ _) := HR.out.below hB m; clear m hB hZ; refine hK.out _ _ (fun _ => HR.out.k) ?_; clear hK K; try simp only [Act.put, List.setIfInBounds_toArray, List.set_cons_zero, List.set_cons_succ]
       refine wpAnyK_take0 19 (v := ?v86) rfl (by kernel_rfl) (fun _ _ _ h => h) (Or.inl ⟨by rfl, ?hy86⟩) (fun h => nomatch (h.symm.trans (show _ = true by kernel_rfl))) ?_
       case hy86 => (intro w hSw; go_simp; try with_reducible rfl)
       try simp only [Act.put, List.setIfInBounds_toArray, List.set_cons_zero, List.set_cons_succ]
       refine wpAnyK_done (by kernel_rfl) ?_ _
       go_wp2_with fail
       go_meet
       exact ⟨_, _, _, _, Z, rfl, rfl, HF.out⟩
     ·
      go_simp
      refine (mulq hk (HR.out.p (_, X) (by simp)) (HR.out.p (_, X) (by simp))).mono ?_; rintro e wn ⟨rv, rfl, m, hB⟩; obtain ⟨ka0, ka1, ka2, rfl⟩ := m.nk.sl; have HR : Hid (Rg _ _ _ _ _) := HR.out.below hB m; clear m hB; refine hK.out _ _ (fun _ => HR.out.k) ?_; clear hK K; try simp only [Act.put, List.setIfInBounds_toArray, List.set_cons_zero, List.set_cons_succ]
      refine rdy2 3 14 rfl rfl (by kernel_rfl) (fun K hK => ?_) (fun K hK => ?_)
      ·
       go_simp
       have HR : Hid (Rg _ _ _ _ _) := HR.out.lit 3 ltB3 ltQ3; refine hK.out _ _ (fun _ => HR.out.k) ?_
       refine rdy2 10 14 rfl rfl (by kernel_rfl) (fun K hK => ?_) (fun K hK => ?_)
       ·
        go_simp
        refine (mulq hk (HR.out.p (_, 3) (by simp)) (HR.out.p (_, fM p X X) (by simp))).mono ?_; rintro e wn ⟨rv, rfl, m, hB⟩; obtain ⟨kb0, kb1, kb2, rfl⟩ := m.nk.sl; have HR : Hid (Rg _ _ _ _ _) := HR.out.below hB m; clear m hB; refine hK.out _ _ (fun _ => HR.out.k) ?_; clear hK K; try simp only [Act.put, List.setIfInBounds_toArray, List.set_cons_zero, List.set_cons_succ]
        refine rdy2 12 14 rfl rfl (by kernel_rfl) (fun K hK => ?_) (fun K hK => ?_)
        ·
         go_simp
         refine (subq hk (HR.out.p (_, fM p 3 (fM p X X)) (by simp)) (HR.out.p (_, 3) (by simp))).mono ?_; rintro e wn ⟨rv, rfl, m, hB⟩; obtain ⟨kc0, kc1, kc2, rfl⟩ := m.nk.sl; have HR : Hid (Rg _ _ _ _ _) := HR.out.below hB m; clear m hB; refine hK.out _ _ (fun _ => HR.out.k) ?_; clear hK K; try simp only [Act.put, List.setIfInBounds_toArray, List.set_cons_zero, List.set_cons_succ]
         refine wpAnyK_step 14 rfl (by kernel_rfl) (fun K hK => ?_)
         go_simp
         have HR : Hid (Rg _ _ _ _ _) := HR.out.lit 2 ltB2 ltQ2; refine hK.out _ _ (fun _ => HR.out.k) ?_
         refine wpAnyK_step 17 rfl (by kernel_rfl) (fun K hK => ?_)
         go_simp
         refine (mulq hk (HR.out.p (_, 2) (by simp)) (HR.out.p (_, Y) (by simp))).mono ?_; rintro e wn ⟨rv, rfl, m, hB⟩; obtain ⟨kd0, kd1, kd2, rfl⟩ := m.nk.sl; have HR : Hid (Rg _ _ _ _ _) := HR.out.below hB m; clear m hB; refine hK.out _ _ (fun _ => HR.out.k) ?_; clear hK K; try simp only [Act.put, List.setIfInBounds_toArray, List.set_cons_zero, List.set_cons_succ]
         refine wpAnyK_step 18 rfl (by kernel_rfl) (fun K hK => ?_)
         go_simp
         refine (overq hk (HR.out.p (_, fS p (fM p 3 (fM p X X)) 3) (by simp)) (HR.out.p (_, fM p 2 Y) (by simp)) (two_pos hk.cv hk.pm HO.out.1) (fM_lt hk.pm _ _)).mono ?_; rintro e wn ⟨rv, Z, hZ, rfl, m, hB⟩; obtain ⟨r0, r1, r2, rfl⟩ := m.nk.sl; have HF : Hid (Inz (fM p 2 Y) p Z ∧ Mk _ (w.heap.size + 3) (.slice r0 r1 r2) (fM p (fS p (fM p 3 (fM p X X)) 3) Z) 384 ∧ Below _ _ _) := ⟨hZ, m.base (Nat.le_trans HW0.out HR.out.e.size), btr HR.out.e hB⟩; have HR : Hid (Rg _ _ _ _ _) := HR.out.below hB m; clear m hB hZ; refine hK.out _ _ (fun _ => HR.out.k) ?_; clear hK K; try simp only [Act.put, List.setIfInBounds_toArray, List.set_cons_zero, List.set_cons_succ]
         refine wpAnyK_take0 19 (v := ?v87) rfl (by kernel_rfl) (fun _ _ _ h => h) (Or.inl ⟨by rfl, ?hy87⟩) (fun h => nomatch (h.symm.trans (show _ = true by kernel_rfl))) ?_
         case hy87 => (intro w hSw; go_simp; try with_reducible rfl)
         try simp only [Act.put, List.setIfInBounds_toArray, List.set_cons_zero, List.set_cons_succ]
         refine wpAnyK_done (by kernel_rfl) ?_ _
         go_wp2_with fail
         go_meet
         exact ⟨_, _, _, _, Z, rfl, rfl, HF.out⟩
        ·
         go_simp
         have HR : Hid (Rg _ _ _ _ _) := HR.out.lit 2 ltB2 ltQ2; refine hK.out _ _ (fun _ => HR.out.k) ?_
         refine wpAnyK_step 12 rfl (by kernel_rfl) (fun K hK => ?_)
         go_simp
         refine (subq hk (HR.out.p (_, fM p 3 (fM p X X)) (by simp)) (HR.out.p (_, 3) (by simp))).mono ?_; rintro e wn ⟨rv, rfl, m, hB⟩; obtain ⟨kc0, kc1, kc2, rfl⟩ := m.nk.sl; have HR : Hid (Rg _ _ _ _ _) := HR.out.below hB m; clear m hB; refine hK.out _ _ (fun _ => HR.out.k) ?_; clear hK K; try simp only [Act.put, List.setIfInBounds_toArray, List.set_cons_zero, List.set_cons_succ]
         refine wpAnyK_step 17 rfl (by kernel_rfl) (fun K hK => ?_)
         go_simp
         refine (mulq hk (HR.out.p (_, 2) (by simp)) (HR.out.p (_, Y) (by simp))).mono ?_; rintro e wn ⟨rv, rfl, m, hB⟩; obtain ⟨kd0, kd1, kd2, rfl⟩ := m.nk.sl; have HR : Hid (Rg _ _ _ _ _) := HR.out.below hB m; clear m hB; refine hK.out _ _ (fun _ => HR.out.k) ?_; clear hK K; try simp only [Act.put, List.setIfInBounds_toArray, List.set_cons_zero, List.set_cons_succ]
         refine wpAnyK_step 18 rfl (by kernel_rfl) (fun K hK => ?_)
         go_simp
         refine (overq hk (HR.out.p (_, fS p (fM p 3 (fM p X X)) 3) (by simp)) (HR.out.p (_, fM p 2 Y) (by simp)) (two_pos hk.cv hk.pm HO.out.1) (fM_lt hk.pm _ _)).mono ?_; rintro e wn ⟨rv, Z, hZ, rfl, m, hB⟩; obtain ⟨r0, r1, r2, rfl⟩ := m.nk.sl; have HF : Hid (Inz (fM p 2 Y) p Z ∧ Mk _ (w.heap.size + 3) (.slice r0 r1 r2) (fM p (fS p (fM p 3 (fM p X X)) 3) Z) 384 ∧ Below _ _ _) := ⟨hZ, m.base (Nat.le_trans HW0.out HR.out.e.size), btr HR.out.e hB⟩; have HR : Hid (Rg _ _ _ _ _) := HR.out.below hB m; clear m hB hZ; refine hK.out _ _ (fun _ => HR.out.k) ?_; clear hK K; try simp only [Act.put, List.setIfInBounds_toArray, List.set_cons_zero, List.set_cons_succ]
         refine wpAnyK_take0 19 (v := ?v88) rfl (by kernel_rfl) (fun _ _ _ h => h) (Or.inl ⟨by rfl, ?hy88⟩) (fun h => nomatch (h.symm.trans (show _ = true by kernel_rfl))) ?_
         case hy88 => (intro w hSw; go_simp; try with_reducible rfl)
         try simp only [Act.put, List.setIfInBounds_toArray, List.set_cons_zero, List.set_cons_succ]
         refine wpAnyK_done (by kernel_rfl) ?_ _
         go_wp2_with fail
         go_meet
         exact ⟨_, _, _, _, Z, rfl, rfl, HF.out⟩
       ·
        go_simp
        have HR : Hid (Rg _ _ _ _ _) := HR.out.lit 2 ltB2 ltQ2; refine hK.out _ _ (fun _ => HR.out.k) ?_
        refine wpAnyK_step 10 rfl (by kernel_rfl) (fun K hK => ?_)
        go_simp
        refine (mulq hk (HR.out.p (_, 3) (by simp)) (HR.out.p (_, fM p X X) (by simp))).mono ?_; rintro e wn ⟨rv, rfl, m, hB⟩; obtain ⟨kb0, kb1, kb2, rfl⟩ := m.nk.sl; have HR : Hid (Rg _ _ _ _ _) := HR.out.below hB m; clear m hB; refine hK.out _ _ (fun _ => HR.out.k) ?_; clear hK K; try simp only [Act.put, List.setIfInBounds_toArray, List.set_cons_zero, List.set_cons_succ]
        refine wpAnyK_step 12 rfl (by kernel_rfl) (fun K hK => ?_)
        go_simp
        refine (subq hk (HR.out.p (_, fM p 3 (fM p X X)) (by simp)) (HR.out.p (_, 3) (by simp))).mono ?_; rintro e wn ⟨rv, rfl, m, hB⟩; obtain ⟨kc0, kc1, kc2, rfl⟩ := m.nk.sl; have HR : Hid (Rg _ _ _ _ _) := HR.out.below hB m; clear m hB; refine hK.out _ _ (fun _ => HR.out.k) ?_; clear hK K; try simp only [Act.put, List.setIfInBounds_toArray, List.set_cons_zero, List.set_cons_succ]
        refine wpAnyK_step 17 rfl (by kernel_rfl) (fun K hK => ?_)
        go_simp
        refine (mulq hk (HR.out.p (_, 2) (by simp)) (HR.out.p (_, Y) (by simp))).mono ?_; rintro e wn ⟨rv, rfl, m, hB⟩; obtain ⟨kd0, kd1, kd2, rfl⟩ := m.nk.sl; have HR : Hid (Rg _ _ _ _ _) := HR.out.below hB m; clear m hB; refine hK.out _ _ (fun _ => HR.out.k) ?_; clear hK K; try simp only [Act.put, List.setIfInBounds_toArray, List.set_cons_zero, List.set_cons_succ]
        refine wpAnyK_step 18 rfl (by kernel_rfl) (fun K hK => ?_)
        go_simp
        refine (overq hk (HR.out.p (_, fS p (fM p 3 (fM p X X)) 3) (by simp)) (HR.out.p (_, fM p 2 Y) (by simp)) (two_pos hk.cv hk.pm HO.out.1) (fM_lt hk.pm _ _)).mono ?_; rintro e wn ⟨rv, Z, hZ, rfl, m, hB⟩; obtain ⟨r0, r1, r2, rfl⟩ := m.nk.sl; have HF : Hid (Inz (fM p 2 Y) p Z ∧ Mk _ (w.heap.size + 3) (.slice r0 r1 r2) (fM p (fS p (fM p 3 (fM p X X)) 3) Z) 384 ∧ Below _ _ _) := ⟨hZ, m.base (Nat.le_trans HW0.out HR.out.e.size), btr HR.out.e hB⟩; have HR : Hid (Rg _ _ _ _ _) := HR.out.below hB m; clear m hB hZ; refine hK.out _ _ (fun _ => HR.out.k) ?_; clear hK K; try simp only [Act.put, List.setIfInBounds_toArray, List.set_cons_zero, List.set_cons_succ]
        refine wpAnyK_take0 19 (v := ?v89) rfl (by kernel_rfl) (fun _ _ _ h => h) (Or.inl ⟨by rfl, ?hy89⟩) (fun h => nomatch (h.symm.trans (show _ = true by kernel_rfl))) ?_
        case hy89 => (intro w hSw; go_simp; try with_reducible rfl)
        try simp only [Act.put, List.setIfInBounds_toArray, List.set_cons_zero, List.set_cons_succ]
        refine wpAnyK_done (by kernel_rfl) ?_ _
        go_wp2_with fail
        go_meet
        exact ⟨_, _, _, _, Z, rfl, rfl, HF.out⟩
      ·
       go_simp
       have HR : Hid (Rg _ _ _ _ _) := HR.out.lit 2 ltB2 ltQ2; refine hK.out _ _ (fun _ => HR.out.k) ?_
       refine wpAnyK_step 3 rfl (by kernel_rfl) (fun K hK => ?_)
       go_simp
       have HR : Hid (Rg _ _ _ _ _) := HR.out.lit 3 ltB3 ltQ3; refine hK.out _ _ (fun _ => HR.out.k) ?_
       refine wpAnyK_step 10 rfl (by kernel_rfl) (fun K hK => ?_)
       go_simp
       refine (mulq hk (HR.out.p (_, 3) (by simp)) (HR.out.p (_, fM p X X) (by simp))).mono ?_; rintro e wn ⟨rv, rfl, m, hB⟩; obtain ⟨kb0, kb1, kb2, rfl⟩ := m.nk.sl; have HR : Hid (Rg _ _ _ _ _) := HR.out.below hB m; clear m hB; refine hK.out _ _ (fun _ => HR.out.k) ?_; clear hK K; try simp only [Act.put, List.setIfInBounds_toArray, List.set_cons_zero, List.set_cons_succ]
       refine wpAnyK_step 12 rfl (by kernel_rfl) (fun K hK => ?_)
       go_simp
       refine (subq hk (HR.out.p (_, fM p 3 (fM p X X)) (by simp)) (HR.out.p (_, 3) (by simp))).mono ?_; rintro e wn ⟨rv, rfl, m, hB⟩; obtain ⟨kc0, kc1, kc2, rfl⟩ := m.nk.sl; have HR : Hid (Rg _ _ _ _ _) := HR.out.below hB m; clear m hB; refine hK.out _ _ (fun _ => HR.out.k) ?_; clear hK K; try simp only [Act.put, List.setIfInBounds_toArray, List.set_cons_zero, List.set_cons_succ]
       refine wpAnyK_step 17 rfl (by kernel_rfl) (fun K hK => ?_)
       go_simp
       refine (mulq hk (HR.out.p (_, 2) (by simp)) (HR.out.p (_, Y) (by simp))).mono ?_; rintro e wn ⟨rv, rfl, m, hB⟩; obtain ⟨kd0, kd1, kd2, rfl⟩ := m.nk.sl; have HR : Hid (Rg _ _ _ _ _) := HR.out.below hB m; clear m hB; refine hK.out _ _ (fun _ => HR.out.k) ?_; clear hK K; try simp only [Act.put, List.setIfInBounds_toArray, List.set_cons_zero, List.set_cons_succ]
       refine wpAnyK_step 18 rfl (by kernel_rfl) (fun K hK => ?_)
       go_simp
       refine (overq hk (HR.out.p (_, fS p (fM p 3 (fM p X X)) 3) (by simp)) (HR.out.p (_, fM p 2 Y) (by simp)) (two_pos hk.cv hk.pm HO.out.1) (fM_lt hk.pm _ _)).mono ?_; rintro e wn ⟨rv, Z, hZ, rfl, m, hB⟩; obtain ⟨r0, r1, r2, rfl⟩ := m.nk.sl; have HF : Hid (Inz (fM p 2 Y) p Z ∧ Mk _ (w.heap.size + 3) (.slice r0 r1 r2) (fM p (fS p (fM p 3 (fM p X X)) 3) Z) 384 ∧ Below _ _ _) := ⟨hZ, m.base (Nat.le_trans HW0.out HR.out.e.size), btr HR.out.e hB⟩; have HR : Hid (Rg _ _ _ _ _) := HR.out.below hB m; clear m hB hZ; refine hK.out _ _ (fun _ => HR.out.k) ?_; clear hK K; try simp only [Act.put, List.setIfInBounds_toArray, List.set_cons_zero, List.set_cons_succ]
       refine wpAnyK_take0 19 (v := ?v90) rfl (by kernel_rfl) (fun _ _ _ h => h) (Or.inl ⟨by rfl, ?hy90⟩) (fun h => nomatch (h.symm.trans (show _ = true by kernel_rfl))) ?_
       case hy90 => (intro w hSw; go_simp; try with_reducible rfl)
       try simp only [Act.put, List.setIfInBounds_toArray, List.set_cons_zero, List.set_cons_succ]
       refine wpAnyK_done (by kernel_rfl) ?_ _
       go_wp2_with fail
       go_meet
       exact ⟨_, _, _, _, Z, rfl, rfl, HF.out⟩
     ·
      go_simp
      have HR : Hid (Rg _ _ _ _ _) := HR.out.lit 2 ltB2 ltQ2; refine hK.out _ _ (fun _ => HR.out.k) ?_
      refine rdy2 3 9 rfl rfl (by kernel_rfl) (fun K hK => ?_) (fun K hK => ?_)
      ·
       go_simp
       have HR : Hid (Rg _ _ _ _ _) := HR.out.lit 3 ltB3 ltQ3; refine hK.out _ _ (fun _ => HR.out.k) ?_
       refine wpAnyK_step 9 rfl (by kernel_rfl) (fun K hK => ?_)
       go_simp
       refine (mulq hk (HR.out.p (_, X) (by simp)) (HR.out.p (_, X) (by simp))).mono ?_; rintro e wn ⟨rv, rfl, m, hB⟩; obtain ⟨ka0, ka1, ka2, rfl⟩ := m.nk.sl; have HR : Hid (Rg _ _ _ _ _) := HR.out.below hB m; clear m hB; refine hK.out _ _ (fun _ => HR.out.k) ?_; clear hK K; try simp only [Act.put, List.setIfInBounds_toArray, List.set_cons_zero, List.set_cons_succ]
       refine wpAnyK_step 10 rfl (by kernel_rfl) (fun K hK => ?_)
       go_simp
       refine (mulq hk (HR.out.p (_, 3) (by simp)) (HR.out.p (_, fM p X X) (by simp))).mono ?_; rintro e wn ⟨rv, rfl, m, hB⟩; obtain ⟨kb0, kb1, kb2, rfl⟩ := m.nk.sl; have HR : Hid (Rg _ _ _ _ _) := HR.out.below hB m; clear m hB; refine hK.out _ _ (fun _ => HR.out.k) ?_; clear hK K; try simp only [Act.put, List.setIfInBounds_toArray, List.set_cons_zero, List.set_cons_succ]
       refine wpAnyK_step 12 rfl (by kernel_rfl) (fun K hK => ?_)
       go_simp
       refine (subq hk (HR.out.p (_, fM p 3 (fM p X X)) (by simp)) (HR.out.p (_, 3) (by simp))).mono ?_; rintro e wn ⟨rv, rfl, m, hB⟩; obtain ⟨kc0, kc1, kc2, rfl⟩ := m.nk.sl; have HR : Hid (Rg _ _ _ _ _) := HR.out.below hB m; clear m hB; refine hK.out _ _ (fun _ => HR.out.k) ?_; clear hK K; try simp only [Act.put, List.setIfInBounds_toArray, List.set_cons_zero, List.set_cons_succ]
       refine wpAnyK_step 17 rfl (by kernel_rfl) (fun K hK => ?_)
       go_simp
       refine (mulq hk (HR.out.p (_, 2) (by simp)) (HR.out.p (_, Y) (by simp))).mono ?_; rintro e wn ⟨rv, rfl, m, hB⟩; obtain ⟨kd0, kd1, kd2, rfl⟩ := m.nk.sl; have HR : Hid (Rg _ _ _ _ _) := HR.out.below hB m; clear m hB; refine hK.out _ _ (fun _ => HR.out.k) ?_; clear hK K; try simp only [Act.put, List.setIfInBounds_toArray, List.set_cons_zero, List.set_cons_succ]
       refine wpAnyK_step 18 rfl (by kernel_rfl) (fun K hK => ?_)
       go_simp
       refine (overq hk (HR.out.p (_, fS p (fM p 3 (fM p X X)) 3) (by simp)) (HR.out.p (_, fM p 2 Y) (by simp)) (two_pos hk.cv hk.pm HO.out.1) (fM_lt hk.pm _ _)).mono ?_; rintro e wn ⟨rv, Z, hZ, rfl, m, hB⟩; obtain ⟨r0, r1, r2, rfl⟩ := m.nk.sl; have HF : Hid (Inz (fM p 2 Y) p Z ∧ Mk _ (w.heap.size + 3) (.slice r0 r1 r2) (fM p (fS p (fM p 3 (fM p X X)) 3) Z) 384 ∧ Below _ _ _) := ⟨hZ, m.base (Nat.le_trans HW0.out HR.out.e.size), btr HR.out.e hB⟩; have HR : Hid (Rg _ _ _ _ _) := HR.out.below hB m; clear m hB hZ; refine hK.out _ _ (fun _ => HR.out.k) ?_; clear hK K; try simp only [Act.put, List.setIfInBounds_toArray, List.set_cons_zero, List.set_cons_succ]
       refine wpAnyK_take0 19 (v := ?v91) rfl (by kernel_rfl) (fun _ _ _ h => h) (Or.inl ⟨by rfl, ?hy91⟩) (fun h => nomatch (h.symm.trans (show _ = true by kernel_rfl))) ?_
       case hy91 => (intro w hSw; go_simp; try with_reducible rfl)
       try simp only [Act.put, List.setIfInBounds_toArray, List.set_cons_zero, List.set_cons_succ]
       refine wpAnyK_done (by kernel_rfl) ?_ _
       go_wp2_with fail
       go_meet
       exact ⟨_, _, _, _, Z, rfl, rfl, HF.out⟩
      ·
       go_simp
       refine (mulq hk (HR.out.p (_, X) (by simp)) (HR.out.p (_, X) (by simp))).mono ?_; rintro e wn ⟨rv, rfl, m, hB⟩; obtain ⟨ka0, ka1, ka2, rfl⟩ := m.nk.sl; have HR : Hid (Rg _ _ _ _ _) := HR.out.below hB m; clear m hB; refine hK.out _ _ (fun _ => HR.out.k) ?_; clear hK K; try simp only [Act.put, List.setIfInBounds_toArray, List.set_cons_zero, List.set_cons_succ]
       refine wpAnyK_step 3 rfl (by kernel_rfl) (fun K hK => ?_)
       go_simp
       have HR : Hid (Rg _ _ _ _ _) := HR.out.lit 3 ltB3 ltQ3; refine hK.out _ _ (fun _ => HR.out.k) ?_
       refine wpAnyK_step 10 rfl (by kernel_rfl) (fun K hK => ?_)
       go_simp
       refine (mulq hk (HR.out.p (_, 3) (by simp)) (HR.out.p (_, fM p X X) (by simp))).mono ?_; rintro e wn ⟨rv, rfl, m, hB⟩; obtain ⟨kb0, kb1, kb2, rfl⟩ := m.nk.sl; have HR : Hid (Rg _ _ _ _ _) := HR.out.below hB m; clear m hB; refine hK.out _ _ (fun _ => HR.out.k) ?_; clear hK K; try simp only [Act.put, List.setIfInBounds_toArray, List.set_cons_zero, List.set_cons_succ]
       refine wpAnyK_step 12 rfl (by kernel_rfl) (fun K hK => ?_)
       go_simp
       refine (subq hk (HR.out.p (_, fM p 3 (fM p X X)) (by simp)) (HR.out.p (_, 3) (by simp))).mono ?_; rintro e wn ⟨rv, rfl, m, hB⟩; obtain ⟨kc0, kc1, kc2, rfl⟩ := m.nk.sl; have HR : Hid (Rg _ _ _ _ _) := HR.out.below hB m; clear m hB; refine hK.out _ _ (fun _ => HR.out.k) ?_; clear hK K; try simp only [Act.put, List.setIfInBounds_toArray, List.set_cons_zero, List.set_cons_succ]
       refine wpAnyK_step 17 rfl (by kernel_rfl) (fun K hK => ?_)
       go_simp
       refine (mulq hk (HR.out.p (_, 2) (by simp)) (HR.out.p (_, Y) (by simp))).mono ?_; rintro e wn ⟨rv, rfl, m, hB⟩; obtain ⟨kd0, kd1, kd2, rfl⟩ := m.nk.sl; have HR : Hid (Rg _ _ _ _ _) := HR.out.below hB m; clear m hB; refine hK.out _ _ (fun _ => HR.out.k) ?_; clear hK K; try simp only [Act.put, List.setIfInBounds_toArray, List.set_cons_zero, List.set_cons_succ]
       refine wpAnyK_step 18 rfl (by kernel_rfl) (fun K hK => ?_)
       go_simp
       refine (overq hk (HR.out.p (_, fS p (fM p 3 (fM p X X)) 3) (by simp)) (HR.out.p (_, fM p 2 Y) (by simp)) (two_pos hk.cv hk.pm HO.out.1) (fM_lt hk.pm _ _)).mono ?_; rintro e wn ⟨rv, Z, hZ, rfl, m, hB⟩; obtain ⟨r0, r1, r2, rfl⟩ := m.nk.sl; have HF : Hid (Inz (fM p 2 Y) p Z ∧ Mk _ (w.heap.size + 3) (.slice r0 r1 r2) (fM p (fS p (fM p 3 (fM p X X)) 3) Z) 384 ∧ Below _ _ _) := ⟨hZ, m.base (Nat.le_trans HW0.out HR.out.e.size), btr HR.out.e hB⟩; have HR : Hid (Rg _ _ _ _ _) := HR.out.below hB m; clear m hB hZ; refine hK.out _ _ (fun _ => HR.out.k) ?_; clear hK K; try simp only [Act.put, List.setIfInBounds_toArray, List.set_cons_zero, List.set_cons_succ]
       refine wpAnyK_take0 19 (v := ?v92) rfl (by kernel_rfl) (fun _ _ _ h => h) (Or.inl ⟨by rfl, ?hy92⟩) (fun h => nomatch (h.symm.trans (show _ = true by kernel_rfl))) ?_
       case hy92 => (intro w hSw; go_simp; try with_reducible rfl)
       try simp only [Act.put, List.setIfInBounds_toArray, List.set_cons_zero, List.set_cons_succ]
       refine wpAnyK_done (by kernel_rfl) ?_ _
       go_wp2_with fail
       go_meet
       exact ⟨_, _, _, _, Z, rfl, rfl, HF.out⟩
    ·
     go_simp
     have HR : Hid (Rg _ _ _ _ _) := HR.out.lit 2 ltB2 ltQ2; refine hK.out _ _ (fun _ => HR.out.k) ?_
     refine rdy3 3 9 11 rfl rfl rfl (by kernel_rfl) (fun K hK => ?_) (fun K hK => ?_) (fun K hK => ?_)
     ·
      go_simp
      have HR : Hid (Rg _ _ _ _ _) := HR.out.lit 3 ltB3 ltQ3; refine hK.out _ _ (fun _ => HR.out.k) ?_
      refine rdy2 9 11 rfl rfl (by kernel_rfl) (fun K hK => ?_) (fun K hK => ?_)
      ·
       go_simp
       refine (mulq hk (HR.out.p (_, X) (by simp)) (HR.out.p (_, X) (by simp))).mono ?_; rintro e wn ⟨rv, rfl, m, hB⟩; obtain ⟨ka0, ka1, ka2, rfl⟩ := m.nk.sl; have HR : Hid (Rg _ _ _ _ _) := HR.out.below hB m; clear m hB; refine hK.out _ _ (fun _ => HR.out.k) ?_; clear hK K; try simp only [Act.put, List.setIfInBounds_toArray, List.set_cons_zero, List.set_cons_succ]
       refine rdy2 10 11 rfl rfl (by kernel_rfl) (fun K hK => ?_) (fun K hK => ?_)
       ·
        go_simp
        refine (mulq hk (HR.out.p (_, 3) (by simp)) (HR.out.p (_, fM p X X) (by simp))).mono ?_; rintro e wn ⟨rv, rfl, m, hB⟩; obtain ⟨kb0, kb1, kb2, rfl⟩ := m.nk.sl; have HR : Hid (Rg _ _ _ _ _) := HR.out.below hB m; clear m hB; refine hK.out _ _ (fun _ => HR.out.k) ?_; clear hK K; try simp only [Act.put, List.setIfInBounds_toArray, List.set_cons_zero, List.set_cons_succ]
        refine wpAnyK_step 11 rfl (by kernel_rfl) (fun K hK => ?_)
        go_simp
        have HR : Hid (Rg _ _ _ _ _) := HR.out.lit 3 ltB3 ltQ3; refine hK.out _ _ (fun _ => HR.out.k) ?_
        refine wpAnyK_step 12 rfl (by kernel_rfl) (fun K hK => ?_)
        go_simp
        refine (subq hk (HR.out.p (_, fM p 3 (fM p X X)) (by simp)) (HR.out.p (_, 3) (by simp))).mono ?_; rintro e wn ⟨rv, rfl, m, hB⟩; obtain ⟨kc0, kc1, kc2, rfl⟩ := m.nk.sl; have HR : Hid (Rg _ _ _ _ _) := HR.out.below hB m; clear m hB; refine hK.out _ _ (fun _ => HR.out.k) ?_; clear hK K; try simp only [Act.put, List.setIfInBounds_toArray, List.set_cons_zero, List.set_cons_succ]
        refine wpAnyK_step 17 rfl (by kernel_rfl) (fun K hK => ?_)
        go_simp
        refine (mulq hk (HR.out.p (_, 2) (by simp)) (HR.out.p (_, Y) (by simp))).mono ?_; rintro e wn ⟨rv, rfl, m, hB⟩; obtain ⟨kd0, kd1, kd2, rfl⟩ := m.nk.sl; have HR : Hid (Rg _ _ _ _ _) := HR.out.below hB m; clear m hB; refine hK.out _ _ (fun _ => HR.out.k) ?_; clear hK K; try simp only [Act.put, List.setIfInBounds_toArray, List.set_cons_zero, List.set_cons_succ]
        refine wpAnyK_step 18 rfl (by kernel_rfl) (fun K hK => ?_)
        go_simp
        refine (overq hk (HR.out.p (_, fS p (fM p 3 (fM p X X)) 3) (by simp)) (HR.out.p (_, fM p 2 Y) (by simp)) (two_pos hk.cv hk.pm HO.out.1) (fM_lt hk.pm _ _)).mono ?_; rintro e wn ⟨rv, Z, hZ, rfl, m, hB⟩; obtain ⟨r0, r1, r2, rfl⟩ := m.nk.sl; have HF : Hid (Inz (fM p 2 Y) p Z ∧ Mk _ (w.heap.size + 3) (.slice r0 r1 r2) (fM p (fS p (fM p 3 (fM p X X)) 3) Z) 384 ∧ Below _ _ _) := ⟨hZ, m.base (Nat.le_trans HW0.out HR.out.e.size), btr HR.out.e hB⟩; have HR : Hid (Rg _ _ _ _ _) := HR.out.below hB m; clear m hB hZ; refine hK.out _ _ (fun _ => HR.out.k) ?_; clear hK K; try simp only [Act.put, List.setIfInBounds_toArray, List.set_cons_zero, List.set_cons_succ]
        refine wpAnyK_take0 19 (v := ?v93) rfl (by kernel_rfl) (fun _ _ _ h => h) (Or.inl ⟨by rfl, ?hy93⟩) (fun h => nomatch (h.symm.trans (show _ = true by kernel_rfl))) ?_
        case hy93 => (intro w hSw; go_simp; try with_reducible rfl)
        try simp only [Act.put, List.setIfInBounds_toArray, List.set_cons_zero, List.set_cons_succ]
        refine wpAnyK_done (by kernel_rfl) ?_ _
        go_wp2_with fail
        go_meet
        exact ⟨_, _, _, _, Z, rfl, rfl, HF.out⟩
       ·
        go_simp
        have HR : Hid (Rg _ _ _ _ _) := HR.out.lit 3 ltB3 ltQ3; refine hK.out _ _ (fun _ => HR.out.k) ?_
        refine wpAnyK_step 10 rfl (by kernel_rfl) (fun K hK => ?_)
        go_simp
        refine (mulq hk (HR.out.p (_, 3) (by simp)) (HR.out.p (_, fM p X X) (by simp))).mono ?_; rintro e wn ⟨rv, rfl, m, hB⟩; obtain ⟨kb0, kb1, kb2, rfl⟩ := m.nk.sl; have HR : Hid (Rg _ _ _ _ _) := HR.out.below hB m; clear m hB; refine hK.out _ _ (fun _ => HR.out.k) ?_; clear hK K; try simp only [Act.put, List.setIfInBounds_toArray, List.set_cons_zero, List.set_cons_succ]
        refine wpAnyK_step 12 rfl (by kernel_rfl) (fun K hK => ?_)
        go_simp
        refine (subq hk (HR.out.p (_, fM p 3 (fM p X X)) (by simp)) (HR.out.p (_, 3) (by simp))).mono ?_; rintro e wn ⟨rv, rfl, m, hB⟩; obtain ⟨kc0, kc1, kc2, rfl⟩ := m.nk.sl; have HR : Hid (Rg _ _ _ _ _) := HR.out.below hB m; clear m hB; refine hK.out _ _ (fun _ => HR.out.k) ?_; clear hK K; try simp only [Act.put, List.setIfInBounds_toArray, List.set_cons_zero, List.set_cons_succ]
        refine wpAnyK_step 17 rfl (by kernel_rfl) (fun K hK => ?_)
        go_simp
        refine (mulq hk (HR.out.p (_, 2) (by simp)) (HR.out.p (_, Y) (by simp))).mono ?_; rintro e wn ⟨rv, rfl, m, hB⟩; obtain ⟨kd0, kd1, kd2, rfl⟩ := m.nk.sl; have HR : Hid (Rg _ _ _ _ _) := HR.out.below hB m; clear m hB; refine hK.out _ _ (fun _ => HR.out.k) ?_; clear hK K; try simp only [Act.put, List.setIfInBounds_toArray, List.set_cons_zero, List.set_cons_succ]
        refine wpAnyK_step 18 rfl (by kernel_rfl) (fun K hK => ?_)
        go_simp
        refine (overq hk (HR.out.p (_, fS p (fM p 3 (fM p X X)) 3) (by simp)) (HR.out.p (_, fM p 2 Y) (by simp)) (two_pos hk.cv hk.pm HO.out.1) (fM_lt hk.pm _ _)).mono ?_; rintro e wn ⟨rv, Z, hZ, rfl, m, hB⟩; obtain ⟨r0, r1, r2, rfl⟩ := m.nk.sl; have HF : Hid (Inz (fM p 2 Y) p Z ∧ Mk _ (w.heap.size + 3) (.slice r0 r1 r2) (fM p (fS p (fM p 3 (fM p X X)) 3) Z) 384 ∧ Below _ _ _) := ⟨hZ, m.base (Nat.le_trans HW0.out HR.out.e.size), btr HR.out.e hB⟩; have HR : Hid (Rg _ _ _ _ _) := HR.out.below hB m; clear m hB hZ; refine hK.out _ _ (fun _ => HR.out.k) ?_; clear hK K; try simp only [Act.put, List.setIfInBounds_toArray, List.set_cons_zero, List.set_cons_succ]
        refine wpAnyK_take0 19 (v := ?v94) rfl (by kernel_rfl) (fun _ _ _ h => h) (Or.inl ⟨by rfl, ?hy94⟩) (fun h => nomatch (h.symm.trans (show _ = true by kernel_rfl))) ?_
        case hy94 => (intro w hSw; go_simp; try with_reducible rfl)
        try simp only [Act.put, List.setIfInBounds_toArray, List.set_cons_zero, List.set_cons_succ]
        refine wpAnyK_done (by kernel_rfl) ?_ _
        go_wp2_with fail
        go_meet
        exact ⟨_, _, _, _, Z, rfl, rfl, HF.out⟩
      ·
       go_simp
       have HR : Hid (Rg _ _ _ _ _) := HR.out.lit 3 ltB3 ltQ3; refine hK.out _ _ (fun _ => HR.out.k) ?_
       refine wpAnyK_step 9 rfl (by kernel_rfl) (fun K hK => ?_)
       go_simp
       refine (mulq hk (HR.out.p (_, X) (by simp)) (HR.out.p (_, X) (by simp))).mono ?_; rintro e wn ⟨rv, rfl, m, hB⟩; obtain ⟨ka0, ka1, ka2, rfl⟩ := m.nk.sl; have HR : Hid (Rg _ _ _ _ _) := HR.out.below hB m; clear m hB; refine hK.out _ _ (fun _ => HR.out.k) ?_; clear hK K; try simp only [Act.put, List.setIfInBounds_toArray, List.set_cons_zero, List.set_cons_succ]
       refine wpAnyK_step 10 rfl (by kernel_rfl) (fun K hK => ?_)
       go_simp
       refine (mulq hk (HR.out.p (_, 3) (by simp)) (HR.out.p (_, fM p X X) (by simp))).mono ?_; rintro e wn ⟨rv, rfl, m, hB⟩; obtain ⟨kb0, kb1, kb2, rfl⟩ := m.nk.sl; have HR : Hid (Rg _ _ _ _ _) := HR.out.below hB m; clear m hB; refine hK.out _ _ (fun _ => HR.out.k) ?_; clear hK K; try simp only [Act.put, List.setIfInBounds_toArray, List.set_cons_zero, List.set_cons_succ]
       refine wpAnyK_step 12 rfl (by kernel_rfl) (fun K hK => ?_)
       go_simp
       refine (subq hk (HR.out.p (_, fM p 3 (fM p X X)) (by simp)) (HR.out.p (_, 3) (by simp))).mono ?_; rintro e wn ⟨rv, rfl, m, hB⟩; obtain ⟨kc0, kc1, kc2, rfl⟩ := m.nk.sl; have HR : Hid (Rg _ _ _ _ _) := HR.out.below hB m; clear m hB; refine hK.out _ _ (fun _ => HR.out.k) ?_; clear hK K; try simp only [Act.put, List.setIfInBounds_toArray, List.set_cons_zero, List.set_cons_succ]
       refine wpAnyK_step 17 rfl (by kernel_rfl) (fun K hK => ?_)
       go_simp
       refine (mulq hk (HR.out.p (_, 2) (by simp)) (HR.out.p (_, Y) (by simp))).mono ?_; rintro e wn ⟨rv, rfl, m, hB⟩; obtain ⟨kd0, kd1, kd2, rfl⟩ := m.nk.sl; have HR : Hid (Rg _ _ _ _ _) := HR.out.below hB m; clear m hB; refine hK.out _ _ (fun _ => HR.out.k) ?_; clear hK K; try simp only [Act.put, List.setIfInBounds_toArray, List.set_cons_zero, List.set_cons_succ]
       refine wpAnyK_step 18 rfl (by kernel_rfl) (fun K hK => ?_)
       go_simp
       refine (overq hk (HR.out.p (_, fS p (fM p 3 (fM p X X)) 3) (by simp)) (HR.out.p (_, fM p 2 Y) (by simp)) (two_pos hk.cv hk.pm HO.out.1) (fM_lt hk.pm _ _)).mono ?_; rintro e wn ⟨rv, Z, hZ, rfl, m, hB⟩; obtain ⟨r0, r1, r2, rfl⟩ := m.nk.sl; have HF : Hid (Inz (fM p 2 Y) p Z ∧ Mk _ (w.heap.size + 3) (.slice r0 r1 r2) (fM p (fS p (fM p 3 (fM p X X)) 3) Z) 384 ∧ Below _ _ _) := ⟨hZ, m.base (Nat.le_trans HW0.out HR.out.e.size), btr HR.out.e hB⟩; have HR : Hid (Rg _ _ _ _ _) := HR.out.below hB m; clear m hB hZ; refine hK.out _ _ (fun _ => HR.out.k) ?_; clear hK K; try simp only [Act.put, List.setIfInBounds_toArray, List.set_cons_zero, List.set_cons_succ]
       refine wpAnyK_take0 19 (v := ?v95) rfl (by kernel_rfl) (fun _ _ _ h => h) (Or.inl ⟨by rfl, ?hy95⟩) (fun h => nomatch (h.symm.trans (show _ = true by kernel_rfl))) ?_
       case hy95 => (intro w hSw; go_simp; try with_reducible rfl)
       try simp only [Act.put, List.setIfInBounds_toArray, List.set_cons_zero, List.set_cons_succ]
       refine wpAnyK_done (by kernel_rfl) ?_ _
       go_wp2_with fail
       go_meet
       exact ⟨_, _, _, _, Z, rfl, rfl, HF.out⟩
     ·
      go_simp
      refine (mulq hk (HR.out.p (_, X) (by simp)) (HR.out.p (_, X) (by simp))).mono ?_; rintro e wn ⟨rv, rfl, m, hB⟩; obtain ⟨ka0, ka1, ka2, rfl⟩ := m.nk.sl; have HR : Hid (Rg _ _ _ _ _) := HR.out.below hB m; clear m hB; refine hK.out _ _ (fun _ => HR.out.k) ?_; clear hK K; try simp only [Act.put, List.setIfInBounds_toArray, List.set_cons_zero, List.set_cons_succ]
      refine rdy2 3 11 rfl rfl (by kernel_rfl) (fun K hK => ?_) (fun K hK => ?_)
      ·
       go_simp
       have HR : Hid (Rg _ _ _ _ _) := HR.out.lit 3 ltB3 ltQ3; refine hK.out _ _ (fun _ => HR.out.k) ?_
       refine rdy2 10 11 rfl rfl (by kernel_rfl) (fun K hK => ?_) (fun K hK => ?_)
       ·
        go_simp
        refine (mulq hk (HR.out.p (_, 3) (by simp)) (HR.out.p (_, fM p X X) (by simp))).mono ?_; rintro e wn ⟨rv, rfl, m, hB⟩; obtain ⟨kb0, kb1, kb2, rfl⟩ := m.nk.sl; have HR : Hid (Rg _ _ _ _ _) := HR.out.below hB m; clear m hB; refine hK.out _ _ (fun _ => HR.out.k) ?_; clear hK K; try simp only [Act.put, List.setIfInBounds_toArray, List.set_cons_zero, List.set_cons_succ]
        refine wpAnyK_step 11 rfl (by kernel_rfl) (fun K hK => ?_)
        go_simp
        have HR : Hid (Rg _ _ _ _ _) := HR.out.lit 3 ltB3 ltQ3; refine hK.out _ _ (fun _ => HR.out.k) ?_
        refine wpAnyK_step 12 rfl (by kernel_rfl) (fun K hK => ?_)
        go_simp
        refine (subq hk (HR.out.p (_, fM p 3 (fM p X X)) (by simp)) (HR.out.p (_, 3) (by simp))).mono ?_; rintro e wn ⟨rv, rfl, m, hB⟩; obtain ⟨kc0, kc1, kc2, rfl⟩ := m.nk.sl; have HR : Hid (Rg _ _ _ _ _) := HR.out.below hB m; clear m hB; refine hK.out _ _ (fun _ => HR.out.k) ?_; clear hK K; try simp only [Act.put, List.setIfInBounds_toArray, List.set_cons_zero, List.set_cons_succ]
        refine wpAnyK_step 17 rfl (by kernel_rfl) (fun K hK => ?_)
        go_simp
        refine (mulq hk (HR.out.p (_, 2) (by simp)) (HR.out.p (_, Y) (by simp))).mono ?_; rintro e wn ⟨rv, rfl, m, hB⟩; obtain ⟨kd0, kd1, kd2, rfl⟩ := m.nk.sl; have HR : Hid (Rg _ _ _ _ _) := HR.out.below hB m; clear m hB; refine hK.out _ _ (fun _ => HR.out.k) ?_; clear hK K; try simp only [Act.put, List.setIfInBounds_toArray, List.set_cons_zero, List.set_cons_succ]
        refine wpAnyK_step 18 rfl (by kernel_rfl) (fun K hK => ?_)
        go_simp
        refine (overq hk (HR.out.p (_, fS p (fM p 3 (fM p X X)) 3) (by simp)) (HR.out.p (_, fM p 2 Y) (by simp)) (two_pos hk.cv hk.pm HO.out.1) (fM_lt hk.pm _ _)).mono ?_; rintro e wn ⟨rv, Z, hZ, rfl, m, hB⟩; obtain ⟨r0, r1, r2, rfl⟩ := m.nk.sl; have HF : Hid (Inz (fM p 2 Y) p Z ∧ Mk _ (w.heap.size + 3) (.slice r0 r1 r2) (fM p (fS p (fM p 3 (fM p X X)) 3) Z) 384 ∧ Below _ _ _) := ⟨hZ, m.base (Nat.le_trans HW0.out HR.out.e.size), btr HR.out.e hB⟩; have HR : Hid (Rg _ _ _ _ _) := HR.out.below hB m; clear m hB hZ; refine hK.out _ _ (fun _ => HR.out.k) ?_; clear hK K; try simp only [Act.put, List.setIfInBounds_toArray, List.set_cons_zero, List.set_cons_succ]
        refine wpAnyK_take0 19 (v := ?v96) rfl (by kernel_rfl) (fun _ _ _ h => h) (Or.inl ⟨by rfl, ?hy96⟩) (fun h => nomatch (h.symm.trans (show _ = true by kernel_rfl))) ?_
        case hy96 => (intro w hSw; go_simp; try with_reducible rfl)
        try simp only [Act.put, List.setIfInBounds_toArray, List.set_cons_zero, List.set_cons_succ]
        refine wpAnyK_done (by kernel_rfl) ?_ _
        go_wp2_with fail
        go_meet
        exact ⟨_, _, _, _, Z, rfl, rfl, HF.out⟩
       ·
        go_simp
        have HR : Hid (Rg _ _ _ _ _) := HR.out.lit 3 ltB3 ltQ3; refine hK.out _ _ (fun _ => HR.out.k) ?_
        refine wpAnyK_step 10 rfl (by kernel_rfl) (fun K hK => ?_)
        go_simp
        refine (mulq hk (HR.out.p (_, 3) (by simp)) (HR.out.p (_, fM p X X) (by simp))).mono ?_; rintro e wn ⟨rv, rfl, m, hB⟩; obtain ⟨kb0, kb1, kb2, rfl⟩ := m.nk.sl; have HR : Hid (Rg _ _ _ _ _) := HR.out.below hB m; clear m hB; refine hK.out _ _ (fun _ => HR.out.k) ?_; clear hK K; try simp only [Act.put, List.setIfInBounds_toArray, List.set_cons_zero, List.set_cons_succ]
        refine wpAnyK_step 12 rfl (by kernel_rfl) (fun K hK => ?_)
        go_simp
        refine (subq hk (HR.out.p (_, fM p 3 (fM p X X)) (by simp)) (HR.out.p (_, 3) (by simp))).mono ?_; rintro e wn ⟨rv, rfl, m, hB⟩; obtain ⟨kc0, kc1, kc2, rfl⟩ := m.nk.sl; have HR : Hid (Rg _ _ _ _ _) := HR.out.below hB m; clear m hB; refine hK.out _ _ (fun _ => HR.out.k) ?_; clear hK K; try simp only [Act.put, List.setIfInBounds_toArray, List.set_cons_zero, List.set_cons_succ]
        refine wpAnyK_step 17 rfl (by kernel_rfl) (fun K hK => ?_)
        go_simp
        refine (mulq hk (HR.out.p (_, 2) (by simp)) (HR.out.p (_, Y) (by simp))).mono ?_; rintro e wn ⟨rv, rfl, m, hB⟩; obtain ⟨kd0, kd1, kd2, rfl⟩ := m.nk.sl; have HR : Hid (Rg _ _ _ _ _) := HR.out.below hB m; clear m hB; refine hK.out _ _ (fun _ => HR.out.k) ?_; clear hK K; try simp only [Act.put, List.setIfInBounds_toArray, List.set_cons_zero, List.set_cons_succ]
        refine wpAnyK_step 18 rfl (by kernel_rfl) (fun K hK => ?_)
        go_simp
        refine (overq hk (HR.out.p (_, fS p (fM p 3 (fM p X X)) 3) (by simp)) (HR.out.p (_, fM p 2 Y) (by simp)) (two_pos hk.cv hk.pm HO.out.1) (fM_lt hk.pm _ _)).mono ?_; rintro e wn ⟨rv, Z, hZ, rfl, m, hB⟩; obtain ⟨r0, r1, r2, rfl⟩ := m.nk.sl; have HF : Hid (Inz (fM p 2 Y) p Z ∧ Mk _ (w.heap.size + 3) (.slice r0 r1 r2) (fM p (fS p (fM p 3 (fM p X X)) 3) Z) 384 ∧ Below _ _ _) := ⟨hZ, m.base (Nat.le_trans HW0.out HR.out.e.size), btr HR.out.e hB⟩; have HR : Hid (Rg _ _ _ _ _) := HR.out.below hB m; clear m hB hZ; refine hK.out _ _ (fun _ => HR.out.k) ?_; clear hK K; try simp only [Act.put, List.setIfInBounds_toArray, List.set_cons_zero, List.set_cons_succ]
        refine wpAnyK_take0 19 (v := ?v97) rfl (by kernel_rfl) (fun _ _ _ h => h) (Or.inl ⟨by rfl, ?hy97⟩) (fun h => nomatch (h.symm.trans (show _ = true by kernel_rfl))) ?_
        case hy97 => (intro w hSw; go_simp; try with_reducible rfl)
        try simp only [Act.put, List.setIfInBounds_toArray, List.set_cons_zero, List.set_cons_succ]
        refine wpAnyK_done (by kernel_rfl) ?_ _
        go_wp2_with fail
        go_meet
        exact ⟨_, _, _, _, Z, rfl, rfl, HF.out⟩
      ·
       go_simp
       have HR : Hid (Rg _ _ _ _ _) := HR.out.lit 3 ltB3 ltQ3; refine hK.out _ _ (fun _ => HR.out.k) ?_
       refine wpAnyK_step 3 rfl (by kernel_rfl) (fun K hK => ?_)
       go_simp
       have HR : Hid (Rg _ _ _ _ _) := HR.out.lit 3 ltB3 ltQ3; refine hK.out _ _ (fun _ => HR.out.k) ?_
       refine wpAnyK_step 10 rfl (by kernel_rfl) (fun K hK => ?_)
       go_simp
       refine (mulq hk (HR.out.p (_, 3) (by simp)) (HR.out.p (_, fM p X X) (by simp))).mono ?_; rintro e wn ⟨rv, rfl, m, hB⟩; obtain ⟨kb0, kb1, kb2, rfl⟩ := m.nk.sl; have HR : Hid (Rg _ _ _ _ _) := HR.out.below hB m; clear m hB; refine hK.out _ _ (fun _ => HR.out.k) ?_; clear hK K; try simp only [Act.put, List.setIfInBounds_toArray, List.set_cons_zero, List.set_cons_succ]
       refine wpAnyK_step 12 rfl (by kernel_rfl) (fun K hK => ?_)
       go_simp
       refine (subq hk (HR.out.p (_, fM p 3 (fM p X X)) (by simp)) (HR.out.p (_, 3) (by simp))).mono ?_; rintro e wn ⟨rv, rfl, m, hB⟩; obtain ⟨kc0, kc1, kc2, rfl⟩ := m.nk.sl; have HR : Hid (Rg _ _ _ _ _) := HR.out.below hB m; clear m hB; refine hK.out _ _ (fun _ => HR.out.k) ?_; clear hK K; try simp only [Act.put, List.setIfInBounds_toArray, List.set_cons_zero, List.set_cons_succ]
       refine wpAnyK_step 17 rfl (by kernel_rfl) (fun K hK => ?_)
       go_simp
       refine (mulq hk (HR.out.p (_, 2) (by simp)) (HR.out.p (_, Y) (by simp))).mono ?_; rintro e wn ⟨rv, rfl, m, hB⟩; obtain ⟨kd0, kd1, kd2, rfl⟩ := m.nk.sl; have HR : Hid (Rg _ _ _ _ _) := HR.out.below hB m; clear m hB; refine hK.out _ _ (fun _ => HR.out.k) ?_; clear hK K; try simp only [Act.put, List.setIfInBounds_toArray, List.set_cons_zero, List.set_cons_succ]
       refine wpAnyK_step 18 rfl (by kernel_rfl) (fun K hK => ?_)
       go_simp
       refine (overq hk (HR.out.p (_, fS p (fM p 3 (fM p X X)) 3) (by simp)) (HR.out.p (_, fM p 2 Y) (by simp)) (two_pos hk.cv hk.pm HO.out.1) (fM_lt hk.pm _ _)).mono ?_; rintro e wn ⟨rv, Z, hZ, rfl, m, hB⟩; obtain ⟨r0, r1, r2, rfl⟩ := m.nk.sl; have HF : Hid (Inz (fM p 2 Y) p Z ∧ Mk _ (w.heap.size + 3) (.slice r0 r1 r2) (fM p (fS p (fM p 3 (fM p X X)) 3) Z) 384 ∧ Below _ _ _) := ⟨hZ, m.base (Nat.le_trans HW0.out HR.out.e.size), btr HR.out.e hB⟩; have HR : Hid (Rg _ _ _ _ _) := HR.out.below hB m; clear m hB hZ; refine hK.out _ _ (fun _ => HR.out.k) ?_; clear hK K; try simp only [Act.put, List.setIfInBounds_toArray, List.set_cons_zero, List.set_cons_succ]
       refine wpAnyK_take0 19 (v := ?v98) rfl (by kernel_rfl) (fun _ _ _ h => h) (Or.inl ⟨by rfl, ?hy98⟩) (fun h => nomatch (h.symm.trans (show _ = true by kernel_rfl))) ?_
       case hy98 => (intro w hSw; go_simp; try with_reducible rfl)
       try simp only [Act.put, List.setIfInBounds_toArray, List.set_cons_zero, List.set_cons_succ]
       refine wpAnyK_done (by kernel_rfl) ?_ _
       go_wp2_with fail
       go_meet
       exact ⟨_, _, _, _, Z, rfl, rfl, HF.out⟩
     ·
      go_simp
      have HR : Hid (Rg _ _ _ _ _) := HR.out.lit 3 ltB3 ltQ3; refine hK.out _ _ (fun _ => HR.out.k) ?_
      refine rdy2 3 9 rfl rfl (by kernel_rfl) (fun K hK => ?_) (fun K hK => ?_)
      ·
       go_simp
       have HR : Hid (Rg _ _ _ _ _) := HR.out.lit 3 ltB3 ltQ3; refine hK.out _ _ (fun _ => HR.out.k) ?_
       refine wpAnyK_step 9 rfl (by kernel_rfl) (fun K hK => ?_)
       go_simp
       refine (mulq hk (HR.out.p (_, X) (by simp)) (HR.out.p (_, X) (by simp))).mono ?_; rintro e wn ⟨rv, rfl, m, hB⟩; obtain ⟨ka0, ka1, ka2, rfl⟩ := m.nk.sl; have HR : Hid (Rg _ _ _ _ _) := HR.out.below hB m; clear m hB; refine hK.out _ _ (fun _ => HR.out.k) ?_; clear hK K; try simp only [Act.put, List.setIfInBounds_toArray, List.set_cons_zero, List.set_cons_succ]
       refine wpAnyK_step 10 rfl (by kernel_rfl) (fun K hK => ?_)
       go_simp
       refine (mulq hk (HR.out.p (_, 3) (by simp)) (HR.out.p (_, fM p X X) (by simp))).mono ?_; rintro e wn ⟨rv, rfl, m, hB⟩; obtain ⟨kb0, kb1, kb2, rfl⟩ := m.nk.sl; have HR : Hid (Rg _ _ _ _ _) := HR.out.below hB m; clear m hB; refine hK.out _ _ (fun _ => HR.out.k) ?_; clear hK K; try simp only [Act.put, List.setIfInBounds_toArray, List.set_cons_zero, List.set_cons_succ]
       refine wpAnyK_step 12 rfl (by kernel_rfl) (fun K hK => ?_)
       go_simp
       refine (subq hk (HR.out.p (_, fM p 3 (fM p X X)) (by simp)) (HR.out.p (_, 3) (by simp))).mono ?_; rintro e wn ⟨rv, rfl, m, hB⟩; obtain ⟨kc0, kc1, kc2, rfl⟩ := m.nk.sl; have HR : Hid (Rg _ _ _ _ _) := HR.out.below hB m; clear m hB; refine hK.out _ _ (fun _ => HR.out.k) ?_; clear hK K; try simp only [Act.put, List.setIfInBounds_toArray, List.set_cons_zero, List.set_cons_succ]
       refine wpAnyK_step 17 rfl (by kernel_rfl) (fun K hK => ?_)
       go_simp
       refine (mulq hk (HR.out.p (_, 2) (by simp)) (HR.out.p (_, Y) (by simp))).mono ?_; rintro e wn ⟨rv, rfl, m, hB⟩; obtain ⟨kd0, kd1, kd2, rfl⟩ := m.nk.sl; have HR : Hid (Rg _ _ _ _ _) := HR.out.below hB m; clear m hB; refine hK.out _ _ (fun _ => HR.out.k) ?_; clear hK K; try simp only [Act.put, List.setIfInBounds_toArray, List.set_cons_zero, List.set_cons_succ]
       refine wpAnyK_step 18 rfl (by kernel_rfl) (fun K hK => ?_)
       go_simp
       refine (overq hk (HR.out.p (_, fS p (fM p 3 (fM p X X)) 3) (by simp)) (HR.out.p (_, fM p 2 Y) (by simp)) (two_pos hk.cv hk.pm HO.out.1) (fM_lt hk.pm _ _)).mono ?_; rintro e wn ⟨rv, Z, hZ, rfl, m, hB⟩; obtain ⟨r0, r1, r2, rfl⟩ := m.nk.sl; have HF : Hid (Inz (fM p 2 Y) p Z ∧ Mk _ (w.heap.size + 3) (.slice r0 r1 r2) (fM p (fS p (fM p 3 (fM p X X)) 3) Z) 384 ∧ Below _ _ _) := ⟨hZ, m.base (Nat.le_trans HW0.out HR.out.e.size), btr HR.out.e hB⟩; have HR : Hid (Rg _ _ _ _ _) := HR.out.below hB m; clear m hB hZ; refine hK.out _ _ (fun _ => HR.out.k) ?_; clear hK K; try simp only [Act.put, List.setIfInBounds_toArray, List.set_cons_zero, List.set_cons_succ]
       refine wpAnyK_take0 19 (v := ?v99) rfl (by kernel_rfl) (fun _ _ _ h => h) (Or.inl ⟨by rfl, ?hy99⟩) (fun h => nomatch (h.symm.trans (show _ = true by kernel_rfl))) ?_
       case hy99 => (intro w hSw; go_simp; try with_reducible rfl)
       try simp only [Act.put, List.setIfInBounds_toArray, List.set_cons_zero, List.set_cons_succ]
       refine wpAnyK_done (by kernel_rfl) ?_ _
       go_wp2_with fail
       go_meet
       exact ⟨_, _, _, _, Z, rfl, rfl, HF.out⟩
      ·
       go_simp
       refine (mulq hk (HR.out.p (_, X) (by simp)) (HR.out.p (_, X) (by simp))).mono ?_; rintro e wn ⟨rv, rfl, m, hB⟩; obtain ⟨ka0, ka1, ka2, rfl⟩ := m.nk.sl; have HR : Hid (Rg _ _ _ _ _) := HR.out.below hB m; clear m hB; refine hK.out _ _ (fun _ => HR.out.k) ?_; clear hK K; try simp only [Act.put, List.setIfInBounds_toArray, List.set_cons_zero, List.set_cons_succ]
       refine wpAnyK_step 3 rfl (by kernel_rfl) (fun K hK => ?_)
       go_simp
       have HR : Hid (Rg _ _ _ _ _) := HR.out.lit 3 ltB3 ltQ3; refine hK.out _ _ (fun _ => HR.out.k) ?_
       refine wpAnyK_step 10 rfl (by kernel_rfl) (fun K hK => ?_)
       go_simp
       refine (mulq hk (HR.out.p (_, 3) (by simp)) (HR.out.p (_, fM p X X) (by simp))).mono ?_; rintro e wn ⟨rv, rfl, m, hB⟩; obtain ⟨kb0, kb1, kb2, rfl⟩ := m.nk.sl; have HR : Hid (Rg _ _ _ _ _) := HR.out.below hB m; clear m hB; refine hK.out _ _ (fun _ => HR.out.k) ?_; clear hK K; try simp only [Act.put, List.setIfInBounds_toArray, List.set_cons_zero, List.set_cons_succ]
       refine wpAnyK_step 12 rfl (by kernel_rfl) (fun K hK => ?_)
       go_simp
       refine (subq hk (HR.out.p (_, fM p 3 (fM p X X)) (by simp)) (HR.out.p (_, 3) (by simp))).mono ?_; rintro e wn ⟨rv, rfl, m, hB⟩; obtain ⟨kc0, kc1, kc2, rfl⟩ := m.nk.sl; have HR : Hid (Rg _ _ _ _ _) := HR.out.below hB m; clear m hB; refine hK.out _ _ (fun _ => HR.out.k) ?_; clear hK K; try simp only [Act.put, List.setIfInBounds_toArray, List.set_cons_zero, List.set_cons_succ]
       refine wpAnyK_step 17 rfl (by kernel_rfl) (fun K hK => ?_)
       go_simp
       refine (mulq hk (HR.out.p (_, 2) (by simp)) (HR.out.p (_, Y) (by simp))).mono ?_; rintro e wn ⟨rv, rfl, m, hB⟩; obtain ⟨kd0, kd1, kd2, rfl⟩ := m.nk.sl; have HR : Hid (Rg _ _ _ _ _) := HR.out.below hB m; clear m hB; refine hK.out _ _ (fun _ => HR.out.k) ?_; clear hK K; try simp only [Act.put, List.setIfInBounds_toArray, List.set_cons_zero, List.set_cons_succ]
       refine wpAnyK_step 18 rfl (by kernel_rfl) (fun K hK => ?_)
       go_simp
       refine (overq hk (HR.out.p (_, fS p (fM p 3 (fM p X X)) 3) (by simp)) (HR.out.p (_, fM p 2 Y) (by simp)) (two_pos hk.cv hk.pm HO.out.1) (fM_lt hk.pm _ _)).mono ?_; rintro e wn ⟨rv, Z, hZ, rfl, m, hB⟩; obtain ⟨r0, r1, r2, rfl⟩ := m.nk.sl; have HF : Hid (Inz (fM p 2 Y) p Z ∧ Mk _ (w.heap.size + 3) (.slice r0 r1 r2) (fM p (fS p (fM p 3 (fM p X X)) 3) Z) 384 ∧ Below _ _ _) := ⟨hZ, m.base (Nat.le_trans HW0.out HR.out.e.size), btr HR.out.e hB⟩; have HR : Hid (Rg _ _ _ _ _) := HR.out.below hB m; clear m hB hZ; refine hK.out _ _ (fun _ => HR.out.k) ?_; clear hK K; try simp only [Act.put, List.setIfInBounds_toArray, List.set_cons_zero, List.set_cons_succ]
       refine wpAnyK_take0 19 (v := ?v100) rfl (by kernel_rfl) (fun _ _ _ h => h) (Or.inl ⟨by rfl, ?hy100⟩) (fun h => nomatch (h.symm.trans (show _ = true by kernel_rfl))) ?_
       case hy100 => (intro w hSw; go_simp; try with_reducible rfl)
       try simp only [Act.put, List.setIfInBounds_toArray, List.set_cons_zero, List.set_cons_succ]
       refine wpAnyK_done (by kernel_rfl) ?_ _
       go_wp2_with fail
       go_meet
       exact ⟨_, _, _, _, Z, rfl, rfl, HF.out⟩
  case rest =>
    obtain ⟨wk, t0, t1, t2, Z, rfl, rfl, HCk⟩ := hcut
    have Hs5 : Hid (Below w3.heap.size w3 wk) := HCk.out.2.2
    obtain ⟨T, HT⟩ : ∃ T, Hid (T = fM p (fS p (fM p 3 (fM p X X)) 3) Z) := ⟨_, rfl⟩
    have Ht0 : Hid (Mk wk (w.heap.size + 3) (.slice t0 t1 t2) T 384) := (by rw [HT.out]; exact HCk.out.2.1 : Mk _ _ _ _ _)
    have HNo : Hid (¬ (X = U ∧ (Y + V) % p = 0)) := fun h => HY.out h.2
    have HYV : Hid (Y = V) := doc_y hk.cv HO.out.1 (HX.out ▸ HO.out.2) HY.out
    have HSl : Hid (SlP p X Y U V T) := (by rw [HT.out, ← HX.out, ← HYV.out]; exact doc_tangent hk.pm HO.out.1 HCk.out.1 : SlP p X Y U V T)
    go_wp2_with fail
    have Hs6 : Hid (Below wk.heap.size wk wk.drew) := below_drewN (Below.refl _ _) 1
    have HbP2 : Hid (Bl _ _ _ _) := HbP1.out.below (btr Hs5.out Hs6.out) HbP1.out.lt
    have HbQ1 : Hid (Bl _ _ _ _) := HbQ0.out.below (btr Hs4.out (btr Hs5.out Hs6.out)) HbQ0.out.lt
    refine wp_region_K 11 (fun (w' : World) => w'.cell? ⟨w.heap.size, 0, none⟩ = some (.slice x0 x1 x2) ∧ w'.cell? ⟨w.heap.size, 1, none⟩ = some (.slice y0 y1 y2) ∧ w'.cell? ⟨w.heap.size, 2, none⟩ = some (.bool false) ∧ w'.cell? ⟨w.heap.size + 1, 0, none⟩ = some (.slice u0 u1 u2) ∧ w'.cell? ⟨w.heap.size + 1, 1, none⟩ = some (.slice v0 v1 v2) ∧ w'.cell? ⟨w.heap.size + 1, 2, none⟩ = some (.bool false)) (by kernel_rfl) ?_
    have hHeld : ((fun (w' : World) => w'.cell? ⟨w.heap.size, 0, none⟩ = some (.slice x0 x1 x2) ∧ w'.cell? ⟨w.heap.size, 1, none⟩ = some (.slice y0 y1 y2) ∧ w'.cell? ⟨w.heap.size, 2, none⟩ = some (.bool false) ∧ w'.cell? ⟨w.heap.size + 1, 0, none⟩ = some (.slice u0 u1 u2) ∧ w'.cell? ⟨w.heap.size + 1, 1, none⟩ = some (.slice v0 v1 v2) ∧ w'.cell? ⟨w.heap.size + 1, 2, none⟩ = some (.bool false))) (World.drew _) := ⟨HbP2.out.cell 0 (by simp), HbP2.out.cell 1 (by simp), HbP2.out.cell 2 (by simp), HbQ1.out.cell 0 (by simp), HbQ1.out.cell 1 (by simp), HbQ1.out.cell 2 (by simp)⟩
    refine wpAnyK_take0 0 (v := ?v101) rfl (by kernel_rfl) (fun _ _ _ h => h) (Or.inl ⟨by rfl, ?hy101⟩) (fun _ => hHeld) ?_
    case hy101 => (intro w hSw; go_simp; try with_reducible rfl)
    try simp only [Act.put, List.setIfInBounds_toArray, List.set_cons_zero, List.set_cons_succ]
    refine wpAnyK_take0 1 (v := ?v102) rfl (by kernel_rfl) (fun _ _ _ h => h) (Or.inl ⟨by rfl, ?hy102⟩) (fun _ => hHeld) ?_
    case hy102 => (intro w hSw; go_simp; try with_reducible rfl)
    try simp only [Act.put, List.setIfInBounds_toArray, List.set_cons_zero, List.set_cons_succ]
    refine wpAnyK_take0 2 (v := ?v103) rfl (by kernel_rfl) (fun _ _ _ h => h) (Or.inl ⟨by rfl, ?hy103⟩) (fun _ => hHeld) ?_
    case hy103 => (intro w hSw; go_simp; try with_reducible rfl)
    try simp only [Act.put, List.setIfInBounds_toArray, List.set_cons_zero, List.set_cons_succ]
    refine wpAnyK_take0 3 (v := ?v104) rfl (by kernel_rfl) (fun _ _ _ h => h) (Or.inl ⟨by rfl, ?hy104⟩) (fun _ => hHeld) ?_
    case hy104 => (intro w hSw; go_simp; try with_reducible rfl)
    try simp only [Act.put, List.setIfInBounds_toArray, List.set_cons_zero, List.set_cons_succ]
    refine wpAnyK_take0 4 (v := ?v105) rfl (by kernel_rfl) (fun _ _ _ h => h) (Or.inl ⟨by rfl, ?hy105⟩) (fun _ => hHeld) ?_
    case hy105 => (intro w hSw; go_simp; try with_reducible rfl)
    try simp only [Act.put, List.setIfInBounds_toArray, List.set_cons_zero, List.set_cons_succ]
    refine wpAnyK_take0 6 (v := ?v106) rfl (by kernel_rfl) (fun _ _ _ h => h) (Or.inl ⟨by rfl, ?hy106⟩) (fun _ => hHeld) ?_
    case hy106 => (intro w hSw; go_simp; try with_reducible rfl)
    try simp only [Act.put, List.setIfInBounds_toArray, List.set_cons_zero, List.set_cons_succ]
    refine wpAnyK_take 7 [8, 11] (v := ?v107) rfl (by kernel_rfl) (fun _ _ _ h => h) (Or.inl ⟨by rfl, ?hy107⟩) hHeld ?_
    case hy107 => (intro w hSw; (try dsimp only at hSw); go_simp; try with_reducible rfl)
    try simp only [Act.put, List.setIfInBounds_toArray, List.set_cons_zero, List.set_cons_succ]
    refine wpAnyK_take0 9 (v := ?v108) rfl (by kernel_rfl) (fun _ _ _ h => h) (Or.inl ⟨by rfl, ?hy108⟩) (fun _ => hHeld) ?_
    case hy108 => (intro w hSw; go_simp; try with_reducible rfl)
    try simp only [Act.put, List.setIfInBounds_toArray, List.set_cons_zero, List.set_cons_succ]
    refine wpAnyK_take 10 [11] (v := ?v109) rfl (by kernel_rfl) (fun _ _ _ h => h) (Or.inl ⟨by rfl, ?hy109⟩) hHeld ?_
    case hy109 => (intro w hSw; (try dsimp only at hSw); go_simp; try with_reducible rfl)
    try simp only [Act.put, List.setIfInBounds_toArray, List.set_cons_zero, List.set_cons_succ]
    refine wpAnyK_step 5 rfl (by kernel_rfl) (fun K hK => ?_)
    go_simp
    have Ht1 : Hid (Mk _ _ _ _ _) := Ht0.out.below Hs6.out
    refine (mulq hk Ht1.out.nq Ht1.out.nq).mono ?_
    rintro e w7 ⟨e1v, rfl, m, hB⟩
    have Hs8 : Hid (Below _ _ _) := hB
    obtain ⟨e10, e11, e12, rfl⟩ := m.nk.sl
    have He10 : Hid (Mk w7 (w.heap.size + 3) (.slice e10 e11 e12) (fM p T T) 384) := m.base (Nat.le_trans Hsz.out ((btr Hs4.out (btr Hs5.out Hs6.out))).size)
    clear m hB
    have HbP3 : Hid (Bl _ _ _ _) := HbP2.out.below Hs8.out HbP2.out.lt
    have HbQ2 : Hid (Bl _ _ _ _) := HbQ1.out.below Hs8.out HbQ1.out.lt
    try dsimp only
    refine (fun hHeld => hK.out _ _ (fun _ => hHeld) ?_) ⟨HbP3.out.cell 0 (by simp), HbP3.out.cell 1 (by simp), HbP3.out.cell 2 (by simp), HbQ2.out.cell 0 (by simp), HbQ2.out.cell 1 (by simp), HbQ2.out.cell 2 (by simp)⟩
    clear hK K
    try simp only [Act.put, List.setIfInBounds_toArray, List.set_cons_zero, List.set_cons_succ]
    refine wpAnyK_step 8 rfl (by kernel_rfl) (fun K hK => ?_)
    go_simp
    have Hx3 : Hid (Mk _ _ _ _ _) := Hx2.out.below (btr Hs5.out (btr Hs6.out Hs8.out))
    refine (subq hk He10.out.nq Hx3.out.nq).mono ?_
    rintro e w9 ⟨e2v, rfl, m, hB⟩
    have Hs10 : Hid (Below _ _ _) := hB
    obtain ⟨e20, e21, e22, rfl⟩ := m.nk.sl
    have He20 : Hid (Mk w9 (w.heap.size + 3) (.slice e20 e21 e22) (fS p (fM p T T) X) 384) := m.base (Nat.le_trans Hsz.out ((btr Hs4.out (btr Hs5.out (btr Hs6.out Hs8.out)))).size)
    clear m hB
    have HbP4 : Hid (Bl _ _ _ _) := HbP3.out.below Hs10.out HbP3.out.lt
    have HbQ3 : Hid (Bl _ _ _ _) := HbQ2.out.below Hs10.out HbQ2.out.lt
    try dsimp only
    refine (fun hHeld => hK.out _ _ (fun _ => hHeld) ?_) ⟨HbP4.out.cell 0 (by simp), HbP4.out.cell 1 (by simp), HbP4.out.cell 2 (by simp), HbQ3.out.cell 0 (by simp), HbQ3.out.cell 1 (by simp), HbQ3.out.cell 2 (by simp)⟩
    clear hK K
    try simp only [Act.put, List.setIfInBounds_toArray, List.set_cons_zero, List.set_cons_succ]
    refine wpAnyK_step 11 rfl (by kernel_rfl) (fun K hK => ?_)
    go_simp
    have Hu2 : Hid (Mk _ _ _ _ _) := Hu1.out.below (btr Hs4.out (btr Hs5.out (btr Hs6.out (btr Hs8.out Hs10.out))))
    refine (subq hk He20.out.nq Hu2.out.nq).mono ?_
    rintro e w11 ⟨e3v, rfl, m, hB⟩
    have Hs12 : Hid (Below _ _ _) := hB
    obtain ⟨e30, e31, e32, rfl⟩ := m.nk.sl
    have He30 : Hid (Mk w11 (w.heap.size + 3) (.slice e30 e31 e32) (dX p T X U) 384) := m.base (Nat.le_trans Hsz.out ((btr Hs4.out (btr Hs5.out (btr Hs6.out (btr Hs8.out Hs10.out))))).size)
    clear m hB
    have HbP5 : Hid (Bl _ _ _ _) := HbP4.out.below Hs12.out HbP4.out.lt
    have HbQ4 : Hid (Bl _ _ _ _) := HbQ3.out.below Hs12.out HbQ3.out.lt
    try dsimp only
    refine (fun hHeld => hK.out _ _ (fun _ => hHeld) ?_) ⟨HbP5.out.cell 0 (by simp), HbP5.out.cell 1 (by simp), HbP5.out.cell 2 (by simp), HbQ4.out.cell 0 (by simp), HbQ4.out.cell 1 (by simp), HbQ4.out.cell 2 (by simp)⟩
    clear hK K
    try simp only [Act.put, List.setIfInBounds_toArray, List.set_cons_zero, List.set_cons_succ]
    refine wpAnyK_take0 12 (v := ?v113) rfl (by kernel_rfl) (fun _ _ _ h => h) (Or.inl ⟨by rfl, ?hy113⟩) (fun _ => hHeld) ?_
    case hy113 => (intro w hSw; go_simp; try with_reducible rfl)
    try simp only [Act.put, List.setIfInBounds_toArray, List.set_cons_zero, List.set_cons_succ]
    refine wpAnyK_done (by kernel_rfl) ?_ _
    go_wp2_with fail
    have Hs13 : Hid (Below w11.heap.size w11 w11.drew) := below_drewN (Below.refl _ _) 1
    have HbP6 : Hid (Bl _ _ _ _) := HbP5.out.below Hs13.out HbP5.out.lt
    have HbQ5 : Hid (Bl _ _ _ _) := HbQ4.out.below Hs13.out HbQ4.out.lt
    refine wp_region_K 11 (fun (w' : World) => w'.cell? ⟨w.heap.size, 0, none⟩ = some (.slice x0 x1 x2) ∧ w'.cell? ⟨w.heap.size, 1, none⟩ = some (.slice y0 y1 y2) ∧ w'.cell? ⟨w.heap.size, 2, none⟩ = some (.bool false) ∧ w'.cell? ⟨w.heap.size + 1, 0, none⟩ = some (.slice u0 u1 u2) ∧ w'.cell? ⟨w.heap.size + 1, 1, none⟩ = some (.slice v0 v1 v2) ∧ w'.cell? ⟨w.heap.size + 1, 2, none⟩ = some (.bool false)) (by kernel_rfl) ?_
    have hHeld : ((fun (w' : World) => w'.cell? ⟨w.heap.size, 0, none⟩ = some (.slice x0 x1 x2) ∧ w'.cell? ⟨w.heap.size, 1, none⟩ = some (.slice y0 y1 y2) ∧ w'.cell? ⟨w.heap.size, 2, none⟩ = some (.bool false) ∧ w'.cell? ⟨w.heap.size + 1, 0, none⟩ = some (.slice u0 u1 u2) ∧ w'.cell? ⟨w.heap.size + 1, 1, none⟩ = some (.slice v0 v1 v2) ∧ w'.cell? ⟨w.heap.size + 1, 2, none⟩ = some (.bool false))) (World.drew _) := ⟨HbP6.out.cell 0 (by simp), HbP6.out.cell 1 (by simp), HbP6.out.cell 2 (by simp), HbQ5.out.cell 0 (by simp), HbQ5.out.cell 1 (by simp), HbQ5.out.cell 2 (by simp)⟩
    refine wpAnyK_take0 0 (v := ?v114) rfl (by kernel_rfl) (fun _ _ _ h => h) (Or.inl ⟨by rfl, ?hy114⟩) (fun _ => hHeld) ?_
    case hy114 => (intro w hSw; go_simp; try with_reducible rfl)
    try simp only [Act.put, List.setIfInBounds_toArray, List.set_cons_zero, List.set_cons_succ]
    refine wpAnyK_take0 1 (v := ?v115) rfl (by kernel_rfl) (fun _ _ _ h => h) (Or.inl ⟨by rfl, ?hy115⟩) (fun _ => hHeld) ?_
    case hy115 => (intro w hSw; go_simp; try with_reducible rfl)
    try simp only [Act.put, List.setIfInBounds_toArray, List.set_cons_zero, List.set_cons_succ]
    refine wpAnyK_take0 2 (v := ?v116) rfl (by kernel_rfl) (fun _ _ _ h => h) (Or.inl ⟨by rfl, ?hy116⟩) (fun _ => hHeld) ?_
    case hy116 => (intro w hSw; go_simp; try with_reducible rfl)
    try simp only [Act.put, List.setIfInBounds_toArray, List.set_cons_zero, List.set_cons_succ]
    refine wpAnyK_take0 3 (v := ?v117) rfl (by kernel_rfl) (fun _ _ _ h => h) (Or.inl ⟨by rfl, ?hy117⟩) (fun _ => hHeld) ?_
    case hy117 => (intro w hSw; go_simp; try with_reducible rfl)
    try simp only [Act.put, List.setIfInBounds_toArray, List.set_cons_zero, List.set_cons_succ]
    refine wpAnyK_take0 4 (v := ?v118) rfl (by kernel_rfl) (fun _ _ _ h => h) (Or.inl ⟨by rfl, ?hy118⟩) (fun _ => hHeld) ?_
    case hy118 => (intro w hSw; go_simp; try with_reducible rfl)
    try simp only [Act.put, List.setIfInBounds_toArray, List.set_cons_zero, List.set_cons_succ]
    refine wpAnyK_take 5 [7, 8, 11] (v := ?v119) rfl (by kernel_rfl) (fun _ _ _ h => h) (Or.inl ⟨by rfl, ?hy119⟩) hHeld ?_
    case hy119 => (intro w hSw; (try dsimp only at hSw); go_simp; try with_reducible rfl)
    try simp only [Act.put, List.setIfInBounds_toArray, List.set_cons_zero, List.set_cons_succ]
    refine wpAnyK_take0 6 (v := ?v120) rfl (by kernel_rfl) (fun _ _ _ h => h) (Or.inl ⟨by rfl, ?hy120⟩) (fun _ => hHeld) ?_
    case hy120 => (intro w hSw; go_simp; try with_reducible rfl)
    try simp only [Act.put, List.setIfInBounds_toArray, List.set_cons_zero, List.set_cons_succ]
    refine wpAnyK_take0 9 (v := ?v121) rfl (by kernel_rfl) (fun _ _ _ h => h) (Or.inl ⟨by rfl, ?hy121⟩) (fun _ => hHeld) ?_
    case hy121 => (intro w hSw; go_simp; try with_reducible rfl)
    try simp only [Act.put, List.setIfInBounds_toArray, List.set_cons_zero, List.set_cons_succ]
    refine wpAnyK_take 10 [11] (v := ?v122) rfl (by kernel_rfl) (fun _ _ _ h => h) (Or.inl ⟨by rfl, ?hy122⟩) hHeld ?_
    case hy122 => (intro w hSw; (try dsimp only at hSw); go_simp; try with_reducible rfl)
    try simp only [Act.put, List.setIfInBounds_toArray, List.set_cons_zero, List.set_cons_succ]
    refine wpAnyK_step 7 rfl (by kernel_rfl) (fun K hK => ?_)
    go_simp
    have Hx4 : Hid (Mk _ _ _ _ _) := Hx3.out.below (btr Hs10.out (btr Hs12.out Hs13.out))
    have He31 : Hid (Mk _ _ _ _ _) := He30.out.below Hs13.out
    refine (subq hk Hx4.out.nq He31.out.nq).mono ?_
    rintro e w14 ⟨e4v, rfl, m, hB⟩
    have Hs15 : Hid (Below _ _ _) := hB
    obtain ⟨e40, e41, e42, rfl⟩ := m.nk.sl
    have He40 : Hid (Mk w14 (w.heap.size + 3) (.slice e40 e41 e42) (fS p X (dX p T X U)) 384) := m.base (Nat.le_trans Hsz.out ((btr Hs4.out (btr Hs5.out (btr Hs6.out (btr Hs8.out (btr Hs10.out (btr Hs12.out Hs13.out))))))).size)
    clear m hB
    have HbP7 : Hid (Bl _ _ _ _) := HbP6.out.below Hs15.out HbP6.out.lt
    have HbQ6 : Hid (Bl _ _ _ _) := HbQ5.out.below Hs15.out HbQ5.out.lt
    try dsimp only
    refine (fun hHeld => hK.out _ _ (fun _ => hHeld) ?_) ⟨HbP7.out.cell 0 (by simp), HbP7.out.cell 1 (by simp), HbP7.out.cell 2 (by simp), HbQ6.out.cell 0 (by simp), HbQ6.out.cell 1 (by simp), HbQ6.out.cell 2 (by simp)⟩
    clear hK K
    try simp only [Act.put, List.setIfInBounds_toArray, List.set_cons_zero, List.set_cons_succ]
    refine wpAnyK_step 8 rfl (by kernel_rfl) (fun K hK => ?_)
    go_simp
    have Ht2 : Hid (Mk _ _ _ _ _) := Ht1.out.below (btr Hs8.out (btr Hs10.out (btr Hs12.out (btr Hs13.out Hs15.out))))
    refine (mulq hk Ht2.out.nq He40.out.nq).mono ?_
    rintro e w16 ⟨e5v, rfl, m, hB⟩
    have Hs17 : Hid (Below _ _ _) := hB
    obtain ⟨e50, e51, e52, rfl⟩ := m.nk.sl
    have He50 : Hid (Mk w16 (w.heap.size + 3) (.slice e50 e51 e52) (fM p T (fS p X (dX p T X U))) 384) := m.base (Nat.le_trans Hsz.out ((btr Hs4.out (btr Hs5.out (btr Hs6.out (btr Hs8.out (btr Hs10.out (btr Hs12.out (btr Hs13.out Hs15.out)))))))).size)
    clear m hB
    have HbP8 : Hid (Bl _ _ _ _) := HbP7.out.below Hs17.out HbP7.out.lt
    have HbQ7 : Hid (Bl _ _ _ _) := HbQ6.out.below Hs17.out HbQ6.out.lt
    try dsimp only
    refine (fun hHeld => hK.out _ _ (fun _ => hHeld) ?_) ⟨HbP8.out.cell 0 (by simp), HbP8.out.cell 1 (by simp), HbP8.out.cell 2 (by simp), HbQ7.out.cell 0 (by simp), HbQ7.out.cell 1 (by simp), HbQ7.out.cell 2 (by simp)⟩
    clear hK K
    try simp only [Act.put, List.setIfInBounds_toArray, List.set_cons_zero, List.set_cons_succ]
    refine wpAnyK_step 11 rfl (by kernel_rfl) (fun K hK => ?_)
    go_simp
    have Hy3 : Hid (Mk _ _ _ _ _) := Hy2.out.below (btr Hs5.out (btr Hs6.out (btr Hs8.out (btr Hs10.out (btr Hs12.out (btr Hs13.out (btr Hs15.out Hs17.out)))))))
    refine (subq hk He50.out.nq Hy3.out.nq).mono ?_
    rintro e w18 ⟨e6v, rfl, m, hB⟩
    have Hs19 : Hid (Below _ _ _) := hB
    obtain ⟨e60, e61, e62, rfl⟩ := m.nk.sl
    have He60 : Hid (Mk w18 (w.heap.size + 3) (.slice e60 e61 e62) (dY p T X (dX p T X U) Y) 384) := m.base (Nat.le_trans Hsz.out ((btr Hs4.out (btr Hs5.out (btr Hs6.out (btr Hs8.out (btr Hs10.out (btr Hs12.out (btr Hs13.out (btr Hs15.out Hs17.out))))))))).size)
    clear m hB
    have HbP9 : Hid (Bl _ _ _ _) := HbP8.out.below Hs19.out HbP8.out.lt
    have HbQ8 : Hid (Bl _ _ _ _) := HbQ7.out.below Hs19.out HbQ7.out.lt
    try dsimp only
    refine (fun hHeld => hK.out _ _ (fun _ => hHeld) ?_) ⟨HbP9.out.cell 0 (by simp), HbP9.out.cell 1 (by simp), HbP9.out.cell 2 (by simp), HbQ8.out.cell 0 (by simp), HbQ8.out.cell 1 (by simp), HbQ8.out.cell 2 (by simp)⟩
    clear hK K
    try simp only [Act.put, List.setIfInBounds_toArray, List.set_cons_zero, List.set_cons_succ]
    refine wpAnyK_take0 12 (v := ?v126) rfl (by kernel_rfl) (fun _ _ _ h => h) (Or.inl ⟨by rfl, ?hy126⟩) (fun _ => hHeld) ?_
    case hy126 => (intro w hSw; go_simp; try with_reducible rfl)
    try simp only [Act.put, List.setIfInBounds_toArray, List.set_cons_zero, List.set_cons_succ]
    refine wpAnyK_done (by kernel_rfl) ?_ _
    have He32 : Hid (Mk _ _ _ _ _) := He31.out.below (btr Hs15.out (btr Hs17.out Hs19.out))
    have HbR1 : Hid (Bl _ _ _ _) := HbR0.out.below (btr Hs4.out (btr Hs5.out (btr Hs6.out (btr Hs8.out (btr Hs10.out (btr Hs12.out (btr Hs13.out (btr Hs15.out (btr Hs17.out Hs19.out))))))))) HbR0.out.lt
    have HB1 : Hid (Below _ _ _) := HB0.out.trans ((btr Hs1.out (btr Hs4.out (btr Hs5.out (btr Hs6.out (btr Hs8.out (btr Hs10.out (btr Hs12.out (btr Hs13.out (btr Hs15.out (btr Hs17.out Hs19.out)))))))))).mono HB0.out.size)
    have c0 : w18.cell? ⟨w.heap.size + 2, 0, none⟩ = some (.slice none 0 0) := HbR1.out.cell 0 (by simp)
    have f0 : w18.frozen? ⟨w.heap.size + 2, 0, none⟩ = false := HbR1.out.frozen 0
    have c1 : w18.cell? ⟨w.heap.size + 2, 1, none⟩ = some (.slice none 0 0) := HbR1.out.cell 1 (by simp)
    have f1 : w18.frozen? ⟨w.heap.size + 2, 1, none⟩ = false := HbR1.out.frozen 1
    have c2 : w18.cell? ⟨w.heap.size + 2, 2, none⟩ = some (.bool false) := HbR1.out.cell 2 (by simp)
    have f2 : w18.frozen? ⟨w.heap.size + 2, 2, none⟩ = false := HbR1.out.frozen 2
    go_wp2
    (try simp only [Exit.inBlock, Exit.then])
    have hb := (((But.refl w18 (w.heap.size + 2)).set 0 (.slice e30 e31 e32)).set 1 (.slice e60 e61 e62)).set 2 (.bool false)
    refine bodyPost_ret (v := .agg #[.slice e30 e31 e32, .slice e60 e61 e62, .bool false]) ?_ rfl ⟨_, _, _, _, _, rfl, (He32.out.but hb (by omega)).base (Nat.le_trans Hβ.out (Nat.le_add_right _ 3)), (He60.out.but hb (by omega)).base (Nat.le_trans Hβ.out (Nat.le_add_right _ 3)), (doc_sum hk.cv hk.pm HO.out.1 HO.out.2 HNo.out HSl.out).symm, (fun h => by cases h), HB1.out.trans (hb.below HB1.out.size (Nat.le_add_right _ _))⟩
    rw [results_cell rfl]; go_simp
end Go.Proofs.YtmngdaolgdhgmaaGreatDoor
