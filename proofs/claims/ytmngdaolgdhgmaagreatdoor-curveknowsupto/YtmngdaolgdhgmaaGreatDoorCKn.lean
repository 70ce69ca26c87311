import Derived.Test.YtmngdaolgdhgmaaGreatDoorCAl
namespace Go.Proofs.YtmngdaolgdhgmaaGreatDoor
open Go.RowKit

set_option maxRecDepth 100000

theorem Lk.nm {w : World} {base g cap : Nat} {xs : List Nat} (h : Lk w base g cap xs) (s : Sm Bs xs) : Nm w (.slice (some ⟨g, 0, none⟩) xs.length cap) xs := ⟨_, _, rfl, Nat.le_trans (Nat.le_add_right _ _) h.cap.1, h.rn, s⟩
theorem Nm.nu' {w : World} {v : Value} {xs : List Nat} (h : Nm w v xs) (hl : xs.length ≤ 3000000) : Nu w v (nv Bs xs) := ⟨xs, h, rfl, hl⟩
theorem Mk.chf {f : Nat → Prop} {w w' : World} {base : Nat} {v : Value} {V k : Nat} (h : Mk w base v V k) (hc : Chf f w w') (hf : ∀ g, v.ownBlock = some g → ¬ f g) : Mk w' base v V k := ⟨own_chf h.1 hc hf, h.2⟩
theorem Mk.iv {w : World} {base : Nat} {v : Value} {V k : Nat} (h : Mk w base v V k) : ∀ g, v.ownBlock = some g → base ≤ g ∧ g < w.heap.size := fun g e => World.ownsRow.lt h.1 g e
theorem Lk.iv {w : World} {base g cap : Nat} {xs : List Nat} (h : Lk w base g cap xs) : base ≤ g ∧ g < w.heap.size := h.lt
set_option maxHeartbeats 40000000 in
theorem knows_core {c : Int} {F N X Y : Nat} {s : Int} {O : Nat → Nat → Bool → Bool} (A : Al c F N X Y s O) (x y : Value) (xs ys : List Nat) (inf : Bool) (w : World) (hx : Nm w x xs) (hy : Nm w y ys) (l1 : xs.length ≤ 3000000) (l2 : ys.length ≤ 3000000) :
    Calls Tryz.prog 3 #[.int .i64 c, .agg #[x, y, .bool inf]] w fun e w' => e = .returned (.bool true) ∧ Below w.heap.size w w' := by
  obtain ⟨x0, x2, rfl, q1, rx, sx⟩ := hx
  obtain ⟨y0, y2, rfl, q2, ry, sy⟩ := hy
  have HAx : Hid (Nm w (.slice x0 xs.length x2) xs) := ⟨_, _, rfl, q1, rx, sx⟩
  have HAy : Hid (Nm w (.slice y0 ys.length y2) ys) := ⟨_, _, rfl, q2, ry, sy⟩
  have HS : Hid (Sm Bs xs ∧ Sm Bs ys) := ⟨sx, sy⟩
  have HL : Hid (xs.length ≤ 3000000 ∧ ys.length ≤ 3000000) := ⟨l1, l2⟩
  clear q1 q2 rx ry sx sy l1 l2
  have HB0 : Hid (Below w.heap.size w w) := Below.refl _ _
  obtain ⟨oo, Hoo⟩ : ∃ z : Bool, Hid (z = O (nv Bs xs) (nv Bs ys) inf) := ⟨_, rfl⟩
  have hoo : (oo != oo) = false := by simp
  have hoo' : (oo == oo) = true := by simp
  have hss : (s != s) = false := by simp
  go_enter Tryz.func3, Tryz.ntmps3
  have Hs1 : Hid (Below w.heap.size w (w.alloc (.cells #[.slice x0 xs.length x2, .slice y0 ys.length y2, .bool inf] 26))) := alloc_below _ _
  have HbP0 : Hid (Bl 26 (w.alloc (.cells #[.slice x0 xs.length x2, .slice y0 ys.length y2, .bool inf] 26)) w.heap.size [.slice x0 xs.length x2, .slice y0 ys.length y2, .bool inf]) := alloc_bl w [.slice x0 xs.length x2, .slice y0 ys.length y2, .bool inf] 26
  have kP_0 : (w.alloc (.cells #[.slice x0 xs.length x2, .slice y0 ys.length y2, .bool inf] 26)).cell? ⟨w.heap.size, 0, none⟩ = some (.slice x0 xs.length x2) := HbP0.out.cell 0 (by simp)
  have kP_1 : (w.alloc (.cells #[.slice x0 xs.length x2, .slice y0 ys.length y2, .bool inf] 26)).cell? ⟨w.heap.size, 1, none⟩ = some (.slice y0 ys.length y2) := HbP0.out.cell 1 (by simp)
  have kP_2 : (w.alloc (.cells #[.slice x0 xs.length x2, .slice y0 ys.length y2, .bool inf] 26)).cell? ⟨w.heap.size, 2, none⟩ = some (.bool inf) := HbP0.out.cell 2 (by simp)
  go_wp2_with fail
  clear kP_0 kP_1 kP_2
  generalize (w.alloc (.cells #[.slice x0 xs.length x2, .slice y0 ys.length y2, .bool inf] 26)) = wv2 at *
  have HB1 : Hid (Below w.heap.size w wv2) := HB0.out.trans (Hs1.out.mono HB0.out.size)
  refine (lent_v _ _ xs ys inf _ (HAx.out.below HB1.out (Nat.le_refl _)) (HAy.out.below HB1.out (Nat.le_refl _)) HL.out.1 HL.out.2).mono ?_
  rintro e w3 ⟨g1, d1, g2, d2, rfl, k1, k2, kl, hB⟩
  have Hs4 : Hid (Below wv2.heap.size wv2 w3) := hB
  have Hi10 : Hid (Lk w3 wv2.heap.size g1 d1 xs) := k1
  have Hi20 : Hid (Lk w3 wv2.heap.size g2 d2 ys) := k2
  have Hvi : Hid (wv2.heap.size ≤ g1 ∧ g1 < w3.heap.size ∧ wv2.heap.size ≤ g2 ∧ g2 < w3.heap.size) := ⟨k1.lt.1, k1.lt.2, k2.lt.1, k2.lt.2⟩
  clear k1 k2 kl hB
  have Hs5 : Hid (Below w3.heap.size w3 (w3.alloc (.cells #[.slice (some ⟨g1, 0, none⟩) xs.length d1, .slice (some ⟨g2, 0, none⟩) ys.length d2, .bool inf] 26))) := alloc_below _ _
  have Hbi0 : Hid (Bl 26 (w3.alloc (.cells #[.slice (some ⟨g1, 0, none⟩) xs.length d1, .slice (some ⟨g2, 0, none⟩) ys.length d2, .bool inf] 26)) w3.heap.size [.slice (some ⟨g1, 0, none⟩) xs.length d1, .slice (some ⟨g2, 0, none⟩) ys.length d2, .bool inf]) := alloc_bl w3 [.slice (some ⟨g1, 0, none⟩) xs.length d1, .slice (some ⟨g2, 0, none⟩) ys.length d2, .bool inf] 26
  go_wp2_with fail
  generalize (w3.alloc (.cells #[.slice (some ⟨g1, 0, none⟩) xs.length d1, .slice (some ⟨g2, 0, none⟩) ys.length d2, .bool inf] 26)) = wv6 at *
  refine (A.pf _).mono ?_
  rintro e w7 ⟨fv, rfl, m, hB⟩
  have Hs8 : Hid (Below wv6.heap.size wv6 w7) := hB
  obtain ⟨f0, f1, f2, rfl⟩ := m.nk.sl
  have Hf0 : Hid (Mk w7 wv6.heap.size (.slice f0 f1 f2) F 384) := m
  have Hvf : Hid (∀ g, (Value.slice f0 f1 f2).ownBlock = some g → wv6.heap.size ≤ g ∧ g < w7.heap.size) := m.iv
  clear m hB
  go_wp2_with fail
  refine (A.po _).mono ?_
  rintro e w9 ⟨nv, rfl, m, hB⟩
  have Hs10 : Hid (Below w7.heap.size w7 w9) := hB
  obtain ⟨n0, n1, n2, rfl⟩ := m.nk.sl
  have Hn0 : Hid (Mk w9 w7.heap.size (.slice n0 n1 n2) N 384) := m
  have Hvn : Hid (∀ g, (Value.slice n0 n1 n2).ownBlock = some g → w7.heap.size ≤ g ∧ g < w9.heap.size) := m.iv
  clear m hB
  go_wp2_with fail
  refine (A.pb _).mono ?_
  rintro e w11 ⟨gxv, gyv, rfl, m, m', ma, hB⟩
  have Hs12 : Hid (Below w9.heap.size w9 w11) := hB
  obtain ⟨gx0, gx1, gx2, rfl⟩ := m.nk.sl
  have Hgx0 : Hid (Mk w11 w9.heap.size (.slice gx0 gx1 gx2) X 384) := m
  have Hvgx : Hid (∀ g, (Value.slice gx0 gx1 gx2).ownBlock = some g → w9.heap.size ≤ g ∧ g < w11.heap.size) := m.iv
  obtain ⟨gy0, gy1, gy2, rfl⟩ := m'.nk.sl
  have Hgy0 : Hid (Mk w11 w9.heap.size (.slice gy0 gy1 gy2) Y 384) := m'
  have Hvgy : Hid (∀ g, (Value.slice gy0 gy1 gy2).ownBlock = some g → w9.heap.size ≤ g ∧ g < w11.heap.size) := m'.iv
  have Hag : Hid (Apt (.slice gy0 gy1 gy2) (.slice gx0 gx1 gx2)) := ma
  clear m m' ma hB
  have Hs13 : Hid (Below w11.heap.size w11 (w11.alloc (.cells #[.slice gx0 gx1 gx2, .slice gy0 gy1 gy2, .bool false] 26))) := alloc_below _ _
  have Hbg0 : Hid (Bl 26 (w11.alloc (.cells #[.slice gx0 gx1 gx2, .slice gy0 gy1 gy2, .bool false] 26)) w11.heap.size [.slice gx0 gx1 gx2, .slice gy0 gy1 gy2, .bool false]) := alloc_bl w11 [.slice gx0 gx1 gx2, .slice gy0 gy1 gy2, .bool false] 26
  go_wp2_with fail
  generalize (w11.alloc (.cells #[.slice gx0 gx1 gx2, .slice gy0 gy1 gy2, .bool false] 26)) = wv14 at *
  refine (A.pf _).mono ?_
  rintro e w15 ⟨f2_v, rfl, m, hB⟩
  have Hs16 : Hid (Below wv14.heap.size wv14 w15) := hB
  obtain ⟨f2_0, f2_1, f2_2, rfl⟩ := m.nk.sl
  have Hf2_0 : Hid (Mk w15 wv14.heap.size (.slice f2_0 f2_1 f2_2) F 384) := m
  have Hvf2_ : Hid (∀ g, (Value.slice f2_0 f2_1 f2_2).ownBlock = some g → wv14.heap.size ≤ g ∧ g < w15.heap.size) := m.iv
  clear m hB
  go_wp2_with fail
  refine (A.po _).mono ?_
  rintro e w17 ⟨n2_v, rfl, m, hB⟩
  have Hs18 : Hid (Below w15.heap.size w15 w17) := hB
  obtain ⟨n2_0, n2_1, n2_2, rfl⟩ := m.nk.sl
  have Hn2_0 : Hid (Mk w17 w15.heap.size (.slice n2_0 n2_1 n2_2) N 384) := m
  have Hvn2_ : Hid (∀ g, (Value.slice n2_0 n2_1 n2_2).ownBlock = some g → w15.heap.size ≤ g ∧ g < w17.heap.size) := m.iv
  clear m hB
  go_wp2_with fail
  refine (A.pb _).mono ?_
  rintro e w19 ⟨hxv, hyv, rfl, m, m', ma, hB⟩
  have Hs20 : Hid (Below w17.heap.size w17 w19) := hB
  obtain ⟨hx0, hx1, hx2, rfl⟩ := m.nk.sl
  have Hhx0 : Hid (Mk w19 w17.heap.size (.slice hx0 hx1 hx2) X 384) := m
  have Hvhx : Hid (∀ g, (Value.slice hx0 hx1 hx2).ownBlock = some g → w17.heap.size ≤ g ∧ g < w19.heap.size) := m.iv
  obtain ⟨hy0, hy1, hy2, rfl⟩ := m'.nk.sl
  have Hhy0 : Hid (Mk w19 w17.heap.size (.slice hy0 hy1 hy2) Y 384) := m'
  have Hvhy : Hid (∀ g, (Value.slice hy0 hy1 hy2).ownBlock = some g → w17.heap.size ≤ g ∧ g < w19.heap.size) := m'.iv
  have Hah : Hid (Apt (.slice hy0 hy1 hy2) (.slice hx0 hx1 hx2)) := ma
  clear m m' ma hB
  have Hs21 : Hid (Below w19.heap.size w19 (w19.alloc (.cells #[.slice hx0 hx1 hx2, .slice hy0 hy1 hy2, .bool false] 26))) := alloc_below _ _
  have Hbh0 : Hid (Bl 26 (w19.alloc (.cells #[.slice hx0 hx1 hx2, .slice hy0 hy1 hy2, .bool false] 26)) w19.heap.size [.slice hx0 hx1 hx2, .slice hy0 hy1 hy2, .bool false]) := alloc_bl w19 [.slice hx0 hx1 hx2, .slice hy0 hy1 hy2, .bool false] 26
  go_wp2_with fail
  generalize (w19.alloc (.cells #[.slice hx0 hx1 hx2, .slice hy0 hy1 hy2, .bool false] 26)) = wv22 at *
  have Hs23 : Hid (Below wv22.heap.size wv22 wv22.drew) := below_drewN (Below.refl _ _) 1
  have Hbg1 : Hid (Bl 26 wv22.drew w11.heap.size [.slice gx0 gx1 gx2, .slice gy0 gy1 gy2, .bool false]) := Hbg0.out.below (btr Hs16.out (btr Hs18.out (btr Hs20.out (btr Hs21.out Hs23.out)))) Hbg0.out.lt
  have Hbi1 : Hid (Bl 26 wv22.drew w3.heap.size [.slice (some ⟨g1, 0, none⟩) xs.length d1, .slice (some ⟨g2, 0, none⟩) ys.length d2, .bool inf]) := Hbi0.out.below (btr Hs8.out (btr Hs10.out (btr Hs12.out (btr Hs13.out (btr Hs16.out (btr Hs18.out (btr Hs20.out (btr Hs21.out Hs23.out)))))))) Hbi0.out.lt
  have HbP1 : Hid (Bl 26 wv22.drew w.heap.size [.slice x0 xs.length x2, .slice y0 ys.length y2, .bool inf]) := HbP0.out.below (btr Hs4.out (btr Hs5.out (btr Hs8.out (btr Hs10.out (btr Hs12.out (btr Hs13.out (btr Hs16.out (btr Hs18.out (btr Hs20.out (btr Hs21.out Hs23.out)))))))))) HbP0.out.lt
  refine wp_region_K 38 (fun (w' : World) => w'.cell? ⟨w11.heap.size, 0, none⟩ = some (.slice gx0 gx1 gx2) ∧ w'.cell? ⟨w11.heap.size, 1, none⟩ = some (.slice gy0 gy1 gy2) ∧ w'.cell? ⟨w11.heap.size, 2, none⟩ = some (.bool false) ∧ w'.cell? ⟨w3.heap.size, 0, none⟩ = some (.slice (some ⟨g1, 0, none⟩) xs.length d1) ∧ w'.cell? ⟨w3.heap.size, 1, none⟩ = some (.slice (some ⟨g2, 0, none⟩) ys.length d2) ∧ w'.cell? ⟨w3.heap.size, 2, none⟩ = some (.bool inf) ∧ w'.cell? ⟨w.heap.size, 0, none⟩ = some (.slice x0 xs.length x2) ∧ w'.cell? ⟨w.heap.size, 1, none⟩ = some (.slice y0 ys.length y2) ∧ w'.cell? ⟨w.heap.size, 2, none⟩ = some (.bool inf)) (by kernel_rfl) ?_
  have hHeld : ((fun (w' : World) => w'.cell? ⟨w11.heap.size, 0, none⟩ = some (.slice gx0 gx1 gx2) ∧ w'.cell? ⟨w11.heap.size, 1, none⟩ = some (.slice gy0 gy1 gy2) ∧ w'.cell? ⟨w11.heap.size, 2, none⟩ = some (.bool false) ∧ w'.cell? ⟨w3.heap.size, 0, none⟩ = some (.slice (some ⟨g1, 0, none⟩) xs.length d1) ∧ w'.cell? ⟨w3.heap.size, 1, none⟩ = some (.slice (some ⟨g2, 0, none⟩) ys.length d2) ∧ w'.cell? ⟨w3.heap.size, 2, none⟩ = some (.bool inf) ∧ w'.cell? ⟨w.heap.size, 0, none⟩ = some (.slice x0 xs.length x2) ∧ w'.cell? ⟨w.heap.size, 1, none⟩ = some (.slice y0 ys.length y2) ∧ w'.cell? ⟨w.heap.size, 2, none⟩ = some (.bool inf))) (World.drew _) := ⟨Hbg1.out.cell 0 (by simp), Hbg1.out.cell 1 (by simp), Hbg1.out.cell 2 (by simp), Hbi1.out.cell 0 (by simp), Hbi1.out.cell 1 (by simp), Hbi1.out.cell 2 (by simp), HbP1.out.cell 0 (by simp), HbP1.out.cell 1 (by simp), HbP1.out.cell 2 (by simp)⟩
  refine wpAnyK_take0 0 (v := ?v1) rfl (by kernel_rfl) (fun _ _ _ h => h) (Or.inl ⟨by rfl, ?hy1⟩) (fun _ => hHeld) ?_
  case hy1 => (intro w hSw; go_simp; try with_reducible rfl)
  try simp only [Act.put, List.setIfInBounds_toArray, List.set_cons_zero, List.set_cons_succ]
  refine wpAnyK_take0 1 (v := ?v2) rfl (by kernel_rfl) (fun _ _ _ h => h) (Or.inl ⟨by rfl, ?hy2⟩) (fun _ => hHeld) ?_
  case hy2 => (intro w hSw; go_simp; try with_reducible rfl)
  try simp only [Act.put, List.setIfInBounds_toArray, List.set_cons_zero, List.set_cons_succ]
  refine wpAnyK_step 2 rfl (by kernel_rfl) (fun K hK => ?_)
  go_simp
  refine (A.df _).mono ?_
  rintro e w24 ⟨t1_v, rfl, m, hB⟩
  have Hs25 : Hid (Below wv22.drew.heap.size wv22.drew w24) := hB
  obtain ⟨t1_0, t1_1, t1_2, rfl⟩ := m.nk.sl
  have Ht0 : Hid (Mk w24 0 (.slice t1_0 t1_1 t1_2) F 384) := m.base (Nat.zero_le _)
  clear m hB
  have Hbg2 : Hid (Bl 26 w24 w11.heap.size [.slice gx0 gx1 gx2, .slice gy0 gy1 gy2, .bool false]) := Hbg1.out.below Hs25.out Hbg1.out.lt
  have Hbi2 : Hid (Bl 26 w24 w3.heap.size [.slice (some ⟨g1, 0, none⟩) xs.length d1, .slice (some ⟨g2, 0, none⟩) ys.length d2, .bool inf]) := Hbi1.out.below Hs25.out Hbi1.out.lt
  have HbP2 : Hid (Bl 26 w24 w.heap.size [.slice x0 xs.length x2, .slice y0 ys.length y2, .bool inf]) := HbP1.out.below Hs25.out HbP1.out.lt
  try dsimp only
  refine hK.out _ _ ?hk3 ?_
  case hk3 => exact fun _ => ⟨Hbg2.out.cell 0 (by simp), Hbg2.out.cell 1 (by simp), Hbg2.out.cell 2 (by simp), Hbi2.out.cell 0 (by simp), Hbi2.out.cell 1 (by simp), Hbi2.out.cell 2 (by simp), HbP2.out.cell 0 (by simp), HbP2.out.cell 1 (by simp), HbP2.out.cell 2 (by simp)⟩
  have hHeld : ((fun (w' : World) => w'.cell? ⟨w11.heap.size, 0, none⟩ = some (.slice gx0 gx1 gx2) ∧ w'.cell? ⟨w11.heap.size, 1, none⟩ = some (.slice gy0 gy1 gy2) ∧ w'.cell? ⟨w11.heap.size, 2, none⟩ = some (.bool false) ∧ w'.cell? ⟨w3.heap.size, 0, none⟩ = some (.slice (some ⟨g1, 0, none⟩) xs.length d1) ∧ w'.cell? ⟨w3.heap.size, 1, none⟩ = some (.slice (some ⟨g2, 0, none⟩) ys.length d2) ∧ w'.cell? ⟨w3.heap.size, 2, none⟩ = some (.bool inf) ∧ w'.cell? ⟨w.heap.size, 0, none⟩ = some (.slice x0 xs.length x2) ∧ w'.cell? ⟨w.heap.size, 1, none⟩ = some (.slice y0 ys.length y2) ∧ w'.cell? ⟨w.heap.size, 2, none⟩ = some (.bool inf))) _ := ⟨Hbg2.out.cell 0 (by simp), Hbg2.out.cell 1 (by simp), Hbg2.out.cell 2 (by simp), Hbi2.out.cell 0 (by simp), Hbi2.out.cell 1 (by simp), Hbi2.out.cell 2 (by simp), HbP2.out.cell 0 (by simp), HbP2.out.cell 1 (by simp), HbP2.out.cell 2 (by simp)⟩
  clear hK K
  try simp only [Act.put, List.setIfInBounds_toArray, List.set_cons_zero, List.set_cons_succ]
  refine wpAnyK_step 3 rfl (by kernel_rfl) (fun K hK => ?_)
  go_simp
  have Hf1 : Hid (Mk w24 wv6.heap.size (.slice f0 f1 f2) F 384) := Hf0.out.below (btr Hs10.out (btr Hs12.out (btr Hs13.out (btr Hs16.out (btr Hs18.out (btr Hs20.out (btr Hs21.out (btr Hs23.out Hs25.out))))))))
  refine (sameNat_v _ _ F _ Hf1.out.nm Ht0.out.nm Hf1.out.2.1).mono ?_
  rintro e w26 ⟨rfl, q_, hq_⟩
  have Hs27 : Hid (Below w24.heap.size w24 w26) := (by rw [hq_]; exact below_drewN (Below.refl _ _) q_ : Below _ _ _)
  clear hq_ q_
  have Hbg3 : Hid (Bl 26 w26 w11.heap.size [.slice gx0 gx1 gx2, .slice gy0 gy1 gy2, .bool false]) := Hbg2.out.below Hs27.out Hbg2.out.lt
  have Hbi3 : Hid (Bl 26 w26 w3.heap.size [.slice (some ⟨g1, 0, none⟩) xs.length d1, .slice (some ⟨g2, 0, none⟩) ys.length d2, .bool inf]) := Hbi2.out.below Hs27.out Hbi2.out.lt
  have HbP3 : Hid (Bl 26 w26 w.heap.size [.slice x0 xs.length x2, .slice y0 ys.length y2, .bool inf]) := HbP2.out.below Hs27.out HbP2.out.lt
  try dsimp only
  refine hK.out _ _ ?hk4 ?_
  case hk4 => exact fun _ => ⟨Hbg3.out.cell 0 (by simp), Hbg3.out.cell 1 (by simp), Hbg3.out.cell 2 (by simp), Hbi3.out.cell 0 (by simp), Hbi3.out.cell 1 (by simp), Hbi3.out.cell 2 (by simp), HbP3.out.cell 0 (by simp), HbP3.out.cell 1 (by simp), HbP3.out.cell 2 (by simp)⟩
  have hHeld : ((fun (w' : World) => w'.cell? ⟨w11.heap.size, 0, none⟩ = some (.slice gx0 gx1 gx2) ∧ w'.cell? ⟨w11.heap.size, 1, none⟩ = some (.slice gy0 gy1 gy2) ∧ w'.cell? ⟨w11.heap.size, 2, none⟩ = some (.bool false) ∧ w'.cell? ⟨w3.heap.size, 0, none⟩ = some (.slice (some ⟨g1, 0, none⟩) xs.length d1) ∧ w'.cell? ⟨w3.heap.size, 1, none⟩ = some (.slice (some ⟨g2, 0, none⟩) ys.length d2) ∧ w'.cell? ⟨w3.heap.size, 2, none⟩ = some (.bool inf) ∧ w'.cell? ⟨w.heap.size, 0, none⟩ = some (.slice x0 xs.length x2) ∧ w'.cell? ⟨w.heap.size, 1, none⟩ = some (.slice y0 ys.length y2) ∧ w'.cell? ⟨w.heap.size, 2, none⟩ = some (.bool inf))) _ := ⟨Hbg3.out.cell 0 (by simp), Hbg3.out.cell 1 (by simp), Hbg3.out.cell 2 (by simp), Hbi3.out.cell 0 (by simp), Hbi3.out.cell 1 (by simp), Hbi3.out.cell 2 (by simp), HbP3.out.cell 0 (by simp), HbP3.out.cell 1 (by simp), HbP3.out.cell 2 (by simp)⟩
  clear hK K
  try simp only [Act.put, List.setIfInBounds_toArray, List.set_cons_zero, List.set_cons_succ]
  refine wpAnyK_take0 4 (v := ?v5) rfl (by kernel_rfl) (fun _ _ _ h => h) (Or.inl ⟨by rfl, ?hy5⟩) (fun _ => hHeld) ?_
  case hy5 => (intro w hSw; go_simp; try with_reducible rfl)
  try simp only [Act.put, List.setIfInBounds_toArray, List.set_cons_zero, List.set_cons_succ]
  refine wpAnyK_take0 5 (v := ?v6) rfl (by kernel_rfl) (fun _ _ _ h => h) (Or.inl ⟨by rfl, ?hy6⟩) (fun _ => hHeld) ?_
  case hy6 => (intro w hSw; go_simp; try with_reducible rfl)
  try simp only [Act.put, List.setIfInBounds_toArray, List.set_cons_zero, List.set_cons_succ]
  refine wpAnyK_take0 6 (v := ?v7) rfl (by kernel_rfl) (fun _ _ _ h => h) (Or.inl ⟨by rfl, ?hy7⟩) (fun _ => hHeld) ?_
  case hy7 => (intro w hSw; go_simp; try with_reducible rfl)
  try simp only [Act.put, List.setIfInBounds_toArray, List.set_cons_zero, List.set_cons_succ]
  refine wpAnyK_take0 7 (v := ?v8) rfl (by kernel_rfl) (fun _ _ _ h => h) (Or.inl ⟨by rfl, ?hy8⟩) (fun _ => hHeld) ?_
  case hy8 => (intro w hSw; go_simp; try with_reducible rfl)
  try simp only [Act.put, List.setIfInBounds_toArray, List.set_cons_zero, List.set_cons_succ]
  refine wpAnyK_step 8 rfl (by kernel_rfl) (fun K hK => ?_)
  go_simp
  refine (A.dO _).mono ?_
  rintro e w28 ⟨t2_v, rfl, m, hB⟩
  have Hs29 : Hid (Below w26.heap.size w26 w28) := hB
  obtain ⟨t2_0, t2_1, t2_2, rfl⟩ := m.nk.sl
  have Ht1 : Hid (Mk w28 0 (.slice t2_0 t2_1 t2_2) N 384) := m.base (Nat.zero_le _)
  clear m hB
  have Hbg4 : Hid (Bl 26 w28 w11.heap.size [.slice gx0 gx1 gx2, .slice gy0 gy1 gy2, .bool false]) := Hbg3.out.below Hs29.out Hbg3.out.lt
  have Hbi4 : Hid (Bl 26 w28 w3.heap.size [.slice (some ⟨g1, 0, none⟩) xs.length d1, .slice (some ⟨g2, 0, none⟩) ys.length d2, .bool inf]) := Hbi3.out.below Hs29.out Hbi3.out.lt
  have HbP4 : Hid (Bl 26 w28 w.heap.size [.slice x0 xs.length x2, .slice y0 ys.length y2, .bool inf]) := HbP3.out.below Hs29.out HbP3.out.lt
  try dsimp only
  refine hK.out _ _ ?hk9 ?_
  case hk9 => exact fun _ => ⟨Hbg4.out.cell 0 (by simp), Hbg4.out.cell 1 (by simp), Hbg4.out.cell 2 (by simp), Hbi4.out.cell 0 (by simp), Hbi4.out.cell 1 (by simp), Hbi4.out.cell 2 (by simp), HbP4.out.cell 0 (by simp), HbP4.out.cell 1 (by simp), HbP4.out.cell 2 (by simp)⟩
  have hHeld : ((fun (w' : World) => w'.cell? ⟨w11.heap.size, 0, none⟩ = some (.slice gx0 gx1 gx2) ∧ w'.cell? ⟨w11.heap.size, 1, none⟩ = some (.slice gy0 gy1 gy2) ∧ w'.cell? ⟨w11.heap.size, 2, none⟩ = some (.bool false) ∧ w'.cell? ⟨w3.heap.size, 0, none⟩ = some (.slice (some ⟨g1, 0, none⟩) xs.length d1) ∧ w'.cell? ⟨w3.heap.size, 1, none⟩ = some (.slice (some ⟨g2, 0, none⟩) ys.length d2) ∧ w'.cell? ⟨w3.heap.size, 2, none⟩ = some (.bool inf) ∧ w'.cell? ⟨w.heap.size, 0, none⟩ = some (.slice x0 xs.length x2) ∧ w'.cell? ⟨w.heap.size, 1, none⟩ = some (.slice y0 ys.length y2) ∧ w'.cell? ⟨w.heap.size, 2, none⟩ = some (.bool inf))) _ := ⟨Hbg4.out.cell 0 (by simp), Hbg4.out.cell 1 (by simp), Hbg4.out.cell 2 (by simp), Hbi4.out.cell 0 (by simp), Hbi4.out.cell 1 (by simp), Hbi4.out.cell 2 (by simp), HbP4.out.cell 0 (by simp), HbP4.out.cell 1 (by simp), HbP4.out.cell 2 (by simp)⟩
  clear hK K
  try simp only [Act.put, List.setIfInBounds_toArray, List.set_cons_zero, List.set_cons_succ]
  refine wpAnyK_step 9 rfl (by kernel_rfl) (fun K hK => ?_)
  go_simp
  have Hn1 : Hid (Mk w28 w7.heap.size (.slice n0 n1 n2) N 384) := Hn0.out.below (btr Hs12.out (btr Hs13.out (btr Hs16.out (btr Hs18.out (btr Hs20.out (btr Hs21.out (btr Hs23.out (btr Hs25.out (btr Hs27.out Hs29.out)))))))))
  refine (sameNat_v _ _ N _ Hn1.out.nm Ht1.out.nm Hn1.out.2.1).mono ?_
  rintro e w30 ⟨rfl, q_, hq_⟩
  have Hs31 : Hid (Below w28.heap.size w28 w30) := (by rw [hq_]; exact below_drewN (Below.refl _ _) q_ : Below _ _ _)
  clear hq_ q_
  have Hbg5 : Hid (Bl 26 w30 w11.heap.size [.slice gx0 gx1 gx2, .slice gy0 gy1 gy2, .bool false]) := Hbg4.out.below Hs31.out Hbg4.out.lt
  have Hbi5 : Hid (Bl 26 w30 w3.heap.size [.slice (some ⟨g1, 0, none⟩) xs.length d1, .slice (some ⟨g2, 0, none⟩) ys.length d2, .bool inf]) := Hbi4.out.below Hs31.out Hbi4.out.lt
  have HbP5 : Hid (Bl 26 w30 w.heap.size [.slice x0 xs.length x2, .slice y0 ys.length y2, .bool inf]) := HbP4.out.below Hs31.out HbP4.out.lt
  try dsimp only
  refine hK.out _ _ ?hk10 ?_
  case hk10 => exact fun _ => ⟨Hbg5.out.cell 0 (by simp), Hbg5.out.cell 1 (by simp), Hbg5.out.cell 2 (by simp), Hbi5.out.cell 0 (by simp), Hbi5.out.cell 1 (by simp), Hbi5.out.cell 2 (by simp), HbP5.out.cell 0 (by simp), HbP5.out.cell 1 (by simp), HbP5.out.cell 2 (by simp)⟩
  have hHeld : ((fun (w' : World) => w'.cell? ⟨w11.heap.size, 0, none⟩ = some (.slice gx0 gx1 gx2) ∧ w'.cell? ⟨w11.heap.size, 1, none⟩ = some (.slice gy0 gy1 gy2) ∧ w'.cell? ⟨w11.heap.size, 2, none⟩ = some (.bool false) ∧ w'.cell? ⟨w3.heap.size, 0, none⟩ = some (.slice (some ⟨g1, 0, none⟩) xs.length d1) ∧ w'.cell? ⟨w3.heap.size, 1, none⟩ = some (.slice (some ⟨g2, 0, none⟩) ys.length d2) ∧ w'.cell? ⟨w3.heap.size, 2, none⟩ = some (.bool inf) ∧ w'.cell? ⟨w.heap.size, 0, none⟩ = some (.slice x0 xs.length x2) ∧ w'.cell? ⟨w.heap.size, 1, none⟩ = some (.slice y0 ys.length y2) ∧ w'.cell? ⟨w.heap.size, 2, none⟩ = some (.bool inf))) _ := ⟨Hbg5.out.cell 0 (by simp), Hbg5.out.cell 1 (by simp), Hbg5.out.cell 2 (by simp), Hbi5.out.cell 0 (by simp), Hbi5.out.cell 1 (by simp), Hbi5.out.cell 2 (by simp), HbP5.out.cell 0 (by simp), HbP5.out.cell 1 (by simp), HbP5.out.cell 2 (by simp)⟩
  clear hK K
  try simp only [Act.put, List.setIfInBounds_toArray, List.set_cons_zero, List.set_cons_succ]
  refine wpAnyK_take0 10 (v := ?v11) rfl (by kernel_rfl) (fun _ _ _ h => h) (Or.inl ⟨by rfl, ?hy11⟩) (fun _ => hHeld) ?_
  case hy11 => (intro w hSw; go_simp; try with_reducible rfl)
  try simp only [Act.put, List.setIfInBounds_toArray, List.set_cons_zero, List.set_cons_succ]
  refine wpAnyK_take0 11 (v := ?v12) rfl (by kernel_rfl) (fun _ _ _ h => h) (Or.inl ⟨by rfl, ?hy12⟩) (fun _ => hHeld) ?_
  case hy12 => (intro w hSw; go_simp; try with_reducible rfl)
  try simp only [Act.put, List.setIfInBounds_toArray, List.set_cons_zero, List.set_cons_succ]
  refine wpAnyK_take0 12 (v := ?v13) rfl (by kernel_rfl) (fun _ _ _ h => h) (Or.inl ⟨by rfl, ?hy13⟩) (fun _ => hHeld) ?_
  case hy13 => (intro w hSw; go_simp; try with_reducible rfl)
  try simp only [Act.put, List.setIfInBounds_toArray, List.set_cons_zero, List.set_cons_succ]
  refine wpAnyK_take 13 [16, 17, 18, 19, 25, 26, 34, 35, 38] (v := ?v14) rfl (by kernel_rfl) (fun _ _ _ h => h) (Or.inl ⟨by rfl, ?hy14⟩) hHeld ?_
  case hy14 => (intro w hSw; (try dsimp only at hSw); go_simp; try with_reducible rfl)
  try simp only [Act.put, List.setIfInBounds_toArray, List.set_cons_zero, List.set_cons_succ]
  refine wpAnyK_take0 14 (v := ?v15) rfl (by kernel_rfl) (fun _ _ _ h => h) (Or.inl ⟨by rfl, ?hy15⟩) (fun _ => hHeld) ?_
  case hy15 => (intro w hSw; go_simp; try with_reducible rfl)
  try simp only [Act.put, List.setIfInBounds_toArray, List.set_cons_zero, List.set_cons_succ]
  refine wpAnyK_step 15 rfl (by kernel_rfl) (fun K hK => ?_)
  go_simp
  refine (A.db _).mono ?_
  rintro e w32 ⟨t3_xv, t3_yv, rfl, m, m', ma, hB⟩
  have Hs33 : Hid (Below w30.heap.size w30 w32) := hB
  obtain ⟨t3_x0, t3_x1, t3_x2, rfl⟩ := m.nk.sl
  have Htx0 : Hid (Mk w32 0 (.slice t3_x0 t3_x1 t3_x2) X 384) := m.base (Nat.zero_le _)
  obtain ⟨t3_y0, t3_y1, t3_y2, rfl⟩ := m'.nk.sl
  have Hty0 : Hid (Mk w32 0 (.slice t3_y0 t3_y1 t3_y2) Y 384) := m'.base (Nat.zero_le _)
  clear m m' ma hB
  have Hbg6 : Hid (Bl 26 w32 w11.heap.size [.slice gx0 gx1 gx2, .slice gy0 gy1 gy2, .bool false]) := Hbg5.out.below Hs33.out Hbg5.out.lt
  have Hbi6 : Hid (Bl 26 w32 w3.heap.size [.slice (some ⟨g1, 0, none⟩) xs.length d1, .slice (some ⟨g2, 0, none⟩) ys.length d2, .bool inf]) := Hbi5.out.below Hs33.out Hbi5.out.lt
  have HbP6 : Hid (Bl 26 w32 w.heap.size [.slice x0 xs.length x2, .slice y0 ys.length y2, .bool inf]) := HbP5.out.below Hs33.out HbP5.out.lt
  try dsimp only
  refine hK.out _ _ ?hk16 ?_
  case hk16 => exact fun _ => ⟨Hbg6.out.cell 0 (by simp), Hbg6.out.cell 1 (by simp), Hbg6.out.cell 2 (by simp), Hbi6.out.cell 0 (by simp), Hbi6.out.cell 1 (by simp), Hbi6.out.cell 2 (by simp), HbP6.out.cell 0 (by simp), HbP6.out.cell 1 (by simp), HbP6.out.cell 2 (by simp)⟩
  have hHeld : ((fun (w' : World) => w'.cell? ⟨w11.heap.size, 0, none⟩ = some (.slice gx0 gx1 gx2) ∧ w'.cell? ⟨w11.heap.size, 1, none⟩ = some (.slice gy0 gy1 gy2) ∧ w'.cell? ⟨w11.heap.size, 2, none⟩ = some (.bool false) ∧ w'.cell? ⟨w3.heap.size, 0, none⟩ = some (.slice (some ⟨g1, 0, none⟩) xs.length d1) ∧ w'.cell? ⟨w3.heap.size, 1, none⟩ = some (.slice (some ⟨g2, 0, none⟩) ys.length d2) ∧ w'.cell? ⟨w3.heap.size, 2, none⟩ = some (.bool inf) ∧ w'.cell? ⟨w.heap.size, 0, none⟩ = some (.slice x0 xs.length x2) ∧ w'.cell? ⟨w.heap.size, 1, none⟩ = some (.slice y0 ys.length y2) ∧ w'.cell? ⟨w.heap.size, 2, none⟩ = some (.bool inf))) _ := ⟨Hbg6.out.cell 0 (by simp), Hbg6.out.cell 1 (by simp), Hbg6.out.cell 2 (by simp), Hbi6.out.cell 0 (by simp), Hbi6.out.cell 1 (by simp), Hbi6.out.cell 2 (by simp), HbP6.out.cell 0 (by simp), HbP6.out.cell 1 (by simp), HbP6.out.cell 2 (by simp)⟩
  clear hK K
  try simp only [Act.put, List.setIfInBounds_toArray, List.set_cons_zero, List.set_cons_succ]
  refine wpAnyK_step 16 rfl (by kernel_rfl) (fun K hK => ?_)
  go_simp
  have Hgx1 : Hid (Mk w32 w9.heap.size (.slice gx0 gx1 gx2) X 384) := Hgx0.out.below (btr Hs13.out (btr Hs16.out (btr Hs18.out (btr Hs20.out (btr Hs21.out (btr Hs23.out (btr Hs25.out (btr Hs27.out (btr Hs29.out (btr Hs31.out Hs33.out))))))))))
  have Hgy1 : Hid (Mk w32 w9.heap.size (.slice gy0 gy1 gy2) Y 384) := Hgy0.out.below (btr Hs13.out (btr Hs16.out (btr Hs18.out (btr Hs20.out (btr Hs21.out (btr Hs23.out (btr Hs25.out (btr Hs27.out (btr Hs29.out (btr Hs31.out Hs33.out))))))))))
  refine (same_v _ _ _ _ X Y false _ Hgx1.out.nm Hgy1.out.nm Htx0.out.nm Hty0.out.nm Hgx1.out.2.1 Hgy1.out.2.1).mono ?_
  rintro e w34 ⟨rfl, hB⟩
  have Hs35 : Hid (Below w32.heap.size w32 w34) := hB
  clear hB
  have Hbg7 : Hid (Bl 26 w34 w11.heap.size [.slice gx0 gx1 gx2, .slice gy0 gy1 gy2, .bool false]) := Hbg6.out.below Hs35.out Hbg6.out.lt
  have Hbi7 : Hid (Bl 26 w34 w3.heap.size [.slice (some ⟨g1, 0, none⟩) xs.length d1, .slice (some ⟨g2, 0, none⟩) ys.length d2, .bool inf]) := Hbi6.out.below Hs35.out Hbi6.out.lt
  have HbP7 : Hid (Bl 26 w34 w.heap.size [.slice x0 xs.length x2, .slice y0 ys.length y2, .bool inf]) := HbP6.out.below Hs35.out HbP6.out.lt
  try dsimp only
  refine hK.out _ _ ?hk17 ?_
  case hk17 => exact fun _ => ⟨Hbg7.out.cell 0 (by simp), Hbg7.out.cell 1 (by simp), Hbg7.out.cell 2 (by simp), Hbi7.out.cell 0 (by simp), Hbi7.out.cell 1 (by simp), Hbi7.out.cell 2 (by simp), HbP7.out.cell 0 (by simp), HbP7.out.cell 1 (by simp), HbP7.out.cell 2 (by simp)⟩
  have hHeld : ((fun (w' : World) => w'.cell? ⟨w11.heap.size, 0, none⟩ = some (.slice gx0 gx1 gx2) ∧ w'.cell? ⟨w11.heap.size, 1, none⟩ = some (.slice gy0 gy1 gy2) ∧ w'.cell? ⟨w11.heap.size, 2, none⟩ = some (.bool false) ∧ w'.cell? ⟨w3.heap.size, 0, none⟩ = some (.slice (some ⟨g1, 0, none⟩) xs.length d1) ∧ w'.cell? ⟨w3.heap.size, 1, none⟩ = some (.slice (some ⟨g2, 0, none⟩) ys.length d2) ∧ w'.cell? ⟨w3.heap.size, 2, none⟩ = some (.bool inf) ∧ w'.cell? ⟨w.heap.size, 0, none⟩ = some (.slice x0 xs.length x2) ∧ w'.cell? ⟨w.heap.size, 1, none⟩ = some (.slice y0 ys.length y2) ∧ w'.cell? ⟨w.heap.size, 2, none⟩ = some (.bool inf))) _ := ⟨Hbg7.out.cell 0 (by simp), Hbg7.out.cell 1 (by simp), Hbg7.out.cell 2 (by simp), Hbi7.out.cell 0 (by simp), Hbi7.out.cell 1 (by simp), Hbi7.out.cell 2 (by simp), HbP7.out.cell 0 (by simp), HbP7.out.cell 1 (by simp), HbP7.out.cell 2 (by simp)⟩
  clear hK K
  try simp only [Act.put, List.setIfInBounds_toArray, List.set_cons_zero, List.set_cons_succ]
  refine wpAnyK_take0 17 (v := ?v18) rfl (by kernel_rfl) (fun _ _ _ h => h) (Or.inl ⟨by rfl, ?hy18⟩) (fun _ => hHeld) ?_
  case hy18 => (intro w hSw; go_simp; try with_reducible rfl)
  try simp only [Act.put, List.setIfInBounds_toArray, List.set_cons_zero, List.set_cons_succ]
  refine wpAnyK_take0 18 (v := ?v19) rfl (by kernel_rfl) (fun _ _ _ h => h) (Or.inl ⟨by rfl, ?hy19⟩) (fun _ => hHeld) ?_
  case hy19 => (intro w hSw; go_simp; try with_reducible rfl)
  try simp only [Act.put, List.setIfInBounds_toArray, List.set_cons_zero, List.set_cons_succ]
  refine wpAnyK_take0 19 (v := ?v20) rfl (by kernel_rfl) (fun _ _ _ h => h) (Or.inl ⟨by rfl, ?hy20⟩) (fun _ => hHeld) ?_
  case hy20 => (intro w hSw; go_simp; try with_reducible rfl)
  try simp only [Act.put, List.setIfInBounds_toArray, List.set_cons_zero, List.set_cons_succ]
  refine wpAnyK_take0 20 (v := ?v21) rfl (by kernel_rfl) (fun _ _ _ h => h) (Or.inl ⟨by rfl, ?hy21⟩) (fun _ => hHeld) ?_
  case hy21 => (intro w hSw; go_simp; try with_reducible rfl)
  try simp only [Act.put, List.setIfInBounds_toArray, List.set_cons_zero, List.set_cons_succ]
  refine wpAnyK_take0 22 (v := ?v22) rfl (by kernel_rfl) (fun _ _ _ h => h) (Or.inl ⟨by rfl, ?hy22⟩) (fun _ => hHeld) ?_
  case hy22 => (intro w hSw; go_simp; try with_reducible rfl)
  try simp only [Act.put, List.setIfInBounds_toArray, List.set_cons_zero, List.set_cons_succ]
  refine wpAnyK_step 21 rfl (by kernel_rfl) (fun K hK => ?_)
  go_simp
  refine (A.ps _).mono ?_
  rintro e w36 ⟨rfl, hB⟩
  have Hs37 : Hid (Below w34.heap.size w34 w36) := hB
  clear hB
  have Hbg8 : Hid (Bl 26 w36 w11.heap.size [.slice gx0 gx1 gx2, .slice gy0 gy1 gy2, .bool false]) := Hbg7.out.below Hs37.out Hbg7.out.lt
  have Hbi8 : Hid (Bl 26 w36 w3.heap.size [.slice (some ⟨g1, 0, none⟩) xs.length d1, .slice (some ⟨g2, 0, none⟩) ys.length d2, .bool inf]) := Hbi7.out.below Hs37.out Hbi7.out.lt
  have HbP8 : Hid (Bl 26 w36 w.heap.size [.slice x0 xs.length x2, .slice y0 ys.length y2, .bool inf]) := HbP7.out.below Hs37.out HbP7.out.lt
  try dsimp only
  refine hK.out _ _ ?hk23 ?_
  case hk23 => exact fun _ => ⟨Hbg8.out.cell 0 (by simp), Hbg8.out.cell 1 (by simp), Hbg8.out.cell 2 (by simp), Hbi8.out.cell 0 (by simp), Hbi8.out.cell 1 (by simp), Hbi8.out.cell 2 (by simp), HbP8.out.cell 0 (by simp), HbP8.out.cell 1 (by simp), HbP8.out.cell 2 (by simp)⟩
  have hHeld : ((fun (w' : World) => w'.cell? ⟨w11.heap.size, 0, none⟩ = some (.slice gx0 gx1 gx2) ∧ w'.cell? ⟨w11.heap.size, 1, none⟩ = some (.slice gy0 gy1 gy2) ∧ w'.cell? ⟨w11.heap.size, 2, none⟩ = some (.bool false) ∧ w'.cell? ⟨w3.heap.size, 0, none⟩ = some (.slice (some ⟨g1, 0, none⟩) xs.length d1) ∧ w'.cell? ⟨w3.heap.size, 1, none⟩ = some (.slice (some ⟨g2, 0, none⟩) ys.length d2) ∧ w'.cell? ⟨w3.heap.size, 2, none⟩ = some (.bool inf) ∧ w'.cell? ⟨w.heap.size, 0, none⟩ = some (.slice x0 xs.length x2) ∧ w'.cell? ⟨w.heap.size, 1, none⟩ = some (.slice y0 ys.length y2) ∧ w'.cell? ⟨w.heap.size, 2, none⟩ = some (.bool inf))) _ := ⟨Hbg8.out.cell 0 (by simp), Hbg8.out.cell 1 (by simp), Hbg8.out.cell 2 (by simp), Hbi8.out.cell 0 (by simp), Hbi8.out.cell 1 (by simp), Hbi8.out.cell 2 (by simp), HbP8.out.cell 0 (by simp), HbP8.out.cell 1 (by simp), HbP8.out.cell 2 (by simp)⟩
  clear hK K
  try simp only [Act.put, List.setIfInBounds_toArray, List.set_cons_zero, List.set_cons_succ]
  refine wpAnyK_step 23 rfl (by kernel_rfl) (fun K hK => ?_)
  go_simp
  refine (A.ds _).mono ?_
  rintro e w38 ⟨rfl, hB⟩
  have Hs39 : Hid (Below w36.heap.size w36 w38) := hB
  clear hB
  have Hbg9 : Hid (Bl 26 w38 w11.heap.size [.slice gx0 gx1 gx2, .slice gy0 gy1 gy2, .bool false]) := Hbg8.out.below Hs39.out Hbg8.out.lt
  have Hbi9 : Hid (Bl 26 w38 w3.heap.size [.slice (some ⟨g1, 0, none⟩) xs.length d1, .slice (some ⟨g2, 0, none⟩) ys.length d2, .bool inf]) := Hbi8.out.below Hs39.out Hbi8.out.lt
  have HbP9 : Hid (Bl 26 w38 w.heap.size [.slice x0 xs.length x2, .slice y0 ys.length y2, .bool inf]) := HbP8.out.below Hs39.out HbP8.out.lt
  try dsimp only
  refine hK.out _ _ ?hk24 ?_
  case hk24 => exact fun _ => ⟨Hbg9.out.cell 0 (by simp), Hbg9.out.cell 1 (by simp), Hbg9.out.cell 2 (by simp), Hbi9.out.cell 0 (by simp), Hbi9.out.cell 1 (by simp), Hbi9.out.cell 2 (by simp), HbP9.out.cell 0 (by simp), HbP9.out.cell 1 (by simp), HbP9.out.cell 2 (by simp)⟩
  have hHeld : ((fun (w' : World) => w'.cell? ⟨w11.heap.size, 0, none⟩ = some (.slice gx0 gx1 gx2) ∧ w'.cell? ⟨w11.heap.size, 1, none⟩ = some (.slice gy0 gy1 gy2) ∧ w'.cell? ⟨w11.heap.size, 2, none⟩ = some (.bool false) ∧ w'.cell? ⟨w3.heap.size, 0, none⟩ = some (.slice (some ⟨g1, 0, none⟩) xs.length d1) ∧ w'.cell? ⟨w3.heap.size, 1, none⟩ = some (.slice (some ⟨g2, 0, none⟩) ys.length d2) ∧ w'.cell? ⟨w3.heap.size, 2, none⟩ = some (.bool inf) ∧ w'.cell? ⟨w.heap.size, 0, none⟩ = some (.slice x0 xs.length x2) ∧ w'.cell? ⟨w.heap.size, 1, none⟩ = some (.slice y0 ys.length y2) ∧ w'.cell? ⟨w.heap.size, 2, none⟩ = some (.bool inf))) _ := ⟨Hbg9.out.cell 0 (by simp), Hbg9.out.cell 1 (by simp), Hbg9.out.cell 2 (by simp), Hbi9.out.cell 0 (by simp), Hbi9.out.cell 1 (by simp), Hbi9.out.cell 2 (by simp), HbP9.out.cell 0 (by simp), HbP9.out.cell 1 (by simp), HbP9.out.cell 2 (by simp)⟩
  clear hK K
  try simp only [Act.put, List.setIfInBounds_toArray, List.set_cons_zero, List.set_cons_succ]
  refine wpAnyK_take0 24 (v := ?v25) rfl (by kernel_rfl) (fun _ _ _ h => h) (Or.inl ⟨by rfl, ?hy25⟩) (fun _ => hHeld) ?_
  case hy25 => (intro w hSw; go_simp; try with_reducible rfl)
  try simp only [Act.put, List.setIfInBounds_toArray, List.set_cons_zero, List.set_cons_succ]
  refine wpAnyK_take0 25 (v := ?v26) rfl (by kernel_rfl) (fun _ _ _ h => h) (Or.inl ⟨by rfl, ?hy26⟩) (fun _ => hHeld) ?_
  case hy26 => (intro w hSw; go_simp; try with_reducible rfl)
  try simp only [Act.put, List.setIfInBounds_toArray, List.set_cons_zero, List.set_cons_succ]
  refine wpAnyK_take0 26 (v := ?v27) rfl (by kernel_rfl) (fun _ _ _ h => h) (Or.inl ⟨by rfl, ?hy27⟩) (fun _ => hHeld) ?_
  case hy27 => (intro w hSw; go_simp; try with_reducible rfl)
  try simp only [Act.put, List.setIfInBounds_toArray, List.set_cons_zero, List.set_cons_succ]
  refine wpAnyK_take0 27 (v := ?v28) rfl (by kernel_rfl) (fun _ _ _ h => h) (Or.inl ⟨by rfl, ?hy28⟩) (fun _ => hHeld) ?_
  case hy28 => (intro w hSw; go_simp; try with_reducible rfl)
  try simp only [Act.put, List.setIfInBounds_toArray, List.set_cons_zero, List.set_cons_succ]
  refine wpAnyK_take 28 [29, 33, 34, 35, 38] (v := ?v29) rfl (by kernel_rfl) (fun _ _ _ h => h) (Or.inl ⟨by rfl, ?hy29⟩) hHeld ?_
  case hy29 => (intro w hSw; (try dsimp only at hSw); go_simp; try with_reducible rfl)
  try simp only [Act.put, List.setIfInBounds_toArray, List.set_cons_zero, List.set_cons_succ]
  refine wpAnyK_take0 30 (v := ?v30) rfl (by kernel_rfl) (fun _ _ _ h => h) (Or.inl ⟨by rfl, ?hy30⟩) (fun _ => hHeld) ?_
  case hy30 => (intro w hSw; go_simp; try with_reducible rfl)
  try simp only [Act.put, List.setIfInBounds_toArray, List.set_cons_zero, List.set_cons_succ]
  refine wpAnyK_take 31 [32, 33, 34, 35, 38] (v := ?v31) rfl (by kernel_rfl) (fun _ _ _ h => h) (Or.inl ⟨by rfl, ?hy31⟩) hHeld ?_
  case hy31 => (intro w hSw; (try dsimp only at hSw); go_simp; try with_reducible rfl)
  try simp only [Act.put, List.setIfInBounds_toArray, List.set_cons_zero, List.set_cons_succ]
  refine wpAnyK_step 29 rfl (by kernel_rfl) (fun K hK => ?_)
  go_simp
  have Hi11 : Hid (Lk w38 wv2.heap.size g1 d1 xs) := Hi10.out.below (btr Hs5.out (btr Hs8.out (btr Hs10.out (btr Hs12.out (btr Hs13.out (btr Hs16.out (btr Hs18.out (btr Hs20.out (btr Hs21.out (btr Hs23.out (btr Hs25.out (btr Hs27.out (btr Hs29.out (btr Hs31.out (btr Hs33.out (btr Hs35.out (btr Hs37.out Hs39.out))))))))))))))))) (Nat.le_refl _)
  have Hi21 : Hid (Lk w38 wv2.heap.size g2 d2 ys) := Hi20.out.below (btr Hs5.out (btr Hs8.out (btr Hs10.out (btr Hs12.out (btr Hs13.out (btr Hs16.out (btr Hs18.out (btr Hs20.out (btr Hs21.out (btr Hs23.out (btr Hs25.out (btr Hs27.out (btr Hs29.out (btr Hs31.out (btr Hs33.out (btr Hs35.out (btr Hs37.out Hs39.out))))))))))))))))) (Nat.le_refl _)
  have C := A.pn _ _ (nv Bs xs) (nv Bs ys) inf _ (Nm.nu' (Hi11.out.nm HS.out.1) HL.out.1) (Nm.nu' (Hi21.out.nm HS.out.2) HL.out.2)
  rw [← Hoo.out] at C
  refine (C).mono ?_
  rintro e w40 ⟨rfl, hB⟩
  have Hs41 : Hid (Below w38.heap.size w38 w40) := hB
  clear hB C
  have Hbg10 : Hid (Bl 26 w40 w11.heap.size [.slice gx0 gx1 gx2, .slice gy0 gy1 gy2, .bool false]) := Hbg9.out.below Hs41.out Hbg9.out.lt
  have Hbi10 : Hid (Bl 26 w40 w3.heap.size [.slice (some ⟨g1, 0, none⟩) xs.length d1, .slice (some ⟨g2, 0, none⟩) ys.length d2, .bool inf]) := Hbi9.out.below Hs41.out Hbi9.out.lt
  have HbP10 : Hid (Bl 26 w40 w.heap.size [.slice x0 xs.length x2, .slice y0 ys.length y2, .bool inf]) := HbP9.out.below Hs41.out HbP9.out.lt
  try dsimp only
  refine hK.out _ _ ?hk32 ?_
  case hk32 => exact fun _ => ⟨Hbg10.out.cell 0 (by simp), Hbg10.out.cell 1 (by simp), Hbg10.out.cell 2 (by simp), Hbi10.out.cell 0 (by simp), Hbi10.out.cell 1 (by simp), Hbi10.out.cell 2 (by simp), HbP10.out.cell 0 (by simp), HbP10.out.cell 1 (by simp), HbP10.out.cell 2 (by simp)⟩
  have hHeld : ((fun (w' : World) => w'.cell? ⟨w11.heap.size, 0, none⟩ = some (.slice gx0 gx1 gx2) ∧ w'.cell? ⟨w11.heap.size, 1, none⟩ = some (.slice gy0 gy1 gy2) ∧ w'.cell? ⟨w11.heap.size, 2, none⟩ = some (.bool false) ∧ w'.cell? ⟨w3.heap.size, 0, none⟩ = some (.slice (some ⟨g1, 0, none⟩) xs.length d1) ∧ w'.cell? ⟨w3.heap.size, 1, none⟩ = some (.slice (some ⟨g2, 0, none⟩) ys.length d2) ∧ w'.cell? ⟨w3.heap.size, 2, none⟩ = some (.bool inf) ∧ w'.cell? ⟨w.heap.size, 0, none⟩ = some (.slice x0 xs.length x2) ∧ w'.cell? ⟨w.heap.size, 1, none⟩ = some (.slice y0 ys.length y2) ∧ w'.cell? ⟨w.heap.size, 2, none⟩ = some (.bool inf))) _ := ⟨Hbg10.out.cell 0 (by simp), Hbg10.out.cell 1 (by simp), Hbg10.out.cell 2 (by simp), Hbi10.out.cell 0 (by simp), Hbi10.out.cell 1 (by simp), Hbi10.out.cell 2 (by simp), HbP10.out.cell 0 (by simp), HbP10.out.cell 1 (by simp), HbP10.out.cell 2 (by simp)⟩
  clear hK K
  try simp only [Act.put, List.setIfInBounds_toArray, List.set_cons_zero, List.set_cons_succ]
  refine wpAnyK_step 32 rfl (by kernel_rfl) (fun K hK => ?_)
  go_simp
  have HB2 : Hid (Below w.heap.size w w40) := HB1.out.trans ((btr Hs4.out (btr Hs5.out (btr Hs8.out (btr Hs10.out (btr Hs12.out (btr Hs13.out (btr Hs16.out (btr Hs18.out (btr Hs20.out (btr Hs21.out (btr Hs23.out (btr Hs25.out (btr Hs27.out (btr Hs29.out (btr Hs31.out (btr Hs33.out (btr Hs35.out (btr Hs37.out (btr Hs39.out Hs41.out))))))))))))))))))).mono HB1.out.size)
  have C := A.dn _ _ (nv Bs xs) (nv Bs ys) inf _ (Nm.nu' (HAx.out.below HB2.out (Nat.le_refl _)) HL.out.1) (Nm.nu' (HAy.out.below HB2.out (Nat.le_refl _)) HL.out.2)
  rw [← Hoo.out] at C
  refine (C).mono ?_
  rintro e w42 ⟨rfl, hB⟩
  have Hs43 : Hid (Below w40.heap.size w40 w42) := hB
  clear hB C
  have Hbg11 : Hid (Bl 26 w42 w11.heap.size [.slice gx0 gx1 gx2, .slice gy0 gy1 gy2, .bool false]) := Hbg10.out.below Hs43.out Hbg10.out.lt
  have Hbi11 : Hid (Bl 26 w42 w3.heap.size [.slice (some ⟨g1, 0, none⟩) xs.length d1, .slice (some ⟨g2, 0, none⟩) ys.length d2, .bool inf]) := Hbi10.out.below Hs43.out Hbi10.out.lt
  have HbP11 : Hid (Bl 26 w42 w.heap.size [.slice x0 xs.length x2, .slice y0 ys.length y2, .bool inf]) := HbP10.out.below Hs43.out HbP10.out.lt
  try dsimp only
  refine hK.out _ _ ?hk33 ?_
  case hk33 => exact fun _ => ⟨Hbg11.out.cell 0 (by simp), Hbg11.out.cell 1 (by simp), Hbg11.out.cell 2 (by simp), Hbi11.out.cell 0 (by simp), Hbi11.out.cell 1 (by simp), Hbi11.out.cell 2 (by simp), HbP11.out.cell 0 (by simp), HbP11.out.cell 1 (by simp), HbP11.out.cell 2 (by simp)⟩
  have hHeld : ((fun (w' : World) => w'.cell? ⟨w11.heap.size, 0, none⟩ = some (.slice gx0 gx1 gx2) ∧ w'.cell? ⟨w11.heap.size, 1, none⟩ = some (.slice gy0 gy1 gy2) ∧ w'.cell? ⟨w11.heap.size, 2, none⟩ = some (.bool false) ∧ w'.cell? ⟨w3.heap.size, 0, none⟩ = some (.slice (some ⟨g1, 0, none⟩) xs.length d1) ∧ w'.cell? ⟨w3.heap.size, 1, none⟩ = some (.slice (some ⟨g2, 0, none⟩) ys.length d2) ∧ w'.cell? ⟨w3.heap.size, 2, none⟩ = some (.bool inf) ∧ w'.cell? ⟨w.heap.size, 0, none⟩ = some (.slice x0 xs.length x2) ∧ w'.cell? ⟨w.heap.size, 1, none⟩ = some (.slice y0 ys.length y2) ∧ w'.cell? ⟨w.heap.size, 2, none⟩ = some (.bool inf))) _ := ⟨Hbg11.out.cell 0 (by simp), Hbg11.out.cell 1 (by simp), Hbg11.out.cell 2 (by simp), Hbi11.out.cell 0 (by simp), Hbi11.out.cell 1 (by simp), Hbi11.out.cell 2 (by simp), HbP11.out.cell 0 (by simp), HbP11.out.cell 1 (by simp), HbP11.out.cell 2 (by simp)⟩
  clear hK K
  try simp only [Act.put, List.setIfInBounds_toArray, List.set_cons_zero, List.set_cons_succ]
  refine wpAnyK_take0 33 (v := ?v34) rfl (by kernel_rfl) (fun _ _ _ h => h) (Or.inl ⟨by rfl, ?hy34⟩) (fun _ => hHeld) ?_
  case hy34 => (intro w hSw; go_simp; try with_reducible rfl)
  try simp only [Act.put, List.setIfInBounds_toArray, List.set_cons_zero, List.set_cons_succ]
  refine wpAnyK_take0 34 (v := ?v35) rfl (by kernel_rfl) (fun _ _ _ h => h) (Or.inl ⟨by rfl, ?hy35⟩) (fun _ => hHeld) ?_
  case hy35 => (intro w hSw; go_simp; try with_reducible rfl)
  try simp only [Act.put, List.setIfInBounds_toArray, List.set_cons_zero, List.set_cons_succ]
  refine wpAnyK_take0 35 (v := ?v36) rfl (by kernel_rfl) (fun _ _ _ h => h) (Or.inl ⟨by rfl, ?hy36⟩) (fun _ => hHeld) ?_
  case hy36 => (intro w hSw; go_simp; try with_reducible rfl)
  try simp only [Act.put, List.setIfInBounds_toArray, List.set_cons_zero, List.set_cons_succ]
  refine wpAnyK_take 36 [38] (v := ?v37) rfl (by kernel_rfl) (fun _ _ _ h => h) (Or.inl ⟨by rfl, ?hy37⟩) hHeld ?_
  case hy37 => (intro w hSw; (try dsimp only at hSw); go_simp; try with_reducible rfl)
  try simp only [Act.put, List.setIfInBounds_toArray, List.set_cons_zero, List.set_cons_succ]
  refine wpAnyK_take 37 [38] (v := ?v38) rfl (by kernel_rfl) (fun _ _ _ h => h) (Or.inl ⟨by rfl, ?hy38⟩) hHeld ?_
  case hy38 => (intro w hSw; (try dsimp only at hSw); go_simp; try with_reducible rfl)
  try simp only [Act.put, List.setIfInBounds_toArray, List.set_cons_zero, List.set_cons_succ]
  refine wpAnyK_step 38 rfl (by kernel_rfl) (fun K hK => ?_)
  go_simp
  have Hi12 : Hid (Lk w42 wv2.heap.size g1 d1 xs) := Hi11.out.below (btr Hs41.out Hs43.out) (Nat.le_refl _)
  have Hi22 : Hid (Lk w42 wv2.heap.size g2 d2 ys) := Hi21.out.below (btr Hs41.out Hs43.out) (Nat.le_refl _)
  have HB3 : Hid (Below w.heap.size w w42) := HB2.out.trans (Hs43.out.mono HB2.out.size)
  refine (still_v _ _ xs ys inf _ Hi12.out Hi22.out (HAx.out.below HB3.out (Nat.le_refl _)) (HAy.out.below HB3.out (Nat.le_refl _)) HL.out.1 HL.out.2).mono ?_
  rintro e w44 ⟨rfl, hB⟩
  have Hs45 : Hid (Below w42.heap.size w42 w44) := hB
  clear hB
  have Hbg12 : Hid (Bl 26 w44 w11.heap.size [.slice gx0 gx1 gx2, .slice gy0 gy1 gy2, .bool false]) := Hbg11.out.below Hs45.out Hbg11.out.lt
  have Hbi12 : Hid (Bl 26 w44 w3.heap.size [.slice (some ⟨g1, 0, none⟩) xs.length d1, .slice (some ⟨g2, 0, none⟩) ys.length d2, .bool inf]) := Hbi11.out.below Hs45.out Hbi11.out.lt
  have HbP12 : Hid (Bl 26 w44 w.heap.size [.slice x0 xs.length x2, .slice y0 ys.length y2, .bool inf]) := HbP11.out.below Hs45.out HbP11.out.lt
  try dsimp only
  refine hK.out _ _ ?hk39 ?_
  case hk39 => exact fun _ => ⟨Hbg12.out.cell 0 (by simp), Hbg12.out.cell 1 (by simp), Hbg12.out.cell 2 (by simp), Hbi12.out.cell 0 (by simp), Hbi12.out.cell 1 (by simp), Hbi12.out.cell 2 (by simp), HbP12.out.cell 0 (by simp), HbP12.out.cell 1 (by simp), HbP12.out.cell 2 (by simp)⟩
  have hHeld : ((fun (w' : World) => w'.cell? ⟨w11.heap.size, 0, none⟩ = some (.slice gx0 gx1 gx2) ∧ w'.cell? ⟨w11.heap.size, 1, none⟩ = some (.slice gy0 gy1 gy2) ∧ w'.cell? ⟨w11.heap.size, 2, none⟩ = some (.bool false) ∧ w'.cell? ⟨w3.heap.size, 0, none⟩ = some (.slice (some ⟨g1, 0, none⟩) xs.length d1) ∧ w'.cell? ⟨w3.heap.size, 1, none⟩ = some (.slice (some ⟨g2, 0, none⟩) ys.length d2) ∧ w'.cell? ⟨w3.heap.size, 2, none⟩ = some (.bool inf) ∧ w'.cell? ⟨w.heap.size, 0, none⟩ = some (.slice x0 xs.length x2) ∧ w'.cell? ⟨w.heap.size, 1, none⟩ = some (.slice y0 ys.length y2) ∧ w'.cell? ⟨w.heap.size, 2, none⟩ = some (.bool inf))) _ := ⟨Hbg12.out.cell 0 (by simp), Hbg12.out.cell 1 (by simp), Hbg12.out.cell 2 (by simp), Hbi12.out.cell 0 (by simp), Hbi12.out.cell 1 (by simp), Hbi12.out.cell 2 (by simp), HbP12.out.cell 0 (by simp), HbP12.out.cell 1 (by simp), HbP12.out.cell 2 (by simp)⟩
  clear hK K
  try simp only [Act.put, List.setIfInBounds_toArray, List.set_cons_zero, List.set_cons_succ]
  refine wpAnyK_take0 39 (v := ?v40) rfl (by kernel_rfl) (fun _ _ _ h => h) (Or.inl ⟨by rfl, ?hy40⟩) (fun _ => hHeld) ?_
  case hy40 => (intro w hSw; go_simp; try with_reducible rfl)
  try simp only [Act.put, List.setIfInBounds_toArray, List.set_cons_zero, List.set_cons_succ]
  refine wpAnyK_take0 40 (v := ?v41) rfl (by kernel_rfl) (fun _ _ _ h => h) (Or.inl ⟨by rfl, ?hy41⟩) (fun _ => hHeld) ?_
  case hy41 => (intro w hSw; go_simp; try with_reducible rfl)
  try simp only [Act.put, List.setIfInBounds_toArray, List.set_cons_zero, List.set_cons_succ]
  refine wpAnyK_done (by kernel_rfl) ?_ _
  go_wp2_with fail
  have Hf2 : Hid (Mk w44 wv6.heap.size (.slice f0 f1 f2) F 384) := Hf1.out.below (btr Hs27.out (btr Hs29.out (btr Hs31.out (btr Hs33.out (btr Hs35.out (btr Hs37.out (btr Hs39.out (btr Hs41.out (btr Hs43.out Hs45.out)))))))))
  have Hn2 : Hid (Mk w44 w7.heap.size (.slice n0 n1 n2) N 384) := Hn1.out.below (btr Hs31.out (btr Hs33.out (btr Hs35.out (btr Hs37.out (btr Hs39.out (btr Hs41.out (btr Hs43.out Hs45.out)))))))
  have HB4 : Hid (Below w.heap.size w w44) := HB3.out.trans (Hs45.out.mono HB3.out.size)
  have Hgx2 : Hid (Mk w44 w9.heap.size (.slice gx0 gx1 gx2) X 384) := Hgx1.out.below (btr Hs35.out (btr Hs37.out (btr Hs39.out (btr Hs41.out (btr Hs43.out Hs45.out)))))
  have Hgy2 : Hid (Mk w44 w9.heap.size (.slice gy0 gy1 gy2) Y 384) := Hgy1.out.below (btr Hs35.out (btr Hs37.out (btr Hs39.out (btr Hs41.out (btr Hs43.out Hs45.out)))))
  have Hf2_1 : Hid (Mk w44 wv14.heap.size (.slice f2_0 f2_1 f2_2) F 384) := Hf2_0.out.below (btr Hs18.out (btr Hs20.out (btr Hs21.out (btr Hs23.out (btr Hs25.out (btr Hs27.out (btr Hs29.out (btr Hs31.out (btr Hs33.out (btr Hs35.out (btr Hs37.out (btr Hs39.out (btr Hs41.out (btr Hs43.out Hs45.out))))))))))))))
  have Hn2_1 : Hid (Mk w44 w15.heap.size (.slice n2_0 n2_1 n2_2) N 384) := Hn2_0.out.below (btr Hs20.out (btr Hs21.out (btr Hs23.out (btr Hs25.out (btr Hs27.out (btr Hs29.out (btr Hs31.out (btr Hs33.out (btr Hs35.out (btr Hs37.out (btr Hs39.out (btr Hs41.out (btr Hs43.out Hs45.out)))))))))))))
  have Hhx1 : Hid (Mk w44 w17.heap.size (.slice hx0 hx1 hx2) X 384) := Hhx0.out.below (btr Hs21.out (btr Hs23.out (btr Hs25.out (btr Hs27.out (btr Hs29.out (btr Hs31.out (btr Hs33.out (btr Hs35.out (btr Hs37.out (btr Hs39.out (btr Hs41.out (btr Hs43.out Hs45.out))))))))))))
  have Hhy1 : Hid (Mk w44 w17.heap.size (.slice hy0 hy1 hy2) Y 384) := Hhy0.out.below (btr Hs21.out (btr Hs23.out (btr Hs25.out (btr Hs27.out (btr Hs29.out (btr Hs31.out (btr Hs33.out (btr Hs35.out (btr Hs37.out (btr Hs39.out (btr Hs41.out (btr Hs43.out Hs45.out))))))))))))
  have Hbh1 : Hid (Bl 26 w44 w19.heap.size [.slice hx0 hx1 hx2, .slice hy0 hy1 hy2, .bool false]) := Hbh0.out.below (btr Hs23.out (btr Hs25.out (btr Hs27.out (btr Hs29.out (btr Hs31.out (btr Hs33.out (btr Hs35.out (btr Hs37.out (btr Hs39.out (btr Hs41.out (btr Hs43.out Hs45.out))))))))))) Hbh0.out.lt
  have Hi13 : Hid (Lk w44 wv2.heap.size g1 d1 xs) := Hi12.out.below Hs45.out (Nat.le_refl _)
  have Hi23 : Hid (Lk w44 wv2.heap.size g2 d2 ys) := Hi22.out.below Hs45.out (Nat.le_refl _)
  refine (spoil_v _ _ _ _ false _ (Hf2.out.1.base (Nat.zero_le _)) (Hn2.out.1.base (Nat.zero_le _)) (fun g e1 e2 => by have h1 := Hvf.out g e1; have h2 := Hvn.out g e2; have := Hs1.out.size; have := HbP0.out.lt; have := Hs4.out.size; have := Hs5.out.size; have := Hbi0.out.lt; have := Hs8.out.size; have := Hs10.out.size; have := Hs12.out.size; have := Hs13.out.size; have := Hbg0.out.lt; have := Hs16.out.size; have := Hs18.out.size; have := Hs20.out.size; have := Hs21.out.size; have := Hbh0.out.lt; have := Hs23.out.size; have := Hs25.out.size; have := Hs27.out.size; have := Hs29.out.size; have := Hs31.out.size; have := Hs33.out.size; have := Hs35.out.size; have := Hs37.out.size; have := Hs39.out.size; have := Hs41.out.size; have := Hs43.out.size; have := Hs45.out.size; omega) (Nat.le_trans Hf2.out.2.1 (by decide)) (Nat.le_trans Hn2.out.2.1 (by decide))).mono ?_
  rintro e w46 ⟨rfl, hC⟩
  have HC46 : Hid (Chf (fun k => (Value.slice f0 f1 f2).ownBlock = some k ∨ (Value.slice n0 n1 n2).ownBlock = some k) w44 w46) := hC
  clear hC
  have HB5 : Hid (Below w.heap.size w w46) := HC46.out.below HB4.out (fun k hk hf => by exact hf.elim (fun hf => by have hi := Hvf.out _ hf; have := Hs1.out.size; have := HbP0.out.lt; have := Hs4.out.size; have := Hs5.out.size; have := Hbi0.out.lt; have := Hs8.out.size; have := Hs10.out.size; have := Hs12.out.size; have := Hs13.out.size; have := Hbg0.out.lt; have := Hs16.out.size; have := Hs18.out.size; have := Hs20.out.size; have := Hs21.out.size; have := Hbh0.out.lt; have := Hs23.out.size; have := Hs25.out.size; have := Hs27.out.size; have := Hs29.out.size; have := Hs31.out.size; have := Hs33.out.size; have := Hs35.out.size; have := Hs37.out.size; have := Hs39.out.size; have := Hs41.out.size; have := Hs43.out.size; have := Hs45.out.size; have := HC46.out.size; omega) (fun hf => by have hi := Hvn.out _ hf; have := Hs1.out.size; have := HbP0.out.lt; have := Hs4.out.size; have := Hs5.out.size; have := Hbi0.out.lt; have := Hs8.out.size; have := Hs10.out.size; have := Hs12.out.size; have := Hs13.out.size; have := Hbg0.out.lt; have := Hs16.out.size; have := Hs18.out.size; have := Hs20.out.size; have := Hs21.out.size; have := Hbh0.out.lt; have := Hs23.out.size; have := Hs25.out.size; have := Hs27.out.size; have := Hs29.out.size; have := Hs31.out.size; have := Hs33.out.size; have := Hs35.out.size; have := Hs37.out.size; have := Hs39.out.size; have := Hs41.out.size; have := Hs43.out.size; have := Hs45.out.size; have := HC46.out.size; omega))
  have Hgx3 : Hid (Mk w46 w9.heap.size (.slice gx0 gx1 gx2) X 384) := Hgx2.out.chf HC46.out (fun g hg hf => by have hj := Hvgx.out g hg; exact hf.elim (fun hf => by have hi := Hvf.out _ hf; have := Hs1.out.size; have := HbP0.out.lt; have := Hs4.out.size; have := Hs5.out.size; have := Hbi0.out.lt; have := Hs8.out.size; have := Hs10.out.size; have := Hs12.out.size; have := Hs13.out.size; have := Hbg0.out.lt; have := Hs16.out.size; have := Hs18.out.size; have := Hs20.out.size; have := Hs21.out.size; have := Hbh0.out.lt; have := Hs23.out.size; have := Hs25.out.size; have := Hs27.out.size; have := Hs29.out.size; have := Hs31.out.size; have := Hs33.out.size; have := Hs35.out.size; have := Hs37.out.size; have := Hs39.out.size; have := Hs41.out.size; have := Hs43.out.size; have := Hs45.out.size; have := HC46.out.size; omega) (fun hf => by have hi := Hvn.out _ hf; have := Hs1.out.size; have := HbP0.out.lt; have := Hs4.out.size; have := Hs5.out.size; have := Hbi0.out.lt; have := Hs8.out.size; have := Hs10.out.size; have := Hs12.out.size; have := Hs13.out.size; have := Hbg0.out.lt; have := Hs16.out.size; have := Hs18.out.size; have := Hs20.out.size; have := Hs21.out.size; have := Hbh0.out.lt; have := Hs23.out.size; have := Hs25.out.size; have := Hs27.out.size; have := Hs29.out.size; have := Hs31.out.size; have := Hs33.out.size; have := Hs35.out.size; have := Hs37.out.size; have := Hs39.out.size; have := Hs41.out.size; have := Hs43.out.size; have := Hs45.out.size; have := HC46.out.size; omega))
  have Hgy3 : Hid (Mk w46 w9.heap.size (.slice gy0 gy1 gy2) Y 384) := Hgy2.out.chf HC46.out (fun g hg hf => by have hj := Hvgy.out g hg; exact hf.elim (fun hf => by have hi := Hvf.out _ hf; have := Hs1.out.size; have := HbP0.out.lt; have := Hs4.out.size; have := Hs5.out.size; have := Hbi0.out.lt; have := Hs8.out.size; have := Hs10.out.size; have := Hs12.out.size; have := Hs13.out.size; have := Hbg0.out.lt; have := Hs16.out.size; have := Hs18.out.size; have := Hs20.out.size; have := Hs21.out.size; have := Hbh0.out.lt; have := Hs23.out.size; have := Hs25.out.size; have := Hs27.out.size; have := Hs29.out.size; have := Hs31.out.size; have := Hs33.out.size; have := Hs35.out.size; have := Hs37.out.size; have := Hs39.out.size; have := Hs41.out.size; have := Hs43.out.size; have := Hs45.out.size; have := HC46.out.size; omega) (fun hf => by have hi := Hvn.out _ hf; have := Hs1.out.size; have := HbP0.out.lt; have := Hs4.out.size; have := Hs5.out.size; have := Hbi0.out.lt; have := Hs8.out.size; have := Hs10.out.size; have := Hs12.out.size; have := Hs13.out.size; have := Hbg0.out.lt; have := Hs16.out.size; have := Hs18.out.size; have := Hs20.out.size; have := Hs21.out.size; have := Hbh0.out.lt; have := Hs23.out.size; have := Hs25.out.size; have := Hs27.out.size; have := Hs29.out.size; have := Hs31.out.size; have := Hs33.out.size; have := Hs35.out.size; have := Hs37.out.size; have := Hs39.out.size; have := Hs41.out.size; have := Hs43.out.size; have := Hs45.out.size; have := HC46.out.size; omega))
  have Hf2_2 : Hid (Mk w46 wv14.heap.size (.slice f2_0 f2_1 f2_2) F 384) := Hf2_1.out.chf HC46.out (fun g hg hf => by have hj := Hvf2_.out g hg; exact hf.elim (fun hf => by have hi := Hvf.out _ hf; have := Hs1.out.size; have := HbP0.out.lt; have := Hs4.out.size; have := Hs5.out.size; have := Hbi0.out.lt; have := Hs8.out.size; have := Hs10.out.size; have := Hs12.out.size; have := Hs13.out.size; have := Hbg0.out.lt; have := Hs16.out.size; have := Hs18.out.size; have := Hs20.out.size; have := Hs21.out.size; have := Hbh0.out.lt; have := Hs23.out.size; have := Hs25.out.size; have := Hs27.out.size; have := Hs29.out.size; have := Hs31.out.size; have := Hs33.out.size; have := Hs35.out.size; have := Hs37.out.size; have := Hs39.out.size; have := Hs41.out.size; have := Hs43.out.size; have := Hs45.out.size; have := HC46.out.size; omega) (fun hf => by have hi := Hvn.out _ hf; have := Hs1.out.size; have := HbP0.out.lt; have := Hs4.out.size; have := Hs5.out.size; have := Hbi0.out.lt; have := Hs8.out.size; have := Hs10.out.size; have := Hs12.out.size; have := Hs13.out.size; have := Hbg0.out.lt; have := Hs16.out.size; have := Hs18.out.size; have := Hs20.out.size; have := Hs21.out.size; have := Hbh0.out.lt; have := Hs23.out.size; have := Hs25.out.size; have := Hs27.out.size; have := Hs29.out.size; have := Hs31.out.size; have := Hs33.out.size; have := Hs35.out.size; have := Hs37.out.size; have := Hs39.out.size; have := Hs41.out.size; have := Hs43.out.size; have := Hs45.out.size; have := HC46.out.size; omega))
  have Hn2_2 : Hid (Mk w46 w15.heap.size (.slice n2_0 n2_1 n2_2) N 384) := Hn2_1.out.chf HC46.out (fun g hg hf => by have hj := Hvn2_.out g hg; exact hf.elim (fun hf => by have hi := Hvf.out _ hf; have := Hs1.out.size; have := HbP0.out.lt; have := Hs4.out.size; have := Hs5.out.size; have := Hbi0.out.lt; have := Hs8.out.size; have := Hs10.out.size; have := Hs12.out.size; have := Hs13.out.size; have := Hbg0.out.lt; have := Hs16.out.size; have := Hs18.out.size; have := Hs20.out.size; have := Hs21.out.size; have := Hbh0.out.lt; have := Hs23.out.size; have := Hs25.out.size; have := Hs27.out.size; have := Hs29.out.size; have := Hs31.out.size; have := Hs33.out.size; have := Hs35.out.size; have := Hs37.out.size; have := Hs39.out.size; have := Hs41.out.size; have := Hs43.out.size; have := Hs45.out.size; have := HC46.out.size; omega) (fun hf => by have hi := Hvn.out _ hf; have := Hs1.out.size; have := HbP0.out.lt; have := Hs4.out.size; have := Hs5.out.size; have := Hbi0.out.lt; have := Hs8.out.size; have := Hs10.out.size; have := Hs12.out.size; have := Hs13.out.size; have := Hbg0.out.lt; have := Hs16.out.size; have := Hs18.out.size; have := Hs20.out.size; have := Hs21.out.size; have := Hbh0.out.lt; have := Hs23.out.size; have := Hs25.out.size; have := Hs27.out.size; have := Hs29.out.size; have := Hs31.out.size; have := Hs33.out.size; have := Hs35.out.size; have := Hs37.out.size; have := Hs39.out.size; have := Hs41.out.size; have := Hs43.out.size; have := Hs45.out.size; have := HC46.out.size; omega))
  have Hhx2 : Hid (Mk w46 w17.heap.size (.slice hx0 hx1 hx2) X 384) := Hhx1.out.chf HC46.out (fun g hg hf => by have hj := Hvhx.out g hg; exact hf.elim (fun hf => by have hi := Hvf.out _ hf; have := Hs1.out.size; have := HbP0.out.lt; have := Hs4.out.size; have := Hs5.out.size; have := Hbi0.out.lt; have := Hs8.out.size; have := Hs10.out.size; have := Hs12.out.size; have := Hs13.out.size; have := Hbg0.out.lt; have := Hs16.out.size; have := Hs18.out.size; have := Hs20.out.size; have := Hs21.out.size; have := Hbh0.out.lt; have := Hs23.out.size; have := Hs25.out.size; have := Hs27.out.size; have := Hs29.out.size; have := Hs31.out.size; have := Hs33.out.size; have := Hs35.out.size; have := Hs37.out.size; have := Hs39.out.size; have := Hs41.out.size; have := Hs43.out.size; have := Hs45.out.size; have := HC46.out.size; omega) (fun hf => by have hi := Hvn.out _ hf; have := Hs1.out.size; have := HbP0.out.lt; have := Hs4.out.size; have := Hs5.out.size; have := Hbi0.out.lt; have := Hs8.out.size; have := Hs10.out.size; have := Hs12.out.size; have := Hs13.out.size; have := Hbg0.out.lt; have := Hs16.out.size; have := Hs18.out.size; have := Hs20.out.size; have := Hs21.out.size; have := Hbh0.out.lt; have := Hs23.out.size; have := Hs25.out.size; have := Hs27.out.size; have := Hs29.out.size; have := Hs31.out.size; have := Hs33.out.size; have := Hs35.out.size; have := Hs37.out.size; have := Hs39.out.size; have := Hs41.out.size; have := Hs43.out.size; have := Hs45.out.size; have := HC46.out.size; omega))
  have Hhy2 : Hid (Mk w46 w17.heap.size (.slice hy0 hy1 hy2) Y 384) := Hhy1.out.chf HC46.out (fun g hg hf => by have hj := Hvhy.out g hg; exact hf.elim (fun hf => by have hi := Hvf.out _ hf; have := Hs1.out.size; have := HbP0.out.lt; have := Hs4.out.size; have := Hs5.out.size; have := Hbi0.out.lt; have := Hs8.out.size; have := Hs10.out.size; have := Hs12.out.size; have := Hs13.out.size; have := Hbg0.out.lt; have := Hs16.out.size; have := Hs18.out.size; have := Hs20.out.size; have := Hs21.out.size; have := Hbh0.out.lt; have := Hs23.out.size; have := Hs25.out.size; have := Hs27.out.size; have := Hs29.out.size; have := Hs31.out.size; have := Hs33.out.size; have := Hs35.out.size; have := Hs37.out.size; have := Hs39.out.size; have := Hs41.out.size; have := Hs43.out.size; have := Hs45.out.size; have := HC46.out.size; omega) (fun hf => by have hi := Hvn.out _ hf; have := Hs1.out.size; have := HbP0.out.lt; have := Hs4.out.size; have := Hs5.out.size; have := Hbi0.out.lt; have := Hs8.out.size; have := Hs10.out.size; have := Hs12.out.size; have := Hs13.out.size; have := Hbg0.out.lt; have := Hs16.out.size; have := Hs18.out.size; have := Hs20.out.size; have := Hs21.out.size; have := Hbh0.out.lt; have := Hs23.out.size; have := Hs25.out.size; have := Hs27.out.size; have := Hs29.out.size; have := Hs31.out.size; have := Hs33.out.size; have := Hs35.out.size; have := Hs37.out.size; have := Hs39.out.size; have := Hs41.out.size; have := Hs43.out.size; have := Hs45.out.size; have := HC46.out.size; omega))
  have Hi14 : Hid (Lk w46 wv2.heap.size g1 d1 xs) := Hi13.out.chf HC46.out (fun hf => by have hj := Hvi.out; exact hf.elim (fun hf => by have hi := Hvf.out _ hf; have := Hs1.out.size; have := HbP0.out.lt; have := Hs4.out.size; have := Hs5.out.size; have := Hbi0.out.lt; have := Hs8.out.size; have := Hs10.out.size; have := Hs12.out.size; have := Hs13.out.size; have := Hbg0.out.lt; have := Hs16.out.size; have := Hs18.out.size; have := Hs20.out.size; have := Hs21.out.size; have := Hbh0.out.lt; have := Hs23.out.size; have := Hs25.out.size; have := Hs27.out.size; have := Hs29.out.size; have := Hs31.out.size; have := Hs33.out.size; have := Hs35.out.size; have := Hs37.out.size; have := Hs39.out.size; have := Hs41.out.size; have := Hs43.out.size; have := Hs45.out.size; have := HC46.out.size; omega) (fun hf => by have hi := Hvn.out _ hf; have := Hs1.out.size; have := HbP0.out.lt; have := Hs4.out.size; have := Hs5.out.size; have := Hbi0.out.lt; have := Hs8.out.size; have := Hs10.out.size; have := Hs12.out.size; have := Hs13.out.size; have := Hbg0.out.lt; have := Hs16.out.size; have := Hs18.out.size; have := Hs20.out.size; have := Hs21.out.size; have := Hbh0.out.lt; have := Hs23.out.size; have := Hs25.out.size; have := Hs27.out.size; have := Hs29.out.size; have := Hs31.out.size; have := Hs33.out.size; have := Hs35.out.size; have := Hs37.out.size; have := Hs39.out.size; have := Hs41.out.size; have := Hs43.out.size; have := Hs45.out.size; have := HC46.out.size; omega))
  have Hi24 : Hid (Lk w46 wv2.heap.size g2 d2 ys) := Hi23.out.chf HC46.out (fun hf => by have hj := Hvi.out; exact hf.elim (fun hf => by have hi := Hvf.out _ hf; have := Hs1.out.size; have := HbP0.out.lt; have := Hs4.out.size; have := Hs5.out.size; have := Hbi0.out.lt; have := Hs8.out.size; have := Hs10.out.size; have := Hs12.out.size; have := Hs13.out.size; have := Hbg0.out.lt; have := Hs16.out.size; have := Hs18.out.size; have := Hs20.out.size; have := Hs21.out.size; have := Hbh0.out.lt; have := Hs23.out.size; have := Hs25.out.size; have := Hs27.out.size; have := Hs29.out.size; have := Hs31.out.size; have := Hs33.out.size; have := Hs35.out.size; have := Hs37.out.size; have := Hs39.out.size; have := Hs41.out.size; have := Hs43.out.size; have := Hs45.out.size; have := HC46.out.size; omega) (fun hf => by have hi := Hvn.out _ hf; have := Hs1.out.size; have := HbP0.out.lt; have := Hs4.out.size; have := Hs5.out.size; have := Hbi0.out.lt; have := Hs8.out.size; have := Hs10.out.size; have := Hs12.out.size; have := Hs13.out.size; have := Hbg0.out.lt; have := Hs16.out.size; have := Hs18.out.size; have := Hs20.out.size; have := Hs21.out.size; have := Hbh0.out.lt; have := Hs23.out.size; have := Hs25.out.size; have := Hs27.out.size; have := Hs29.out.size; have := Hs31.out.size; have := Hs33.out.size; have := Hs35.out.size; have := Hs37.out.size; have := Hs39.out.size; have := Hs41.out.size; have := Hs43.out.size; have := Hs45.out.size; have := HC46.out.size; omega))
  have HbP13 : Hid (Bl 26 w46 w.heap.size [.slice x0 xs.length x2, .slice y0 ys.length y2, .bool inf]) := HbP12.out.chf HC46.out (fun hf => by exact hf.elim (fun hf => by have hi := Hvf.out _ hf; have := Hs1.out.size; have := HbP0.out.lt; have := Hs4.out.size; have := Hs5.out.size; have := Hbi0.out.lt; have := Hs8.out.size; have := Hs10.out.size; have := Hs12.out.size; have := Hs13.out.size; have := Hbg0.out.lt; have := Hs16.out.size; have := Hs18.out.size; have := Hs20.out.size; have := Hs21.out.size; have := Hbh0.out.lt; have := Hs23.out.size; have := Hs25.out.size; have := Hs27.out.size; have := Hs29.out.size; have := Hs31.out.size; have := Hs33.out.size; have := Hs35.out.size; have := Hs37.out.size; have := Hs39.out.size; have := Hs41.out.size; have := Hs43.out.size; have := Hs45.out.size; have := HC46.out.size; omega) (fun hf => by have hi := Hvn.out _ hf; have := Hs1.out.size; have := HbP0.out.lt; have := Hs4.out.size; have := Hs5.out.size; have := Hbi0.out.lt; have := Hs8.out.size; have := Hs10.out.size; have := Hs12.out.size; have := Hs13.out.size; have := Hbg0.out.lt; have := Hs16.out.size; have := Hs18.out.size; have := Hs20.out.size; have := Hs21.out.size; have := Hbh0.out.lt; have := Hs23.out.size; have := Hs25.out.size; have := Hs27.out.size; have := Hs29.out.size; have := Hs31.out.size; have := Hs33.out.size; have := Hs35.out.size; have := Hs37.out.size; have := Hs39.out.size; have := Hs41.out.size; have := Hs43.out.size; have := Hs45.out.size; have := HC46.out.size; omega))
  have Hbi13 : Hid (Bl 26 w46 w3.heap.size [.slice (some ⟨g1, 0, none⟩) xs.length d1, .slice (some ⟨g2, 0, none⟩) ys.length d2, .bool inf]) := Hbi12.out.chf HC46.out (fun hf => by exact hf.elim (fun hf => by have hi := Hvf.out _ hf; have := Hs1.out.size; have := HbP0.out.lt; have := Hs4.out.size; have := Hs5.out.size; have := Hbi0.out.lt; have := Hs8.out.size; have := Hs10.out.size; have := Hs12.out.size; have := Hs13.out.size; have := Hbg0.out.lt; have := Hs16.out.size; have := Hs18.out.size; have := Hs20.out.size; have := Hs21.out.size; have := Hbh0.out.lt; have := Hs23.out.size; have := Hs25.out.size; have := Hs27.out.size; have := Hs29.out.size; have := Hs31.out.size; have := Hs33.out.size; have := Hs35.out.size; have := Hs37.out.size; have := Hs39.out.size; have := Hs41.out.size; have := Hs43.out.size; have := Hs45.out.size; have := HC46.out.size; omega) (fun hf => by have hi := Hvn.out _ hf; have := Hs1.out.size; have := HbP0.out.lt; have := Hs4.out.size; have := Hs5.out.size; have := Hbi0.out.lt; have := Hs8.out.size; have := Hs10.out.size; have := Hs12.out.size; have := Hs13.out.size; have := Hbg0.out.lt; have := Hs16.out.size; have := Hs18.out.size; have := Hs20.out.size; have := Hs21.out.size; have := Hbh0.out.lt; have := Hs23.out.size; have := Hs25.out.size; have := Hs27.out.size; have := Hs29.out.size; have := Hs31.out.size; have := Hs33.out.size; have := Hs35.out.size; have := Hs37.out.size; have := Hs39.out.size; have := Hs41.out.size; have := Hs43.out.size; have := Hs45.out.size; have := HC46.out.size; omega))
  have Hbg13 : Hid (Bl 26 w46 w11.heap.size [.slice gx0 gx1 gx2, .slice gy0 gy1 gy2, .bool false]) := Hbg12.out.chf HC46.out (fun hf => by exact hf.elim (fun hf => by have hi := Hvf.out _ hf; have := Hs1.out.size; have := HbP0.out.lt; have := Hs4.out.size; have := Hs5.out.size; have := Hbi0.out.lt; have := Hs8.out.size; have := Hs10.out.size; have := Hs12.out.size; have := Hs13.out.size; have := Hbg0.out.lt; have := Hs16.out.size; have := Hs18.out.size; have := Hs20.out.size; have := Hs21.out.size; have := Hbh0.out.lt; have := Hs23.out.size; have := Hs25.out.size; have := Hs27.out.size; have := Hs29.out.size; have := Hs31.out.size; have := Hs33.out.size; have := Hs35.out.size; have := Hs37.out.size; have := Hs39.out.size; have := Hs41.out.size; have := Hs43.out.size; have := Hs45.out.size; have := HC46.out.size; omega) (fun hf => by have hi := Hvn.out _ hf; have := Hs1.out.size; have := HbP0.out.lt; have := Hs4.out.size; have := Hs5.out.size; have := Hbi0.out.lt; have := Hs8.out.size; have := Hs10.out.size; have := Hs12.out.size; have := Hs13.out.size; have := Hbg0.out.lt; have := Hs16.out.size; have := Hs18.out.size; have := Hs20.out.size; have := Hs21.out.size; have := Hbh0.out.lt; have := Hs23.out.size; have := Hs25.out.size; have := Hs27.out.size; have := Hs29.out.size; have := Hs31.out.size; have := Hs33.out.size; have := Hs35.out.size; have := Hs37.out.size; have := Hs39.out.size; have := Hs41.out.size; have := Hs43.out.size; have := Hs45.out.size; have := HC46.out.size; omega))
  have Hbh2 : Hid (Bl 26 w46 w19.heap.size [.slice hx0 hx1 hx2, .slice hy0 hy1 hy2, .bool false]) := Hbh1.out.chf HC46.out (fun hf => by exact hf.elim (fun hf => by have hi := Hvf.out _ hf; have := Hs1.out.size; have := HbP0.out.lt; have := Hs4.out.size; have := Hs5.out.size; have := Hbi0.out.lt; have := Hs8.out.size; have := Hs10.out.size; have := Hs12.out.size; have := Hs13.out.size; have := Hbg0.out.lt; have := Hs16.out.size; have := Hs18.out.size; have := Hs20.out.size; have := Hs21.out.size; have := Hbh0.out.lt; have := Hs23.out.size; have := Hs25.out.size; have := Hs27.out.size; have := Hs29.out.size; have := Hs31.out.size; have := Hs33.out.size; have := Hs35.out.size; have := Hs37.out.size; have := Hs39.out.size; have := Hs41.out.size; have := Hs43.out.size; have := Hs45.out.size; have := HC46.out.size; omega) (fun hf => by have hi := Hvn.out _ hf; have := Hs1.out.size; have := HbP0.out.lt; have := Hs4.out.size; have := Hs5.out.size; have := Hbi0.out.lt; have := Hs8.out.size; have := Hs10.out.size; have := Hs12.out.size; have := Hs13.out.size; have := Hbg0.out.lt; have := Hs16.out.size; have := Hs18.out.size; have := Hs20.out.size; have := Hs21.out.size; have := Hbh0.out.lt; have := Hs23.out.size; have := Hs25.out.size; have := Hs27.out.size; have := Hs29.out.size; have := Hs31.out.size; have := Hs33.out.size; have := Hs35.out.size; have := Hs37.out.size; have := Hs39.out.size; have := Hs41.out.size; have := Hs43.out.size; have := Hs45.out.size; have := HC46.out.size; omega))
  have kg_0 : w46.cell? ⟨w11.heap.size, 0, none⟩ = some (.slice gx0 gx1 gx2) := Hbg13.out.cell 0 (by simp)
  have kg_1 : w46.cell? ⟨w11.heap.size, 1, none⟩ = some (.slice gy0 gy1 gy2) := Hbg13.out.cell 1 (by simp)
  have kg_2 : w46.cell? ⟨w11.heap.size, 2, none⟩ = some (.bool false) := Hbg13.out.cell 2 (by simp)
  go_wp2_with fail
  clear kg_0 kg_1 kg_2
  refine (spoil_v _ _ _ _ false _ (Hgx3.out.1.base (Nat.zero_le _)) (Hgy3.out.1.base (Nat.zero_le _)) (fun g e1 e2 => Hag.out g e2 e1) (Nat.le_trans Hgx3.out.2.1 (by decide)) (Nat.le_trans Hgy3.out.2.1 (by decide))).mono ?_
  rintro e w47 ⟨rfl, hC⟩
  have HC47 : Hid (Chf (fun k => (Value.slice gx0 gx1 gx2).ownBlock = some k ∨ (Value.slice gy0 gy1 gy2).ownBlock = some k) w46 w47) := hC
  clear hC
  have HB6 : Hid (Below w.heap.size w w47) := HC47.out.below HB5.out (fun k hk hf => by exact hf.elim (fun hf => by have hi := Hvgx.out _ hf; have := Hs1.out.size; have := HbP0.out.lt; have := Hs4.out.size; have := Hs5.out.size; have := Hbi0.out.lt; have := Hs8.out.size; have := Hs10.out.size; have := Hs12.out.size; have := Hs13.out.size; have := Hbg0.out.lt; have := Hs16.out.size; have := Hs18.out.size; have := Hs20.out.size; have := Hs21.out.size; have := Hbh0.out.lt; have := Hs23.out.size; have := Hs25.out.size; have := Hs27.out.size; have := Hs29.out.size; have := Hs31.out.size; have := Hs33.out.size; have := Hs35.out.size; have := Hs37.out.size; have := Hs39.out.size; have := Hs41.out.size; have := Hs43.out.size; have := Hs45.out.size; have := HC46.out.size; have := HC47.out.size; omega) (fun hf => by have hi := Hvgy.out _ hf; have := Hs1.out.size; have := HbP0.out.lt; have := Hs4.out.size; have := Hs5.out.size; have := Hbi0.out.lt; have := Hs8.out.size; have := Hs10.out.size; have := Hs12.out.size; have := Hs13.out.size; have := Hbg0.out.lt; have := Hs16.out.size; have := Hs18.out.size; have := Hs20.out.size; have := Hs21.out.size; have := Hbh0.out.lt; have := Hs23.out.size; have := Hs25.out.size; have := Hs27.out.size; have := Hs29.out.size; have := Hs31.out.size; have := Hs33.out.size; have := Hs35.out.size; have := Hs37.out.size; have := Hs39.out.size; have := Hs41.out.size; have := Hs43.out.size; have := Hs45.out.size; have := HC46.out.size; have := HC47.out.size; omega))
  have Hf2_3 : Hid (Mk w47 wv14.heap.size (.slice f2_0 f2_1 f2_2) F 384) := Hf2_2.out.chf HC47.out (fun g hg hf => by have hj := Hvf2_.out g hg; exact hf.elim (fun hf => by have hi := Hvgx.out _ hf; have := Hs1.out.size; have := HbP0.out.lt; have := Hs4.out.size; have := Hs5.out.size; have := Hbi0.out.lt; have := Hs8.out.size; have := Hs10.out.size; have := Hs12.out.size; have := Hs13.out.size; have := Hbg0.out.lt; have := Hs16.out.size; have := Hs18.out.size; have := Hs20.out.size; have := Hs21.out.size; have := Hbh0.out.lt; have := Hs23.out.size; have := Hs25.out.size; have := Hs27.out.size; have := Hs29.out.size; have := Hs31.out.size; have := Hs33.out.size; have := Hs35.out.size; have := Hs37.out.size; have := Hs39.out.size; have := Hs41.out.size; have := Hs43.out.size; have := Hs45.out.size; have := HC46.out.size; have := HC47.out.size; omega) (fun hf => by have hi := Hvgy.out _ hf; have := Hs1.out.size; have := HbP0.out.lt; have := Hs4.out.size; have := Hs5.out.size; have := Hbi0.out.lt; have := Hs8.out.size; have := Hs10.out.size; have := Hs12.out.size; have := Hs13.out.size; have := Hbg0.out.lt; have := Hs16.out.size; have := Hs18.out.size; have := Hs20.out.size; have := Hs21.out.size; have := Hbh0.out.lt; have := Hs23.out.size; have := Hs25.out.size; have := Hs27.out.size; have := Hs29.out.size; have := Hs31.out.size; have := Hs33.out.size; have := Hs35.out.size; have := Hs37.out.size; have := Hs39.out.size; have := Hs41.out.size; have := Hs43.out.size; have := Hs45.out.size; have := HC46.out.size; have := HC47.out.size; omega))
  have Hn2_3 : Hid (Mk w47 w15.heap.size (.slice n2_0 n2_1 n2_2) N 384) := Hn2_2.out.chf HC47.out (fun g hg hf => by have hj := Hvn2_.out g hg; exact hf.elim (fun hf => by have hi := Hvgx.out _ hf; have := Hs1.out.size; have := HbP0.out.lt; have := Hs4.out.size; have := Hs5.out.size; have := Hbi0.out.lt; have := Hs8.out.size; have := Hs10.out.size; have := Hs12.out.size; have := Hs13.out.size; have := Hbg0.out.lt; have := Hs16.out.size; have := Hs18.out.size; have := Hs20.out.size; have := Hs21.out.size; have := Hbh0.out.lt; have := Hs23.out.size; have := Hs25.out.size; have := Hs27.out.size; have := Hs29.out.size; have := Hs31.out.size; have := Hs33.out.size; have := Hs35.out.size; have := Hs37.out.size; have := Hs39.out.size; have := Hs41.out.size; have := Hs43.out.size; have := Hs45.out.size; have := HC46.out.size; have := HC47.out.size; omega) (fun hf => by have hi := Hvgy.out _ hf; have := Hs1.out.size; have := HbP0.out.lt; have := Hs4.out.size; have := Hs5.out.size; have := Hbi0.out.lt; have := Hs8.out.size; have := Hs10.out.size; have := Hs12.out.size; have := Hs13.out.size; have := Hbg0.out.lt; have := Hs16.out.size; have := Hs18.out.size; have := Hs20.out.size; have := Hs21.out.size; have := Hbh0.out.lt; have := Hs23.out.size; have := Hs25.out.size; have := Hs27.out.size; have := Hs29.out.size; have := Hs31.out.size; have := Hs33.out.size; have := Hs35.out.size; have := Hs37.out.size; have := Hs39.out.size; have := Hs41.out.size; have := Hs43.out.size; have := Hs45.out.size; have := HC46.out.size; have := HC47.out.size; omega))
  have Hhx3 : Hid (Mk w47 w17.heap.size (.slice hx0 hx1 hx2) X 384) := Hhx2.out.chf HC47.out (fun g hg hf => by have hj := Hvhx.out g hg; exact hf.elim (fun hf => by have hi := Hvgx.out _ hf; have := Hs1.out.size; have := HbP0.out.lt; have := Hs4.out.size; have := Hs5.out.size; have := Hbi0.out.lt; have := Hs8.out.size; have := Hs10.out.size; have := Hs12.out.size; have := Hs13.out.size; have := Hbg0.out.lt; have := Hs16.out.size; have := Hs18.out.size; have := Hs20.out.size; have := Hs21.out.size; have := Hbh0.out.lt; have := Hs23.out.size; have := Hs25.out.size; have := Hs27.out.size; have := Hs29.out.size; have := Hs31.out.size; have := Hs33.out.size; have := Hs35.out.size; have := Hs37.out.size; have := Hs39.out.size; have := Hs41.out.size; have := Hs43.out.size; have := Hs45.out.size; have := HC46.out.size; have := HC47.out.size; omega) (fun hf => by have hi := Hvgy.out _ hf; have := Hs1.out.size; have := HbP0.out.lt; have := Hs4.out.size; have := Hs5.out.size; have := Hbi0.out.lt; have := Hs8.out.size; have := Hs10.out.size; have := Hs12.out.size; have := Hs13.out.size; have := Hbg0.out.lt; have := Hs16.out.size; have := Hs18.out.size; have := Hs20.out.size; have := Hs21.out.size; have := Hbh0.out.lt; have := Hs23.out.size; have := Hs25.out.size; have := Hs27.out.size; have := Hs29.out.size; have := Hs31.out.size; have := Hs33.out.size; have := Hs35.out.size; have := Hs37.out.size; have := Hs39.out.size; have := Hs41.out.size; have := Hs43.out.size; have := Hs45.out.size; have := HC46.out.size; have := HC47.out.size; omega))
  have Hhy3 : Hid (Mk w47 w17.heap.size (.slice hy0 hy1 hy2) Y 384) := Hhy2.out.chf HC47.out (fun g hg hf => by have hj := Hvhy.out g hg; exact hf.elim (fun hf => by have hi := Hvgx.out _ hf; have := Hs1.out.size; have := HbP0.out.lt; have := Hs4.out.size; have := Hs5.out.size; have := Hbi0.out.lt; have := Hs8.out.size; have := Hs10.out.size; have := Hs12.out.size; have := Hs13.out.size; have := Hbg0.out.lt; have := Hs16.out.size; have := Hs18.out.size; have := Hs20.out.size; have := Hs21.out.size; have := Hbh0.out.lt; have := Hs23.out.size; have := Hs25.out.size; have := Hs27.out.size; have := Hs29.out.size; have := Hs31.out.size; have := Hs33.out.size; have := Hs35.out.size; have := Hs37.out.size; have := Hs39.out.size; have := Hs41.out.size; have := Hs43.out.size; have := Hs45.out.size; have := HC46.out.size; have := HC47.out.size; omega) (fun hf => by have hi := Hvgy.out _ hf; have := Hs1.out.size; have := HbP0.out.lt; have := Hs4.out.size; have := Hs5.out.size; have := Hbi0.out.lt; have := Hs8.out.size; have := Hs10.out.size; have := Hs12.out.size; have := Hs13.out.size; have := Hbg0.out.lt; have := Hs16.out.size; have := Hs18.out.size; have := Hs20.out.size; have := Hs21.out.size; have := Hbh0.out.lt; have := Hs23.out.size; have := Hs25.out.size; have := Hs27.out.size; have := Hs29.out.size; have := Hs31.out.size; have := Hs33.out.size; have := Hs35.out.size; have := Hs37.out.size; have := Hs39.out.size; have := Hs41.out.size; have := Hs43.out.size; have := Hs45.out.size; have := HC46.out.size; have := HC47.out.size; omega))
  have Hi15 : Hid (Lk w47 wv2.heap.size g1 d1 xs) := Hi14.out.chf HC47.out (fun hf => by have hj := Hvi.out; exact hf.elim (fun hf => by have hi := Hvgx.out _ hf; have := Hs1.out.size; have := HbP0.out.lt; have := Hs4.out.size; have := Hs5.out.size; have := Hbi0.out.lt; have := Hs8.out.size; have := Hs10.out.size; have := Hs12.out.size; have := Hs13.out.size; have := Hbg0.out.lt; have := Hs16.out.size; have := Hs18.out.size; have := Hs20.out.size; have := Hs21.out.size; have := Hbh0.out.lt; have := Hs23.out.size; have := Hs25.out.size; have := Hs27.out.size; have := Hs29.out.size; have := Hs31.out.size; have := Hs33.out.size; have := Hs35.out.size; have := Hs37.out.size; have := Hs39.out.size; have := Hs41.out.size; have := Hs43.out.size; have := Hs45.out.size; have := HC46.out.size; have := HC47.out.size; omega) (fun hf => by have hi := Hvgy.out _ hf; have := Hs1.out.size; have := HbP0.out.lt; have := Hs4.out.size; have := Hs5.out.size; have := Hbi0.out.lt; have := Hs8.out.size; have := Hs10.out.size; have := Hs12.out.size; have := Hs13.out.size; have := Hbg0.out.lt; have := Hs16.out.size; have := Hs18.out.size; have := Hs20.out.size; have := Hs21.out.size; have := Hbh0.out.lt; have := Hs23.out.size; have := Hs25.out.size; have := Hs27.out.size; have := Hs29.out.size; have := Hs31.out.size; have := Hs33.out.size; have := Hs35.out.size; have := Hs37.out.size; have := Hs39.out.size; have := Hs41.out.size; have := Hs43.out.size; have := Hs45.out.size; have := HC46.out.size; have := HC47.out.size; omega))
  have Hi25 : Hid (Lk w47 wv2.heap.size g2 d2 ys) := Hi24.out.chf HC47.out (fun hf => by have hj := Hvi.out; exact hf.elim (fun hf => by have hi := Hvgx.out _ hf; have := Hs1.out.size; have := HbP0.out.lt; have := Hs4.out.size; have := Hs5.out.size; have := Hbi0.out.lt; have := Hs8.out.size; have := Hs10.out.size; have := Hs12.out.size; have := Hs13.out.size; have := Hbg0.out.lt; have := Hs16.out.size; have := Hs18.out.size; have := Hs20.out.size; have := Hs21.out.size; have := Hbh0.out.lt; have := Hs23.out.size; have := Hs25.out.size; have := Hs27.out.size; have := Hs29.out.size; have := Hs31.out.size; have := Hs33.out.size; have := Hs35.out.size; have := Hs37.out.size; have := Hs39.out.size; have := Hs41.out.size; have := Hs43.out.size; have := Hs45.out.size; have := HC46.out.size; have := HC47.out.size; omega) (fun hf => by have hi := Hvgy.out _ hf; have := Hs1.out.size; have := HbP0.out.lt; have := Hs4.out.size; have := Hs5.out.size; have := Hbi0.out.lt; have := Hs8.out.size; have := Hs10.out.size; have := Hs12.out.size; have := Hs13.out.size; have := Hbg0.out.lt; have := Hs16.out.size; have := Hs18.out.size; have := Hs20.out.size; have := Hs21.out.size; have := Hbh0.out.lt; have := Hs23.out.size; have := Hs25.out.size; have := Hs27.out.size; have := Hs29.out.size; have := Hs31.out.size; have := Hs33.out.size; have := Hs35.out.size; have := Hs37.out.size; have := Hs39.out.size; have := Hs41.out.size; have := Hs43.out.size; have := Hs45.out.size; have := HC46.out.size; have := HC47.out.size; omega))
  have HbP14 : Hid (Bl 26 w47 w.heap.size [.slice x0 xs.length x2, .slice y0 ys.length y2, .bool inf]) := HbP13.out.chf HC47.out (fun hf => by exact hf.elim (fun hf => by have hi := Hvgx.out _ hf; have := Hs1.out.size; have := HbP0.out.lt; have := Hs4.out.size; have := Hs5.out.size; have := Hbi0.out.lt; have := Hs8.out.size; have := Hs10.out.size; have := Hs12.out.size; have := Hs13.out.size; have := Hbg0.out.lt; have := Hs16.out.size; have := Hs18.out.size; have := Hs20.out.size; have := Hs21.out.size; have := Hbh0.out.lt; have := Hs23.out.size; have := Hs25.out.size; have := Hs27.out.size; have := Hs29.out.size; have := Hs31.out.size; have := Hs33.out.size; have := Hs35.out.size; have := Hs37.out.size; have := Hs39.out.size; have := Hs41.out.size; have := Hs43.out.size; have := Hs45.out.size; have := HC46.out.size; have := HC47.out.size; omega) (fun hf => by have hi := Hvgy.out _ hf; have := Hs1.out.size; have := HbP0.out.lt; have := Hs4.out.size; have := Hs5.out.size; have := Hbi0.out.lt; have := Hs8.out.size; have := Hs10.out.size; have := Hs12.out.size; have := Hs13.out.size; have := Hbg0.out.lt; have := Hs16.out.size; have := Hs18.out.size; have := Hs20.out.size; have := Hs21.out.size; have := Hbh0.out.lt; have := Hs23.out.size; have := Hs25.out.size; have := Hs27.out.size; have := Hs29.out.size; have := Hs31.out.size; have := Hs33.out.size; have := Hs35.out.size; have := Hs37.out.size; have := Hs39.out.size; have := Hs41.out.size; have := Hs43.out.size; have := Hs45.out.size; have := HC46.out.size; have := HC47.out.size; omega))
  have Hbi14 : Hid (Bl 26 w47 w3.heap.size [.slice (some ⟨g1, 0, none⟩) xs.length d1, .slice (some ⟨g2, 0, none⟩) ys.length d2, .bool inf]) := Hbi13.out.chf HC47.out (fun hf => by exact hf.elim (fun hf => by have hi := Hvgx.out _ hf; have := Hs1.out.size; have := HbP0.out.lt; have := Hs4.out.size; have := Hs5.out.size; have := Hbi0.out.lt; have := Hs8.out.size; have := Hs10.out.size; have := Hs12.out.size; have := Hs13.out.size; have := Hbg0.out.lt; have := Hs16.out.size; have := Hs18.out.size; have := Hs20.out.size; have := Hs21.out.size; have := Hbh0.out.lt; have := Hs23.out.size; have := Hs25.out.size; have := Hs27.out.size; have := Hs29.out.size; have := Hs31.out.size; have := Hs33.out.size; have := Hs35.out.size; have := Hs37.out.size; have := Hs39.out.size; have := Hs41.out.size; have := Hs43.out.size; have := Hs45.out.size; have := HC46.out.size; have := HC47.out.size; omega) (fun hf => by have hi := Hvgy.out _ hf; have := Hs1.out.size; have := HbP0.out.lt; have := Hs4.out.size; have := Hs5.out.size; have := Hbi0.out.lt; have := Hs8.out.size; have := Hs10.out.size; have := Hs12.out.size; have := Hs13.out.size; have := Hbg0.out.lt; have := Hs16.out.size; have := Hs18.out.size; have := Hs20.out.size; have := Hs21.out.size; have := Hbh0.out.lt; have := Hs23.out.size; have := Hs25.out.size; have := Hs27.out.size; have := Hs29.out.size; have := Hs31.out.size; have := Hs33.out.size; have := Hs35.out.size; have := Hs37.out.size; have := Hs39.out.size; have := Hs41.out.size; have := Hs43.out.size; have := Hs45.out.size; have := HC46.out.size; have := HC47.out.size; omega))
  have Hbg14 : Hid (Bl 26 w47 w11.heap.size [.slice gx0 gx1 gx2, .slice gy0 gy1 gy2, .bool false]) := Hbg13.out.chf HC47.out (fun hf => by exact hf.elim (fun hf => by have hi := Hvgx.out _ hf; have := Hs1.out.size; have := HbP0.out.lt; have := Hs4.out.size; have := Hs5.out.size; have := Hbi0.out.lt; have := Hs8.out.size; have := Hs10.out.size; have := Hs12.out.size; have := Hs13.out.size; have := Hbg0.out.lt; have := Hs16.out.size; have := Hs18.out.size; have := Hs20.out.size; have := Hs21.out.size; have := Hbh0.out.lt; have := Hs23.out.size; have := Hs25.out.size; have := Hs27.out.size; have := Hs29.out.size; have := Hs31.out.size; have := Hs33.out.size; have := Hs35.out.size; have := Hs37.out.size; have := Hs39.out.size; have := Hs41.out.size; have := Hs43.out.size; have := Hs45.out.size; have := HC46.out.size; have := HC47.out.size; omega) (fun hf => by have hi := Hvgy.out _ hf; have := Hs1.out.size; have := HbP0.out.lt; have := Hs4.out.size; have := Hs5.out.size; have := Hbi0.out.lt; have := Hs8.out.size; have := Hs10.out.size; have := Hs12.out.size; have := Hs13.out.size; have := Hbg0.out.lt; have := Hs16.out.size; have := Hs18.out.size; have := Hs20.out.size; have := Hs21.out.size; have := Hbh0.out.lt; have := Hs23.out.size; have := Hs25.out.size; have := Hs27.out.size; have := Hs29.out.size; have := Hs31.out.size; have := Hs33.out.size; have := Hs35.out.size; have := Hs37.out.size; have := Hs39.out.size; have := Hs41.out.size; have := Hs43.out.size; have := Hs45.out.size; have := HC46.out.size; have := HC47.out.size; omega))
  have Hbh3 : Hid (Bl 26 w47 w19.heap.size [.slice hx0 hx1 hx2, .slice hy0 hy1 hy2, .bool false]) := Hbh2.out.chf HC47.out (fun hf => by exact hf.elim (fun hf => by have hi := Hvgx.out _ hf; have := Hs1.out.size; have := HbP0.out.lt; have := Hs4.out.size; have := Hs5.out.size; have := Hbi0.out.lt; have := Hs8.out.size; have := Hs10.out.size; have := Hs12.out.size; have := Hs13.out.size; have := Hbg0.out.lt; have := Hs16.out.size; have := Hs18.out.size; have := Hs20.out.size; have := Hs21.out.size; have := Hbh0.out.lt; have := Hs23.out.size; have := Hs25.out.size; have := Hs27.out.size; have := Hs29.out.size; have := Hs31.out.size; have := Hs33.out.size; have := Hs35.out.size; have := Hs37.out.size; have := Hs39.out.size; have := Hs41.out.size; have := Hs43.out.size; have := Hs45.out.size; have := HC46.out.size; have := HC47.out.size; omega) (fun hf => by have hi := Hvgy.out _ hf; have := Hs1.out.size; have := HbP0.out.lt; have := Hs4.out.size; have := Hs5.out.size; have := Hbi0.out.lt; have := Hs8.out.size; have := Hs10.out.size; have := Hs12.out.size; have := Hs13.out.size; have := Hbg0.out.lt; have := Hs16.out.size; have := Hs18.out.size; have := Hs20.out.size; have := Hs21.out.size; have := Hbh0.out.lt; have := Hs23.out.size; have := Hs25.out.size; have := Hs27.out.size; have := Hs29.out.size; have := Hs31.out.size; have := Hs33.out.size; have := Hs35.out.size; have := Hs37.out.size; have := Hs39.out.size; have := Hs41.out.size; have := Hs43.out.size; have := Hs45.out.size; have := HC46.out.size; have := HC47.out.size; omega))
  go_wp2_with fail
  have Hs48 : Hid (Below w47.heap.size w47 w47.drew) := below_drewN (Below.refl _ _) 1
  have Hbh4 : Hid (Bl 26 w47.drew w19.heap.size [.slice hx0 hx1 hx2, .slice hy0 hy1 hy2, .bool false]) := Hbh3.out.below Hs48.out Hbh3.out.lt
  refine wp_region_K 17 (fun (w' : World) => w'.cell? ⟨w19.heap.size, 0, none⟩ = some (.slice hx0 hx1 hx2) ∧ w'.cell? ⟨w19.heap.size, 1, none⟩ = some (.slice hy0 hy1 hy2) ∧ w'.cell? ⟨w19.heap.size, 2, none⟩ = some (.bool false)) (by kernel_rfl) ?_
  have hHeld : ((fun (w' : World) => w'.cell? ⟨w19.heap.size, 0, none⟩ = some (.slice hx0 hx1 hx2) ∧ w'.cell? ⟨w19.heap.size, 1, none⟩ = some (.slice hy0 hy1 hy2) ∧ w'.cell? ⟨w19.heap.size, 2, none⟩ = some (.bool false))) (World.drew _) := ⟨Hbh4.out.cell 0 (by simp), Hbh4.out.cell 1 (by simp), Hbh4.out.cell 2 (by simp)⟩
  refine wpAnyK_take0 0 (v := ?v42) rfl (by kernel_rfl) (fun _ _ _ h => h) (Or.inl ⟨by rfl, ?hy42⟩) (fun _ => hHeld) ?_
  case hy42 => (intro w hSw; go_simp; try with_reducible rfl)
  try simp only [Act.put, List.setIfInBounds_toArray, List.set_cons_zero, List.set_cons_succ]
  refine wpAnyK_take0 1 (v := ?v43) rfl (by kernel_rfl) (fun _ _ _ h => h) (Or.inl ⟨by rfl, ?hy43⟩) (fun _ => hHeld) ?_
  case hy43 => (intro w hSw; go_simp; try with_reducible rfl)
  try simp only [Act.put, List.setIfInBounds_toArray, List.set_cons_zero, List.set_cons_succ]
  refine wpAnyK_take0 2 (v := ?v44) rfl (by kernel_rfl) (fun _ _ _ h => h) (Or.inl ⟨by rfl, ?hy44⟩) (fun _ => hHeld) ?_
  case hy44 => (intro w hSw; go_simp; try with_reducible rfl)
  try simp only [Act.put, List.setIfInBounds_toArray, List.set_cons_zero, List.set_cons_succ]
  refine wpAnyK_take0 3 (v := ?v45) rfl (by kernel_rfl) (fun _ _ _ h => h) (Or.inl ⟨by rfl, ?hy45⟩) (fun _ => hHeld) ?_
  case hy45 => (intro w hSw; go_simp; try with_reducible rfl)
  try simp only [Act.put, List.setIfInBounds_toArray, List.set_cons_zero, List.set_cons_succ]
  refine wpAnyK_step 4 rfl (by kernel_rfl) (fun K hK => ?_)
  go_simp
  refine (A.df _).mono ?_
  rintro e w49 ⟨t4_v, rfl, m, hB⟩
  have Hs50 : Hid (Below w47.drew.heap.size w47.drew w49) := hB
  obtain ⟨t4_0, t4_1, t4_2, rfl⟩ := m.nk.sl
  have Ht2 : Hid (Mk w49 0 (.slice t4_0 t4_1 t4_2) F 384) := m.base (Nat.zero_le _)
  clear m hB
  have Hbh5 : Hid (Bl 26 w49 w19.heap.size [.slice hx0 hx1 hx2, .slice hy0 hy1 hy2, .bool false]) := Hbh4.out.below Hs50.out Hbh4.out.lt
  try dsimp only
  refine hK.out _ _ ?hk46 ?_
  case hk46 => exact fun _ => ⟨Hbh5.out.cell 0 (by simp), Hbh5.out.cell 1 (by simp), Hbh5.out.cell 2 (by simp)⟩
  have hHeld : ((fun (w' : World) => w'.cell? ⟨w19.heap.size, 0, none⟩ = some (.slice hx0 hx1 hx2) ∧ w'.cell? ⟨w19.heap.size, 1, none⟩ = some (.slice hy0 hy1 hy2) ∧ w'.cell? ⟨w19.heap.size, 2, none⟩ = some (.bool false))) _ := ⟨Hbh5.out.cell 0 (by simp), Hbh5.out.cell 1 (by simp), Hbh5.out.cell 2 (by simp)⟩
  clear hK K
  try simp only [Act.put, List.setIfInBounds_toArray, List.set_cons_zero, List.set_cons_succ]
  refine wpAnyK_step 5 rfl (by kernel_rfl) (fun K hK => ?_)
  go_simp
  have Hf2_4 : Hid (Mk w49 wv14.heap.size (.slice f2_0 f2_1 f2_2) F 384) := Hf2_3.out.below (btr Hs48.out Hs50.out)
  refine (sameNat_v _ _ F _ Hf2_4.out.nm Ht2.out.nm Hf2_4.out.2.1).mono ?_
  rintro e w51 ⟨rfl, q_, hq_⟩
  have Hs52 : Hid (Below w49.heap.size w49 w51) := (by rw [hq_]; exact below_drewN (Below.refl _ _) q_ : Below _ _ _)
  clear hq_ q_
  have Hbh6 : Hid (Bl 26 w51 w19.heap.size [.slice hx0 hx1 hx2, .slice hy0 hy1 hy2, .bool false]) := Hbh5.out.below Hs52.out Hbh5.out.lt
  try dsimp only
  refine hK.out _ _ ?hk47 ?_
  case hk47 => exact fun _ => ⟨Hbh6.out.cell 0 (by simp), Hbh6.out.cell 1 (by simp), Hbh6.out.cell 2 (by simp)⟩
  have hHeld : ((fun (w' : World) => w'.cell? ⟨w19.heap.size, 0, none⟩ = some (.slice hx0 hx1 hx2) ∧ w'.cell? ⟨w19.heap.size, 1, none⟩ = some (.slice hy0 hy1 hy2) ∧ w'.cell? ⟨w19.heap.size, 2, none⟩ = some (.bool false))) _ := ⟨Hbh6.out.cell 0 (by simp), Hbh6.out.cell 1 (by simp), Hbh6.out.cell 2 (by simp)⟩
  clear hK K
  try simp only [Act.put, List.setIfInBounds_toArray, List.set_cons_zero, List.set_cons_succ]
  refine wpAnyK_take0 6 (v := ?v48) rfl (by kernel_rfl) (fun _ _ _ h => h) (Or.inl ⟨by rfl, ?hy48⟩) (fun _ => hHeld) ?_
  case hy48 => (intro w hSw; go_simp; try with_reducible rfl)
  try simp only [Act.put, List.setIfInBounds_toArray, List.set_cons_zero, List.set_cons_succ]
  refine wpAnyK_take0 7 (v := ?v49) rfl (by kernel_rfl) (fun _ _ _ h => h) (Or.inl ⟨by rfl, ?hy49⟩) (fun _ => hHeld) ?_
  case hy49 => (intro w hSw; go_simp; try with_reducible rfl)
  try simp only [Act.put, List.setIfInBounds_toArray, List.set_cons_zero, List.set_cons_succ]
  refine wpAnyK_take0 8 (v := ?v50) rfl (by kernel_rfl) (fun _ _ _ h => h) (Or.inl ⟨by rfl, ?hy50⟩) (fun _ => hHeld) ?_
  case hy50 => (intro w hSw; go_simp; try with_reducible rfl)
  try simp only [Act.put, List.setIfInBounds_toArray, List.set_cons_zero, List.set_cons_succ]
  refine wpAnyK_take0 9 (v := ?v51) rfl (by kernel_rfl) (fun _ _ _ h => h) (Or.inl ⟨by rfl, ?hy51⟩) (fun _ => hHeld) ?_
  case hy51 => (intro w hSw; go_simp; try with_reducible rfl)
  try simp only [Act.put, List.setIfInBounds_toArray, List.set_cons_zero, List.set_cons_succ]
  refine wpAnyK_step 10 rfl (by kernel_rfl) (fun K hK => ?_)
  go_simp
  refine (A.dO _).mono ?_
  rintro e w53 ⟨t5_v, rfl, m, hB⟩
  have Hs54 : Hid (Below w51.heap.size w51 w53) := hB
  obtain ⟨t5_0, t5_1, t5_2, rfl⟩ := m.nk.sl
  have Ht3 : Hid (Mk w53 0 (.slice t5_0 t5_1 t5_2) N 384) := m.base (Nat.zero_le _)
  clear m hB
  have Hbh7 : Hid (Bl 26 w53 w19.heap.size [.slice hx0 hx1 hx2, .slice hy0 hy1 hy2, .bool false]) := Hbh6.out.below Hs54.out Hbh6.out.lt
  try dsimp only
  refine hK.out _ _ ?hk52 ?_
  case hk52 => exact fun _ => ⟨Hbh7.out.cell 0 (by simp), Hbh7.out.cell 1 (by simp), Hbh7.out.cell 2 (by simp)⟩
  have hHeld : ((fun (w' : World) => w'.cell? ⟨w19.heap.size, 0, none⟩ = some (.slice hx0 hx1 hx2) ∧ w'.cell? ⟨w19.heap.size, 1, none⟩ = some (.slice hy0 hy1 hy2) ∧ w'.cell? ⟨w19.heap.size, 2, none⟩ = some (.bool false))) _ := ⟨Hbh7.out.cell 0 (by simp), Hbh7.out.cell 1 (by simp), Hbh7.out.cell 2 (by simp)⟩
  clear hK K
  try simp only [Act.put, List.setIfInBounds_toArray, List.set_cons_zero, List.set_cons_succ]
  refine wpAnyK_step 11 rfl (by kernel_rfl) (fun K hK => ?_)
  go_simp
  have Hn2_4 : Hid (Mk w53 w15.heap.size (.slice n2_0 n2_1 n2_2) N 384) := Hn2_3.out.below (btr Hs48.out (btr Hs50.out (btr Hs52.out Hs54.out)))
  refine (sameNat_v _ _ N _ Hn2_4.out.nm Ht3.out.nm Hn2_4.out.2.1).mono ?_
  rintro e w55 ⟨rfl, q_, hq_⟩
  have Hs56 : Hid (Below w53.heap.size w53 w55) := (by rw [hq_]; exact below_drewN (Below.refl _ _) q_ : Below _ _ _)
  clear hq_ q_
  have Hbh8 : Hid (Bl 26 w55 w19.heap.size [.slice hx0 hx1 hx2, .slice hy0 hy1 hy2, .bool false]) := Hbh7.out.below Hs56.out Hbh7.out.lt
  try dsimp only
  refine hK.out _ _ ?hk53 ?_
  case hk53 => exact fun _ => ⟨Hbh8.out.cell 0 (by simp), Hbh8.out.cell 1 (by simp), Hbh8.out.cell 2 (by simp)⟩
  have hHeld : ((fun (w' : World) => w'.cell? ⟨w19.heap.size, 0, none⟩ = some (.slice hx0 hx1 hx2) ∧ w'.cell? ⟨w19.heap.size, 1, none⟩ = some (.slice hy0 hy1 hy2) ∧ w'.cell? ⟨w19.heap.size, 2, none⟩ = some (.bool false))) _ := ⟨Hbh8.out.cell 0 (by simp), Hbh8.out.cell 1 (by simp), Hbh8.out.cell 2 (by simp)⟩
  clear hK K
  try simp only [Act.put, List.setIfInBounds_toArray, List.set_cons_zero, List.set_cons_succ]
  refine wpAnyK_take0 12 (v := ?v54) rfl (by kernel_rfl) (fun _ _ _ h => h) (Or.inl ⟨by rfl, ?hy54⟩) (fun _ => hHeld) ?_
  case hy54 => (intro w hSw; go_simp; try with_reducible rfl)
  try simp only [Act.put, List.setIfInBounds_toArray, List.set_cons_zero, List.set_cons_succ]
  refine wpAnyK_take0 13 (v := ?v55) rfl (by kernel_rfl) (fun _ _ _ h => h) (Or.inl ⟨by rfl, ?hy55⟩) (fun _ => hHeld) ?_
  case hy55 => (intro w hSw; go_simp; try with_reducible rfl)
  try simp only [Act.put, List.setIfInBounds_toArray, List.set_cons_zero, List.set_cons_succ]
  refine wpAnyK_take 14 [17] (v := ?v56) rfl (by kernel_rfl) (fun _ _ _ h => h) (Or.inl ⟨by rfl, ?hy56⟩) hHeld ?_
  case hy56 => (intro w hSw; (try dsimp only at hSw); go_simp; try with_reducible rfl)
  try simp only [Act.put, List.setIfInBounds_toArray, List.set_cons_zero, List.set_cons_succ]
  refine wpAnyK_take0 15 (v := ?v57) rfl (by kernel_rfl) (fun _ _ _ h => h) (Or.inl ⟨by rfl, ?hy57⟩) (fun _ => hHeld) ?_
  case hy57 => (intro w hSw; go_simp; try with_reducible rfl)
  try simp only [Act.put, List.setIfInBounds_toArray, List.set_cons_zero, List.set_cons_succ]
  refine wpAnyK_step 16 rfl (by kernel_rfl) (fun K hK => ?_)
  go_simp
  refine (A.db _).mono ?_
  rintro e w57 ⟨t6_xv, t6_yv, rfl, m, m', ma, hB⟩
  have Hs58 : Hid (Below w55.heap.size w55 w57) := hB
  obtain ⟨t6_x0, t6_x1, t6_x2, rfl⟩ := m.nk.sl
  have Htx1 : Hid (Mk w57 0 (.slice t6_x0 t6_x1 t6_x2) X 384) := m.base (Nat.zero_le _)
  obtain ⟨t6_y0, t6_y1, t6_y2, rfl⟩ := m'.nk.sl
  have Hty1 : Hid (Mk w57 0 (.slice t6_y0 t6_y1 t6_y2) Y 384) := m'.base (Nat.zero_le _)
  clear m m' ma hB
  have Hbh9 : Hid (Bl 26 w57 w19.heap.size [.slice hx0 hx1 hx2, .slice hy0 hy1 hy2, .bool false]) := Hbh8.out.below Hs58.out Hbh8.out.lt
  try dsimp only
  refine hK.out _ _ ?hk58 ?_
  case hk58 => exact fun _ => ⟨Hbh9.out.cell 0 (by simp), Hbh9.out.cell 1 (by simp), Hbh9.out.cell 2 (by simp)⟩
  have hHeld : ((fun (w' : World) => w'.cell? ⟨w19.heap.size, 0, none⟩ = some (.slice hx0 hx1 hx2) ∧ w'.cell? ⟨w19.heap.size, 1, none⟩ = some (.slice hy0 hy1 hy2) ∧ w'.cell? ⟨w19.heap.size, 2, none⟩ = some (.bool false))) _ := ⟨Hbh9.out.cell 0 (by simp), Hbh9.out.cell 1 (by simp), Hbh9.out.cell 2 (by simp)⟩
  clear hK K
  try simp only [Act.put, List.setIfInBounds_toArray, List.set_cons_zero, List.set_cons_succ]
  refine wpAnyK_step 17 rfl (by kernel_rfl) (fun K hK => ?_)
  go_simp
  have Hhx4 : Hid (Mk w57 w17.heap.size (.slice hx0 hx1 hx2) X 384) := Hhx3.out.below (btr Hs48.out (btr Hs50.out (btr Hs52.out (btr Hs54.out (btr Hs56.out Hs58.out)))))
  have Hhy4 : Hid (Mk w57 w17.heap.size (.slice hy0 hy1 hy2) Y 384) := Hhy3.out.below (btr Hs48.out (btr Hs50.out (btr Hs52.out (btr Hs54.out (btr Hs56.out Hs58.out)))))
  refine (same_v _ _ _ _ X Y false _ Hhx4.out.nm Hhy4.out.nm Htx1.out.nm Hty1.out.nm Hhx4.out.2.1 Hhy4.out.2.1).mono ?_
  rintro e w59 ⟨rfl, hB⟩
  have Hs60 : Hid (Below w57.heap.size w57 w59) := hB
  clear hB
  have Hbh10 : Hid (Bl 26 w59 w19.heap.size [.slice hx0 hx1 hx2, .slice hy0 hy1 hy2, .bool false]) := Hbh9.out.below Hs60.out Hbh9.out.lt
  try dsimp only
  refine hK.out _ _ ?hk59 ?_
  case hk59 => exact fun _ => ⟨Hbh10.out.cell 0 (by simp), Hbh10.out.cell 1 (by simp), Hbh10.out.cell 2 (by simp)⟩
  have hHeld : ((fun (w' : World) => w'.cell? ⟨w19.heap.size, 0, none⟩ = some (.slice hx0 hx1 hx2) ∧ w'.cell? ⟨w19.heap.size, 1, none⟩ = some (.slice hy0 hy1 hy2) ∧ w'.cell? ⟨w19.heap.size, 2, none⟩ = some (.bool false))) _ := ⟨Hbh10.out.cell 0 (by simp), Hbh10.out.cell 1 (by simp), Hbh10.out.cell 2 (by simp)⟩
  clear hK K
  try simp only [Act.put, List.setIfInBounds_toArray, List.set_cons_zero, List.set_cons_succ]
  refine wpAnyK_take0 18 (v := ?v60) rfl (by kernel_rfl) (fun _ _ _ h => h) (Or.inl ⟨by rfl, ?hy60⟩) (fun _ => hHeld) ?_
  case hy60 => (intro w hSw; go_simp; try with_reducible rfl)
  try simp only [Act.put, List.setIfInBounds_toArray, List.set_cons_zero, List.set_cons_succ]
  refine wpAnyK_take0 19 (v := ?v61) rfl (by kernel_rfl) (fun _ _ _ h => h) (Or.inl ⟨by rfl, ?hy61⟩) (fun _ => hHeld) ?_
  case hy61 => (intro w hSw; go_simp; try with_reducible rfl)
  try simp only [Act.put, List.setIfInBounds_toArray, List.set_cons_zero, List.set_cons_succ]
  refine wpAnyK_done (by kernel_rfl) ?_ _
  go_wp2_with fail
  have Hs61 : Hid (Below w59.heap.size w59 w59.drew) := below_drewN (Below.refl _ _) 1
  have Hbi15 : Hid (Bl 26 w59.drew w3.heap.size [.slice (some ⟨g1, 0, none⟩) xs.length d1, .slice (some ⟨g2, 0, none⟩) ys.length d2, .bool inf]) := Hbi14.out.below (btr Hs48.out (btr Hs50.out (btr Hs52.out (btr Hs54.out (btr Hs56.out (btr Hs58.out (btr Hs60.out Hs61.out))))))) Hbi14.out.lt
  have HbP15 : Hid (Bl 26 w59.drew w.heap.size [.slice x0 xs.length x2, .slice y0 ys.length y2, .bool inf]) := HbP14.out.below (btr Hs48.out (btr Hs50.out (btr Hs52.out (btr Hs54.out (btr Hs56.out (btr Hs58.out (btr Hs60.out Hs61.out))))))) HbP14.out.lt
  refine wp_region_K 28 (fun (w' : World) => w'.cell? ⟨w3.heap.size, 0, none⟩ = some (.slice (some ⟨g1, 0, none⟩) xs.length d1) ∧ w'.cell? ⟨w3.heap.size, 1, none⟩ = some (.slice (some ⟨g2, 0, none⟩) ys.length d2) ∧ w'.cell? ⟨w3.heap.size, 2, none⟩ = some (.bool inf) ∧ w'.cell? ⟨w.heap.size, 0, none⟩ = some (.slice x0 xs.length x2) ∧ w'.cell? ⟨w.heap.size, 1, none⟩ = some (.slice y0 ys.length y2) ∧ w'.cell? ⟨w.heap.size, 2, none⟩ = some (.bool inf)) (by kernel_rfl) ?_
  have hHeld : ((fun (w' : World) => w'.cell? ⟨w3.heap.size, 0, none⟩ = some (.slice (some ⟨g1, 0, none⟩) xs.length d1) ∧ w'.cell? ⟨w3.heap.size, 1, none⟩ = some (.slice (some ⟨g2, 0, none⟩) ys.length d2) ∧ w'.cell? ⟨w3.heap.size, 2, none⟩ = some (.bool inf) ∧ w'.cell? ⟨w.heap.size, 0, none⟩ = some (.slice x0 xs.length x2) ∧ w'.cell? ⟨w.heap.size, 1, none⟩ = some (.slice y0 ys.length y2) ∧ w'.cell? ⟨w.heap.size, 2, none⟩ = some (.bool inf))) (World.drew _) := ⟨Hbi15.out.cell 0 (by simp), Hbi15.out.cell 1 (by simp), Hbi15.out.cell 2 (by simp), HbP15.out.cell 0 (by simp), HbP15.out.cell 1 (by simp), HbP15.out.cell 2 (by simp)⟩
  refine wpAnyK_take0 0 (v := ?v62) rfl (by kernel_rfl) (fun _ _ _ h => h) (Or.inl ⟨by rfl, ?hy62⟩) (fun _ => hHeld) ?_
  case hy62 => (intro w hSw; go_simp; try with_reducible rfl)
  try simp only [Act.put, List.setIfInBounds_toArray, List.set_cons_zero, List.set_cons_succ]
  refine wpAnyK_take0 1 (v := ?v63) rfl (by kernel_rfl) (fun _ _ _ h => h) (Or.inl ⟨by rfl, ?hy63⟩) (fun _ => hHeld) ?_
  case hy63 => (intro w hSw; go_simp; try with_reducible rfl)
  try simp only [Act.put, List.setIfInBounds_toArray, List.set_cons_zero, List.set_cons_succ]
  refine wpAnyK_take0 2 (v := ?v64) rfl (by kernel_rfl) (fun _ _ _ h => h) (Or.inl ⟨by rfl, ?hy64⟩) (fun _ => hHeld) ?_
  case hy64 => (intro w hSw; go_simp; try with_reducible rfl)
  try simp only [Act.put, List.setIfInBounds_toArray, List.set_cons_zero, List.set_cons_succ]
  refine wpAnyK_take0 4 (v := ?v65) rfl (by kernel_rfl) (fun _ _ _ h => h) (Or.inl ⟨by rfl, ?hy65⟩) (fun _ => hHeld) ?_
  case hy65 => (intro w hSw; go_simp; try with_reducible rfl)
  try simp only [Act.put, List.setIfInBounds_toArray, List.set_cons_zero, List.set_cons_succ]
  refine wpAnyK_step 3 rfl (by kernel_rfl) (fun K hK => ?_)
  go_simp
  refine (A.pf _).mono ?_
  rintro e w62 ⟨t7_v, rfl, m, hB⟩
  have Hs63 : Hid (Below w59.drew.heap.size w59.drew w62) := hB
  obtain ⟨t7_0, t7_1, t7_2, rfl⟩ := m.nk.sl
  have Hs0 : Hid (Mk w62 0 (.slice t7_0 t7_1 t7_2) F 384) := m.base (Nat.zero_le _)
  clear m hB
  have Hbi16 : Hid (Bl 26 w62 w3.heap.size [.slice (some ⟨g1, 0, none⟩) xs.length d1, .slice (some ⟨g2, 0, none⟩) ys.length d2, .bool inf]) := Hbi15.out.below Hs63.out Hbi15.out.lt
  have HbP16 : Hid (Bl 26 w62 w.heap.size [.slice x0 xs.length x2, .slice y0 ys.length y2, .bool inf]) := HbP15.out.below Hs63.out HbP15.out.lt
  try dsimp only
  refine hK.out _ _ ?hk66 ?_
  case hk66 => exact fun _ => ⟨Hbi16.out.cell 0 (by simp), Hbi16.out.cell 1 (by simp), Hbi16.out.cell 2 (by simp), HbP16.out.cell 0 (by simp), HbP16.out.cell 1 (by simp), HbP16.out.cell 2 (by simp)⟩
  have hHeld : ((fun (w' : World) => w'.cell? ⟨w3.heap.size, 0, none⟩ = some (.slice (some ⟨g1, 0, none⟩) xs.length d1) ∧ w'.cell? ⟨w3.heap.size, 1, none⟩ = some (.slice (some ⟨g2, 0, none⟩) ys.length d2) ∧ w'.cell? ⟨w3.heap.size, 2, none⟩ = some (.bool inf) ∧ w'.cell? ⟨w.heap.size, 0, none⟩ = some (.slice x0 xs.length x2) ∧ w'.cell? ⟨w.heap.size, 1, none⟩ = some (.slice y0 ys.length y2) ∧ w'.cell? ⟨w.heap.size, 2, none⟩ = some (.bool inf))) _ := ⟨Hbi16.out.cell 0 (by simp), Hbi16.out.cell 1 (by simp), Hbi16.out.cell 2 (by simp), HbP16.out.cell 0 (by simp), HbP16.out.cell 1 (by simp), HbP16.out.cell 2 (by simp)⟩
  clear hK K
  try simp only [Act.put, List.setIfInBounds_toArray, List.set_cons_zero, List.set_cons_succ]
  refine wpAnyK_step 5 rfl (by kernel_rfl) (fun K hK => ?_)
  go_simp
  refine (A.df _).mono ?_
  rintro e w64 ⟨t8_v, rfl, m, hB⟩
  have Hs65 : Hid (Below w62.heap.size w62 w64) := hB
  obtain ⟨t8_0, t8_1, t8_2, rfl⟩ := m.nk.sl
  have Ht4 : Hid (Mk w64 0 (.slice t8_0 t8_1 t8_2) F 384) := m.base (Nat.zero_le _)
  clear m hB
  have Hbi17 : Hid (Bl 26 w64 w3.heap.size [.slice (some ⟨g1, 0, none⟩) xs.length d1, .slice (some ⟨g2, 0, none⟩) ys.length d2, .bool inf]) := Hbi16.out.below Hs65.out Hbi16.out.lt
  have HbP17 : Hid (Bl 26 w64 w.heap.size [.slice x0 xs.length x2, .slice y0 ys.length y2, .bool inf]) := HbP16.out.below Hs65.out HbP16.out.lt
  try dsimp only
  refine hK.out _ _ ?hk67 ?_
  case hk67 => exact fun _ => ⟨Hbi17.out.cell 0 (by simp), Hbi17.out.cell 1 (by simp), Hbi17.out.cell 2 (by simp), HbP17.out.cell 0 (by simp), HbP17.out.cell 1 (by simp), HbP17.out.cell 2 (by simp)⟩
  have hHeld : ((fun (w' : World) => w'.cell? ⟨w3.heap.size, 0, none⟩ = some (.slice (some ⟨g1, 0, none⟩) xs.length d1) ∧ w'.cell? ⟨w3.heap.size, 1, none⟩ = some (.slice (some ⟨g2, 0, none⟩) ys.length d2) ∧ w'.cell? ⟨w3.heap.size, 2, none⟩ = some (.bool inf) ∧ w'.cell? ⟨w.heap.size, 0, none⟩ = some (.slice x0 xs.length x2) ∧ w'.cell? ⟨w.heap.size, 1, none⟩ = some (.slice y0 ys.length y2) ∧ w'.cell? ⟨w.heap.size, 2, none⟩ = some (.bool inf))) _ := ⟨Hbi17.out.cell 0 (by simp), Hbi17.out.cell 1 (by simp), Hbi17.out.cell 2 (by simp), HbP17.out.cell 0 (by simp), HbP17.out.cell 1 (by simp), HbP17.out.cell 2 (by simp)⟩
  clear hK K
  try simp only [Act.put, List.setIfInBounds_toArray, List.set_cons_zero, List.set_cons_succ]
  refine wpAnyK_step 6 rfl (by kernel_rfl) (fun K hK => ?_)
  go_simp
  have Hs1 : Hid (Mk w64 0 (.slice t7_0 t7_1 t7_2) F 384) := Hs0.out.below Hs65.out
  refine (sameNat_v _ _ F _ Hs1.out.nm Ht4.out.nm Hs1.out.2.1).mono ?_
  rintro e w66 ⟨rfl, q_, hq_⟩
  have Hs67 : Hid (Below w64.heap.size w64 w66) := (by rw [hq_]; exact below_drewN (Below.refl _ _) q_ : Below _ _ _)
  clear hq_ q_
  have Hbi18 : Hid (Bl 26 w66 w3.heap.size [.slice (some ⟨g1, 0, none⟩) xs.length d1, .slice (some ⟨g2, 0, none⟩) ys.length d2, .bool inf]) := Hbi17.out.below Hs67.out Hbi17.out.lt
  have HbP18 : Hid (Bl 26 w66 w.heap.size [.slice x0 xs.length x2, .slice y0 ys.length y2, .bool inf]) := HbP17.out.below Hs67.out HbP17.out.lt
  try dsimp only
  refine hK.out _ _ ?hk68 ?_
  case hk68 => exact fun _ => ⟨Hbi18.out.cell 0 (by simp), Hbi18.out.cell 1 (by simp), Hbi18.out.cell 2 (by simp), HbP18.out.cell 0 (by simp), HbP18.out.cell 1 (by simp), HbP18.out.cell 2 (by simp)⟩
  have hHeld : ((fun (w' : World) => w'.cell? ⟨w3.heap.size, 0, none⟩ = some (.slice (some ⟨g1, 0, none⟩) xs.length d1) ∧ w'.cell? ⟨w3.heap.size, 1, none⟩ = some (.slice (some ⟨g2, 0, none⟩) ys.length d2) ∧ w'.cell? ⟨w3.heap.size, 2, none⟩ = some (.bool inf) ∧ w'.cell? ⟨w.heap.size, 0, none⟩ = some (.slice x0 xs.length x2) ∧ w'.cell? ⟨w.heap.size, 1, none⟩ = some (.slice y0 ys.length y2) ∧ w'.cell? ⟨w.heap.size, 2, none⟩ = some (.bool inf))) _ := ⟨Hbi18.out.cell 0 (by simp), Hbi18.out.cell 1 (by simp), Hbi18.out.cell 2 (by simp), HbP18.out.cell 0 (by simp), HbP18.out.cell 1 (by simp), HbP18.out.cell 2 (by simp)⟩
  clear hK K
  try simp only [Act.put, List.setIfInBounds_toArray, List.set_cons_zero, List.set_cons_succ]
  refine wpAnyK_take0 7 (v := ?v69) rfl (by kernel_rfl) (fun _ _ _ h => h) (Or.inl ⟨by rfl, ?hy69⟩) (fun _ => hHeld) ?_
  case hy69 => (intro w hSw; go_simp; try with_reducible rfl)
  try simp only [Act.put, List.setIfInBounds_toArray, List.set_cons_zero, List.set_cons_succ]
  refine wpAnyK_take0 8 (v := ?v70) rfl (by kernel_rfl) (fun _ _ _ h => h) (Or.inl ⟨by rfl, ?hy70⟩) (fun _ => hHeld) ?_
  case hy70 => (intro w hSw; go_simp; try with_reducible rfl)
  try simp only [Act.put, List.setIfInBounds_toArray, List.set_cons_zero, List.set_cons_succ]
  refine wpAnyK_take0 9 (v := ?v71) rfl (by kernel_rfl) (fun _ _ _ h => h) (Or.inl ⟨by rfl, ?hy71⟩) (fun _ => hHeld) ?_
  case hy71 => (intro w hSw; go_simp; try with_reducible rfl)
  try simp only [Act.put, List.setIfInBounds_toArray, List.set_cons_zero, List.set_cons_succ]
  refine wpAnyK_take0 11 (v := ?v72) rfl (by kernel_rfl) (fun _ _ _ h => h) (Or.inl ⟨by rfl, ?hy72⟩) (fun _ => hHeld) ?_
  case hy72 => (intro w hSw; go_simp; try with_reducible rfl)
  try simp only [Act.put, List.setIfInBounds_toArray, List.set_cons_zero, List.set_cons_succ]
  refine wpAnyK_step 10 rfl (by kernel_rfl) (fun K hK => ?_)
  go_simp
  refine (A.po _).mono ?_
  rintro e w68 ⟨t9_v, rfl, m, hB⟩
  have Hs69 : Hid (Below w66.heap.size w66 w68) := hB
  obtain ⟨t9_0, t9_1, t9_2, rfl⟩ := m.nk.sl
  have Hs2 : Hid (Mk w68 0 (.slice t9_0 t9_1 t9_2) N 384) := m.base (Nat.zero_le _)
  clear m hB
  have Hbi19 : Hid (Bl 26 w68 w3.heap.size [.slice (some ⟨g1, 0, none⟩) xs.length d1, .slice (some ⟨g2, 0, none⟩) ys.length d2, .bool inf]) := Hbi18.out.below Hs69.out Hbi18.out.lt
  have HbP19 : Hid (Bl 26 w68 w.heap.size [.slice x0 xs.length x2, .slice y0 ys.length y2, .bool inf]) := HbP18.out.below Hs69.out HbP18.out.lt
  try dsimp only
  refine hK.out _ _ ?hk73 ?_
  case hk73 => exact fun _ => ⟨Hbi19.out.cell 0 (by simp), Hbi19.out.cell 1 (by simp), Hbi19.out.cell 2 (by simp), HbP19.out.cell 0 (by simp), HbP19.out.cell 1 (by simp), HbP19.out.cell 2 (by simp)⟩
  have hHeld : ((fun (w' : World) => w'.cell? ⟨w3.heap.size, 0, none⟩ = some (.slice (some ⟨g1, 0, none⟩) xs.length d1) ∧ w'.cell? ⟨w3.heap.size, 1, none⟩ = some (.slice (some ⟨g2, 0, none⟩) ys.length d2) ∧ w'.cell? ⟨w3.heap.size, 2, none⟩ = some (.bool inf) ∧ w'.cell? ⟨w.heap.size, 0, none⟩ = some (.slice x0 xs.length x2) ∧ w'.cell? ⟨w.heap.size, 1, none⟩ = some (.slice y0 ys.length y2) ∧ w'.cell? ⟨w.heap.size, 2, none⟩ = some (.bool inf))) _ := ⟨Hbi19.out.cell 0 (by simp), Hbi19.out.cell 1 (by simp), Hbi19.out.cell 2 (by simp), HbP19.out.cell 0 (by simp), HbP19.out.cell 1 (by simp), HbP19.out.cell 2 (by simp)⟩
  clear hK K
  try simp only [Act.put, List.setIfInBounds_toArray, List.set_cons_zero, List.set_cons_succ]
  refine wpAnyK_step 12 rfl (by kernel_rfl) (fun K hK => ?_)
  go_simp
  refine (A.dO _).mono ?_
  rintro e w70 ⟨t10_v, rfl, m, hB⟩
  have Hs71 : Hid (Below w68.heap.size w68 w70) := hB
  obtain ⟨t10_0, t10_1, t10_2, rfl⟩ := m.nk.sl
  have Ht5 : Hid (Mk w70 0 (.slice t10_0 t10_1 t10_2) N 384) := m.base (Nat.zero_le _)
  clear m hB
  have Hbi20 : Hid (Bl 26 w70 w3.heap.size [.slice (some ⟨g1, 0, none⟩) xs.length d1, .slice (some ⟨g2, 0, none⟩) ys.length d2, .bool inf]) := Hbi19.out.below Hs71.out Hbi19.out.lt
  have HbP20 : Hid (Bl 26 w70 w.heap.size [.slice x0 xs.length x2, .slice y0 ys.length y2, .bool inf]) := HbP19.out.below Hs71.out HbP19.out.lt
  try dsimp only
  refine hK.out _ _ ?hk74 ?_
  case hk74 => exact fun _ => ⟨Hbi20.out.cell 0 (by simp), Hbi20.out.cell 1 (by simp), Hbi20.out.cell 2 (by simp), HbP20.out.cell 0 (by simp), HbP20.out.cell 1 (by simp), HbP20.out.cell 2 (by simp)⟩
  have hHeld : ((fun (w' : World) => w'.cell? ⟨w3.heap.size, 0, none⟩ = some (.slice (some ⟨g1, 0, none⟩) xs.length d1) ∧ w'.cell? ⟨w3.heap.size, 1, none⟩ = some (.slice (some ⟨g2, 0, none⟩) ys.length d2) ∧ w'.cell? ⟨w3.heap.size, 2, none⟩ = some (.bool inf) ∧ w'.cell? ⟨w.heap.size, 0, none⟩ = some (.slice x0 xs.length x2) ∧ w'.cell? ⟨w.heap.size, 1, none⟩ = some (.slice y0 ys.length y2) ∧ w'.cell? ⟨w.heap.size, 2, none⟩ = some (.bool inf))) _ := ⟨Hbi20.out.cell 0 (by simp), Hbi20.out.cell 1 (by simp), Hbi20.out.cell 2 (by simp), HbP20.out.cell 0 (by simp), HbP20.out.cell 1 (by simp), HbP20.out.cell 2 (by simp)⟩
  clear hK K
  try simp only [Act.put, List.setIfInBounds_toArray, List.set_cons_zero, List.set_cons_succ]
  refine wpAnyK_step 13 rfl (by kernel_rfl) (fun K hK => ?_)
  go_simp
  have Hs3 : Hid (Mk w70 0 (.slice t9_0 t9_1 t9_2) N 384) := Hs2.out.below Hs71.out
  refine (sameNat_v _ _ N _ Hs3.out.nm Ht5.out.nm Hs3.out.2.1).mono ?_
  rintro e w72 ⟨rfl, q_, hq_⟩
  have Hs73 : Hid (Below w70.heap.size w70 w72) := (by rw [hq_]; exact below_drewN (Below.refl _ _) q_ : Below _ _ _)
  clear hq_ q_
  have Hbi21 : Hid (Bl 26 w72 w3.heap.size [.slice (some ⟨g1, 0, none⟩) xs.length d1, .slice (some ⟨g2, 0, none⟩) ys.length d2, .bool inf]) := Hbi20.out.below Hs73.out Hbi20.out.lt
  have HbP21 : Hid (Bl 26 w72 w.heap.size [.slice x0 xs.length x2, .slice y0 ys.length y2, .bool inf]) := HbP20.out.below Hs73.out HbP20.out.lt
  try dsimp only
  refine hK.out _ _ ?hk75 ?_
  case hk75 => exact fun _ => ⟨Hbi21.out.cell 0 (by simp), Hbi21.out.cell 1 (by simp), Hbi21.out.cell 2 (by simp), HbP21.out.cell 0 (by simp), HbP21.out.cell 1 (by simp), HbP21.out.cell 2 (by simp)⟩
  have hHeld : ((fun (w' : World) => w'.cell? ⟨w3.heap.size, 0, none⟩ = some (.slice (some ⟨g1, 0, none⟩) xs.length d1) ∧ w'.cell? ⟨w3.heap.size, 1, none⟩ = some (.slice (some ⟨g2, 0, none⟩) ys.length d2) ∧ w'.cell? ⟨w3.heap.size, 2, none⟩ = some (.bool inf) ∧ w'.cell? ⟨w.heap.size, 0, none⟩ = some (.slice x0 xs.length x2) ∧ w'.cell? ⟨w.heap.size, 1, none⟩ = some (.slice y0 ys.length y2) ∧ w'.cell? ⟨w.heap.size, 2, none⟩ = some (.bool inf))) _ := ⟨Hbi21.out.cell 0 (by simp), Hbi21.out.cell 1 (by simp), Hbi21.out.cell 2 (by simp), HbP21.out.cell 0 (by simp), HbP21.out.cell 1 (by simp), HbP21.out.cell 2 (by simp)⟩
  clear hK K
  try simp only [Act.put, List.setIfInBounds_toArray, List.set_cons_zero, List.set_cons_succ]
  refine wpAnyK_take0 14 (v := ?v76) rfl (by kernel_rfl) (fun _ _ _ h => h) (Or.inl ⟨by rfl, ?hy76⟩) (fun _ => hHeld) ?_
  case hy76 => (intro w hSw; go_simp; try with_reducible rfl)
  try simp only [Act.put, List.setIfInBounds_toArray, List.set_cons_zero, List.set_cons_succ]
  refine wpAnyK_take0 15 (v := ?v77) rfl (by kernel_rfl) (fun _ _ _ h => h) (Or.inl ⟨by rfl, ?hy77⟩) (fun _ => hHeld) ?_
  case hy77 => (intro w hSw; go_simp; try with_reducible rfl)
  try simp only [Act.put, List.setIfInBounds_toArray, List.set_cons_zero, List.set_cons_succ]
  refine wpAnyK_take0 16 (v := ?v78) rfl (by kernel_rfl) (fun _ _ _ h => h) (Or.inl ⟨by rfl, ?hy78⟩) (fun _ => hHeld) ?_
  case hy78 => (intro w hSw; go_simp; try with_reducible rfl)
  try simp only [Act.put, List.setIfInBounds_toArray, List.set_cons_zero, List.set_cons_succ]
  refine wpAnyK_take0 18 (v := ?v79) rfl (by kernel_rfl) (fun _ _ _ h => h) (Or.inl ⟨by rfl, ?hy79⟩) (fun _ => hHeld) ?_
  case hy79 => (intro w hSw; go_simp; try with_reducible rfl)
  try simp only [Act.put, List.setIfInBounds_toArray, List.set_cons_zero, List.set_cons_succ]
  refine wpAnyK_step 17 rfl (by kernel_rfl) (fun K hK => ?_)
  go_simp
  refine (A.pb _).mono ?_
  rintro e w74 ⟨t11_xv, t11_yv, rfl, m, m', ma, hB⟩
  have Hs75 : Hid (Below w72.heap.size w72 w74) := hB
  obtain ⟨t11_x0, t11_x1, t11_x2, rfl⟩ := m.nk.sl
  have Hsx0 : Hid (Mk w74 0 (.slice t11_x0 t11_x1 t11_x2) X 384) := m.base (Nat.zero_le _)
  obtain ⟨t11_y0, t11_y1, t11_y2, rfl⟩ := m'.nk.sl
  have Hsy0 : Hid (Mk w74 0 (.slice t11_y0 t11_y1 t11_y2) Y 384) := m'.base (Nat.zero_le _)
  clear m m' ma hB
  have Hbi22 : Hid (Bl 26 w74 w3.heap.size [.slice (some ⟨g1, 0, none⟩) xs.length d1, .slice (some ⟨g2, 0, none⟩) ys.length d2, .bool inf]) := Hbi21.out.below Hs75.out Hbi21.out.lt
  have HbP22 : Hid (Bl 26 w74 w.heap.size [.slice x0 xs.length x2, .slice y0 ys.length y2, .bool inf]) := HbP21.out.below Hs75.out HbP21.out.lt
  try dsimp only
  refine hK.out _ _ ?hk80 ?_
  case hk80 => exact fun _ => ⟨Hbi22.out.cell 0 (by simp), Hbi22.out.cell 1 (by simp), Hbi22.out.cell 2 (by simp), HbP22.out.cell 0 (by simp), HbP22.out.cell 1 (by simp), HbP22.out.cell 2 (by simp)⟩
  have hHeld : ((fun (w' : World) => w'.cell? ⟨w3.heap.size, 0, none⟩ = some (.slice (some ⟨g1, 0, none⟩) xs.length d1) ∧ w'.cell? ⟨w3.heap.size, 1, none⟩ = some (.slice (some ⟨g2, 0, none⟩) ys.length d2) ∧ w'.cell? ⟨w3.heap.size, 2, none⟩ = some (.bool inf) ∧ w'.cell? ⟨w.heap.size, 0, none⟩ = some (.slice x0 xs.length x2) ∧ w'.cell? ⟨w.heap.size, 1, none⟩ = some (.slice y0 ys.length y2) ∧ w'.cell? ⟨w.heap.size, 2, none⟩ = some (.bool inf))) _ := ⟨Hbi22.out.cell 0 (by simp), Hbi22.out.cell 1 (by simp), Hbi22.out.cell 2 (by simp), HbP22.out.cell 0 (by simp), HbP22.out.cell 1 (by simp), HbP22.out.cell 2 (by simp)⟩
  clear hK K
  try simp only [Act.put, List.setIfInBounds_toArray, List.set_cons_zero, List.set_cons_succ]
  refine wpAnyK_step 19 rfl (by kernel_rfl) (fun K hK => ?_)
  go_simp
  refine (A.db _).mono ?_
  rintro e w76 ⟨t12_xv, t12_yv, rfl, m, m', ma, hB⟩
  have Hs77 : Hid (Below w74.heap.size w74 w76) := hB
  obtain ⟨t12_x0, t12_x1, t12_x2, rfl⟩ := m.nk.sl
  have Htx2 : Hid (Mk w76 0 (.slice t12_x0 t12_x1 t12_x2) X 384) := m.base (Nat.zero_le _)
  obtain ⟨t12_y0, t12_y1, t12_y2, rfl⟩ := m'.nk.sl
  have Hty2 : Hid (Mk w76 0 (.slice t12_y0 t12_y1 t12_y2) Y 384) := m'.base (Nat.zero_le _)
  clear m m' ma hB
  have Hbi23 : Hid (Bl 26 w76 w3.heap.size [.slice (some ⟨g1, 0, none⟩) xs.length d1, .slice (some ⟨g2, 0, none⟩) ys.length d2, .bool inf]) := Hbi22.out.below Hs77.out Hbi22.out.lt
  have HbP23 : Hid (Bl 26 w76 w.heap.size [.slice x0 xs.length x2, .slice y0 ys.length y2, .bool inf]) := HbP22.out.below Hs77.out HbP22.out.lt
  try dsimp only
  refine hK.out _ _ ?hk81 ?_
  case hk81 => exact fun _ => ⟨Hbi23.out.cell 0 (by simp), Hbi23.out.cell 1 (by simp), Hbi23.out.cell 2 (by simp), HbP23.out.cell 0 (by simp), HbP23.out.cell 1 (by simp), HbP23.out.cell 2 (by simp)⟩
  have hHeld : ((fun (w' : World) => w'.cell? ⟨w3.heap.size, 0, none⟩ = some (.slice (some ⟨g1, 0, none⟩) xs.length d1) ∧ w'.cell? ⟨w3.heap.size, 1, none⟩ = some (.slice (some ⟨g2, 0, none⟩) ys.length d2) ∧ w'.cell? ⟨w3.heap.size, 2, none⟩ = some (.bool inf) ∧ w'.cell? ⟨w.heap.size, 0, none⟩ = some (.slice x0 xs.length x2) ∧ w'.cell? ⟨w.heap.size, 1, none⟩ = some (.slice y0 ys.length y2) ∧ w'.cell? ⟨w.heap.size, 2, none⟩ = some (.bool inf))) _ := ⟨Hbi23.out.cell 0 (by simp), Hbi23.out.cell 1 (by simp), Hbi23.out.cell 2 (by simp), HbP23.out.cell 0 (by simp), HbP23.out.cell 1 (by simp), HbP23.out.cell 2 (by simp)⟩
  clear hK K
  try simp only [Act.put, List.setIfInBounds_toArray, List.set_cons_zero, List.set_cons_succ]
  refine wpAnyK_step 20 rfl (by kernel_rfl) (fun K hK => ?_)
  go_simp
  have Hsx1 : Hid (Mk w76 0 (.slice t11_x0 t11_x1 t11_x2) X 384) := Hsx0.out.below Hs77.out
  have Hsy1 : Hid (Mk w76 0 (.slice t11_y0 t11_y1 t11_y2) Y 384) := Hsy0.out.below Hs77.out
  refine (same_v _ _ _ _ X Y false _ Hsx1.out.nm Hsy1.out.nm Htx2.out.nm Hty2.out.nm Hsx1.out.2.1 Hsy1.out.2.1).mono ?_
  rintro e w78 ⟨rfl, hB⟩
  have Hs79 : Hid (Below w76.heap.size w76 w78) := hB
  clear hB
  have Hbi24 : Hid (Bl 26 w78 w3.heap.size [.slice (some ⟨g1, 0, none⟩) xs.length d1, .slice (some ⟨g2, 0, none⟩) ys.length d2, .bool inf]) := Hbi23.out.below Hs79.out Hbi23.out.lt
  have HbP24 : Hid (Bl 26 w78 w.heap.size [.slice x0 xs.length x2, .slice y0 ys.length y2, .bool inf]) := HbP23.out.below Hs79.out HbP23.out.lt
  try dsimp only
  refine hK.out _ _ ?hk82 ?_
  case hk82 => exact fun _ => ⟨Hbi24.out.cell 0 (by simp), Hbi24.out.cell 1 (by simp), Hbi24.out.cell 2 (by simp), HbP24.out.cell 0 (by simp), HbP24.out.cell 1 (by simp), HbP24.out.cell 2 (by simp)⟩
  have hHeld : ((fun (w' : World) => w'.cell? ⟨w3.heap.size, 0, none⟩ = some (.slice (some ⟨g1, 0, none⟩) xs.length d1) ∧ w'.cell? ⟨w3.heap.size, 1, none⟩ = some (.slice (some ⟨g2, 0, none⟩) ys.length d2) ∧ w'.cell? ⟨w3.heap.size, 2, none⟩ = some (.bool inf) ∧ w'.cell? ⟨w.heap.size, 0, none⟩ = some (.slice x0 xs.length x2) ∧ w'.cell? ⟨w.heap.size, 1, none⟩ = some (.slice y0 ys.length y2) ∧ w'.cell? ⟨w.heap.size, 2, none⟩ = some (.bool inf))) _ := ⟨Hbi24.out.cell 0 (by simp), Hbi24.out.cell 1 (by simp), Hbi24.out.cell 2 (by simp), HbP24.out.cell 0 (by simp), HbP24.out.cell 1 (by simp), HbP24.out.cell 2 (by simp)⟩
  clear hK K
  try simp only [Act.put, List.setIfInBounds_toArray, List.set_cons_zero, List.set_cons_succ]
  refine wpAnyK_take0 21 (v := ?v83) rfl (by kernel_rfl) (fun _ _ _ h => h) (Or.inl ⟨by rfl, ?hy83⟩) (fun _ => hHeld) ?_
  case hy83 => (intro w hSw; go_simp; try with_reducible rfl)
  try simp only [Act.put, List.setIfInBounds_toArray, List.set_cons_zero, List.set_cons_succ]
  refine wpAnyK_take0 22 (v := ?v84) rfl (by kernel_rfl) (fun _ _ _ h => h) (Or.inl ⟨by rfl, ?hy84⟩) (fun _ => hHeld) ?_
  case hy84 => (intro w hSw; go_simp; try with_reducible rfl)
  try simp only [Act.put, List.setIfInBounds_toArray, List.set_cons_zero, List.set_cons_succ]
  refine wpAnyK_take0 23 (v := ?v85) rfl (by kernel_rfl) (fun _ _ _ h => h) (Or.inl ⟨by rfl, ?hy85⟩) (fun _ => hHeld) ?_
  case hy85 => (intro w hSw; go_simp; try with_reducible rfl)
  try simp only [Act.put, List.setIfInBounds_toArray, List.set_cons_zero, List.set_cons_succ]
  refine wpAnyK_take 24 [25, 28] (v := ?v86) rfl (by kernel_rfl) (fun _ _ _ h => h) (Or.inl ⟨by rfl, ?hy86⟩) hHeld ?_
  case hy86 => (intro w hSw; (try dsimp only at hSw); go_simp; try with_reducible rfl)
  try simp only [Act.put, List.setIfInBounds_toArray, List.set_cons_zero, List.set_cons_succ]
  refine wpAnyK_take0 26 (v := ?v87) rfl (by kernel_rfl) (fun _ _ _ h => h) (Or.inl ⟨by rfl, ?hy87⟩) (fun _ => hHeld) ?_
  case hy87 => (intro w hSw; go_simp; try with_reducible rfl)
  try simp only [Act.put, List.setIfInBounds_toArray, List.set_cons_zero, List.set_cons_succ]
  refine wpAnyK_take 27 [28] (v := ?v88) rfl (by kernel_rfl) (fun _ _ _ h => h) (Or.inl ⟨by rfl, ?hy88⟩) hHeld ?_
  case hy88 => (intro w hSw; (try dsimp only at hSw); go_simp; try with_reducible rfl)
  try simp only [Act.put, List.setIfInBounds_toArray, List.set_cons_zero, List.set_cons_succ]
  refine wpAnyK_step 25 rfl (by kernel_rfl) (fun K hK => ?_)
  go_simp
  have Hi16 : Hid (Lk w78 wv2.heap.size g1 d1 xs) := Hi15.out.below (btr Hs48.out (btr Hs50.out (btr Hs52.out (btr Hs54.out (btr Hs56.out (btr Hs58.out (btr Hs60.out (btr Hs61.out (btr Hs63.out (btr Hs65.out (btr Hs67.out (btr Hs69.out (btr Hs71.out (btr Hs73.out (btr Hs75.out (btr Hs77.out Hs79.out)))))))))))))))) (Nat.le_refl _)
  have Hi26 : Hid (Lk w78 wv2.heap.size g2 d2 ys) := Hi25.out.below (btr Hs48.out (btr Hs50.out (btr Hs52.out (btr Hs54.out (btr Hs56.out (btr Hs58.out (btr Hs60.out (btr Hs61.out (btr Hs63.out (btr Hs65.out (btr Hs67.out (btr Hs69.out (btr Hs71.out (btr Hs73.out (btr Hs75.out (btr Hs77.out Hs79.out)))))))))))))))) (Nat.le_refl _)
  have C := A.pn _ _ (nv Bs xs) (nv Bs ys) inf _ (Nm.nu' (Hi16.out.nm HS.out.1) HL.out.1) (Nm.nu' (Hi26.out.nm HS.out.2) HL.out.2)
  rw [← Hoo.out] at C
  refine (C).mono ?_
  rintro e w80 ⟨rfl, hB⟩
  have Hs81 : Hid (Below w78.heap.size w78 w80) := hB
  clear hB C
  have Hbi25 : Hid (Bl 26 w80 w3.heap.size [.slice (some ⟨g1, 0, none⟩) xs.length d1, .slice (some ⟨g2, 0, none⟩) ys.length d2, .bool inf]) := Hbi24.out.below Hs81.out Hbi24.out.lt
  have HbP25 : Hid (Bl 26 w80 w.heap.size [.slice x0 xs.length x2, .slice y0 ys.length y2, .bool inf]) := HbP24.out.below Hs81.out HbP24.out.lt
  try dsimp only
  refine hK.out _ _ ?hk89 ?_
  case hk89 => exact fun _ => ⟨Hbi25.out.cell 0 (by simp), Hbi25.out.cell 1 (by simp), Hbi25.out.cell 2 (by simp), HbP25.out.cell 0 (by simp), HbP25.out.cell 1 (by simp), HbP25.out.cell 2 (by simp)⟩
  have hHeld : ((fun (w' : World) => w'.cell? ⟨w3.heap.size, 0, none⟩ = some (.slice (some ⟨g1, 0, none⟩) xs.length d1) ∧ w'.cell? ⟨w3.heap.size, 1, none⟩ = some (.slice (some ⟨g2, 0, none⟩) ys.length d2) ∧ w'.cell? ⟨w3.heap.size, 2, none⟩ = some (.bool inf) ∧ w'.cell? ⟨w.heap.size, 0, none⟩ = some (.slice x0 xs.length x2) ∧ w'.cell? ⟨w.heap.size, 1, none⟩ = some (.slice y0 ys.length y2) ∧ w'.cell? ⟨w.heap.size, 2, none⟩ = some (.bool inf))) _ := ⟨Hbi25.out.cell 0 (by simp), Hbi25.out.cell 1 (by simp), Hbi25.out.cell 2 (by simp), HbP25.out.cell 0 (by simp), HbP25.out.cell 1 (by simp), HbP25.out.cell 2 (by simp)⟩
  clear hK K
  try simp only [Act.put, List.setIfInBounds_toArray, List.set_cons_zero, List.set_cons_succ]
  refine wpAnyK_step 28 rfl (by kernel_rfl) (fun K hK => ?_)
  go_simp
  have HB7 : Hid (Below w.heap.size w w80) := HB6.out.trans ((btr Hs48.out (btr Hs50.out (btr Hs52.out (btr Hs54.out (btr Hs56.out (btr Hs58.out (btr Hs60.out (btr Hs61.out (btr Hs63.out (btr Hs65.out (btr Hs67.out (btr Hs69.out (btr Hs71.out (btr Hs73.out (btr Hs75.out (btr Hs77.out (btr Hs79.out Hs81.out))))))))))))))))).mono HB6.out.size)
  have C := A.dn _ _ (nv Bs xs) (nv Bs ys) inf _ (Nm.nu' (HAx.out.below HB7.out (Nat.le_refl _)) HL.out.1) (Nm.nu' (HAy.out.below HB7.out (Nat.le_refl _)) HL.out.2)
  rw [← Hoo.out] at C
  refine (C).mono ?_
  rintro e w82 ⟨rfl, hB⟩
  have Hs83 : Hid (Below w80.heap.size w80 w82) := hB
  clear hB C
  have Hbi26 : Hid (Bl 26 w82 w3.heap.size [.slice (some ⟨g1, 0, none⟩) xs.length d1, .slice (some ⟨g2, 0, none⟩) ys.length d2, .bool inf]) := Hbi25.out.below Hs83.out Hbi25.out.lt
  have HbP26 : Hid (Bl 26 w82 w.heap.size [.slice x0 xs.length x2, .slice y0 ys.length y2, .bool inf]) := HbP25.out.below Hs83.out HbP25.out.lt
  try dsimp only
  refine hK.out _ _ ?hk90 ?_
  case hk90 => exact fun _ => ⟨Hbi26.out.cell 0 (by simp), Hbi26.out.cell 1 (by simp), Hbi26.out.cell 2 (by simp), HbP26.out.cell 0 (by simp), HbP26.out.cell 1 (by simp), HbP26.out.cell 2 (by simp)⟩
  have hHeld : ((fun (w' : World) => w'.cell? ⟨w3.heap.size, 0, none⟩ = some (.slice (some ⟨g1, 0, none⟩) xs.length d1) ∧ w'.cell? ⟨w3.heap.size, 1, none⟩ = some (.slice (some ⟨g2, 0, none⟩) ys.length d2) ∧ w'.cell? ⟨w3.heap.size, 2, none⟩ = some (.bool inf) ∧ w'.cell? ⟨w.heap.size, 0, none⟩ = some (.slice x0 xs.length x2) ∧ w'.cell? ⟨w.heap.size, 1, none⟩ = some (.slice y0 ys.length y2) ∧ w'.cell? ⟨w.heap.size, 2, none⟩ = some (.bool inf))) _ := ⟨Hbi26.out.cell 0 (by simp), Hbi26.out.cell 1 (by simp), Hbi26.out.cell 2 (by simp), HbP26.out.cell 0 (by simp), HbP26.out.cell 1 (by simp), HbP26.out.cell 2 (by simp)⟩
  clear hK K
  try simp only [Act.put, List.setIfInBounds_toArray, List.set_cons_zero, List.set_cons_succ]
  refine wpAnyK_take0 29 (v := ?v91) rfl (by kernel_rfl) (fun _ _ _ h => h) (Or.inl ⟨by rfl, ?hy91⟩) (fun _ => hHeld) ?_
  case hy91 => (intro w hSw; go_simp; try with_reducible rfl)
  try simp only [Act.put, List.setIfInBounds_toArray, List.set_cons_zero, List.set_cons_succ]
  refine wpAnyK_take0 30 (v := ?v92) rfl (by kernel_rfl) (fun _ _ _ h => h) (Or.inl ⟨by rfl, ?hy92⟩) (fun _ => hHeld) ?_
  case hy92 => (intro w hSw; go_simp; try with_reducible rfl)
  try simp only [Act.put, List.setIfInBounds_toArray, List.set_cons_zero, List.set_cons_succ]
  refine wpAnyK_take0 31 (v := ?v93) rfl (by kernel_rfl) (fun _ _ _ h => h) (Or.inl ⟨by rfl, ?hy93⟩) (fun _ => hHeld) ?_
  case hy93 => (intro w hSw; go_simp; try with_reducible rfl)
  try simp only [Act.put, List.setIfInBounds_toArray, List.set_cons_zero, List.set_cons_succ]
  refine wpAnyK_done (by kernel_rfl) ?_ _
  have HB8 : Hid (Below w.heap.size w w82) := HB7.out.trans (Hs83.out.mono HB7.out.size)
  go_wp2
  go_ret
  exact ⟨rfl, HB8.out⟩
theorem knows_any (c : Int) (x y : Value) (xs ys : List Nat) (inf : Bool) (w : World) (hx : Nm w x xs) (hy : Nm w y ys) (l1 : xs.length ≤ 3000000) (l2 : ys.length ≤ 3000000) :
    Calls Tryz.prog 3 #[.int .i64 c, .agg #[x, y, .bool inf]] w fun e w' => e = .returned (.bool true) ∧ Below w.heap.size w w' := by
  obtain ⟨F, N, X, Y, s, O, A⟩ := al_any c
  exact knows_core A x y xs ys inf w hx hy l1 l2
end Go.Proofs.YtmngdaolgdhgmaaGreatDoor
