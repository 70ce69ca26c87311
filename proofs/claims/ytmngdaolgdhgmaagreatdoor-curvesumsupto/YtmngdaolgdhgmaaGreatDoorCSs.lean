import Derived.Test.YtmngdaolgdhgmaaGreatDoorCAs
import Derived.Test.YtmngdaolgdhgmaaGreatDoorCKh
import Derived.Deep.CutRange
namespace Go.Proofs.YtmngdaolgdhgmaaGreatDoor
open Go.RowKit

set_option maxRecDepth 100000

theorem pack2 {p0 p1 : Prop} (h0 : p0) (h1 : p1) : Hid (p0 ∧ p1) := ⟨h0, h1⟩
theorem pack4 {p0 p1 p2 p3 : Prop} (h0 : p0) (h1 : p1) (h2 : p2) (h3 : p3) : Hid (p0 ∧ p1 ∧ p2 ∧ p3) := ⟨h0, h1, h2, h3⟩
theorem pack8 {p0 p1 p2 p3 p4 p5 p6 p7 : Prop} (h0 : p0) (h1 : p1) (h2 : p2) (h3 : p3) (h4 : p4) (h5 : p5) (h6 : p6) (h7 : p7) : Hid (p0 ∧ p1 ∧ p2 ∧ p3 ∧ p4 ∧ p5 ∧ p6 ∧ p7) := ⟨h0, h1, h2, h3, h4, h5, h6, h7⟩
theorem pack33 {p0 p1 p2 p3 p4 p5 p6 p7 p8 p9 p10 p11 p12 p13 p14 p15 p16 p17 p18 p19 p20 p21 p22 p23 p24 p25 p26 p27 p28 p29 p30 p31 p32 : Prop} (h0 : p0) (h1 : p1) (h2 : p2) (h3 : p3) (h4 : p4) (h5 : p5) (h6 : p6) (h7 : p7) (h8 : p8) (h9 : p9) (h10 : p10) (h11 : p11) (h12 : p12) (h13 : p13) (h14 : p14) (h15 : p15) (h16 : p16) (h17 : p17) (h18 : p18) (h19 : p19) (h20 : p20) (h21 : p21) (h22 : p22) (h23 : p23) (h24 : p24) (h25 : p25) (h26 : p26) (h27 : p27) (h28 : p28) (h29 : p29) (h30 : p30) (h31 : p31) (h32 : p32) : Hid (p0 ∧ p1 ∧ p2 ∧ p3 ∧ p4 ∧ p5 ∧ p6 ∧ p7 ∧ p8 ∧ p9 ∧ p10 ∧ p11 ∧ p12 ∧ p13 ∧ p14 ∧ p15 ∧ p16 ∧ p17 ∧ p18 ∧ p19 ∧ p20 ∧ p21 ∧ p22 ∧ p23 ∧ p24 ∧ p25 ∧ p26 ∧ p27 ∧ p28 ∧ p29 ∧ p30 ∧ p31 ∧ p32) := ⟨h0, h1, h2, h3, h4, h5, h6, h7, h8, h9, h10, h11, h12, h13, h14, h15, h16, h17, h18, h19, h20, h21, h22, h23, h24, h25, h26, h27, h28, h29, h30, h31, h32⟩
theorem Lk.nm' {w : World} {base g cap n : Nat} {xs : List Nat} (h : Lk w base g cap xs) (s : Sm Bs xs) (hn : xs.length = n) : Nm w (.slice (some ⟨g, 0, none⟩) n cap) xs := by
  subst hn
  exact h.nm s
set_option maxHeartbeats 60000000 in
theorem sums_core {c : Int} {F N X Y : Nat} {s : Int} {O : Nat → Nat → Bool → Bool} (A : Al c F N X Y s O) {NG : Nat → Nat → Bool → Ans4} {AD : Nat → Nat → Bool → Nat → Nat → Bool → Ans4} (S : As c NG AD) (x y u v : Value) (xs ys us vs : List Nat) (inf jnf : Bool) (w : World) (hx : Nm w x xs) (hy : Nm w y ys) (hu : Nm w u us) (hv : Nm w v vs) (l1 : xs.length ≤ 3000000) (l2 : ys.length ≤ 3000000) (l3 : us.length ≤ 3000000) (l4 : vs.length ≤ 3000000) :
    Calls Tryz.prog 4 #[.int .i64 c, .agg #[x, y, .bool inf], .agg #[u, v, .bool jnf]] w fun e w' => e = .returned (.bool true) ∧ Below w.heap.size w w' := by
  obtain ⟨x0, x2, rfl, qx, rx, sx⟩ := hx
  obtain ⟨y0, y2, rfl, qy, ry, sy⟩ := hy
  obtain ⟨u0, u2, rfl, qu, ru, su⟩ := hu
  obtain ⟨v0, v2, rfl, qv, rv, sv⟩ := hv
  have HAx : Hid (Nm w (.slice x0 xs.length x2) xs) := ⟨_, _, rfl, qx, rx, sx⟩
  have HAy : Hid (Nm w (.slice y0 ys.length y2) ys) := ⟨_, _, rfl, qy, ry, sy⟩
  have HAu : Hid (Nm w (.slice u0 us.length u2) us) := ⟨_, _, rfl, qu, ru, su⟩
  have HAv : Hid (Nm w (.slice v0 vs.length v2) vs) := ⟨_, _, rfl, qv, rv, sv⟩
  have HS : Hid (Sm Bs xs ∧ Sm Bs ys ∧ Sm Bs us ∧ Sm Bs vs) := ⟨sx, sy, su, sv⟩
  have HL : Hid (xs.length ≤ 3000000 ∧ ys.length ≤ 3000000 ∧ us.length ≤ 3000000 ∧ vs.length ≤ 3000000) := ⟨l1, l2, l3, l4⟩
  have HFu : Hid (us ≠ [] → ∀ a, u0 = some a → a.block < w.heap.size) := fun hn a ha => by
    rcases ru with h | ⟨g, off, e, hg, _⟩
    · exact absurd h hn
    · rw [e] at ha; injection ha with ha; subst ha; exact hg
  have HFv : Hid (vs ≠ [] → ∀ a, v0 = some a → a.block < w.heap.size) := fun hn a ha => by
    rcases rv with h | ⟨g, off, e, hg, _⟩
    · exact absurd h hn
    · rw [e] at ha; injection ha with ha; subst ha; exact hg
  clear qx rx sx qy ry sy qu ru su qv rv sv l1 l2 l3 l4
  have HB0 : Hid (Below w.heap.size w w) := Below.refl _ _
  obtain ⟨n1, Hn1⟩ : ∃ r : Nat, Hid (r = (NG (nv Bs xs) (nv Bs ys) inf).1) := ⟨_, rfl⟩
  obtain ⟨n2, Hn2⟩ : ∃ r : Nat, Hid (r = (NG (nv Bs xs) (nv Bs ys) inf).2.1) := ⟨_, rfl⟩
  obtain ⟨nj, Hnj⟩ : ∃ r : Bool, Hid (r = (NG (nv Bs xs) (nv Bs ys) inf).2.2.1) := ⟨_, rfl⟩
  obtain ⟨nz, Hnz⟩ : ∃ r : Int, Hid (r = (NG (nv Bs xs) (nv Bs ys) inf).2.2.2) := ⟨_, rfl⟩
  have hnz : (nz != nz) = false := by simp
  have hnz' : (nz == nz) = true := by simp
  obtain ⟨a1, Ha1⟩ : ∃ r : Nat, Hid (r = (AD (nv Bs xs) (nv Bs ys) inf (nv Bs us) (nv Bs vs) jnf).1) := ⟨_, rfl⟩
  obtain ⟨a2, Ha2⟩ : ∃ r : Nat, Hid (r = (AD (nv Bs xs) (nv Bs ys) inf (nv Bs us) (nv Bs vs) jnf).2.1) := ⟨_, rfl⟩
  obtain ⟨aj, Haj⟩ : ∃ r : Bool, Hid (r = (AD (nv Bs xs) (nv Bs ys) inf (nv Bs us) (nv Bs vs) jnf).2.2.1) := ⟨_, rfl⟩
  obtain ⟨az, Haz⟩ : ∃ r : Int, Hid (r = (AD (nv Bs xs) (nv Bs ys) inf (nv Bs us) (nv Bs vs) jnf).2.2.2) := ⟨_, rfl⟩
  have haz : (az != az) = false := by simp
  have haz' : (az == az) = true := by simp
  obtain ⟨mm1, Hmm1⟩ : ∃ r : Nat, Hid (r = (NG (nv Bs (ov xs.length us)) (nv Bs (ov ys.length vs)) inf).1) := ⟨_, rfl⟩
  obtain ⟨mm2, Hmm2⟩ : ∃ r : Nat, Hid (r = (NG (nv Bs (ov xs.length us)) (nv Bs (ov ys.length vs)) inf).2.1) := ⟨_, rfl⟩
  obtain ⟨mmj, Hmmj⟩ : ∃ r : Bool, Hid (r = (NG (nv Bs (ov xs.length us)) (nv Bs (ov ys.length vs)) inf).2.2.1) := ⟨_, rfl⟩
  obtain ⟨mmz, Hmmz⟩ : ∃ r : Int, Hid (r = (NG (nv Bs (ov xs.length us)) (nv Bs (ov ys.length vs)) inf).2.2.2) := ⟨_, rfl⟩
  have hmmz : (mmz != mmz) = false := by simp
  have hmmz' : (mmz == mmz) = true := by simp
  obtain ⟨b1, Hb1⟩ : ∃ r : Nat, Hid (r = (AD (nv Bs (ov xs.length us)) (nv Bs (ov ys.length vs)) inf (nv Bs (ov us.length (dg Bs X))) (nv Bs (ov vs.length (dg Bs Y))) jnf).1) := ⟨_, rfl⟩
  obtain ⟨b2, Hb2⟩ : ∃ r : Nat, Hid (r = (AD (nv Bs (ov xs.length us)) (nv Bs (ov ys.length vs)) inf (nv Bs (ov us.length (dg Bs X))) (nv Bs (ov vs.length (dg Bs Y))) jnf).2.1) := ⟨_, rfl⟩
  obtain ⟨bj, Hbj⟩ : ∃ r : Bool, Hid (r = (AD (nv Bs (ov xs.length us)) (nv Bs (ov ys.length vs)) inf (nv Bs (ov us.length (dg Bs X))) (nv Bs (ov vs.length (dg Bs Y))) jnf).2.2.1) := ⟨_, rfl⟩
  obtain ⟨bz, Hbz⟩ : ∃ r : Int, Hid (r = (AD (nv Bs (ov xs.length us)) (nv Bs (ov ys.length vs)) inf (nv Bs (ov us.length (dg Bs X))) (nv Bs (ov vs.length (dg Bs Y))) jnf).2.2.2) := ⟨_, rfl⟩
  have hbz : (bz != bz) = false := by simp
  have hbz' : (bz == bz) = true := by simp
  obtain ⟨oo, Hoo⟩ : ∃ z : Bool, Hid (z = O (nv Bs xs) (nv Bs ys) inf) := ⟨_, rfl⟩
  have hoo : (oo != oo) = false := by simp
  have hoo' : (oo == oo) = true := by simp
  obtain ⟨op, Hop⟩ : ∃ z : Bool, Hid (z = O (nv Bs (ov xs.length us)) (nv Bs (ov ys.length vs)) inf) := ⟨_, rfl⟩
  have hop : (op != op) = false := by simp
  have hop' : (op == op) = true := by simp
  have hnj : (nj == nj) = true := by simp
  have hfm : Fm w ((w.alloc (.cells #[.slice x0 xs.length x2, .slice y0 ys.length y2, .bool inf] 26)).alloc (.cells #[.slice u0 us.length u2, .slice v0 vs.length v2, .bool jnf] 26)) [(26, [.slice x0 xs.length x2, .slice y0 ys.length y2, .bool inf]), (26, [.slice u0 us.length u2, .slice v0 vs.length v2, .bool jnf])] [] [] := ((Fm.nil (w := w) (A := []) ar_nil).push (by simp) 26 [.slice x0 xs.length x2, .slice y0 ys.length y2, .bool inf]).push (by simp) 26 [.slice u0 us.length u2, .slice v0 vs.length v2, .bool jnf]
  have Hsz : Hid (w.heap.size + 2 ≤ ((w.alloc (.cells #[.slice x0 xs.length x2, .slice y0 ys.length y2, .bool inf] 26)).alloc (.cells #[.slice u0 us.length u2, .slice v0 vs.length v2, .bool jnf] 26)).heap.size) := hfm.sz
  have Hs1 : Hid (Below w.heap.size w ((w.alloc (.cells #[.slice x0 xs.length x2, .slice y0 ys.length y2, .bool inf] 26)).alloc (.cells #[.slice u0 us.length u2, .slice v0 vs.length v2, .bool jnf] 26))) := hfm.bel
  have HbP0 : Hid (Bl 26 ((w.alloc (.cells #[.slice x0 xs.length x2, .slice y0 ys.length y2, .bool inf] 26)).alloc (.cells #[.slice u0 us.length u2, .slice v0 vs.length v2, .bool jnf] 26)) w.heap.size [.slice x0 xs.length x2, .slice y0 ys.length y2, .bool inf]) := hfm.bx 0 (by simp)
  have HbQ0 : Hid (Bl 26 ((w.alloc (.cells #[.slice x0 xs.length x2, .slice y0 ys.length y2, .bool inf] 26)).alloc (.cells #[.slice u0 us.length u2, .slice v0 vs.length v2, .bool jnf] 26)) (w.heap.size + 1) [.slice u0 us.length u2, .slice v0 vs.length v2, .bool jnf]) := hfm.bx 1 (by simp)
  clear hfm
  go_enter Tryz.func4, Tryz.ntmps4
  have kP_0 : ((w.alloc (.cells #[.slice x0 xs.length x2, .slice y0 ys.length y2, .bool inf] 26)).alloc (.cells #[.slice u0 us.length u2, .slice v0 vs.length v2, .bool jnf] 26)).cell? ⟨w.heap.size, 0, none⟩ = some (.slice x0 xs.length x2) := HbP0.out.cell 0 (by simp)
  have kP_1 : ((w.alloc (.cells #[.slice x0 xs.length x2, .slice y0 ys.length y2, .bool inf] 26)).alloc (.cells #[.slice u0 us.length u2, .slice v0 vs.length v2, .bool jnf] 26)).cell? ⟨w.heap.size, 1, none⟩ = some (.slice y0 ys.length y2) := HbP0.out.cell 1 (by simp)
  have kP_2 : ((w.alloc (.cells #[.slice x0 xs.length x2, .slice y0 ys.length y2, .bool inf] 26)).alloc (.cells #[.slice u0 us.length u2, .slice v0 vs.length v2, .bool jnf] 26)).cell? ⟨w.heap.size, 2, none⟩ = some (.bool inf) := HbP0.out.cell 2 (by simp)
  go_wp2_with fail
  clear kP_0 kP_1 kP_2
  generalize ((w.alloc (.cells #[.slice x0 xs.length x2, .slice y0 ys.length y2, .bool inf] 26)).alloc (.cells #[.slice u0 us.length u2, .slice v0 vs.length v2, .bool jnf] 26)) = wv2 at *
  have HB1 : Hid (Below _ _ _) := HB0.out.trans (Hs1.out.mono HB0.out.size)
  refine (lent_v _ _ xs ys inf _ (HAx.out.below HB1.out (Nat.le_refl _)) (HAy.out.below HB1.out (Nat.le_refl _)) HL.out.1 HL.out.2.1).mono ?_
  rintro e w3 ⟨ag1, ad1, ag2, ad2, rfl, k1, k2, kl, hB⟩
  have Hs4 : Hid (Below _ _ _) := hB
  have Ha10 : Hid (Lk w3 wv2.heap.size ag1 ad1 xs) := k1
  have Ha20 : Hid (Lk w3 wv2.heap.size ag2 ad2 ys) := k2
  have Hva : Hid (wv2.heap.size ≤ ag1 ∧ ag1 < ag2 ∧ ag2 < w3.heap.size) := ⟨k1.lt.1, kl, k2.lt.2⟩
  clear k1 k2 kl hB
  have Hs5 : Hid (Below w3.heap.size w3 (w3.alloc (.cells #[.slice (some ⟨ag1, 0, none⟩) xs.length ad1, .slice (some ⟨ag2, 0, none⟩) ys.length ad2, .bool inf] 26))) := alloc_below _ _
  have Hba0 : Hid (Bl _ _ _ _) := alloc_bl w3 [.slice (some ⟨ag1, 0, none⟩) xs.length ad1, .slice (some ⟨ag2, 0, none⟩) ys.length ad2, .bool inf] 26
  have HbQ1 : Hid (Bl _ _ _ _) := HbQ0.out.below (btr Hs4.out Hs5.out) HbQ0.out.lt
  have kQ_0 : (w3.alloc (.cells #[.slice (some ⟨ag1, 0, none⟩) xs.length ad1, .slice (some ⟨ag2, 0, none⟩) ys.length ad2, .bool inf] 26)).cell? ⟨w.heap.size + 1, 0, none⟩ = some (.slice u0 us.length u2) := HbQ1.out.cell 0 (by simp)
  have kQ_1 : (w3.alloc (.cells #[.slice (some ⟨ag1, 0, none⟩) xs.length ad1, .slice (some ⟨ag2, 0, none⟩) ys.length ad2, .bool inf] 26)).cell? ⟨w.heap.size + 1, 1, none⟩ = some (.slice v0 vs.length v2) := HbQ1.out.cell 1 (by simp)
  have kQ_2 : (w3.alloc (.cells #[.slice (some ⟨ag1, 0, none⟩) xs.length ad1, .slice (some ⟨ag2, 0, none⟩) ys.length ad2, .bool inf] 26)).cell? ⟨w.heap.size + 1, 2, none⟩ = some (.bool jnf) := HbQ1.out.cell 2 (by simp)
  go_wp2_with fail
  clear kQ_0 kQ_1 kQ_2
  generalize (w3.alloc (.cells #[.slice (some ⟨ag1, 0, none⟩) xs.length ad1, .slice (some ⟨ag2, 0, none⟩) ys.length ad2, .bool inf] 26)) = wv6 at *
  have HB2 : Hid (Below _ _ _) := HB1.out.trans ((btr Hs4.out Hs5.out).mono HB1.out.size)
  refine (lent_v _ _ us vs jnf _ (HAu.out.below HB2.out (Nat.le_refl _)) (HAv.out.below HB2.out (Nat.le_refl _)) HL.out.2.2.1 HL.out.2.2.2).mono ?_
  rintro e w7 ⟨bg1, bd1, bg2, bd2, rfl, k1, k2, kl, hB⟩
  have Hs8 : Hid (Below _ _ _) := hB
  have Hb10 : Hid (Lk w7 wv6.heap.size bg1 bd1 us) := k1
  have Hb20 : Hid (Lk w7 wv6.heap.size bg2 bd2 vs) := k2
  have Hvb : Hid (wv6.heap.size ≤ bg1 ∧ bg1 < bg2 ∧ bg2 < w7.heap.size) := ⟨k1.lt.1, kl, k2.lt.2⟩
  clear k1 k2 kl hB
  have Hs9 : Hid (Below w7.heap.size w7 (w7.alloc (.cells #[.slice (some ⟨bg1, 0, none⟩) us.length bd1, .slice (some ⟨bg2, 0, none⟩) vs.length bd2, .bool jnf] 26))) := alloc_below _ _
  have Hbb0 : Hid (Bl _ _ _ _) := alloc_bl w7 [.slice (some ⟨bg1, 0, none⟩) us.length bd1, .slice (some ⟨bg2, 0, none⟩) vs.length bd2, .bool jnf] 26
  have Hba1 : Hid (Bl _ _ _ _) := Hba0.out.below (btr Hs8.out Hs9.out) Hba0.out.lt
  have ka_0 : (w7.alloc (.cells #[.slice (some ⟨bg1, 0, none⟩) us.length bd1, .slice (some ⟨bg2, 0, none⟩) vs.length bd2, .bool jnf] 26)).cell? ⟨w3.heap.size, 0, none⟩ = some (.slice (some ⟨ag1, 0, none⟩) xs.length ad1) := Hba1.out.cell 0 (by simp)
  have ka_1 : (w7.alloc (.cells #[.slice (some ⟨bg1, 0, none⟩) us.length bd1, .slice (some ⟨bg2, 0, none⟩) vs.length bd2, .bool jnf] 26)).cell? ⟨w3.heap.size, 1, none⟩ = some (.slice (some ⟨ag2, 0, none⟩) ys.length ad2) := Hba1.out.cell 1 (by simp)
  have ka_2 : (w7.alloc (.cells #[.slice (some ⟨bg1, 0, none⟩) us.length bd1, .slice (some ⟨bg2, 0, none⟩) vs.length bd2, .bool jnf] 26)).cell? ⟨w3.heap.size, 2, none⟩ = some (.bool inf) := Hba1.out.cell 2 (by simp)
  go_wp2_with fail
  clear ka_0 ka_1 ka_2
  generalize (w7.alloc (.cells #[.slice (some ⟨bg1, 0, none⟩) us.length bd1, .slice (some ⟨bg2, 0, none⟩) vs.length bd2, .bool jnf] 26)) = wv10 at *
  have Ha11 : Hid (Lk _ _ _ _ _) := Ha10.out.below (btr Hs5.out (btr Hs8.out Hs9.out)) (Nat.le_refl _)
  have Ha21 : Hid (Lk _ _ _ _ _) := Ha20.out.below (btr Hs5.out (btr Hs8.out Hs9.out)) (Nat.le_refl _)
  have C := S.pneg _ _ _ _ inf _ (Nm.nu' (Lk.nm' Ha11.out HS.out.1 rfl) (by have h := HL.out.1; first | exact h | (rw [ov_len]; exact h))) (Nm.nu' (Lk.nm' Ha21.out HS.out.2.1 rfl) (by have h := HL.out.2.1; first | exact h | (rw [ov_len]; exact h)))
  rw [← Hn1.out, ← Hn2.out, ← Hnj.out, ← Hnz.out] at C
  refine (C).mono ?_
  rintro e w11 ⟨nxxv, nxyv, rfl, m1, m2, ma, hB⟩
  have Hs12 : Hid (Below _ _ _) := hB
  obtain ⟨nxx0, nxx1, nxx2, rfl⟩ := m1.nk.sl
  have Hnxx0 : Hid (Mk w11 wv10.heap.size (.slice nxx0 nxx1 nxx2) n1 384) := m1
  have Hvnxx : Hid (∀ g, (Value.slice nxx0 nxx1 nxx2).ownBlock = some g → wv10.heap.size ≤ g ∧ g < w11.heap.size) := m1.iv
  obtain ⟨nxy0, nxy1, nxy2, rfl⟩ := m2.nk.sl
  have Hnxy0 : Hid (Mk w11 wv10.heap.size (.slice nxy0 nxy1 nxy2) n2 384) := m2
  have Hvnxy : Hid (∀ g, (Value.slice nxy0 nxy1 nxy2).ownBlock = some g → wv10.heap.size ≤ g ∧ g < w11.heap.size) := m2.iv
  have Hanx : Hid (Apt (.slice nxx0 nxx1 nxx2) (.slice nxy0 nxy1 nxy2)) := ma
  clear ma
  clear C m1 m2 hB
  have Hs13 : Hid (Below w11.heap.size w11 (w11.alloc (.cells #[.slice nxx0 nxx1 nxx2, .slice nxy0 nxy1 nxy2, .bool nj] 26))) := alloc_below _ _
  have Hbnx0 : Hid (Bl _ _ _ _) := alloc_bl w11 [.slice nxx0 nxx1 nxx2, .slice nxy0 nxy1 nxy2, .bool nj] 26
  have Hba2 : Hid (Bl _ _ _ _) := Hba1.out.below (btr Hs12.out Hs13.out) Hba1.out.lt
  have ka_0 : (w11.alloc (.cells #[.slice nxx0 nxx1 nxx2, .slice nxy0 nxy1 nxy2, .bool nj] 26)).cell? ⟨w3.heap.size, 0, none⟩ = some (.slice (some ⟨ag1, 0, none⟩) xs.length ad1) := Hba2.out.cell 0 (by simp)
  have ka_1 : (w11.alloc (.cells #[.slice nxx0 nxx1 nxx2, .slice nxy0 nxy1 nxy2, .bool nj] 26)).cell? ⟨w3.heap.size, 1, none⟩ = some (.slice (some ⟨ag2, 0, none⟩) ys.length ad2) := Hba2.out.cell 1 (by simp)
  have ka_2 : (w11.alloc (.cells #[.slice nxx0 nxx1 nxx2, .slice nxy0 nxy1 nxy2, .bool nj] 26)).cell? ⟨w3.heap.size, 2, none⟩ = some (.bool inf) := Hba2.out.cell 2 (by simp)
  have Hbb1 : Hid (Bl _ _ _ _) := Hbb0.out.below (btr Hs12.out Hs13.out) Hbb0.out.lt
  have kb_0 : (w11.alloc (.cells #[.slice nxx0 nxx1 nxx2, .slice nxy0 nxy1 nxy2, .bool nj] 26)).cell? ⟨w7.heap.size, 0, none⟩ = some (.slice (some ⟨bg1, 0, none⟩) us.length bd1) := Hbb1.out.cell 0 (by simp)
  have kb_1 : (w11.alloc (.cells #[.slice nxx0 nxx1 nxx2, .slice nxy0 nxy1 nxy2, .bool nj] 26)).cell? ⟨w7.heap.size, 1, none⟩ = some (.slice (some ⟨bg2, 0, none⟩) vs.length bd2) := Hbb1.out.cell 1 (by simp)
  have kb_2 : (w11.alloc (.cells #[.slice nxx0 nxx1 nxx2, .slice nxy0 nxy1 nxy2, .bool nj] 26)).cell? ⟨w7.heap.size, 2, none⟩ = some (.bool jnf) := Hbb1.out.cell 2 (by simp)
  go_wp2_with fail
  clear ka_0 ka_1 ka_2 kb_0 kb_1 kb_2
  generalize (w11.alloc (.cells #[.slice nxx0 nxx1 nxx2, .slice nxy0 nxy1 nxy2, .bool nj] 26)) = wv14 at *
  have Ha12 : Hid (Lk _ _ _ _ _) := Ha11.out.below (btr Hs12.out Hs13.out) (Nat.le_refl _)
  have Ha22 : Hid (Lk _ _ _ _ _) := Ha21.out.below (btr Hs12.out Hs13.out) (Nat.le_refl _)
  have Hb11 : Hid (Lk _ _ _ _ _) := Hb10.out.below (btr Hs9.out (btr Hs12.out Hs13.out)) (Nat.le_refl _)
  have Hb21 : Hid (Lk _ _ _ _ _) := Hb20.out.below (btr Hs9.out (btr Hs12.out Hs13.out)) (Nat.le_refl _)
  have C := S.padd _ _ _ _ _ _ _ _ inf jnf _ (Nm.nu' (Lk.nm' Ha12.out HS.out.1 rfl) (by have h := HL.out.1; first | exact h | (rw [ov_len]; exact h))) (Nm.nu' (Lk.nm' Ha22.out HS.out.2.1 rfl) (by have h := HL.out.2.1; first | exact h | (rw [ov_len]; exact h))) (Nm.nu' (Lk.nm' Hb11.out HS.out.2.2.1 rfl) (by have h := HL.out.2.2.1; first | exact h | (rw [ov_len]; exact h))) (Nm.nu' (Lk.nm' Hb21.out HS.out.2.2.2 rfl) (by have h := HL.out.2.2.2; first | exact h | (rw [ov_len]; exact h)))
  rw [← Ha1.out, ← Ha2.out, ← Haj.out, ← Haz.out] at C
  refine (C).mono ?_
  rintro e w15 ⟨pyxv, pyyv, rfl, m1, m2, ma, hB⟩
  have Hs16 : Hid (Below _ _ _) := hB
  obtain ⟨pyx0, pyx1, pyx2, rfl⟩ := m1.nk.sl
  have Hpyx0 : Hid (Mk w15 wv14.heap.size (.slice pyx0 pyx1 pyx2) a1 384) := m1
  have Hvpyx : Hid (∀ g, (Value.slice pyx0 pyx1 pyx2).ownBlock = some g → wv14.heap.size ≤ g ∧ g < w15.heap.size) := m1.iv
  obtain ⟨pyy0, pyy1, pyy2, rfl⟩ := m2.nk.sl
  have Hpyy0 : Hid (Mk w15 wv14.heap.size (.slice pyy0 pyy1 pyy2) a2 384) := m2
  have Hvpyy : Hid (∀ g, (Value.slice pyy0 pyy1 pyy2).ownBlock = some g → wv14.heap.size ≤ g ∧ g < w15.heap.size) := m2.iv
  have Hapy : Hid (Apt (.slice pyx0 pyx1 pyx2) (.slice pyy0 pyy1 pyy2)) := ma
  clear ma
  clear C m1 m2 hB
  have Hs17 : Hid (Below w15.heap.size w15 (w15.alloc (.cells #[.slice pyx0 pyx1 pyx2, .slice pyy0 pyy1 pyy2, .bool aj] 26))) := alloc_below _ _
  have Hbpy0 : Hid (Bl _ _ _ _) := alloc_bl w15 [.slice pyx0 pyx1 pyx2, .slice pyy0 pyy1 pyy2, .bool aj] 26
  have Hba3 : Hid (Bl _ _ _ _) := Hba2.out.below (btr Hs16.out Hs17.out) Hba2.out.lt
  have ka_0 : (w15.alloc (.cells #[.slice pyx0 pyx1 pyx2, .slice pyy0 pyy1 pyy2, .bool aj] 26)).cell? ⟨w3.heap.size, 0, none⟩ = some (.slice (some ⟨ag1, 0, none⟩) xs.length ad1) := Hba3.out.cell 0 (by simp)
  have ka_1 : (w15.alloc (.cells #[.slice pyx0 pyx1 pyx2, .slice pyy0 pyy1 pyy2, .bool aj] 26)).cell? ⟨w3.heap.size, 1, none⟩ = some (.slice (some ⟨ag2, 0, none⟩) ys.length ad2) := Hba3.out.cell 1 (by simp)
  have ka_2 : (w15.alloc (.cells #[.slice pyx0 pyx1 pyx2, .slice pyy0 pyy1 pyy2, .bool aj] 26)).cell? ⟨w3.heap.size, 2, none⟩ = some (.bool inf) := Hba3.out.cell 2 (by simp)
  have Hbb2 : Hid (Bl _ _ _ _) := Hbb1.out.below (btr Hs16.out Hs17.out) Hbb1.out.lt
  have kb_0 : (w15.alloc (.cells #[.slice pyx0 pyx1 pyx2, .slice pyy0 pyy1 pyy2, .bool aj] 26)).cell? ⟨w7.heap.size, 0, none⟩ = some (.slice (some ⟨bg1, 0, none⟩) us.length bd1) := Hbb2.out.cell 0 (by simp)
  have kb_1 : (w15.alloc (.cells #[.slice pyx0 pyx1 pyx2, .slice pyy0 pyy1 pyy2, .bool aj] 26)).cell? ⟨w7.heap.size, 1, none⟩ = some (.slice (some ⟨bg2, 0, none⟩) vs.length bd2) := Hbb2.out.cell 1 (by simp)
  have kb_2 : (w15.alloc (.cells #[.slice pyx0 pyx1 pyx2, .slice pyy0 pyy1 pyy2, .bool aj] 26)).cell? ⟨w7.heap.size, 2, none⟩ = some (.bool jnf) := Hbb2.out.cell 2 (by simp)
  go_wp2_with fail
  clear ka_0 ka_1 ka_2 kb_0 kb_1 kb_2
  generalize (w15.alloc (.cells #[.slice pyx0 pyx1 pyx2, .slice pyy0 pyy1 pyy2, .bool aj] 26)) = wv18 at *
  have Ha13 : Hid (Lk _ _ _ _ _) := Ha12.out.below (btr Hs16.out Hs17.out) (Nat.le_refl _)
  have Ha23 : Hid (Lk _ _ _ _ _) := Ha22.out.below (btr Hs16.out Hs17.out) (Nat.le_refl _)
  have Hb12 : Hid (Lk _ _ _ _ _) := Hb11.out.below (btr Hs16.out Hs17.out) (Nat.le_refl _)
  have Hb22 : Hid (Lk _ _ _ _ _) := Hb21.out.below (btr Hs16.out Hs17.out) (Nat.le_refl _)
  have C := S.padd _ _ _ _ _ _ _ _ inf jnf _ (Nm.nu' (Lk.nm' Ha13.out HS.out.1 rfl) (by have h := HL.out.1; first | exact h | (rw [ov_len]; exact h))) (Nm.nu' (Lk.nm' Ha23.out HS.out.2.1 rfl) (by have h := HL.out.2.1; first | exact h | (rw [ov_len]; exact h))) (Nm.nu' (Lk.nm' Hb12.out HS.out.2.2.1 rfl) (by have h := HL.out.2.2.1; first | exact h | (rw [ov_len]; exact h))) (Nm.nu' (Lk.nm' Hb22.out HS.out.2.2.2 rfl) (by have h := HL.out.2.2.2; first | exact h | (rw [ov_len]; exact h)))
  rw [← Ha1.out, ← Ha2.out, ← Haj.out, ← Haz.out] at C
  refine (C).mono ?_
  rintro e w19 ⟨pzxv, pzyv, rfl, m1, m2, ma, hB⟩
  have Hs20 : Hid (Below _ _ _) := hB
  obtain ⟨pzx0, pzx1, pzx2, rfl⟩ := m1.nk.sl
  have Hpzx0 : Hid (Mk w19 wv18.heap.size (.slice pzx0 pzx1 pzx2) a1 384) := m1
  have Hvpzx : Hid (∀ g, (Value.slice pzx0 pzx1 pzx2).ownBlock = some g → wv18.heap.size ≤ g ∧ g < w19.heap.size) := m1.iv
  obtain ⟨pzy0, pzy1, pzy2, rfl⟩ := m2.nk.sl
  have Hpzy0 : Hid (Mk w19 wv18.heap.size (.slice pzy0 pzy1 pzy2) a2 384) := m2
  have Hvpzy : Hid (∀ g, (Value.slice pzy0 pzy1 pzy2).ownBlock = some g → wv18.heap.size ≤ g ∧ g < w19.heap.size) := m2.iv
  have Hapz : Hid (Apt (.slice pzx0 pzx1 pzx2) (.slice pzy0 pzy1 pzy2)) := ma
  clear ma
  clear C m1 m2 hB
  have Hs21 : Hid (Below w19.heap.size w19 (w19.alloc (.cells #[.slice pzx0 pzx1 pzx2, .slice pzy0 pzy1 pzy2, .bool aj] 26))) := alloc_below _ _
  have Hbpz0 : Hid (Bl _ _ _ _) := alloc_bl w19 [.slice pzx0 pzx1 pzx2, .slice pzy0 pzy1 pzy2, .bool aj] 26
  have HbP1 : Hid (Bl _ _ _ _) := HbP0.out.below (btr Hs4.out (btr Hs5.out (btr Hs8.out (btr Hs9.out (btr Hs12.out (btr Hs13.out (btr Hs16.out (btr Hs17.out (btr Hs20.out Hs21.out))))))))) HbP0.out.lt
  have kP_0 : (w19.alloc (.cells #[.slice pzx0 pzx1 pzx2, .slice pzy0 pzy1 pzy2, .bool aj] 26)).cell? ⟨w.heap.size, 0, none⟩ = some (.slice x0 xs.length x2) := HbP1.out.cell 0 (by simp)
  have kP_1 : (w19.alloc (.cells #[.slice pzx0 pzx1 pzx2, .slice pzy0 pzy1 pzy2, .bool aj] 26)).cell? ⟨w.heap.size, 1, none⟩ = some (.slice y0 ys.length y2) := HbP1.out.cell 1 (by simp)
  have kP_2 : (w19.alloc (.cells #[.slice pzx0 pzx1 pzx2, .slice pzy0 pzy1 pzy2, .bool aj] 26)).cell? ⟨w.heap.size, 2, none⟩ = some (.bool inf) := HbP1.out.cell 2 (by simp)
  go_wp2_with fail
  clear kP_0 kP_1 kP_2
  generalize (w19.alloc (.cells #[.slice pzx0 pzx1 pzx2, .slice pzy0 pzy1 pzy2, .bool aj] 26)) = wv22 at *
  have HB3 : Hid (Below _ _ _) := HB2.out.trans ((btr Hs8.out (btr Hs9.out (btr Hs12.out (btr Hs13.out (btr Hs16.out (btr Hs17.out (btr Hs20.out Hs21.out))))))).mono HB2.out.size)
  have C := S.dneg _ _ _ _ inf _ (Nm.nu' (HAx.out.below HB3.out (Nat.le_refl _)) HL.out.1) (Nm.nu' (HAy.out.below HB3.out (Nat.le_refl _)) HL.out.2.1)
  rw [← Hn1.out, ← Hn2.out, ← Hnj.out, ← Hnz.out] at C
  refine (C).mono ?_
  rintro e w23 ⟨dwxv, dwyv, rfl, m1, m2, hB⟩
  have Hs24 : Hid (Below _ _ _) := hB
  obtain ⟨dwx0, dwx1, dwx2, rfl⟩ := m1.nk.sl
  have Hdwx0 : Hid (Mk w23 wv22.heap.size (.slice dwx0 dwx1 dwx2) n1 384) := m1
  have Hvdwx : Hid (∀ g, (Value.slice dwx0 dwx1 dwx2).ownBlock = some g → wv22.heap.size ≤ g ∧ g < w23.heap.size) := m1.iv
  obtain ⟨dwy0, dwy1, dwy2, rfl⟩ := m2.nk.sl
  have Hdwy0 : Hid (Mk w23 wv22.heap.size (.slice dwy0 dwy1 dwy2) n2 384) := m2
  have Hvdwy : Hid (∀ g, (Value.slice dwy0 dwy1 dwy2).ownBlock = some g → wv22.heap.size ≤ g ∧ g < w23.heap.size) := m2.iv
  clear C m1 m2 hB
  have Hs25 : Hid (Below w23.heap.size w23 (w23.alloc (.cells #[.slice dwx0 dwx1 dwx2, .slice dwy0 dwy1 dwy2, .bool nj] 26))) := alloc_below _ _
  have Hbdw0 : Hid (Bl _ _ _ _) := alloc_bl w23 [.slice dwx0 dwx1 dwx2, .slice dwy0 dwy1 dwy2, .bool nj] 26
  have HbP2 : Hid (Bl _ _ _ _) := HbP1.out.below (btr Hs24.out Hs25.out) HbP1.out.lt
  have kP_0 : (w23.alloc (.cells #[.slice dwx0 dwx1 dwx2, .slice dwy0 dwy1 dwy2, .bool nj] 26)).cell? ⟨w.heap.size, 0, none⟩ = some (.slice x0 xs.length x2) := HbP2.out.cell 0 (by simp)
  have kP_1 : (w23.alloc (.cells #[.slice dwx0 dwx1 dwx2, .slice dwy0 dwy1 dwy2, .bool nj] 26)).cell? ⟨w.heap.size, 1, none⟩ = some (.slice y0 ys.length y2) := HbP2.out.cell 1 (by simp)
  have kP_2 : (w23.alloc (.cells #[.slice dwx0 dwx1 dwx2, .slice dwy0 dwy1 dwy2, .bool nj] 26)).cell? ⟨w.heap.size, 2, none⟩ = some (.bool inf) := HbP2.out.cell 2 (by simp)
  have HbQ2 : Hid (Bl _ _ _ _) := HbQ1.out.below (btr Hs8.out (btr Hs9.out (btr Hs12.out (btr Hs13.out (btr Hs16.out (btr Hs17.out (btr Hs20.out (btr Hs21.out (btr Hs24.out Hs25.out))))))))) HbQ1.out.lt
  have kQ_0 : (w23.alloc (.cells #[.slice dwx0 dwx1 dwx2, .slice dwy0 dwy1 dwy2, .bool nj] 26)).cell? ⟨w.heap.size + 1, 0, none⟩ = some (.slice u0 us.length u2) := HbQ2.out.cell 0 (by simp)
  have kQ_1 : (w23.alloc (.cells #[.slice dwx0 dwx1 dwx2, .slice dwy0 dwy1 dwy2, .bool nj] 26)).cell? ⟨w.heap.size + 1, 1, none⟩ = some (.slice v0 vs.length v2) := HbQ2.out.cell 1 (by simp)
  have kQ_2 : (w23.alloc (.cells #[.slice dwx0 dwx1 dwx2, .slice dwy0 dwy1 dwy2, .bool nj] 26)).cell? ⟨w.heap.size + 1, 2, none⟩ = some (.bool jnf) := HbQ2.out.cell 2 (by simp)
  go_wp2_with fail
  clear kP_0 kP_1 kP_2 kQ_0 kQ_1 kQ_2
  generalize (w23.alloc (.cells #[.slice dwx0 dwx1 dwx2, .slice dwy0 dwy1 dwy2, .bool nj] 26)) = wv26 at *
  have HB4 : Hid (Below _ _ _) := HB3.out.trans ((btr Hs24.out Hs25.out).mono HB3.out.size)
  have C := S.dadd _ _ _ _ _ _ _ _ inf jnf _ (Nm.nu' (HAx.out.below HB4.out (Nat.le_refl _)) HL.out.1) (Nm.nu' (HAy.out.below HB4.out (Nat.le_refl _)) HL.out.2.1) (Nm.nu' (HAu.out.below HB4.out (Nat.le_refl _)) HL.out.2.2.1) (Nm.nu' (HAv.out.below HB4.out (Nat.le_refl _)) HL.out.2.2.2)
  rw [← Ha1.out, ← Ha2.out, ← Haj.out, ← Haz.out] at C
  refine (C).mono ?_
  rintro e w27 ⟨dvxv, dvyv, rfl, m1, m2, hB⟩
  have Hs28 : Hid (Below _ _ _) := hB
  obtain ⟨dvx0, dvx1, dvx2, rfl⟩ := m1.nk.sl
  have Hdvx0 : Hid (Mk w27 wv26.heap.size (.slice dvx0 dvx1 dvx2) a1 384) := m1
  have Hvdvx : Hid (∀ g, (Value.slice dvx0 dvx1 dvx2).ownBlock = some g → wv26.heap.size ≤ g ∧ g < w27.heap.size) := m1.iv
  obtain ⟨dvy0, dvy1, dvy2, rfl⟩ := m2.nk.sl
  have Hdvy0 : Hid (Mk w27 wv26.heap.size (.slice dvy0 dvy1 dvy2) a2 384) := m2
  have Hvdvy : Hid (∀ g, (Value.slice dvy0 dvy1 dvy2).ownBlock = some g → wv26.heap.size ≤ g ∧ g < w27.heap.size) := m2.iv
  clear C m1 m2 hB
  have Hs29 : Hid (Below w27.heap.size w27 (w27.alloc (.cells #[.slice dvx0 dvx1 dvx2, .slice dvy0 dvy1 dvy2, .bool aj] 26))) := alloc_below _ _
  have Hbdv0 : Hid (Bl _ _ _ _) := alloc_bl w27 [.slice dvx0 dvx1 dvx2, .slice dvy0 dvy1 dvy2, .bool aj] 26
  have Hbdw1 : Hid (Bl _ _ _ _) := Hbdw0.out.below (btr Hs28.out Hs29.out) Hbdw0.out.lt
  have kdw_0 : (w27.alloc (.cells #[.slice dvx0 dvx1 dvx2, .slice dvy0 dvy1 dvy2, .bool aj] 26)).cell? ⟨w23.heap.size, 0, none⟩ = some (.slice dwx0 dwx1 dwx2) := Hbdw1.out.cell 0 (by simp)
  have kdw_1 : (w27.alloc (.cells #[.slice dvx0 dvx1 dvx2, .slice dvy0 dvy1 dvy2, .bool aj] 26)).cell? ⟨w23.heap.size, 1, none⟩ = some (.slice dwy0 dwy1 dwy2) := Hbdw1.out.cell 1 (by simp)
  have kdw_2 : (w27.alloc (.cells #[.slice dvx0 dvx1 dvx2, .slice dvy0 dvy1 dvy2, .bool aj] 26)).cell? ⟨w23.heap.size, 2, none⟩ = some (.bool nj) := Hbdw1.out.cell 2 (by simp)
  have Hbnx1 : Hid (Bl _ _ _ _) := Hbnx0.out.below (btr Hs16.out (btr Hs17.out (btr Hs20.out (btr Hs21.out (btr Hs24.out (btr Hs25.out (btr Hs28.out Hs29.out))))))) Hbnx0.out.lt
  have knx_0 : (w27.alloc (.cells #[.slice dvx0 dvx1 dvx2, .slice dvy0 dvy1 dvy2, .bool aj] 26)).cell? ⟨w11.heap.size, 0, none⟩ = some (.slice nxx0 nxx1 nxx2) := Hbnx1.out.cell 0 (by simp)
  have knx_1 : (w27.alloc (.cells #[.slice dvx0 dvx1 dvx2, .slice dvy0 dvy1 dvy2, .bool aj] 26)).cell? ⟨w11.heap.size, 1, none⟩ = some (.slice nxy0 nxy1 nxy2) := Hbnx1.out.cell 1 (by simp)
  have knx_2 : (w27.alloc (.cells #[.slice dvx0 dvx1 dvx2, .slice dvy0 dvy1 dvy2, .bool aj] 26)).cell? ⟨w11.heap.size, 2, none⟩ = some (.bool nj) := Hbnx1.out.cell 2 (by simp)
  go_wp2_with fail
  clear kdw_0 kdw_1 kdw_2 knx_0 knx_1 knx_2
  generalize (w27.alloc (.cells #[.slice dvx0 dvx1 dvx2, .slice dvy0 dvy1 dvy2, .bool aj] 26)) = wv30 at *
  have Hnxx1 : Hid (Mk _ _ _ _ _) := Hnxx0.out.below (btr Hs13.out (btr Hs16.out (btr Hs17.out (btr Hs20.out (btr Hs21.out (btr Hs24.out (btr Hs25.out (btr Hs28.out Hs29.out))))))))
  have Hnxy1 : Hid (Mk _ _ _ _ _) := Hnxy0.out.below (btr Hs13.out (btr Hs16.out (btr Hs17.out (btr Hs20.out (btr Hs21.out (btr Hs24.out (btr Hs25.out (btr Hs28.out Hs29.out))))))))
  have Hdwx1 : Hid (Mk _ _ _ _ _) := Hdwx0.out.below (btr Hs25.out (btr Hs28.out Hs29.out))
  have Hdwy1 : Hid (Mk _ _ _ _ _) := Hdwy0.out.below (btr Hs25.out (btr Hs28.out Hs29.out))
  refine (same_v _ _ _ _ n1 n2 nj _ Hnxx1.out.nm Hnxy1.out.nm Hdwx1.out.nm Hdwy1.out.nm Hnxx1.out.2.1 Hnxy1.out.2.1).mono ?_
  rintro e w31 ⟨rfl, hB⟩
  have Hs32 : Hid (Below _ _ _) := hB
  clear hB
  have Hbdv1 : Hid (Bl _ _ _ _) := Hbdv0.out.below Hs32.out Hbdv0.out.lt
  have kdv_0 : w31.cell? ⟨w27.heap.size, 0, none⟩ = some (.slice dvx0 dvx1 dvx2) := Hbdv1.out.cell 0 (by simp)
  have kdv_1 : w31.cell? ⟨w27.heap.size, 1, none⟩ = some (.slice dvy0 dvy1 dvy2) := Hbdv1.out.cell 1 (by simp)
  have kdv_2 : w31.cell? ⟨w27.heap.size, 2, none⟩ = some (.bool aj) := Hbdv1.out.cell 2 (by simp)
  have Hbpy1 : Hid (Bl _ _ _ _) := Hbpy0.out.below (btr Hs20.out (btr Hs21.out (btr Hs24.out (btr Hs25.out (btr Hs28.out (btr Hs29.out Hs32.out)))))) Hbpy0.out.lt
  have kpy_0 : w31.cell? ⟨w15.heap.size, 0, none⟩ = some (.slice pyx0 pyx1 pyx2) := Hbpy1.out.cell 0 (by simp)
  have kpy_1 : w31.cell? ⟨w15.heap.size, 1, none⟩ = some (.slice pyy0 pyy1 pyy2) := Hbpy1.out.cell 1 (by simp)
  have kpy_2 : w31.cell? ⟨w15.heap.size, 2, none⟩ = some (.bool aj) := Hbpy1.out.cell 2 (by simp)
  go_wp2_with fail
  clear kdv_0 kdv_1 kdv_2 kpy_0 kpy_1 kpy_2
  have Hpyx1 : Hid (Mk _ _ _ _ _) := Hpyx0.out.below (btr Hs17.out (btr Hs20.out (btr Hs21.out (btr Hs24.out (btr Hs25.out (btr Hs28.out (btr Hs29.out Hs32.out)))))))
  have Hpyy1 : Hid (Mk _ _ _ _ _) := Hpyy0.out.below (btr Hs17.out (btr Hs20.out (btr Hs21.out (btr Hs24.out (btr Hs25.out (btr Hs28.out (btr Hs29.out Hs32.out)))))))
  have Hdvx1 : Hid (Mk _ _ _ _ _) := Hdvx0.out.below (btr Hs29.out Hs32.out)
  have Hdvy1 : Hid (Mk _ _ _ _ _) := Hdvy0.out.below (btr Hs29.out Hs32.out)
  refine (same_v _ _ _ _ a1 a2 aj _ Hpyx1.out.nm Hpyy1.out.nm Hdvx1.out.nm Hdvy1.out.nm Hpyx1.out.2.1 Hpyy1.out.2.1).mono ?_
  rintro e w33 ⟨rfl, hB⟩
  have Hs34 : Hid (Below _ _ _) := hB
  clear hB
  have HbP3 : Hid (Bl _ _ _ _) := HbP2.out.below (btr Hs28.out (btr Hs29.out (btr Hs32.out Hs34.out))) HbP2.out.lt
  have kP_0 : w33.cell? ⟨w.heap.size, 0, none⟩ = some (.slice x0 xs.length x2) := HbP3.out.cell 0 (by simp)
  have kP_1 : w33.cell? ⟨w.heap.size, 1, none⟩ = some (.slice y0 ys.length y2) := HbP3.out.cell 1 (by simp)
  have kP_2 : w33.cell? ⟨w.heap.size, 2, none⟩ = some (.bool inf) := HbP3.out.cell 2 (by simp)
  have Hba4 : Hid (Bl _ _ _ _) := Hba3.out.below (btr Hs20.out (btr Hs21.out (btr Hs24.out (btr Hs25.out (btr Hs28.out (btr Hs29.out (btr Hs32.out Hs34.out))))))) Hba3.out.lt
  have ka_0 : w33.cell? ⟨w3.heap.size, 0, none⟩ = some (.slice (some ⟨ag1, 0, none⟩) xs.length ad1) := Hba4.out.cell 0 (by simp)
  have ka_1 : w33.cell? ⟨w3.heap.size, 1, none⟩ = some (.slice (some ⟨ag2, 0, none⟩) ys.length ad2) := Hba4.out.cell 1 (by simp)
  have ka_2 : w33.cell? ⟨w3.heap.size, 2, none⟩ = some (.bool inf) := Hba4.out.cell 2 (by simp)
  go_wp2_with fail
  clear kP_0 kP_1 kP_2 ka_0 ka_1 ka_2
  have Ha14 : Hid (Lk _ _ _ _ _) := Ha13.out.below (btr Hs20.out (btr Hs21.out (btr Hs24.out (btr Hs25.out (btr Hs28.out (btr Hs29.out (btr Hs32.out Hs34.out))))))) (Nat.le_refl _)
  have Ha24 : Hid (Lk _ _ _ _ _) := Ha23.out.below (btr Hs20.out (btr Hs21.out (btr Hs24.out (btr Hs25.out (btr Hs28.out (btr Hs29.out (btr Hs32.out Hs34.out))))))) (Nat.le_refl _)
  have HB5 : Hid (Below _ _ _) := HB4.out.trans ((btr Hs28.out (btr Hs29.out (btr Hs32.out Hs34.out))).mono HB4.out.size)
  refine (still_v _ _ xs ys inf _ Ha14.out Ha24.out (HAx.out.below HB5.out (Nat.le_refl _)) (HAy.out.below HB5.out (Nat.le_refl _)) HL.out.1 HL.out.2.1).mono ?_
  rintro e w35 ⟨rfl, hB⟩
  have Hs36 : Hid (Below _ _ _) := hB
  clear hB
  have HbQ3 : Hid (Bl _ _ _ _) := HbQ2.out.below (btr Hs28.out (btr Hs29.out (btr Hs32.out (btr Hs34.out Hs36.out)))) HbQ2.out.lt
  have kQ_0 : w35.cell? ⟨w.heap.size + 1, 0, none⟩ = some (.slice u0 us.length u2) := HbQ3.out.cell 0 (by simp)
  have kQ_1 : w35.cell? ⟨w.heap.size + 1, 1, none⟩ = some (.slice v0 vs.length v2) := HbQ3.out.cell 1 (by simp)
  have kQ_2 : w35.cell? ⟨w.heap.size + 1, 2, none⟩ = some (.bool jnf) := HbQ3.out.cell 2 (by simp)
  have Hbb3 : Hid (Bl _ _ _ _) := Hbb2.out.below (btr Hs20.out (btr Hs21.out (btr Hs24.out (btr Hs25.out (btr Hs28.out (btr Hs29.out (btr Hs32.out (btr Hs34.out Hs36.out)))))))) Hbb2.out.lt
  have kb_0 : w35.cell? ⟨w7.heap.size, 0, none⟩ = some (.slice (some ⟨bg1, 0, none⟩) us.length bd1) := Hbb3.out.cell 0 (by simp)
  have kb_1 : w35.cell? ⟨w7.heap.size, 1, none⟩ = some (.slice (some ⟨bg2, 0, none⟩) vs.length bd2) := Hbb3.out.cell 1 (by simp)
  have kb_2 : w35.cell? ⟨w7.heap.size, 2, none⟩ = some (.bool jnf) := Hbb3.out.cell 2 (by simp)
  go_wp2_with fail
  clear kQ_0 kQ_1 kQ_2 kb_0 kb_1 kb_2
  have Hb13 : Hid (Lk _ _ _ _ _) := Hb12.out.below (btr Hs20.out (btr Hs21.out (btr Hs24.out (btr Hs25.out (btr Hs28.out (btr Hs29.out (btr Hs32.out (btr Hs34.out Hs36.out)))))))) (Nat.le_refl _)
  have Hb23 : Hid (Lk _ _ _ _ _) := Hb22.out.below (btr Hs20.out (btr Hs21.out (btr Hs24.out (btr Hs25.out (btr Hs28.out (btr Hs29.out (btr Hs32.out (btr Hs34.out Hs36.out)))))))) (Nat.le_refl _)
  have HB6 : Hid (Below _ _ _) := HB5.out.trans (Hs36.out.mono HB5.out.size)
  refine (still_v _ _ us vs jnf _ Hb13.out Hb23.out (HAu.out.below HB6.out (Nat.le_refl _)) (HAv.out.below HB6.out (Nat.le_refl _)) HL.out.2.2.1 HL.out.2.2.2).mono ?_
  rintro e w37 ⟨rfl, hB⟩
  have Hs38 : Hid (Below _ _ _) := hB
  clear hB
  have Hba5 : Hid (Bl _ _ _ _) := Hba4.out.below (btr Hs36.out Hs38.out) Hba4.out.lt
  have ka_0 : w37.cell? ⟨w3.heap.size, 0, none⟩ = some (.slice (some ⟨ag1, 0, none⟩) xs.length ad1) := Hba5.out.cell 0 (by simp)
  have ka_1 : w37.cell? ⟨w3.heap.size, 1, none⟩ = some (.slice (some ⟨ag2, 0, none⟩) ys.length ad2) := Hba5.out.cell 1 (by simp)
  have ka_2 : w37.cell? ⟨w3.heap.size, 2, none⟩ = some (.bool inf) := Hba5.out.cell 2 (by simp)
  go_wp2_with fail
  clear ka_0 ka_1 ka_2
  have Ha15 : Hid (Lk _ _ _ _ _) := Ha14.out.below (btr Hs36.out Hs38.out) (Nat.le_refl _)
  have Ha25 : Hid (Lk _ _ _ _ _) := Ha24.out.below (btr Hs36.out Hs38.out) (Nat.le_refl _)
  have C := S.pneg _ _ _ _ inf _ (Nm.nu' (Lk.nm' Ha15.out HS.out.1 rfl) (by have h := HL.out.1; first | exact h | (rw [ov_len]; exact h))) (Nm.nu' (Lk.nm' Ha25.out HS.out.2.1 rfl) (by have h := HL.out.2.1; first | exact h | (rw [ov_len]; exact h)))
  rw [← Hn1.out, ← Hn2.out, ← Hnj.out, ← Hnz.out] at C
  refine (C).mono ?_
  rintro e w39 ⟨n2xv, n2yv, rfl, m1, m2, ma, hB⟩
  have Hs40 : Hid (Below _ _ _) := hB
  obtain ⟨n2x0, n2x1, n2x2, rfl⟩ := m1.nk.sl
  have Hn2x0 : Hid (Mk w39 w37.heap.size (.slice n2x0 n2x1 n2x2) n1 384) := m1
  have Hvn2x : Hid (∀ g, (Value.slice n2x0 n2x1 n2x2).ownBlock = some g → w37.heap.size ≤ g ∧ g < w39.heap.size) := m1.iv
  obtain ⟨n2y0, n2y1, n2y2, rfl⟩ := m2.nk.sl
  have Hn2y0 : Hid (Mk w39 w37.heap.size (.slice n2y0 n2y1 n2y2) n2 384) := m2
  have Hvn2y : Hid (∀ g, (Value.slice n2y0 n2y1 n2y2).ownBlock = some g → w37.heap.size ≤ g ∧ g < w39.heap.size) := m2.iv
  have Han2 : Hid (Apt (.slice n2x0 n2x1 n2x2) (.slice n2y0 n2y1 n2y2)) := ma
  clear ma
  clear C m1 m2 hB
  have Hs41 : Hid (Below w39.heap.size w39 (w39.alloc (.cells #[.slice n2x0 n2x1 n2x2, .slice n2y0 n2y1 n2y2, .bool nj] 26))) := alloc_below _ _
  have Hbn20 : Hid (Bl _ _ _ _) := alloc_bl w39 [.slice n2x0 n2x1 n2x2, .slice n2y0 n2y1 n2y2, .bool nj] 26
  go_wp2_with fail
  generalize (w39.alloc (.cells #[.slice n2x0 n2x1 n2x2, .slice n2y0 n2y1 n2y2, .bool nj] 26)) = wv42 at *
  have Hs43 : Hid (Below wv42.heap.size wv42 wv42.drew) := below_drewN (Below.refl _ _) 1
  have Hbnx2 : Hid (Bl _ _ _ _) := Hbnx1.out.below (btr Hs32.out (btr Hs34.out (btr Hs36.out (btr Hs38.out (btr Hs40.out (btr Hs41.out Hs43.out)))))) Hbnx1.out.lt
  have Hbpy2 : Hid (Bl _ _ _ _) := Hbpy1.out.below (btr Hs34.out (btr Hs36.out (btr Hs38.out (btr Hs40.out (btr Hs41.out Hs43.out))))) Hbpy1.out.lt
  have Hbn21 : Hid (Bl _ _ _ _) := Hbn20.out.below Hs43.out Hbn20.out.lt
  have Hbdw2 : Hid (Bl _ _ _ _) := Hbdw1.out.below (btr Hs32.out (btr Hs34.out (btr Hs36.out (btr Hs38.out (btr Hs40.out (btr Hs41.out Hs43.out)))))) Hbdw1.out.lt
  have Hbpz1 : Hid (Bl _ _ _ _) := Hbpz0.out.below (btr Hs24.out (btr Hs25.out (btr Hs28.out (btr Hs29.out (btr Hs32.out (btr Hs34.out (btr Hs36.out (btr Hs38.out (btr Hs40.out (btr Hs41.out Hs43.out)))))))))) Hbpz0.out.lt
  have Hbdv2 : Hid (Bl _ _ _ _) := Hbdv1.out.below (btr Hs34.out (btr Hs36.out (btr Hs38.out (btr Hs40.out (btr Hs41.out Hs43.out))))) Hbdv1.out.lt
  have Hba6 : Hid (Bl _ _ _ _) := Hba5.out.below (btr Hs40.out (btr Hs41.out Hs43.out)) Hba5.out.lt
  have HbP4 : Hid (Bl _ _ _ _) := HbP3.out.below (btr Hs36.out (btr Hs38.out (btr Hs40.out (btr Hs41.out Hs43.out)))) HbP3.out.lt
  have Hbb4 : Hid (Bl _ _ _ _) := Hbb3.out.below (btr Hs38.out (btr Hs40.out (btr Hs41.out Hs43.out))) Hbb3.out.lt
  have HbQ4 : Hid (Bl _ _ _ _) := HbQ3.out.below (btr Hs38.out (btr Hs40.out (btr Hs41.out Hs43.out))) HbQ3.out.lt
  refine wp_region_K 38 (fun (w' : World) => w'.cell? ⟨w11.heap.size, 0, none⟩ = some (.slice nxx0 nxx1 nxx2) ∧ w'.cell? ⟨w11.heap.size, 1, none⟩ = some (.slice nxy0 nxy1 nxy2) ∧ w'.cell? ⟨w11.heap.size, 2, none⟩ = some (.bool nj) ∧ w'.cell? ⟨w15.heap.size, 0, none⟩ = some (.slice pyx0 pyx1 pyx2) ∧ w'.cell? ⟨w15.heap.size, 1, none⟩ = some (.slice pyy0 pyy1 pyy2) ∧ w'.cell? ⟨w15.heap.size, 2, none⟩ = some (.bool aj) ∧ w'.cell? ⟨w39.heap.size, 0, none⟩ = some (.slice n2x0 n2x1 n2x2) ∧ w'.cell? ⟨w39.heap.size, 1, none⟩ = some (.slice n2y0 n2y1 n2y2) ∧ w'.cell? ⟨w39.heap.size, 2, none⟩ = some (.bool nj) ∧ w'.cell? ⟨w23.heap.size, 0, none⟩ = some (.slice dwx0 dwx1 dwx2) ∧ w'.cell? ⟨w23.heap.size, 1, none⟩ = some (.slice dwy0 dwy1 dwy2) ∧ w'.cell? ⟨w23.heap.size, 2, none⟩ = some (.bool nj) ∧ w'.cell? ⟨w19.heap.size, 0, none⟩ = some (.slice pzx0 pzx1 pzx2) ∧ w'.cell? ⟨w19.heap.size, 1, none⟩ = some (.slice pzy0 pzy1 pzy2) ∧ w'.cell? ⟨w19.heap.size, 2, none⟩ = some (.bool aj) ∧ w'.cell? ⟨w27.heap.size, 0, none⟩ = some (.slice dvx0 dvx1 dvx2) ∧ w'.cell? ⟨w27.heap.size, 1, none⟩ = some (.slice dvy0 dvy1 dvy2) ∧ w'.cell? ⟨w27.heap.size, 2, none⟩ = some (.bool aj) ∧ w'.cell? ⟨w3.heap.size, 0, none⟩ = some (.slice (some ⟨ag1, 0, none⟩) xs.length ad1) ∧ w'.cell? ⟨w3.heap.size, 1, none⟩ = some (.slice (some ⟨ag2, 0, none⟩) ys.length ad2) ∧ w'.cell? ⟨w3.heap.size, 2, none⟩ = some (.bool inf) ∧ w'.cell? ⟨w.heap.size, 0, none⟩ = some (.slice x0 xs.length x2) ∧ w'.cell? ⟨w.heap.size, 1, none⟩ = some (.slice y0 ys.length y2) ∧ w'.cell? ⟨w.heap.size, 2, none⟩ = some (.bool inf) ∧ w'.cell? ⟨w7.heap.size, 0, none⟩ = some (.slice (some ⟨bg1, 0, none⟩) us.length bd1) ∧ w'.cell? ⟨w7.heap.size, 1, none⟩ = some (.slice (some ⟨bg2, 0, none⟩) vs.length bd2) ∧ w'.cell? ⟨w7.heap.size, 2, none⟩ = some (.bool jnf) ∧ w'.cell? ⟨w.heap.size + 1, 0, none⟩ = some (.slice u0 us.length u2) ∧ w'.cell? ⟨w.heap.size + 1, 1, none⟩ = some (.slice v0 vs.length v2) ∧ w'.cell? ⟨w.heap.size + 1, 2, none⟩ = some (.bool jnf)) (by kernel_rfl) ?_
  have hHeld : ((fun (w' : World) => w'.cell? ⟨w11.heap.size, 0, none⟩ = some (.slice nxx0 nxx1 nxx2) ∧ w'.cell? ⟨w11.heap.size, 1, none⟩ = some (.slice nxy0 nxy1 nxy2) ∧ w'.cell? ⟨w11.heap.size, 2, none⟩ = some (.bool nj) ∧ w'.cell? ⟨w15.heap.size, 0, none⟩ = some (.slice pyx0 pyx1 pyx2) ∧ w'.cell? ⟨w15.heap.size, 1, none⟩ = some (.slice pyy0 pyy1 pyy2) ∧ w'.cell? ⟨w15.heap.size, 2, none⟩ = some (.bool aj) ∧ w'.cell? ⟨w39.heap.size, 0, none⟩ = some (.slice n2x0 n2x1 n2x2) ∧ w'.cell? ⟨w39.heap.size, 1, none⟩ = some (.slice n2y0 n2y1 n2y2) ∧ w'.cell? ⟨w39.heap.size, 2, none⟩ = some (.bool nj) ∧ w'.cell? ⟨w23.heap.size, 0, none⟩ = some (.slice dwx0 dwx1 dwx2) ∧ w'.cell? ⟨w23.heap.size, 1, none⟩ = some (.slice dwy0 dwy1 dwy2) ∧ w'.cell? ⟨w23.heap.size, 2, none⟩ = some (.bool nj) ∧ w'.cell? ⟨w19.heap.size, 0, none⟩ = some (.slice pzx0 pzx1 pzx2) ∧ w'.cell? ⟨w19.heap.size, 1, none⟩ = some (.slice pzy0 pzy1 pzy2) ∧ w'.cell? ⟨w19.heap.size, 2, none⟩ = some (.bool aj) ∧ w'.cell? ⟨w27.heap.size, 0, none⟩ = some (.slice dvx0 dvx1 dvx2) ∧ w'.cell? ⟨w27.heap.size, 1, none⟩ = some (.slice dvy0 dvy1 dvy2) ∧ w'.cell? ⟨w27.heap.size, 2, none⟩ = some (.bool aj) ∧ w'.cell? ⟨w3.heap.size, 0, none⟩ = some (.slice (some ⟨ag1, 0, none⟩) xs.length ad1) ∧ w'.cell? ⟨w3.heap.size, 1, none⟩ = some (.slice (some ⟨ag2, 0, none⟩) ys.length ad2) ∧ w'.cell? ⟨w3.heap.size, 2, none⟩ = some (.bool inf) ∧ w'.cell? ⟨w.heap.size, 0, none⟩ = some (.slice x0 xs.length x2) ∧ w'.cell? ⟨w.heap.size, 1, none⟩ = some (.slice y0 ys.length y2) ∧ w'.cell? ⟨w.heap.size, 2, none⟩ = some (.bool inf) ∧ w'.cell? ⟨w7.heap.size, 0, none⟩ = some (.slice (some ⟨bg1, 0, none⟩) us.length bd1) ∧ w'.cell? ⟨w7.heap.size, 1, none⟩ = some (.slice (some ⟨bg2, 0, none⟩) vs.length bd2) ∧ w'.cell? ⟨w7.heap.size, 2, none⟩ = some (.bool jnf) ∧ w'.cell? ⟨w.heap.size + 1, 0, none⟩ = some (.slice u0 us.length u2) ∧ w'.cell? ⟨w.heap.size + 1, 1, none⟩ = some (.slice v0 vs.length v2) ∧ w'.cell? ⟨w.heap.size + 1, 2, none⟩ = some (.bool jnf))) (World.drew _) := ⟨Hbnx2.out.cell 0 (by simp), Hbnx2.out.cell 1 (by simp), Hbnx2.out.cell 2 (by simp), Hbpy2.out.cell 0 (by simp), Hbpy2.out.cell 1 (by simp), Hbpy2.out.cell 2 (by simp), Hbn21.out.cell 0 (by simp), Hbn21.out.cell 1 (by simp), Hbn21.out.cell 2 (by simp), Hbdw2.out.cell 0 (by simp), Hbdw2.out.cell 1 (by simp), Hbdw2.out.cell 2 (by simp), Hbpz1.out.cell 0 (by simp), Hbpz1.out.cell 1 (by simp), Hbpz1.out.cell 2 (by simp), Hbdv2.out.cell 0 (by simp), Hbdv2.out.cell 1 (by simp), Hbdv2.out.cell 2 (by simp), Hba6.out.cell 0 (by simp), Hba6.out.cell 1 (by simp), Hba6.out.cell 2 (by simp), HbP4.out.cell 0 (by simp), HbP4.out.cell 1 (by simp), HbP4.out.cell 2 (by simp), Hbb4.out.cell 0 (by simp), Hbb4.out.cell 1 (by simp), Hbb4.out.cell 2 (by simp), HbQ4.out.cell 0 (by simp), HbQ4.out.cell 1 (by simp), HbQ4.out.cell 2 (by simp)⟩
  refine wpAnyK_take 0 [1, 2, 3, 7, 8, 13, 14, 19, 20, 28, 29, 34, 35, 38] (v := ?v1) rfl (by kernel_rfl) (fun _ _ _ h => h) (Or.inl ⟨by rfl, ?hy1⟩) hHeld ?_
  case hy1 => (intro w hSw; (try dsimp only at hSw); go_simp; try with_reducible rfl)
  try simp only [Act.put, List.setIfInBounds_toArray, List.set_cons_zero, List.set_cons_succ]
  refine wpAnyK_step 1 rfl (by kernel_rfl) (fun K hK => ?_)
  go_simp
  have Hnxx2 : Hid (Mk _ _ _ _ _) := Hnxx1.out.below (btr Hs32.out (btr Hs34.out (btr Hs36.out (btr Hs38.out (btr Hs40.out (btr Hs41.out Hs43.out))))))
  have Hnxy2 : Hid (Mk _ _ _ _ _) := Hnxy1.out.below (btr Hs32.out (btr Hs34.out (btr Hs36.out (btr Hs38.out (btr Hs40.out (btr Hs41.out Hs43.out))))))
  refine (spoil_v _ _ _ _ nj _ (Hnxx2.out.1.base (Nat.zero_le _)) (Hnxy2.out.1.base (Nat.zero_le _)) Hanx.out (Nat.le_trans Hnxx2.out.2.1 (by decide)) (Nat.le_trans Hnxy2.out.2.1 (by decide))).mono ?_
  rintro e w44 ⟨rfl, hC⟩
  have HInx : Hid (∀ k, ((fun k => (Value.slice nxx0 nxx1 nxx2).ownBlock = some k ∨ (Value.slice nxy0 nxy1 nxy2).ownBlock = some k)) k → wv10.heap.size ≤ k ∧ k < w11.heap.size) := fun k hk => hk.elim (fun h => Hvnxx.out k h) (fun h => Hvnxy.out k h)
  have HB7 : Hid (Below _ _ _) := HB6.out.trans ((btr Hs38.out (btr Hs40.out (btr Hs41.out Hs43.out))).mono HB6.out.size)
  have Ha16 : Hid (Lk _ _ _ _ _) := Ha15.out.below (btr Hs40.out (btr Hs41.out Hs43.out)) (Nat.le_refl _)
  have Ha26 : Hid (Lk _ _ _ _ _) := Ha25.out.below (btr Hs40.out (btr Hs41.out Hs43.out)) (Nat.le_refl _)
  have Hb14 : Hid (Lk _ _ _ _ _) := Hb13.out.below (btr Hs38.out (btr Hs40.out (btr Hs41.out Hs43.out))) (Nat.le_refl _)
  have Hb24 : Hid (Lk _ _ _ _ _) := Hb23.out.below (btr Hs38.out (btr Hs40.out (btr Hs41.out Hs43.out))) (Nat.le_refl _)
  have Hpyx2 : Hid (Mk _ _ _ _ _) := Hpyx1.out.below (btr Hs34.out (btr Hs36.out (btr Hs38.out (btr Hs40.out (btr Hs41.out Hs43.out)))))
  have Hpyy2 : Hid (Mk _ _ _ _ _) := Hpyy1.out.below (btr Hs34.out (btr Hs36.out (btr Hs38.out (btr Hs40.out (btr Hs41.out Hs43.out)))))
  have Hpzx1 : Hid (Mk _ _ _ _ _) := Hpzx0.out.below (btr Hs21.out (btr Hs24.out (btr Hs25.out (btr Hs28.out (btr Hs29.out (btr Hs32.out (btr Hs34.out (btr Hs36.out (btr Hs38.out (btr Hs40.out (btr Hs41.out Hs43.out)))))))))))
  have Hpzy1 : Hid (Mk _ _ _ _ _) := Hpzy0.out.below (btr Hs21.out (btr Hs24.out (btr Hs25.out (btr Hs28.out (btr Hs29.out (btr Hs32.out (btr Hs34.out (btr Hs36.out (btr Hs38.out (btr Hs40.out (btr Hs41.out Hs43.out)))))))))))
  have Hdwx2 : Hid (Mk _ _ _ _ _) := Hdwx1.out.below (btr Hs32.out (btr Hs34.out (btr Hs36.out (btr Hs38.out (btr Hs40.out (btr Hs41.out Hs43.out))))))
  have Hdwy2 : Hid (Mk _ _ _ _ _) := Hdwy1.out.below (btr Hs32.out (btr Hs34.out (btr Hs36.out (btr Hs38.out (btr Hs40.out (btr Hs41.out Hs43.out))))))
  have Hdvx2 : Hid (Mk _ _ _ _ _) := Hdvx1.out.below (btr Hs34.out (btr Hs36.out (btr Hs38.out (btr Hs40.out (btr Hs41.out Hs43.out)))))
  have Hdvy2 : Hid (Mk _ _ _ _ _) := Hdvy1.out.below (btr Hs34.out (btr Hs36.out (btr Hs38.out (btr Hs40.out (btr Hs41.out Hs43.out)))))
  have Hn2x1 : Hid (Mk _ _ _ _ _) := Hn2x0.out.below (btr Hs41.out Hs43.out)
  have Hn2y1 : Hid (Mk _ _ _ _ _) := Hn2y0.out.below (btr Hs41.out Hs43.out)
  have HZ1 := pack33 (Hs1.out.size) (Hsz.out) (Hs4.out.size) (Hva.out) (Hs5.out.size) (Hba0.out.lt) (Hs8.out.size) (Hvb.out) (Hs9.out.size) (Hbb0.out.lt) (Hs12.out.size) (Hs13.out.size) (Hbnx0.out.lt) (Hs16.out.size) (Hs17.out.size) (Hbpy0.out.lt) (Hs20.out.size) (Hs21.out.size) (Hbpz0.out.lt) (Hs24.out.size) (Hs25.out.size) (Hbdw0.out.lt) (Hs28.out.size) (Hs29.out.size) (Hbdv0.out.lt) (Hs32.out.size) (Hs34.out.size) (Hs36.out.size) (Hs38.out.size) (Hs40.out.size) (Hs41.out.size) (Hbn20.out.lt) (Hs43.out.size)
  have HC45 : Hid (Chf (fun k => (Value.slice nxx0 nxx1 nxx2).ownBlock = some k ∨ (Value.slice nxy0 nxy1 nxy2).ownBlock = some k) wv42.drew w44) := hC
  clear hC
  have HB8 : Hid (Below w.heap.size w w44) := HC45.out.below HB7.out (fun k hk hf => by have hi := HInx.out _ hf; have hz_ := HZ1.out; omega)
  have HbP5 : Hid (Bl _ _ _ _) := HbP4.out.chf HC45.out (fun hf => by have hi := HInx.out _ hf; have hz_ := HZ1.out; omega)
  have HbQ5 : Hid (Bl _ _ _ _) := HbQ4.out.chf HC45.out (fun hf => by have hi := HInx.out _ hf; have hz_ := HZ1.out; omega)
  have Ha17 : Hid (Lk _ _ _ _ _) := Ha16.out.chf HC45.out (fun hf => by have hi := HInx.out _ hf; have hz_ := HZ1.out; omega)
  have Ha27 : Hid (Lk _ _ _ _ _) := Ha26.out.chf HC45.out (fun hf => by have hi := HInx.out _ hf; have hz_ := HZ1.out; omega)
  have Hba7 : Hid (Bl _ _ _ _) := Hba6.out.chf HC45.out (fun hf => by have hi := HInx.out _ hf; have hz_ := HZ1.out; omega)
  have Hb15 : Hid (Lk _ _ _ _ _) := Hb14.out.chf HC45.out (fun hf => by have hi := HInx.out _ hf; have hz_ := HZ1.out; omega)
  have Hb25 : Hid (Lk _ _ _ _ _) := Hb24.out.chf HC45.out (fun hf => by have hi := HInx.out _ hf; have hz_ := HZ1.out; omega)
  have Hbb5 : Hid (Bl _ _ _ _) := Hbb4.out.chf HC45.out (fun hf => by have hi := HInx.out _ hf; have hz_ := HZ1.out; omega)
  have Hbnx3 : Hid (Bl _ _ _ _) := Hbnx2.out.chf HC45.out (fun hf => by have hi := HInx.out _ hf; have hz_ := HZ1.out; omega)
  have Hpyx3 : Hid (Mk _ _ _ _ _) := Hpyx2.out.chf HC45.out (fun g hg hf => by have hj := Hvpyx.out g hg; have hi := HInx.out _ hf; have hz_ := HZ1.out; omega)
  have Hpyy3 : Hid (Mk _ _ _ _ _) := Hpyy2.out.chf HC45.out (fun g hg hf => by have hj := Hvpyy.out g hg; have hi := HInx.out _ hf; have hz_ := HZ1.out; omega)
  have Hbpy3 : Hid (Bl _ _ _ _) := Hbpy2.out.chf HC45.out (fun hf => by have hi := HInx.out _ hf; have hz_ := HZ1.out; omega)
  have Hpzx2 : Hid (Mk _ _ _ _ _) := Hpzx1.out.chf HC45.out (fun g hg hf => by have hj := Hvpzx.out g hg; have hi := HInx.out _ hf; have hz_ := HZ1.out; omega)
  have Hpzy2 : Hid (Mk _ _ _ _ _) := Hpzy1.out.chf HC45.out (fun g hg hf => by have hj := Hvpzy.out g hg; have hi := HInx.out _ hf; have hz_ := HZ1.out; omega)
  have Hbpz2 : Hid (Bl _ _ _ _) := Hbpz1.out.chf HC45.out (fun hf => by have hi := HInx.out _ hf; have hz_ := HZ1.out; omega)
  have Hdwx3 : Hid (Mk _ _ _ _ _) := Hdwx2.out.chf HC45.out (fun g hg hf => by have hj := Hvdwx.out g hg; have hi := HInx.out _ hf; have hz_ := HZ1.out; omega)
  have Hdwy3 : Hid (Mk _ _ _ _ _) := Hdwy2.out.chf HC45.out (fun g hg hf => by have hj := Hvdwy.out g hg; have hi := HInx.out _ hf; have hz_ := HZ1.out; omega)
  have Hbdw3 : Hid (Bl _ _ _ _) := Hbdw2.out.chf HC45.out (fun hf => by have hi := HInx.out _ hf; have hz_ := HZ1.out; omega)
  have Hdvx3 : Hid (Mk _ _ _ _ _) := Hdvx2.out.chf HC45.out (fun g hg hf => by have hj := Hvdvx.out g hg; have hi := HInx.out _ hf; have hz_ := HZ1.out; omega)
  have Hdvy3 : Hid (Mk _ _ _ _ _) := Hdvy2.out.chf HC45.out (fun g hg hf => by have hj := Hvdvy.out g hg; have hi := HInx.out _ hf; have hz_ := HZ1.out; omega)
  have Hbdv3 : Hid (Bl _ _ _ _) := Hbdv2.out.chf HC45.out (fun hf => by have hi := HInx.out _ hf; have hz_ := HZ1.out; omega)
  have Hn2x2 : Hid (Mk _ _ _ _ _) := Hn2x1.out.chf HC45.out (fun g hg hf => by have hj := Hvn2x.out g hg; have hi := HInx.out _ hf; have hz_ := HZ1.out; omega)
  have Hn2y2 : Hid (Mk _ _ _ _ _) := Hn2y1.out.chf HC45.out (fun g hg hf => by have hj := Hvn2y.out g hg; have hi := HInx.out _ hf; have hz_ := HZ1.out; omega)
  have Hbn22 : Hid (Bl _ _ _ _) := Hbn21.out.chf HC45.out (fun hf => by have hi := HInx.out _ hf; have hz_ := HZ1.out; omega)
  try dsimp only
  refine (fun hHeld => hK.out _ _ (fun _ => hHeld) ?_) ⟨Hbnx3.out.cell 0 (by simp), Hbnx3.out.cell 1 (by simp), Hbnx3.out.cell 2 (by simp), Hbpy3.out.cell 0 (by simp), Hbpy3.out.cell 1 (by simp), Hbpy3.out.cell 2 (by simp), Hbn22.out.cell 0 (by simp), Hbn22.out.cell 1 (by simp), Hbn22.out.cell 2 (by simp), Hbdw3.out.cell 0 (by simp), Hbdw3.out.cell 1 (by simp), Hbdw3.out.cell 2 (by simp), Hbpz2.out.cell 0 (by simp), Hbpz2.out.cell 1 (by simp), Hbpz2.out.cell 2 (by simp), Hbdv3.out.cell 0 (by simp), Hbdv3.out.cell 1 (by simp), Hbdv3.out.cell 2 (by simp), Hba7.out.cell 0 (by simp), Hba7.out.cell 1 (by simp), Hba7.out.cell 2 (by simp), HbP5.out.cell 0 (by simp), HbP5.out.cell 1 (by simp), HbP5.out.cell 2 (by simp), Hbb5.out.cell 0 (by simp), Hbb5.out.cell 1 (by simp), Hbb5.out.cell 2 (by simp), HbQ5.out.cell 0 (by simp), HbQ5.out.cell 1 (by simp), HbQ5.out.cell 2 (by simp)⟩
  clear hK K
  try simp only [Act.put, List.setIfInBounds_toArray, List.set_cons_zero, List.set_cons_succ]
  refine wpAnyK_take0 2 (v := ?v3) rfl (by kernel_rfl) (fun _ _ _ h => h) (Or.inl ⟨by rfl, ?hy3⟩) (fun _ => hHeld) ?_
  case hy3 => (intro w hSw; go_simp; try with_reducible rfl)
  try simp only [Act.put, List.setIfInBounds_toArray, List.set_cons_zero, List.set_cons_succ]
  refine wpAnyK_take0 3 (v := ?v4) rfl (by kernel_rfl) (fun _ _ _ h => h) (Or.inl ⟨by rfl, ?hy4⟩) (fun _ => hHeld) ?_
  case hy4 => (intro w hSw; go_simp; try with_reducible rfl)
  try simp only [Act.put, List.setIfInBounds_toArray, List.set_cons_zero, List.set_cons_succ]
  refine wpAnyK_take 4 [5, 6, 7, 8, 13, 14, 19, 20, 28, 29, 34, 35, 38] (v := ?v5) rfl (by kernel_rfl) (fun _ _ _ h => h) (Or.inl ⟨by rfl, ?hy5⟩) hHeld ?_
  case hy5 => (intro w hSw; (try dsimp only at hSw); go_simp; try with_reducible rfl)
  try simp only [Act.put, List.setIfInBounds_toArray, List.set_cons_zero, List.set_cons_succ]
  refine wpAnyK_step 5 rfl (by kernel_rfl) (fun K hK => ?_)
  go_simp
  refine (spoil_v _ _ _ _ aj _ (Hpyx3.out.1.base (Nat.zero_le _)) (Hpyy3.out.1.base (Nat.zero_le _)) Hapy.out (Nat.le_trans Hpyx3.out.2.1 (by decide)) (Nat.le_trans Hpyy3.out.2.1 (by decide))).mono ?_
  rintro e w46 ⟨rfl, hC⟩
  have HIpy : Hid (∀ k, ((fun k => (Value.slice pyx0 pyx1 pyx2).ownBlock = some k ∨ (Value.slice pyy0 pyy1 pyy2).ownBlock = some k)) k → wv14.heap.size ≤ k ∧ k < w15.heap.size) := fun k hk => hk.elim (fun h => Hvpyx.out k h) (fun h => Hvpyy.out k h)
  have HZ2 := pack2 (HZ1.out) (HC45.out.size)
  have HC47 : Hid (Chf (fun k => (Value.slice pyx0 pyx1 pyx2).ownBlock = some k ∨ (Value.slice pyy0 pyy1 pyy2).ownBlock = some k) w44 w46) := hC
  clear hC
  have HB9 : Hid (Below w.heap.size w w46) := HC47.out.below HB8.out (fun k hk hf => by have hi := HIpy.out _ hf; have hz_ := HZ2.out; omega)
  have HbP6 : Hid (Bl _ _ _ _) := HbP5.out.chf HC47.out (fun hf => by have hi := HIpy.out _ hf; have hz_ := HZ2.out; omega)
  have HbQ6 : Hid (Bl _ _ _ _) := HbQ5.out.chf HC47.out (fun hf => by have hi := HIpy.out _ hf; have hz_ := HZ2.out; omega)
  have Ha18 : Hid (Lk _ _ _ _ _) := Ha17.out.chf HC47.out (fun hf => by have hi := HIpy.out _ hf; have hz_ := HZ2.out; omega)
  have Ha28 : Hid (Lk _ _ _ _ _) := Ha27.out.chf HC47.out (fun hf => by have hi := HIpy.out _ hf; have hz_ := HZ2.out; omega)
  have Hba8 : Hid (Bl _ _ _ _) := Hba7.out.chf HC47.out (fun hf => by have hi := HIpy.out _ hf; have hz_ := HZ2.out; omega)
  have Hb16 : Hid (Lk _ _ _ _ _) := Hb15.out.chf HC47.out (fun hf => by have hi := HIpy.out _ hf; have hz_ := HZ2.out; omega)
  have Hb26 : Hid (Lk _ _ _ _ _) := Hb25.out.chf HC47.out (fun hf => by have hi := HIpy.out _ hf; have hz_ := HZ2.out; omega)
  have Hbb6 : Hid (Bl _ _ _ _) := Hbb5.out.chf HC47.out (fun hf => by have hi := HIpy.out _ hf; have hz_ := HZ2.out; omega)
  have Hbnx4 : Hid (Bl _ _ _ _) := Hbnx3.out.chf HC47.out (fun hf => by have hi := HIpy.out _ hf; have hz_ := HZ2.out; omega)
  have Hbpy4 : Hid (Bl _ _ _ _) := Hbpy3.out.chf HC47.out (fun hf => by have hi := HIpy.out _ hf; have hz_ := HZ2.out; omega)
  have Hpzx3 : Hid (Mk _ _ _ _ _) := Hpzx2.out.chf HC47.out (fun g hg hf => by have hj := Hvpzx.out g hg; have hi := HIpy.out _ hf; have hz_ := HZ2.out; omega)
  have Hpzy3 : Hid (Mk _ _ _ _ _) := Hpzy2.out.chf HC47.out (fun g hg hf => by have hj := Hvpzy.out g hg; have hi := HIpy.out _ hf; have hz_ := HZ2.out; omega)
  have Hbpz3 : Hid (Bl _ _ _ _) := Hbpz2.out.chf HC47.out (fun hf => by have hi := HIpy.out _ hf; have hz_ := HZ2.out; omega)
  have Hdwx4 : Hid (Mk _ _ _ _ _) := Hdwx3.out.chf HC47.out (fun g hg hf => by have hj := Hvdwx.out g hg; have hi := HIpy.out _ hf; have hz_ := HZ2.out; omega)
  have Hdwy4 : Hid (Mk _ _ _ _ _) := Hdwy3.out.chf HC47.out (fun g hg hf => by have hj := Hvdwy.out g hg; have hi := HIpy.out _ hf; have hz_ := HZ2.out; omega)
  have Hbdw4 : Hid (Bl _ _ _ _) := Hbdw3.out.chf HC47.out (fun hf => by have hi := HIpy.out _ hf; have hz_ := HZ2.out; omega)
  have Hdvx4 : Hid (Mk _ _ _ _ _) := Hdvx3.out.chf HC47.out (fun g hg hf => by have hj := Hvdvx.out g hg; have hi := HIpy.out _ hf; have hz_ := HZ2.out; omega)
  have Hdvy4 : Hid (Mk _ _ _ _ _) := Hdvy3.out.chf HC47.out (fun g hg hf => by have hj := Hvdvy.out g hg; have hi := HIpy.out _ hf; have hz_ := HZ2.out; omega)
  have Hbdv4 : Hid (Bl _ _ _ _) := Hbdv3.out.chf HC47.out (fun hf => by have hi := HIpy.out _ hf; have hz_ := HZ2.out; omega)
  have Hn2x3 : Hid (Mk _ _ _ _ _) := Hn2x2.out.chf HC47.out (fun g hg hf => by have hj := Hvn2x.out g hg; have hi := HIpy.out _ hf; have hz_ := HZ2.out; omega)
  have Hn2y3 : Hid (Mk _ _ _ _ _) := Hn2y2.out.chf HC47.out (fun g hg hf => by have hj := Hvn2y.out g hg; have hi := HIpy.out _ hf; have hz_ := HZ2.out; omega)
  have Hbn23 : Hid (Bl _ _ _ _) := Hbn22.out.chf HC47.out (fun hf => by have hi := HIpy.out _ hf; have hz_ := HZ2.out; omega)
  try dsimp only
  refine (fun hHeld => hK.out _ _ (fun _ => hHeld) ?_) ⟨Hbnx4.out.cell 0 (by simp), Hbnx4.out.cell 1 (by simp), Hbnx4.out.cell 2 (by simp), Hbpy4.out.cell 0 (by simp), Hbpy4.out.cell 1 (by simp), Hbpy4.out.cell 2 (by simp), Hbn23.out.cell 0 (by simp), Hbn23.out.cell 1 (by simp), Hbn23.out.cell 2 (by simp), Hbdw4.out.cell 0 (by simp), Hbdw4.out.cell 1 (by simp), Hbdw4.out.cell 2 (by simp), Hbpz3.out.cell 0 (by simp), Hbpz3.out.cell 1 (by simp), Hbpz3.out.cell 2 (by simp), Hbdv4.out.cell 0 (by simp), Hbdv4.out.cell 1 (by simp), Hbdv4.out.cell 2 (by simp), Hba8.out.cell 0 (by simp), Hba8.out.cell 1 (by simp), Hba8.out.cell 2 (by simp), HbP6.out.cell 0 (by simp), HbP6.out.cell 1 (by simp), HbP6.out.cell 2 (by simp), Hbb6.out.cell 0 (by simp), Hbb6.out.cell 1 (by simp), Hbb6.out.cell 2 (by simp), HbQ6.out.cell 0 (by simp), HbQ6.out.cell 1 (by simp), HbQ6.out.cell 2 (by simp)⟩
  clear hK K
  try simp only [Act.put, List.setIfInBounds_toArray, List.set_cons_zero, List.set_cons_succ]
  refine wpAnyK_take0 6 (v := ?v7) rfl (by kernel_rfl) (fun _ _ _ h => h) (Or.inl ⟨by rfl, ?hy7⟩) (fun _ => hHeld) ?_
  case hy7 => (intro w hSw; go_simp; try with_reducible rfl)
  try simp only [Act.put, List.setIfInBounds_toArray, List.set_cons_zero, List.set_cons_succ]
  refine wpAnyK_take0 7 (v := ?v8) rfl (by kernel_rfl) (fun _ _ _ h => h) (Or.inl ⟨by rfl, ?hy8⟩) (fun _ => hHeld) ?_
  case hy8 => (intro w hSw; go_simp; try with_reducible rfl)
  try simp only [Act.put, List.setIfInBounds_toArray, List.set_cons_zero, List.set_cons_succ]
  refine wpAnyK_take0 8 (v := ?v9) rfl (by kernel_rfl) (fun _ _ _ h => h) (Or.inl ⟨by rfl, ?hy9⟩) (fun _ => hHeld) ?_
  case hy9 => (intro w hSw; go_simp; try with_reducible rfl)
  try simp only [Act.put, List.setIfInBounds_toArray, List.set_cons_zero, List.set_cons_succ]
  refine wpAnyK_take 9 [11, 12, 13, 14, 19, 20, 28, 29, 34, 35, 38] (v := ?v10) rfl (by kernel_rfl) (fun _ _ _ h => h) (Or.inl ⟨by rfl, ?hy10⟩) hHeld ?_
  case hy10 => (intro w hSw; (try dsimp only at hSw); go_simp; try with_reducible rfl)
  try simp only [Act.put, List.setIfInBounds_toArray, List.set_cons_zero, List.set_cons_succ]
  refine wpAnyK_take 10 [11, 12, 13, 14, 19, 20, 28, 29, 34, 35, 38] (v := ?v11) rfl (by kernel_rfl) (fun _ _ _ h => h) (Or.inl ⟨by rfl, ?hy11⟩) hHeld ?_
  case hy11 => (intro w hSw; (try dsimp only at hSw); go_simp; try with_reducible rfl)
  try simp only [Act.put, List.setIfInBounds_toArray, List.set_cons_zero, List.set_cons_succ]
  refine wpAnyK_step 11 rfl (by kernel_rfl) (fun K hK => ?_)
  go_simp
  refine (same_v _ _ _ _ n1 n2 nj _ Hn2x3.out.nm Hn2y3.out.nm Hdwx4.out.nm Hdwy4.out.nm Hn2x3.out.2.1 Hn2y3.out.2.1).mono ?_
  rintro e w48 ⟨rfl, hB⟩
  have Hs49 : Hid (Below _ _ _) := hB
  clear hB
  have Hbnx5 : Hid (Bl _ _ _ _) := Hbnx4.out.below Hs49.out Hbnx4.out.lt
  have Hbpy5 : Hid (Bl _ _ _ _) := Hbpy4.out.below Hs49.out Hbpy4.out.lt
  have Hbn24 : Hid (Bl _ _ _ _) := Hbn23.out.below Hs49.out Hbn23.out.lt
  have Hbdw5 : Hid (Bl _ _ _ _) := Hbdw4.out.below Hs49.out Hbdw4.out.lt
  have Hbpz4 : Hid (Bl _ _ _ _) := Hbpz3.out.below Hs49.out Hbpz3.out.lt
  have Hbdv5 : Hid (Bl _ _ _ _) := Hbdv4.out.below Hs49.out Hbdv4.out.lt
  have Hba9 : Hid (Bl _ _ _ _) := Hba8.out.below Hs49.out Hba8.out.lt
  have HbP7 : Hid (Bl _ _ _ _) := HbP6.out.below Hs49.out HbP6.out.lt
  have Hbb7 : Hid (Bl _ _ _ _) := Hbb6.out.below Hs49.out Hbb6.out.lt
  have HbQ7 : Hid (Bl _ _ _ _) := HbQ6.out.below Hs49.out HbQ6.out.lt
  try dsimp only
  refine (fun hHeld => hK.out _ _ (fun _ => hHeld) ?_) ⟨Hbnx5.out.cell 0 (by simp), Hbnx5.out.cell 1 (by simp), Hbnx5.out.cell 2 (by simp), Hbpy5.out.cell 0 (by simp), Hbpy5.out.cell 1 (by simp), Hbpy5.out.cell 2 (by simp), Hbn24.out.cell 0 (by simp), Hbn24.out.cell 1 (by simp), Hbn24.out.cell 2 (by simp), Hbdw5.out.cell 0 (by simp), Hbdw5.out.cell 1 (by simp), Hbdw5.out.cell 2 (by simp), Hbpz4.out.cell 0 (by simp), Hbpz4.out.cell 1 (by simp), Hbpz4.out.cell 2 (by simp), Hbdv5.out.cell 0 (by simp), Hbdv5.out.cell 1 (by simp), Hbdv5.out.cell 2 (by simp), Hba9.out.cell 0 (by simp), Hba9.out.cell 1 (by simp), Hba9.out.cell 2 (by simp), HbP7.out.cell 0 (by simp), HbP7.out.cell 1 (by simp), HbP7.out.cell 2 (by simp), Hbb7.out.cell 0 (by simp), Hbb7.out.cell 1 (by simp), Hbb7.out.cell 2 (by simp), HbQ7.out.cell 0 (by simp), HbQ7.out.cell 1 (by simp), HbQ7.out.cell 2 (by simp)⟩
  clear hK K
  try simp only [Act.put, List.setIfInBounds_toArray, List.set_cons_zero, List.set_cons_succ]
  refine wpAnyK_take0 12 (v := ?v13) rfl (by kernel_rfl) (fun _ _ _ h => h) (Or.inl ⟨by rfl, ?hy13⟩) (fun _ => hHeld) ?_
  case hy13 => (intro w hSw; go_simp; try with_reducible rfl)
  try simp only [Act.put, List.setIfInBounds_toArray, List.set_cons_zero, List.set_cons_succ]
  refine wpAnyK_take0 13 (v := ?v14) rfl (by kernel_rfl) (fun _ _ _ h => h) (Or.inl ⟨by rfl, ?hy14⟩) (fun _ => hHeld) ?_
  case hy14 => (intro w hSw; go_simp; try with_reducible rfl)
  try simp only [Act.put, List.setIfInBounds_toArray, List.set_cons_zero, List.set_cons_succ]
  refine wpAnyK_take0 14 (v := ?v15) rfl (by kernel_rfl) (fun _ _ _ h => h) (Or.inl ⟨by rfl, ?hy15⟩) (fun _ => hHeld) ?_
  case hy15 => (intro w hSw; go_simp; try with_reducible rfl)
  try simp only [Act.put, List.setIfInBounds_toArray, List.set_cons_zero, List.set_cons_succ]
  refine wpAnyK_take 15 [17, 18, 19, 20, 28, 29, 34, 35, 38] (v := ?v16) rfl (by kernel_rfl) (fun _ _ _ h => h) (Or.inl ⟨by rfl, ?hy16⟩) hHeld ?_
  case hy16 => (intro w hSw; (try dsimp only at hSw); go_simp; try with_reducible rfl)
  try simp only [Act.put, List.setIfInBounds_toArray, List.set_cons_zero, List.set_cons_succ]
  refine wpAnyK_take 16 [17, 18, 19, 20, 28, 29, 34, 35, 38] (v := ?v17) rfl (by kernel_rfl) (fun _ _ _ h => h) (Or.inl ⟨by rfl, ?hy17⟩) hHeld ?_
  case hy17 => (intro w hSw; (try dsimp only at hSw); go_simp; try with_reducible rfl)
  try simp only [Act.put, List.setIfInBounds_toArray, List.set_cons_zero, List.set_cons_succ]
  refine wpAnyK_step 17 rfl (by kernel_rfl) (fun K hK => ?_)
  go_simp
  have Hpzx4 : Hid (Mk _ _ _ _ _) := Hpzx3.out.below Hs49.out
  have Hpzy4 : Hid (Mk _ _ _ _ _) := Hpzy3.out.below Hs49.out
  have Hdvx5 : Hid (Mk _ _ _ _ _) := Hdvx4.out.below Hs49.out
  have Hdvy5 : Hid (Mk _ _ _ _ _) := Hdvy4.out.below Hs49.out
  refine (same_v _ _ _ _ a1 a2 aj _ Hpzx4.out.nm Hpzy4.out.nm Hdvx5.out.nm Hdvy5.out.nm Hpzx4.out.2.1 Hpzy4.out.2.1).mono ?_
  rintro e w50 ⟨rfl, hB⟩
  have Hs51 : Hid (Below _ _ _) := hB
  clear hB
  have Hbnx6 : Hid (Bl _ _ _ _) := Hbnx5.out.below Hs51.out Hbnx5.out.lt
  have Hbpy6 : Hid (Bl _ _ _ _) := Hbpy5.out.below Hs51.out Hbpy5.out.lt
  have Hbn25 : Hid (Bl _ _ _ _) := Hbn24.out.below Hs51.out Hbn24.out.lt
  have Hbdw6 : Hid (Bl _ _ _ _) := Hbdw5.out.below Hs51.out Hbdw5.out.lt
  have Hbpz5 : Hid (Bl _ _ _ _) := Hbpz4.out.below Hs51.out Hbpz4.out.lt
  have Hbdv6 : Hid (Bl _ _ _ _) := Hbdv5.out.below Hs51.out Hbdv5.out.lt
  have Hba10 : Hid (Bl _ _ _ _) := Hba9.out.below Hs51.out Hba9.out.lt
  have HbP8 : Hid (Bl _ _ _ _) := HbP7.out.below Hs51.out HbP7.out.lt
  have Hbb8 : Hid (Bl _ _ _ _) := Hbb7.out.below Hs51.out Hbb7.out.lt
  have HbQ8 : Hid (Bl _ _ _ _) := HbQ7.out.below Hs51.out HbQ7.out.lt
  try dsimp only
  refine (fun hHeld => hK.out _ _ (fun _ => hHeld) ?_) ⟨Hbnx6.out.cell 0 (by simp), Hbnx6.out.cell 1 (by simp), Hbnx6.out.cell 2 (by simp), Hbpy6.out.cell 0 (by simp), Hbpy6.out.cell 1 (by simp), Hbpy6.out.cell 2 (by simp), Hbn25.out.cell 0 (by simp), Hbn25.out.cell 1 (by simp), Hbn25.out.cell 2 (by simp), Hbdw6.out.cell 0 (by simp), Hbdw6.out.cell 1 (by simp), Hbdw6.out.cell 2 (by simp), Hbpz5.out.cell 0 (by simp), Hbpz5.out.cell 1 (by simp), Hbpz5.out.cell 2 (by simp), Hbdv6.out.cell 0 (by simp), Hbdv6.out.cell 1 (by simp), Hbdv6.out.cell 2 (by simp), Hba10.out.cell 0 (by simp), Hba10.out.cell 1 (by simp), Hba10.out.cell 2 (by simp), HbP8.out.cell 0 (by simp), HbP8.out.cell 1 (by simp), HbP8.out.cell 2 (by simp), Hbb8.out.cell 0 (by simp), Hbb8.out.cell 1 (by simp), Hbb8.out.cell 2 (by simp), HbQ8.out.cell 0 (by simp), HbQ8.out.cell 1 (by simp), HbQ8.out.cell 2 (by simp)⟩
  clear hK K
  try simp only [Act.put, List.setIfInBounds_toArray, List.set_cons_zero, List.set_cons_succ]
  refine wpAnyK_take0 18 (v := ?v19) rfl (by kernel_rfl) (fun _ _ _ h => h) (Or.inl ⟨by rfl, ?hy19⟩) (fun _ => hHeld) ?_
  case hy19 => (intro w hSw; go_simp; try with_reducible rfl)
  try simp only [Act.put, List.setIfInBounds_toArray, List.set_cons_zero, List.set_cons_succ]
  refine wpAnyK_take0 19 (v := ?v20) rfl (by kernel_rfl) (fun _ _ _ h => h) (Or.inl ⟨by rfl, ?hy20⟩) (fun _ => hHeld) ?_
  case hy20 => (intro w hSw; go_simp; try with_reducible rfl)
  try simp only [Act.put, List.setIfInBounds_toArray, List.set_cons_zero, List.set_cons_succ]
  refine wpAnyK_take0 20 (v := ?v21) rfl (by kernel_rfl) (fun _ _ _ h => h) (Or.inl ⟨by rfl, ?hy21⟩) (fun _ => hHeld) ?_
  case hy21 => (intro w hSw; go_simp; try with_reducible rfl)
  try simp only [Act.put, List.setIfInBounds_toArray, List.set_cons_zero, List.set_cons_succ]
  refine wpAnyK_take0 21 (v := ?v22) rfl (by kernel_rfl) (fun _ _ _ h => h) (Or.inl ⟨by rfl, ?hy22⟩) (fun _ => hHeld) ?_
  case hy22 => (intro w hSw; go_simp; try with_reducible rfl)
  try simp only [Act.put, List.setIfInBounds_toArray, List.set_cons_zero, List.set_cons_succ]
  refine wpAnyK_take 22 [23, 27, 28, 29, 34, 35, 38] (v := ?v23) rfl (by kernel_rfl) (fun _ _ _ h => h) (Or.inl ⟨by rfl, ?hy23⟩) hHeld ?_
  case hy23 => (intro w hSw; (try dsimp only at hSw); go_simp; try with_reducible rfl)
  try simp only [Act.put, List.setIfInBounds_toArray, List.set_cons_zero, List.set_cons_succ]
  refine wpAnyK_take0 24 (v := ?v24) rfl (by kernel_rfl) (fun _ _ _ h => h) (Or.inl ⟨by rfl, ?hy24⟩) (fun _ => hHeld) ?_
  case hy24 => (intro w hSw; go_simp; try with_reducible rfl)
  try simp only [Act.put, List.setIfInBounds_toArray, List.set_cons_zero, List.set_cons_succ]
  refine wpAnyK_take 25 [26, 27, 28, 29, 34, 35, 38] (v := ?v25) rfl (by kernel_rfl) (fun _ _ _ h => h) (Or.inl ⟨by rfl, ?hy25⟩) hHeld ?_
  case hy25 => (intro w hSw; (try dsimp only at hSw); go_simp; try with_reducible rfl)
  try simp only [Act.put, List.setIfInBounds_toArray, List.set_cons_zero, List.set_cons_succ]
  refine wpAnyK_step 23 rfl (by kernel_rfl) (fun K hK => ?_)
  go_simp
  have Ha19 : Hid (Lk _ _ _ _ _) := Ha18.out.below (btr Hs49.out Hs51.out) (Nat.le_refl _)
  have Ha29 : Hid (Lk _ _ _ _ _) := Ha28.out.below (btr Hs49.out Hs51.out) (Nat.le_refl _)
  have C := A.pn _ _ _ _ inf _ (Nm.nu' (Lk.nm' Ha19.out HS.out.1 rfl) (by have h := HL.out.1; first | exact h | (rw [ov_len]; exact h))) (Nm.nu' (Lk.nm' Ha29.out HS.out.2.1 rfl) (by have h := HL.out.2.1; first | exact h | (rw [ov_len]; exact h)))
  rw [← Hoo.out] at C
  refine (C).mono ?_
  rintro e w52 ⟨rfl, hB⟩
  have Hs53 : Hid (Below _ _ _) := hB
  clear hB C
  have Hbnx7 : Hid (Bl _ _ _ _) := Hbnx6.out.below Hs53.out Hbnx6.out.lt
  have Hbpy7 : Hid (Bl _ _ _ _) := Hbpy6.out.below Hs53.out Hbpy6.out.lt
  have Hbn26 : Hid (Bl _ _ _ _) := Hbn25.out.below Hs53.out Hbn25.out.lt
  have Hbdw7 : Hid (Bl _ _ _ _) := Hbdw6.out.below Hs53.out Hbdw6.out.lt
  have Hbpz6 : Hid (Bl _ _ _ _) := Hbpz5.out.below Hs53.out Hbpz5.out.lt
  have Hbdv7 : Hid (Bl _ _ _ _) := Hbdv6.out.below Hs53.out Hbdv6.out.lt
  have Hba11 : Hid (Bl _ _ _ _) := Hba10.out.below Hs53.out Hba10.out.lt
  have HbP9 : Hid (Bl _ _ _ _) := HbP8.out.below Hs53.out HbP8.out.lt
  have Hbb9 : Hid (Bl _ _ _ _) := Hbb8.out.below Hs53.out Hbb8.out.lt
  have HbQ9 : Hid (Bl _ _ _ _) := HbQ8.out.below Hs53.out HbQ8.out.lt
  try dsimp only
  refine (fun hHeld => hK.out _ _ (fun _ => hHeld) ?_) ⟨Hbnx7.out.cell 0 (by simp), Hbnx7.out.cell 1 (by simp), Hbnx7.out.cell 2 (by simp), Hbpy7.out.cell 0 (by simp), Hbpy7.out.cell 1 (by simp), Hbpy7.out.cell 2 (by simp), Hbn26.out.cell 0 (by simp), Hbn26.out.cell 1 (by simp), Hbn26.out.cell 2 (by simp), Hbdw7.out.cell 0 (by simp), Hbdw7.out.cell 1 (by simp), Hbdw7.out.cell 2 (by simp), Hbpz6.out.cell 0 (by simp), Hbpz6.out.cell 1 (by simp), Hbpz6.out.cell 2 (by simp), Hbdv7.out.cell 0 (by simp), Hbdv7.out.cell 1 (by simp), Hbdv7.out.cell 2 (by simp), Hba11.out.cell 0 (by simp), Hba11.out.cell 1 (by simp), Hba11.out.cell 2 (by simp), HbP9.out.cell 0 (by simp), HbP9.out.cell 1 (by simp), HbP9.out.cell 2 (by simp), Hbb9.out.cell 0 (by simp), Hbb9.out.cell 1 (by simp), Hbb9.out.cell 2 (by simp), HbQ9.out.cell 0 (by simp), HbQ9.out.cell 1 (by simp), HbQ9.out.cell 2 (by simp)⟩
  clear hK K
  try simp only [Act.put, List.setIfInBounds_toArray, List.set_cons_zero, List.set_cons_succ]
  refine wpAnyK_step 26 rfl (by kernel_rfl) (fun K hK => ?_)
  go_simp
  have HB10 : Hid (Below _ _ _) := HB9.out.trans ((btr Hs49.out (btr Hs51.out Hs53.out)).mono HB9.out.size)
  have C := A.dn _ _ _ _ inf _ (Nm.nu' (HAx.out.below HB10.out (Nat.le_refl _)) HL.out.1) (Nm.nu' (HAy.out.below HB10.out (Nat.le_refl _)) HL.out.2.1)
  rw [← Hoo.out] at C
  refine (C).mono ?_
  rintro e w54 ⟨rfl, hB⟩
  have Hs55 : Hid (Below _ _ _) := hB
  clear hB C
  have Hbnx8 : Hid (Bl _ _ _ _) := Hbnx7.out.below Hs55.out Hbnx7.out.lt
  have Hbpy8 : Hid (Bl _ _ _ _) := Hbpy7.out.below Hs55.out Hbpy7.out.lt
  have Hbn27 : Hid (Bl _ _ _ _) := Hbn26.out.below Hs55.out Hbn26.out.lt
  have Hbdw8 : Hid (Bl _ _ _ _) := Hbdw7.out.below Hs55.out Hbdw7.out.lt
  have Hbpz7 : Hid (Bl _ _ _ _) := Hbpz6.out.below Hs55.out Hbpz6.out.lt
  have Hbdv8 : Hid (Bl _ _ _ _) := Hbdv7.out.below Hs55.out Hbdv7.out.lt
  have Hba12 : Hid (Bl _ _ _ _) := Hba11.out.below Hs55.out Hba11.out.lt
  have HbP10 : Hid (Bl _ _ _ _) := HbP9.out.below Hs55.out HbP9.out.lt
  have Hbb10 : Hid (Bl _ _ _ _) := Hbb9.out.below Hs55.out Hbb9.out.lt
  have HbQ10 : Hid (Bl _ _ _ _) := HbQ9.out.below Hs55.out HbQ9.out.lt
  try dsimp only
  refine (fun hHeld => hK.out _ _ (fun _ => hHeld) ?_) ⟨Hbnx8.out.cell 0 (by simp), Hbnx8.out.cell 1 (by simp), Hbnx8.out.cell 2 (by simp), Hbpy8.out.cell 0 (by simp), Hbpy8.out.cell 1 (by simp), Hbpy8.out.cell 2 (by simp), Hbn27.out.cell 0 (by simp), Hbn27.out.cell 1 (by simp), Hbn27.out.cell 2 (by simp), Hbdw8.out.cell 0 (by simp), Hbdw8.out.cell 1 (by simp), Hbdw8.out.cell 2 (by simp), Hbpz7.out.cell 0 (by simp), Hbpz7.out.cell 1 (by simp), Hbpz7.out.cell 2 (by simp), Hbdv8.out.cell 0 (by simp), Hbdv8.out.cell 1 (by simp), Hbdv8.out.cell 2 (by simp), Hba12.out.cell 0 (by simp), Hba12.out.cell 1 (by simp), Hba12.out.cell 2 (by simp), HbP10.out.cell 0 (by simp), HbP10.out.cell 1 (by simp), HbP10.out.cell 2 (by simp), Hbb10.out.cell 0 (by simp), Hbb10.out.cell 1 (by simp), Hbb10.out.cell 2 (by simp), HbQ10.out.cell 0 (by simp), HbQ10.out.cell 1 (by simp), HbQ10.out.cell 2 (by simp)⟩
  clear hK K
  try simp only [Act.put, List.setIfInBounds_toArray, List.set_cons_zero, List.set_cons_succ]
  refine wpAnyK_take0 27 (v := ?v28) rfl (by kernel_rfl) (fun _ _ _ h => h) (Or.inl ⟨by rfl, ?hy28⟩) (fun _ => hHeld) ?_
  case hy28 => (intro w hSw; go_simp; try with_reducible rfl)
  try simp only [Act.put, List.setIfInBounds_toArray, List.set_cons_zero, List.set_cons_succ]
  refine wpAnyK_take0 28 (v := ?v29) rfl (by kernel_rfl) (fun _ _ _ h => h) (Or.inl ⟨by rfl, ?hy29⟩) (fun _ => hHeld) ?_
  case hy29 => (intro w hSw; go_simp; try with_reducible rfl)
  try simp only [Act.put, List.setIfInBounds_toArray, List.set_cons_zero, List.set_cons_succ]
  refine wpAnyK_take0 29 (v := ?v30) rfl (by kernel_rfl) (fun _ _ _ h => h) (Or.inl ⟨by rfl, ?hy30⟩) (fun _ => hHeld) ?_
  case hy30 => (intro w hSw; go_simp; try with_reducible rfl)
  try simp only [Act.put, List.setIfInBounds_toArray, List.set_cons_zero, List.set_cons_succ]
  refine wpAnyK_take 30 [32, 33, 34, 35, 38] (v := ?v31) rfl (by kernel_rfl) (fun _ _ _ h => h) (Or.inl ⟨by rfl, ?hy31⟩) hHeld ?_
  case hy31 => (intro w hSw; (try dsimp only at hSw); go_simp; try with_reducible rfl)
  try simp only [Act.put, List.setIfInBounds_toArray, List.set_cons_zero, List.set_cons_succ]
  refine wpAnyK_take 31 [32, 33, 34, 35, 38] (v := ?v32) rfl (by kernel_rfl) (fun _ _ _ h => h) (Or.inl ⟨by rfl, ?hy32⟩) hHeld ?_
  case hy32 => (intro w hSw; (try dsimp only at hSw); go_simp; try with_reducible rfl)
  try simp only [Act.put, List.setIfInBounds_toArray, List.set_cons_zero, List.set_cons_succ]
  refine wpAnyK_step 32 rfl (by kernel_rfl) (fun K hK => ?_)
  go_simp
  have Ha110 : Hid (Lk _ _ _ _ _) := Ha19.out.below (btr Hs53.out Hs55.out) (Nat.le_refl _)
  have Ha210 : Hid (Lk _ _ _ _ _) := Ha29.out.below (btr Hs53.out Hs55.out) (Nat.le_refl _)
  have HB11 : Hid (Below _ _ _) := HB10.out.trans (Hs55.out.mono HB10.out.size)
  refine (still_v _ _ xs ys inf _ Ha110.out Ha210.out (HAx.out.below HB11.out (Nat.le_refl _)) (HAy.out.below HB11.out (Nat.le_refl _)) HL.out.1 HL.out.2.1).mono ?_
  rintro e w56 ⟨rfl, hB⟩
  have Hs57 : Hid (Below _ _ _) := hB
  clear hB
  have Hbnx9 : Hid (Bl _ _ _ _) := Hbnx8.out.below Hs57.out Hbnx8.out.lt
  have Hbpy9 : Hid (Bl _ _ _ _) := Hbpy8.out.below Hs57.out Hbpy8.out.lt
  have Hbn28 : Hid (Bl _ _ _ _) := Hbn27.out.below Hs57.out Hbn27.out.lt
  have Hbdw9 : Hid (Bl _ _ _ _) := Hbdw8.out.below Hs57.out Hbdw8.out.lt
  have Hbpz8 : Hid (Bl _ _ _ _) := Hbpz7.out.below Hs57.out Hbpz7.out.lt
  have Hbdv9 : Hid (Bl _ _ _ _) := Hbdv8.out.below Hs57.out Hbdv8.out.lt
  have Hba13 : Hid (Bl _ _ _ _) := Hba12.out.below Hs57.out Hba12.out.lt
  have HbP11 : Hid (Bl _ _ _ _) := HbP10.out.below Hs57.out HbP10.out.lt
  have Hbb11 : Hid (Bl _ _ _ _) := Hbb10.out.below Hs57.out Hbb10.out.lt
  have HbQ11 : Hid (Bl _ _ _ _) := HbQ10.out.below Hs57.out HbQ10.out.lt
  try dsimp only
  refine (fun hHeld => hK.out _ _ (fun _ => hHeld) ?_) ⟨Hbnx9.out.cell 0 (by simp), Hbnx9.out.cell 1 (by simp), Hbnx9.out.cell 2 (by simp), Hbpy9.out.cell 0 (by simp), Hbpy9.out.cell 1 (by simp), Hbpy9.out.cell 2 (by simp), Hbn28.out.cell 0 (by simp), Hbn28.out.cell 1 (by simp), Hbn28.out.cell 2 (by simp), Hbdw9.out.cell 0 (by simp), Hbdw9.out.cell 1 (by simp), Hbdw9.out.cell 2 (by simp), Hbpz8.out.cell 0 (by simp), Hbpz8.out.cell 1 (by simp), Hbpz8.out.cell 2 (by simp), Hbdv9.out.cell 0 (by simp), Hbdv9.out.cell 1 (by simp), Hbdv9.out.cell 2 (by simp), Hba13.out.cell 0 (by simp), Hba13.out.cell 1 (by simp), Hba13.out.cell 2 (by simp), HbP11.out.cell 0 (by simp), HbP11.out.cell 1 (by simp), HbP11.out.cell 2 (by simp), Hbb11.out.cell 0 (by simp), Hbb11.out.cell 1 (by simp), Hbb11.out.cell 2 (by simp), HbQ11.out.cell 0 (by simp), HbQ11.out.cell 1 (by simp), HbQ11.out.cell 2 (by simp)⟩
  clear hK K
  try simp only [Act.put, List.setIfInBounds_toArray, List.set_cons_zero, List.set_cons_succ]
  refine wpAnyK_take0 33 (v := ?v34) rfl (by kernel_rfl) (fun _ _ _ h => h) (Or.inl ⟨by rfl, ?hy34⟩) (fun _ => hHeld) ?_
  case hy34 => (intro w hSw; go_simp; try with_reducible rfl)
  try simp only [Act.put, List.setIfInBounds_toArray, List.set_cons_zero, List.set_cons_succ]
  refine wpAnyK_take0 34 (v := ?v35) rfl (by kernel_rfl) (fun _ _ _ h => h) (Or.inl ⟨by rfl, ?hy35⟩) (fun _ => hHeld) ?_
  case hy35 => (intro w hSw; go_simp; try with_reducible rfl)
  try simp only [Act.put, List.setIfInBounds_toArray, List.set_cons_zero, List.set_cons_succ]
  refine wpAnyK_take0 35 (v := ?v36) rfl (by kernel_rfl) (fun _ _ _ h => h) (Or.inl ⟨by rfl, ?hy36⟩) (fun _ => hHeld) ?_
  case hy36 => (intro w hSw; go_simp; try with_reducible rfl)
  try simp only [Act.put, List.setIfInBounds_toArray, List.set_cons_zero, List.set_cons_succ]
  refine wpAnyK_take 36 [38] (v := ?v37) rfl (by kernel_rfl) (fun _ _ _ h => h) (Or.inl ⟨by rfl, ?hy37⟩) hHeld ?_
  case hy37 => (intro w hSw; (try dsimp only at hSw); go_simp; try with_reducible rfl)
  try simp only [Act.put, List.setIfInBounds_toArray, List.set_cons_zero, List.set_cons_succ]
  refine wpAnyK_take 37 [38] (v := ?v38) rfl (by kernel_rfl) (fun _ _ _ h => h) (Or.inl ⟨by rfl, ?hy38⟩) hHeld ?_
  case hy38 => (intro w hSw; (try dsimp only at hSw); go_simp; try with_reducible rfl)
  try simp only [Act.put, List.setIfInBounds_toArray, List.set_cons_zero, List.set_cons_succ]
  refine wpAnyK_step 38 rfl (by kernel_rfl) (fun K hK => ?_)
  go_simp
  have Hb17 : Hid (Lk _ _ _ _ _) := Hb16.out.below (btr Hs49.out (btr Hs51.out (btr Hs53.out (btr Hs55.out Hs57.out)))) (Nat.le_refl _)
  have Hb27 : Hid (Lk _ _ _ _ _) := Hb26.out.below (btr Hs49.out (btr Hs51.out (btr Hs53.out (btr Hs55.out Hs57.out)))) (Nat.le_refl _)
  have HB12 : Hid (Below _ _ _) := HB11.out.trans (Hs57.out.mono HB11.out.size)
  refine (still_v _ _ us vs jnf _ Hb17.out Hb27.out (HAu.out.below HB12.out (Nat.le_refl _)) (HAv.out.below HB12.out (Nat.le_refl _)) HL.out.2.2.1 HL.out.2.2.2).mono ?_
  rintro e w58 ⟨rfl, hB⟩
  have Hs59 : Hid (Below _ _ _) := hB
  clear hB
  have Hbnx10 : Hid (Bl _ _ _ _) := Hbnx9.out.below Hs59.out Hbnx9.out.lt
  have Hbpy10 : Hid (Bl _ _ _ _) := Hbpy9.out.below Hs59.out Hbpy9.out.lt
  have Hbn29 : Hid (Bl _ _ _ _) := Hbn28.out.below Hs59.out Hbn28.out.lt
  have Hbdw10 : Hid (Bl _ _ _ _) := Hbdw9.out.below Hs59.out Hbdw9.out.lt
  have Hbpz9 : Hid (Bl _ _ _ _) := Hbpz8.out.below Hs59.out Hbpz8.out.lt
  have Hbdv10 : Hid (Bl _ _ _ _) := Hbdv9.out.below Hs59.out Hbdv9.out.lt
  have Hba14 : Hid (Bl _ _ _ _) := Hba13.out.below Hs59.out Hba13.out.lt
  have HbP12 : Hid (Bl _ _ _ _) := HbP11.out.below Hs59.out HbP11.out.lt
  have Hbb12 : Hid (Bl _ _ _ _) := Hbb11.out.below Hs59.out Hbb11.out.lt
  have HbQ12 : Hid (Bl _ _ _ _) := HbQ11.out.below Hs59.out HbQ11.out.lt
  try dsimp only
  refine (fun hHeld => hK.out _ _ (fun _ => hHeld) ?_) ⟨Hbnx10.out.cell 0 (by simp), Hbnx10.out.cell 1 (by simp), Hbnx10.out.cell 2 (by simp), Hbpy10.out.cell 0 (by simp), Hbpy10.out.cell 1 (by simp), Hbpy10.out.cell 2 (by simp), Hbn29.out.cell 0 (by simp), Hbn29.out.cell 1 (by simp), Hbn29.out.cell 2 (by simp), Hbdw10.out.cell 0 (by simp), Hbdw10.out.cell 1 (by simp), Hbdw10.out.cell 2 (by simp), Hbpz9.out.cell 0 (by simp), Hbpz9.out.cell 1 (by simp), Hbpz9.out.cell 2 (by simp), Hbdv10.out.cell 0 (by simp), Hbdv10.out.cell 1 (by simp), Hbdv10.out.cell 2 (by simp), Hba14.out.cell 0 (by simp), Hba14.out.cell 1 (by simp), Hba14.out.cell 2 (by simp), HbP12.out.cell 0 (by simp), HbP12.out.cell 1 (by simp), HbP12.out.cell 2 (by simp), Hbb12.out.cell 0 (by simp), Hbb12.out.cell 1 (by simp), Hbb12.out.cell 2 (by simp), HbQ12.out.cell 0 (by simp), HbQ12.out.cell 1 (by simp), HbQ12.out.cell 2 (by simp)⟩
  clear hK K
  try simp only [Act.put, List.setIfInBounds_toArray, List.set_cons_zero, List.set_cons_succ]
  refine wpAnyK_take0 39 (v := ?v40) rfl (by kernel_rfl) (fun _ _ _ h => h) (Or.inl ⟨by rfl, ?hy40⟩) (fun _ => hHeld) ?_
  case hy40 => (intro w hSw; go_simp; try with_reducible rfl)
  try simp only [Act.put, List.setIfInBounds_toArray, List.set_cons_zero, List.set_cons_succ]
  refine wpAnyK_take0 40 (v := ?v41) rfl (by kernel_rfl) (fun _ _ _ h => h) (Or.inl ⟨by rfl, ?hy41⟩) (fun _ => hHeld) ?_
  case hy41 => (intro w hSw; go_simp; try with_reducible rfl)
  try simp only [Act.put, List.setIfInBounds_toArray, List.set_cons_zero, List.set_cons_succ]
  refine wpAnyK_done (by kernel_rfl) ?_ _
  have kQ_0 : w58.cell? ⟨w.heap.size + 1, 0, none⟩ = some (.slice u0 us.length u2) := HbQ12.out.cell 0 (by simp)
  have kQ_1 : w58.cell? ⟨w.heap.size + 1, 1, none⟩ = some (.slice v0 vs.length v2) := HbQ12.out.cell 1 (by simp)
  have kQ_2 : w58.cell? ⟨w.heap.size + 1, 2, none⟩ = some (.bool jnf) := HbQ12.out.cell 2 (by simp)
  have ka_0 : w58.cell? ⟨w3.heap.size, 0, none⟩ = some (.slice (some ⟨ag1, 0, none⟩) xs.length ad1) := Hba14.out.cell 0 (by simp)
  have ka_1 : w58.cell? ⟨w3.heap.size, 1, none⟩ = some (.slice (some ⟨ag2, 0, none⟩) ys.length ad2) := Hba14.out.cell 1 (by simp)
  have ka_2 : w58.cell? ⟨w3.heap.size, 2, none⟩ = some (.bool inf) := Hba14.out.cell 2 (by simp)
  go_wp2_with fail
  clear kQ_0 kQ_1 kQ_2 ka_0 ka_1 ka_2
  have HB13 : Hid (Below _ _ _) := HB12.out.trans (Hs59.out.mono HB12.out.size)
  have Ha111 : Hid (Lk _ _ _ _ _) := Ha110.out.below (btr Hs57.out Hs59.out) (Nat.le_refl _)
  have Ha211 : Hid (Lk _ _ _ _ _) := Ha210.out.below (btr Hs57.out Hs59.out) (Nat.le_refl _)
  have HZ3 := pack8 (HZ2.out) (HC47.out.size) (Hs49.out.size) (Hs51.out.size) (Hs53.out.size) (Hs55.out.size) (Hs57.out.size) (Hs59.out.size)
  refine (over_v ag1 ad1 ag2 ad2 _ _ u2 v2 u0 v0 xs ys us vs inf jnf _ Ha111.out Ha211.out (by have hz_ := HZ3.out; omega) (by obtain ⟨a_, c_, e_, _, r_, _⟩ := (HAu.out.below HB13.out (Nat.le_refl _)); cases e_; exact r_) (by obtain ⟨a_, c_, e_, _, r_, _⟩ := (HAv.out.below HB13.out (Nat.le_refl _)); cases e_; exact r_) (fun hn a ha => by have hq := HFu.out hn a ha; have hz_ := HZ3.out; omega) (fun hn a ha => by have hq := HFv.out hn a ha; have hz_ := HZ3.out; omega) HL.out.1 HL.out.2.1).mono ?_
  rintro e w60 ⟨rfl, o1_, o2_, hC⟩
  have HJa : Hid (∀ k, ((fun k => k = ag1 ∨ k = ag2)) k → k = ag1 ∨ k = ag2) := fun k hk => hk
  have HOa : Hid (Lk w60 wv2.heap.size ag1 ad1 (ov xs.length us) ∧ Lk w60 wv2.heap.size ag2 ad2 (ov ys.length vs)) := ⟨o1_, o2_⟩
  clear o1_ o2_
  have Hb18 : Hid (Lk _ _ _ _ _) := Hb17.out.below Hs59.out (Nat.le_refl _)
  have Hb28 : Hid (Lk _ _ _ _ _) := Hb27.out.below Hs59.out (Nat.le_refl _)
  have HC61 : Hid (Chf (fun k => k = ag1 ∨ k = ag2) w58 w60) := hC
  clear hC
  have HB14 : Hid (Below w.heap.size w w60) := HC61.out.below HB13.out (fun k hk hf => by have hi := HJa.out _ hf; have hz_ := HZ3.out; omega)
  have HbP13 : Hid (Bl _ _ _ _) := HbP12.out.chf HC61.out (fun hf => by have hi := HJa.out _ hf; have hz_ := HZ3.out; omega)
  have HbQ13 : Hid (Bl _ _ _ _) := HbQ12.out.chf HC61.out (fun hf => by have hi := HJa.out _ hf; have hz_ := HZ3.out; omega)
  have Hba15 : Hid (Bl _ _ _ _) := Hba14.out.chf HC61.out (fun hf => by have hi := HJa.out _ hf; have hz_ := HZ3.out; omega)
  have Hb19 : Hid (Lk _ _ _ _ _) := Hb18.out.chf HC61.out (fun hf => by have hi := HJa.out _ hf; have hz_ := HZ3.out; omega)
  have Hb29 : Hid (Lk _ _ _ _ _) := Hb28.out.chf HC61.out (fun hf => by have hi := HJa.out _ hf; have hz_ := HZ3.out; omega)
  have Hbb13 : Hid (Bl _ _ _ _) := Hbb12.out.chf HC61.out (fun hf => by have hi := HJa.out _ hf; have hz_ := HZ3.out; omega)
  have Ha112 : Hid (Lk w60 wv2.heap.size ag1 ad1 (ov xs.length us)) := HOa.out.1
  have Ha212 : Hid (Lk w60 wv2.heap.size ag2 ad2 (ov ys.length vs)) := HOa.out.2
  go_wp2_with fail
  have Hs62 : Hid (Below w60.heap.size w60 w60.drew) := below_drewN (Below.refl _ _) 1
  have Hbb14 : Hid (Bl _ _ _ _) := Hbb13.out.below Hs62.out Hbb13.out.lt
  refine wp_region_K 3 (fun (w' : World) => w'.cell? ⟨w7.heap.size, 0, none⟩ = some (.slice (some ⟨bg1, 0, none⟩) us.length bd1) ∧ w'.cell? ⟨w7.heap.size, 1, none⟩ = some (.slice (some ⟨bg2, 0, none⟩) vs.length bd2) ∧ w'.cell? ⟨w7.heap.size, 2, none⟩ = some (.bool jnf)) (by kernel_rfl) ?_
  have hHeld : ((fun (w' : World) => w'.cell? ⟨w7.heap.size, 0, none⟩ = some (.slice (some ⟨bg1, 0, none⟩) us.length bd1) ∧ w'.cell? ⟨w7.heap.size, 1, none⟩ = some (.slice (some ⟨bg2, 0, none⟩) vs.length bd2) ∧ w'.cell? ⟨w7.heap.size, 2, none⟩ = some (.bool jnf))) (World.drew _) := ⟨Hbb14.out.cell 0 (by simp), Hbb14.out.cell 1 (by simp), Hbb14.out.cell 2 (by simp)⟩
  refine wpAnyK_take 0 [3] (v := ?v42) rfl (by kernel_rfl) (fun _ _ _ h => h) (Or.inl ⟨by rfl, ?hy42⟩) hHeld ?_
  case hy42 => (intro w hSw; (try dsimp only at hSw); go_simp; try with_reducible rfl)
  try simp only [Act.put, List.setIfInBounds_toArray, List.set_cons_zero, List.set_cons_succ]
  refine wpAnyK_take0 1 (v := ?v43) rfl (by kernel_rfl) (fun _ _ _ h => h) (Or.inl ⟨by rfl, ?hy43⟩) (fun _ => hHeld) ?_
  case hy43 => (intro w hSw; go_simp; try with_reducible rfl)
  try simp only [Act.put, List.setIfInBounds_toArray, List.set_cons_zero, List.set_cons_succ]
  refine wpAnyK_step 2 rfl (by kernel_rfl) (fun K hK => ?_)
  go_simp
  refine (A.db _).mono ?_
  rintro e w63 ⟨txv, tyv, rfl, m, m', ma, hB⟩
  have Hs64 : Hid (Below _ _ _) := hB
  have ti := m.iv
  have ti' := m'.iv
  obtain ⟨tx0, tx2, rfl, _, trx, _⟩ := m.nm
  obtain ⟨ty0, ty2, rfl, _, try_, _⟩ := m'.nm
  have HTi : Hid ((∀ a, tx0 = some a → w60.drew.heap.size ≤ a.block) ∧ ∀ a, ty0 = some a → w60.drew.heap.size ≤ a.block) := ⟨fun a ha => by subst ha; exact (ti _ rfl).1, fun a ha => by subst ha; exact (ti' _ rfl).1⟩
  have Htx0 : Hid (Rn w63 tx0 (dg Bs X)) := trx
  have Hty0 : Hid (Rn w63 ty0 (dg Bs Y)) := try_
  clear m m' ma hB ti ti' trx try_
  have Hbb15 : Hid (Bl _ _ _ _) := Hbb14.out.below Hs64.out Hbb14.out.lt
  try dsimp only
  refine (fun hHeld => hK.out _ _ (fun _ => hHeld) ?_) ⟨Hbb15.out.cell 0 (by simp), Hbb15.out.cell 1 (by simp), Hbb15.out.cell 2 (by simp)⟩
  clear hK K
  try simp only [Act.put, List.setIfInBounds_toArray, List.set_cons_zero, List.set_cons_succ]
  refine wpAnyK_step 3 rfl (by kernel_rfl) (fun K hK => ?_)
  go_simp
  have Hb110 : Hid (Lk _ _ _ _ _) := Hb19.out.below (btr Hs62.out Hs64.out) (Nat.le_refl _)
  have Hb210 : Hid (Lk _ _ _ _ _) := Hb29.out.below (btr Hs62.out Hs64.out) (Nat.le_refl _)
  have HZ4 := pack4 (HZ3.out) (HC61.out.size) (Hs62.out.size) (Hs64.out.size)
  refine (over_v bg1 bd1 bg2 bd2 _ _ tx2 ty2 tx0 ty0 us vs (dg Bs X) (dg Bs Y) jnf false _ Hb110.out Hb210.out (by have hz_ := HZ4.out; omega) Htx0.out Hty0.out (fun hn a ha => by have hq := (fun _ => HTi.out.1) hn a ha; have hz_ := HZ4.out; omega) (fun hn a ha => by have hq := (fun _ => HTi.out.2) hn a ha; have hz_ := HZ4.out; omega) HL.out.2.2.1 HL.out.2.2.2).mono ?_
  rintro e w65 ⟨rfl, o1_, o2_, hC⟩
  have HJb : Hid (∀ k, ((fun k => k = bg1 ∨ k = bg2)) k → k = bg1 ∨ k = bg2) := fun k hk => hk
  have HOb : Hid (Lk w65 wv6.heap.size bg1 bd1 (ov us.length (dg Bs X)) ∧ Lk w65 wv6.heap.size bg2 bd2 (ov vs.length (dg Bs Y))) := ⟨o1_, o2_⟩
  clear o1_ o2_
  have HB15 : Hid (Below _ _ _) := HB14.out.trans ((btr Hs62.out Hs64.out).mono HB14.out.size)
  have HbP14 : Hid (Bl _ _ _ _) := HbP13.out.below (btr Hs62.out Hs64.out) HbP13.out.lt
  have HbQ14 : Hid (Bl _ _ _ _) := HbQ13.out.below (btr Hs62.out Hs64.out) HbQ13.out.lt
  have Hba16 : Hid (Bl _ _ _ _) := Hba15.out.below (btr Hs62.out Hs64.out) Hba15.out.lt
  have Ha113 : Hid (Lk _ _ _ _ _) := Ha112.out.below (btr Hs62.out Hs64.out) (Nat.le_refl _)
  have Ha213 : Hid (Lk _ _ _ _ _) := Ha212.out.below (btr Hs62.out Hs64.out) (Nat.le_refl _)
  have HC66 : Hid (Chf (fun k => k = bg1 ∨ k = bg2) w63 w65) := hC
  clear hC
  have HB16 : Hid (Below w.heap.size w w65) := HC66.out.below HB15.out (fun k hk hf => by have hi := HJb.out _ hf; have hz_ := HZ4.out; omega)
  have HbP15 : Hid (Bl _ _ _ _) := HbP14.out.chf HC66.out (fun hf => by have hi := HJb.out _ hf; have hz_ := HZ4.out; omega)
  have HbQ15 : Hid (Bl _ _ _ _) := HbQ14.out.chf HC66.out (fun hf => by have hi := HJb.out _ hf; have hz_ := HZ4.out; omega)
  have Hba17 : Hid (Bl _ _ _ _) := Hba16.out.chf HC66.out (fun hf => by have hi := HJb.out _ hf; have hz_ := HZ4.out; omega)
  have Hbb16 : Hid (Bl _ _ _ _) := Hbb15.out.chf HC66.out (fun hf => by have hi := HJb.out _ hf; have hz_ := HZ4.out; omega)
  have Ha114 : Hid (Lk _ _ _ _ _) := Ha113.out.chf HC66.out (fun hf => by have hi := HJb.out _ hf; have hz_ := HZ4.out; omega)
  have Ha214 : Hid (Lk _ _ _ _ _) := Ha213.out.chf HC66.out (fun hf => by have hi := HJb.out _ hf; have hz_ := HZ4.out; omega)
  have Hb111 : Hid (Lk w65 wv6.heap.size bg1 bd1 (ov us.length (dg Bs X))) := HOb.out.1
  have Hb211 : Hid (Lk w65 wv6.heap.size bg2 bd2 (ov vs.length (dg Bs Y))) := HOb.out.2
  try dsimp only
  refine (fun hHeld => hK.out _ _ (fun _ => hHeld) ?_) ⟨Hbb16.out.cell 0 (by simp), Hbb16.out.cell 1 (by simp), Hbb16.out.cell 2 (by simp)⟩
  clear hK K
  try simp only [Act.put, List.setIfInBounds_toArray, List.set_cons_zero, List.set_cons_succ]
  refine wpAnyK_done (by kernel_rfl) ?_ _
  have ka_0 : w65.cell? ⟨w3.heap.size, 0, none⟩ = some (.slice (some ⟨ag1, 0, none⟩) xs.length ad1) := Hba17.out.cell 0 (by simp)
  have ka_1 : w65.cell? ⟨w3.heap.size, 1, none⟩ = some (.slice (some ⟨ag2, 0, none⟩) ys.length ad2) := Hba17.out.cell 1 (by simp)
  have ka_2 : w65.cell? ⟨w3.heap.size, 2, none⟩ = some (.bool inf) := Hba17.out.cell 2 (by simp)
  go_wp2_with fail
  clear ka_0 ka_1 ka_2
  refine (copied_v _ _ (ov xs.length us) (ov ys.length vs) inf _ (Lk.nm' Ha114.out (ov_sm HS.out.2.2.1) (ov_len _ _)) (Lk.nm' Ha214.out (ov_sm HS.out.2.2.2) (ov_len _ _)) (by rw [ov_len]; exact HL.out.1) (by rw [ov_len]; exact HL.out.2.1)).mono ?_
  rintro e w67 ⟨ca1v, ca2v, rfl, c1, c2, hB⟩
  have Hs68 : Hid (Below _ _ _) := hB
  obtain ⟨ca10, ca11, ca12, rfl⟩ := (Nm.nu' c1 (by rw [ov_len]; exact HL.out.1)).shape
  have Hca10 : Hid (Nu w67 (.slice ca10 ca11 ca12) (nv Bs (ov xs.length us))) := Nm.nu' c1 (by rw [ov_len]; exact HL.out.1)
  obtain ⟨ca20, ca21, ca22, rfl⟩ := (Nm.nu' c2 (by rw [ov_len]; exact HL.out.2.1)).shape
  have Hca20 : Hid (Nu w67 (.slice ca20 ca21 ca22) (nv Bs (ov ys.length vs))) := Nm.nu' c2 (by rw [ov_len]; exact HL.out.2.1)
  clear c1 c2 hB
  go_wp2_with fail
  have C := S.dneg _ _ _ _ inf _ Hca10.out Hca20.out
  rw [← Hmm1.out, ← Hmm2.out, ← Hmmj.out, ← Hmmz.out] at C
  refine (C).mono ?_
  rintro e w69 ⟨ewxv, ewyv, rfl, m1, m2, hB⟩
  have Hs70 : Hid (Below _ _ _) := hB
  obtain ⟨ewx0, ewx1, ewx2, rfl⟩ := m1.nk.sl
  have Hewx0 : Hid (Mk w69 w67.heap.size (.slice ewx0 ewx1 ewx2) mm1 384) := m1
  have Hvewx : Hid (∀ g, (Value.slice ewx0 ewx1 ewx2).ownBlock = some g → w67.heap.size ≤ g ∧ g < w69.heap.size) := m1.iv
  obtain ⟨ewy0, ewy1, ewy2, rfl⟩ := m2.nk.sl
  have Hewy0 : Hid (Mk w69 w67.heap.size (.slice ewy0 ewy1 ewy2) mm2 384) := m2
  have Hvewy : Hid (∀ g, (Value.slice ewy0 ewy1 ewy2).ownBlock = some g → w67.heap.size ≤ g ∧ g < w69.heap.size) := m2.iv
  clear C m1 m2 hB
  have Hs71 : Hid (Below w69.heap.size w69 (w69.alloc (.cells #[.slice ewx0 ewx1 ewx2, .slice ewy0 ewy1 ewy2, .bool mmj] 26))) := alloc_below _ _
  have Hbew0 : Hid (Bl _ _ _ _) := alloc_bl w69 [.slice ewx0 ewx1 ewx2, .slice ewy0 ewy1 ewy2, .bool mmj] 26
  go_wp2_with fail
  generalize (w69.alloc (.cells #[.slice ewx0 ewx1 ewx2, .slice ewy0 ewy1 ewy2, .bool mmj] 26)) = wv72 at *
  go_cut [23, 24] from 160 to 168 (fun s1 s2 wx => ∃ (w' : World) (g : Nat) (evx0 evy0 : Option Addr) (evx1 evx2 evy1 evy2 : Nat), w' = wx ∧ s1 = .pointer (some ⟨g, 0, none⟩) ∧ s2 = .int .i64 bz ∧ Hid (Below wv72.heap.size wv72 w' ∧ Bl 26 w' g [.slice evx0 evx1 evx2, .slice evy0 evy1 evy2, .bool bj] ∧ Mk w' 0 (.slice evx0 evx1 evx2) b1 384 ∧ Mk w' 0 (.slice evy0 evy1 evy2) b2 384))
  case first =>
    have Hs73 : Hid (Below wv72.heap.size wv72 wv72.drew) := below_drewN (Below.refl _ _) 1
    have Hba18 : Hid (Bl _ _ _ _) := Hba17.out.below (btr Hs68.out (btr Hs70.out (btr Hs71.out Hs73.out))) Hba17.out.lt
    have Hbb17 : Hid (Bl _ _ _ _) := Hbb16.out.below (btr Hs68.out (btr Hs70.out (btr Hs71.out Hs73.out))) Hbb16.out.lt
    refine wp_region_K 10 (fun (w' : World) => w'.cell? ⟨w3.heap.size, 0, none⟩ = some (.slice (some ⟨ag1, 0, none⟩) xs.length ad1) ∧ w'.cell? ⟨w3.heap.size, 1, none⟩ = some (.slice (some ⟨ag2, 0, none⟩) ys.length ad2) ∧ w'.cell? ⟨w3.heap.size, 2, none⟩ = some (.bool inf) ∧ w'.cell? ⟨w7.heap.size, 0, none⟩ = some (.slice (some ⟨bg1, 0, none⟩) us.length bd1) ∧ w'.cell? ⟨w7.heap.size, 1, none⟩ = some (.slice (some ⟨bg2, 0, none⟩) vs.length bd2) ∧ w'.cell? ⟨w7.heap.size, 2, none⟩ = some (.bool jnf)) (by kernel_rfl) ?_
    have hHeld : ((fun (w' : World) => w'.cell? ⟨w3.heap.size, 0, none⟩ = some (.slice (some ⟨ag1, 0, none⟩) xs.length ad1) ∧ w'.cell? ⟨w3.heap.size, 1, none⟩ = some (.slice (some ⟨ag2, 0, none⟩) ys.length ad2) ∧ w'.cell? ⟨w3.heap.size, 2, none⟩ = some (.bool inf) ∧ w'.cell? ⟨w7.heap.size, 0, none⟩ = some (.slice (some ⟨bg1, 0, none⟩) us.length bd1) ∧ w'.cell? ⟨w7.heap.size, 1, none⟩ = some (.slice (some ⟨bg2, 0, none⟩) vs.length bd2) ∧ w'.cell? ⟨w7.heap.size, 2, none⟩ = some (.bool jnf))) (World.drew _) := ⟨Hba18.out.cell 0 (by simp), Hba18.out.cell 1 (by simp), Hba18.out.cell 2 (by simp), Hbb17.out.cell 0 (by simp), Hbb17.out.cell 1 (by simp), Hbb17.out.cell 2 (by simp)⟩
    refine wpAnyK_take0 0 (v := ?v46) rfl (by kernel_rfl) (fun _ _ _ h => h) (Or.inl ⟨by rfl, ?hy46⟩) (fun _ => hHeld) ?_
    case hy46 => (intro w hSw; go_simp; try with_reducible rfl)
    try simp only [Act.put, List.setIfInBounds_toArray, List.set_cons_zero, List.set_cons_succ]
    refine wpAnyK_take 1 [2, 4, 5, 10] (v := ?v47) rfl (by kernel_rfl) (fun _ _ _ h => h) (Or.inl ⟨by rfl, ?hy47⟩) hHeld ?_
    case hy47 => (intro w hSw; (try dsimp only at hSw); go_simp; try with_reducible rfl)
    try simp only [Act.put, List.setIfInBounds_toArray, List.set_cons_zero, List.set_cons_succ]
    refine wpAnyK_take 3 [4, 5, 10] (v := ?v48) rfl (by kernel_rfl) (fun _ _ _ h => h) (Or.inl ⟨by rfl, ?hy48⟩) hHeld ?_
    case hy48 => (intro w hSw; (try dsimp only at hSw); go_simp; try with_reducible rfl)
    try simp only [Act.put, List.setIfInBounds_toArray, List.set_cons_zero, List.set_cons_succ]
    generalize hwd : wv72.drew = wd at *
    clear hwd
    refine rdy2 2 9 rfl rfl (by kernel_rfl) (fun K hK => ?_) (fun K hK => ?_)
    · skip
      go_simp
      have Ha115 : Hid (Lk _ _ _ _ _) := Ha114.out.below (btr Hs68.out (btr Hs70.out (btr Hs71.out Hs73.out))) (Nat.le_refl _)
      have Ha215 : Hid (Lk _ _ _ _ _) := Ha214.out.below (btr Hs68.out (btr Hs70.out (btr Hs71.out Hs73.out))) (Nat.le_refl _)
      refine (copied_v _ _ (ov xs.length us) (ov ys.length vs) inf _ (Lk.nm' Ha115.out (ov_sm HS.out.2.2.1) (ov_len _ _)) (Lk.nm' Ha215.out (ov_sm HS.out.2.2.2) (ov_len _ _)) (by rw [ov_len]; exact HL.out.1) (by rw [ov_len]; exact HL.out.2.1)).mono ?_
      rintro e w74 ⟨cc1v, cc2v, rfl, c1, c2, hB⟩
      have Hs75 : Hid (Below _ _ _) := hB
      obtain ⟨cc10, cc11, cc12, rfl⟩ := (Nm.nu' c1 (by rw [ov_len]; exact HL.out.1)).shape
      have Hcc10 : Hid (Nu w74 (.slice cc10 cc11 cc12) (nv Bs (ov xs.length us))) := Nm.nu' c1 (by rw [ov_len]; exact HL.out.1)
      obtain ⟨cc20, cc21, cc22, rfl⟩ := (Nm.nu' c2 (by rw [ov_len]; exact HL.out.2.1)).shape
      have Hcc20 : Hid (Nu w74 (.slice cc20 cc21 cc22) (nv Bs (ov ys.length vs))) := Nm.nu' c2 (by rw [ov_len]; exact HL.out.2.1)
      clear c1 c2 hB
      have Hba19 : Hid (Bl _ _ _ _) := Hba18.out.below Hs75.out Hba18.out.lt
      have Hbb18 : Hid (Bl _ _ _ _) := Hbb17.out.below Hs75.out Hbb17.out.lt
      try dsimp only
      refine hK.out _ _ (fun _ => ⟨Hba19.out.cell 0 (by simp), Hba19.out.cell 1 (by simp), Hba19.out.cell 2 (by simp), Hbb18.out.cell 0 (by simp), Hbb18.out.cell 1 (by simp), Hbb18.out.cell 2 (by simp)⟩) ?_
      have hHeld : ((fun (w' : World) => w'.cell? ⟨w3.heap.size, 0, none⟩ = some (.slice (some ⟨ag1, 0, none⟩) xs.length ad1) ∧ w'.cell? ⟨w3.heap.size, 1, none⟩ = some (.slice (some ⟨ag2, 0, none⟩) ys.length ad2) ∧ w'.cell? ⟨w3.heap.size, 2, none⟩ = some (.bool inf) ∧ w'.cell? ⟨w7.heap.size, 0, none⟩ = some (.slice (some ⟨bg1, 0, none⟩) us.length bd1) ∧ w'.cell? ⟨w7.heap.size, 1, none⟩ = some (.slice (some ⟨bg2, 0, none⟩) vs.length bd2) ∧ w'.cell? ⟨w7.heap.size, 2, none⟩ = some (.bool jnf))) _ := ⟨Hba19.out.cell 0 (by simp), Hba19.out.cell 1 (by simp), Hba19.out.cell 2 (by simp), Hbb18.out.cell 0 (by simp), Hbb18.out.cell 1 (by simp), Hbb18.out.cell 2 (by simp)⟩
      clear hK K
      try simp only [Act.put, List.setIfInBounds_toArray, List.set_cons_zero, List.set_cons_succ]
      refine rdy2 4 9 rfl rfl (by kernel_rfl) (fun K hK => ?_) (fun K hK => ?_)
      · skip
        go_simp
        have Hb112 : Hid (Lk _ _ _ _ _) := Hb111.out.below (btr Hs68.out (btr Hs70.out (btr Hs71.out (btr Hs73.out Hs75.out)))) (Nat.le_refl _)
        have Hb212 : Hid (Lk _ _ _ _ _) := Hb211.out.below (btr Hs68.out (btr Hs70.out (btr Hs71.out (btr Hs73.out Hs75.out)))) (Nat.le_refl _)
        refine (copied_v _ _ (ov us.length (dg Bs X)) (ov vs.length (dg Bs Y)) jnf _ (Lk.nm' Hb112.out (ov_sm (dg_sm Bs_two X)) (ov_len _ _)) (Lk.nm' Hb212.out (ov_sm (dg_sm Bs_two Y)) (ov_len _ _)) (by rw [ov_len]; exact HL.out.2.2.1) (by rw [ov_len]; exact HL.out.2.2.2)).mono ?_
        rintro e w76 ⟨cd1v, cd2v, rfl, c1, c2, hB⟩
        have Hs77 : Hid (Below _ _ _) := hB
        obtain ⟨cd10, cd11, cd12, rfl⟩ := (Nm.nu' c1 (by rw [ov_len]; exact HL.out.2.2.1)).shape
        have Hcd10 : Hid (Nu w76 (.slice cd10 cd11 cd12) (nv Bs (ov us.length (dg Bs X)))) := Nm.nu' c1 (by rw [ov_len]; exact HL.out.2.2.1)
        obtain ⟨cd20, cd21, cd22, rfl⟩ := (Nm.nu' c2 (by rw [ov_len]; exact HL.out.2.2.2)).shape
        have Hcd20 : Hid (Nu w76 (.slice cd20 cd21 cd22) (nv Bs (ov vs.length (dg Bs Y)))) := Nm.nu' c2 (by rw [ov_len]; exact HL.out.2.2.2)
        clear c1 c2 hB
        have Hba20 : Hid (Bl _ _ _ _) := Hba19.out.below Hs77.out Hba19.out.lt
        have Hbb19 : Hid (Bl _ _ _ _) := Hbb18.out.below Hs77.out Hbb18.out.lt
        try dsimp only
        refine hK.out _ _ (fun _ => ⟨Hba20.out.cell 0 (by simp), Hba20.out.cell 1 (by simp), Hba20.out.cell 2 (by simp), Hbb19.out.cell 0 (by simp), Hbb19.out.cell 1 (by simp), Hbb19.out.cell 2 (by simp)⟩) ?_
        have hHeld : ((fun (w' : World) => w'.cell? ⟨w3.heap.size, 0, none⟩ = some (.slice (some ⟨ag1, 0, none⟩) xs.length ad1) ∧ w'.cell? ⟨w3.heap.size, 1, none⟩ = some (.slice (some ⟨ag2, 0, none⟩) ys.length ad2) ∧ w'.cell? ⟨w3.heap.size, 2, none⟩ = some (.bool inf) ∧ w'.cell? ⟨w7.heap.size, 0, none⟩ = some (.slice (some ⟨bg1, 0, none⟩) us.length bd1) ∧ w'.cell? ⟨w7.heap.size, 1, none⟩ = some (.slice (some ⟨bg2, 0, none⟩) vs.length bd2) ∧ w'.cell? ⟨w7.heap.size, 2, none⟩ = some (.bool jnf))) _ := ⟨Hba20.out.cell 0 (by simp), Hba20.out.cell 1 (by simp), Hba20.out.cell 2 (by simp), Hbb19.out.cell 0 (by simp), Hbb19.out.cell 1 (by simp), Hbb19.out.cell 2 (by simp)⟩
        clear hK K
        try simp only [Act.put, List.setIfInBounds_toArray, List.set_cons_zero, List.set_cons_succ]
        refine rdy2 5 9 rfl rfl (by kernel_rfl) (fun K hK => ?_) (fun K hK => ?_)
        · skip
          go_simp
          have Hcc11 : Hid (Nu _ _ _) := Hcc10.out.below Hs77.out (Nat.le_refl _)
          have Hcc21 : Hid (Nu _ _ _) := Hcc20.out.below Hs77.out (Nat.le_refl _)
          have C := S.dadd _ _ _ _ _ _ _ _ inf jnf _ Hcc11.out Hcc21.out Hcd10.out Hcd20.out
          rw [← Hb1.out, ← Hb2.out, ← Hbj.out, ← Hbz.out] at C
          refine (C).mono ?_
          rintro e w78 ⟨evxv, evyv, rfl, m1, m2, hB⟩
          have Hs79 : Hid (Below _ _ _) := hB
          obtain ⟨evx0, evx1, evx2, rfl⟩ := m1.nk.sl
          have Hevx0 : Hid (Mk w78 w76.heap.size (.slice evx0 evx1 evx2) b1 384) := m1
          have Hvevx : Hid (∀ g, (Value.slice evx0 evx1 evx2).ownBlock = some g → w76.heap.size ≤ g ∧ g < w78.heap.size) := m1.iv
          obtain ⟨evy0, evy1, evy2, rfl⟩ := m2.nk.sl
          have Hevy0 : Hid (Mk w78 w76.heap.size (.slice evy0 evy1 evy2) b2 384) := m2
          have Hvevy : Hid (∀ g, (Value.slice evy0 evy1 evy2).ownBlock = some g → w76.heap.size ≤ g ∧ g < w78.heap.size) := m2.iv
          clear C m1 m2 hB
          have Hba21 : Hid (Bl _ _ _ _) := Hba20.out.below Hs79.out Hba20.out.lt
          have Hbb20 : Hid (Bl _ _ _ _) := Hbb19.out.below Hs79.out Hbb19.out.lt
          try dsimp only
          refine hK.out _ _ (fun _ => ⟨Hba21.out.cell 0 (by simp), Hba21.out.cell 1 (by simp), Hba21.out.cell 2 (by simp), Hbb20.out.cell 0 (by simp), Hbb20.out.cell 1 (by simp), Hbb20.out.cell 2 (by simp)⟩) ?_
          have hHeld : ((fun (w' : World) => w'.cell? ⟨w3.heap.size, 0, none⟩ = some (.slice (some ⟨ag1, 0, none⟩) xs.length ad1) ∧ w'.cell? ⟨w3.heap.size, 1, none⟩ = some (.slice (some ⟨ag2, 0, none⟩) ys.length ad2) ∧ w'.cell? ⟨w3.heap.size, 2, none⟩ = some (.bool inf) ∧ w'.cell? ⟨w7.heap.size, 0, none⟩ = some (.slice (some ⟨bg1, 0, none⟩) us.length bd1) ∧ w'.cell? ⟨w7.heap.size, 1, none⟩ = some (.slice (some ⟨bg2, 0, none⟩) vs.length bd2) ∧ w'.cell? ⟨w7.heap.size, 2, none⟩ = some (.bool jnf))) _ := ⟨Hba21.out.cell 0 (by simp), Hba21.out.cell 1 (by simp), Hba21.out.cell 2 (by simp), Hbb20.out.cell 0 (by simp), Hbb20.out.cell 1 (by simp), Hbb20.out.cell 2 (by simp)⟩
          clear hK K
          try simp only [Act.put, List.setIfInBounds_toArray, List.set_cons_zero, List.set_cons_succ]
          refine wpAnyK_take0 6 (v := ?v49) rfl (by kernel_rfl) (fun _ _ _ h => h) (Or.inl ⟨by rfl, ?hy49⟩) (fun _ => hHeld) ?_
          case hy49 => (intro w hSw; go_simp; try with_reducible rfl)
          try simp only [Act.put, List.setIfInBounds_toArray, List.set_cons_zero, List.set_cons_succ]
          refine wpAnyK_take0 7 (v := ?v50) rfl (by kernel_rfl) (fun _ _ _ h => h) (Or.inl ⟨by rfl, ?hy50⟩) (fun _ => hHeld) ?_
          case hy50 => (intro w hSw; go_simp; try with_reducible rfl)
          try simp only [Act.put, List.setIfInBounds_toArray, List.set_cons_zero, List.set_cons_succ]
          refine wpAnyK_take0 8 (v := ?v51) rfl (by kernel_rfl) (fun _ _ _ h => h) (Or.inl ⟨by rfl, ?hy51⟩) (fun _ => hHeld) ?_
          case hy51 => (intro w hSw; go_simp; try with_reducible rfl)
          try simp only [Act.put, List.setIfInBounds_toArray, List.set_cons_zero, List.set_cons_succ]
          refine wpAnyK_step 9 rfl (by kernel_rfl) (fun K hK => ?_)
          go_simp
          have Hs80 : Hid (Below w78.heap.size w78 (w78.alloc (.cells #[.slice none 0 0, .slice none 0 0, .bool false] 26))) := alloc_below _ _
          have HbE0 : Hid (Bl _ _ _ _) := alloc_bl w78 [.slice none 0 0, .slice none 0 0, .bool false] 26
          have HvE : Hid ((∀ g, (Value.slice evx0 evx1 evx2).ownBlock = some g → g < w78.heap.size) ∧ ∀ g, (Value.slice evy0 evy1 evy2).ownBlock = some g → g < w78.heap.size) := ⟨fun g e => Nat.lt_of_lt_of_le (Hvevx.out g e).2 (Nat.le_refl _), fun g e => Nat.lt_of_lt_of_le (Hvevy.out g e).2 (Nat.le_refl _)⟩
          have HgE : Hid (True) := trivial
          have Hba22 : Hid (Bl _ _ _ _) := Hba21.out.below Hs80.out Hba21.out.lt
          have Hbb21 : Hid (Bl _ _ _ _) := Hbb20.out.below Hs80.out Hbb20.out.lt
          try dsimp only
          refine hK.out _ _ (fun _ => ⟨Hba22.out.cell 0 (by simp), Hba22.out.cell 1 (by simp), Hba22.out.cell 2 (by simp), Hbb21.out.cell 0 (by simp), Hbb21.out.cell 1 (by simp), Hbb21.out.cell 2 (by simp)⟩) ?_
          have hHeld : ((fun (w' : World) => w'.cell? ⟨w3.heap.size, 0, none⟩ = some (.slice (some ⟨ag1, 0, none⟩) xs.length ad1) ∧ w'.cell? ⟨w3.heap.size, 1, none⟩ = some (.slice (some ⟨ag2, 0, none⟩) ys.length ad2) ∧ w'.cell? ⟨w3.heap.size, 2, none⟩ = some (.bool inf) ∧ w'.cell? ⟨w7.heap.size, 0, none⟩ = some (.slice (some ⟨bg1, 0, none⟩) us.length bd1) ∧ w'.cell? ⟨w7.heap.size, 1, none⟩ = some (.slice (some ⟨bg2, 0, none⟩) vs.length bd2) ∧ w'.cell? ⟨w7.heap.size, 2, none⟩ = some (.bool jnf))) _ := ⟨Hba22.out.cell 0 (by simp), Hba22.out.cell 1 (by simp), Hba22.out.cell 2 (by simp), Hbb21.out.cell 0 (by simp), Hbb21.out.cell 1 (by simp), Hbb21.out.cell 2 (by simp)⟩
          clear hK K
          try simp only [Act.put, List.setIfInBounds_toArray, List.set_cons_zero, List.set_cons_succ]
          generalize hwe : (w78.alloc (.cells #[.slice none 0 0, .slice none 0 0, .bool false] 26)) = we80 at *
          clear hwe
          have Hevx1 : Hid (Mk _ _ _ _ _) := Hevx0.out.below Hs80.out
          have Hevy1 : Hid (Mk _ _ _ _ _) := Hevy0.out.below Hs80.out
          refine wpAnyK_step 10 rfl (by kernel_rfl) (fun K hK => ?_)
          rw [if_pos (by kernel_rfl)]
          refine wp_store_row 26 _ _ rfl (w78.heap.size) #[.slice evx0 evx1 evx2, .slice evy0 evy1 evy2, .bool bj] rfl rfl 26 #[.slice none 0 0, .slice none 0 0, .bool false] (HbE0.out) (by kernel_rfl) rfl (by simp [Value.oneCell']) ?_
          refine hK.out _ _ ?hk52 ?_
          case hk52 => exact (fun h => nomatch (h.symm.trans (show _ = true by kernel_rfl)))
          clear hK K
          try simp only [Act.put]
          refine wpAnyK_take0 11 (v := ?v53) rfl (by kernel_rfl) (fun _ _ _ h => h) (Or.inl ⟨by rfl, ?hy53⟩) (fun h => nomatch (h.symm.trans (show _ = true by kernel_rfl))) ?_
          case hy53 => (intro w hSw; go_simp; try with_reducible rfl)
          try simp only [Act.put, List.setIfInBounds_toArray, List.set_cons_zero, List.set_cons_succ]
          refine wpAnyK_done (by kernel_rfl) ?_ _
          go_wp2_with fail
          go_meet
          have hb := But.setRow we80 (w78.heap.size) #[.slice evx0 evx1 evx2, .slice evy0 evy1 evy2, .bool bj]
          have hle : wv72.heap.size ≤ w78.heap.size := ((btr Hs73.out (btr Hs75.out (btr Hs77.out Hs79.out)))).size
          exact ⟨_, w78.heap.size, evx0, evy0, evx1, evx2, evy1, evy2, rfl, rfl, rfl, ((btr Hs73.out (btr Hs75.out (btr Hs77.out (btr Hs79.out Hs80.out))))).trans (hb.below ((btr Hs73.out (btr Hs75.out (btr Hs77.out (btr Hs79.out Hs80.out))))).size hle), setRow_heap _ _ _ _ _ _ (HbE0.out), (Hevx1.out.own_but hb (fun e => by have h := HvE.out.1 _ e; have h2 := HgE.out; omega)).base (Nat.zero_le _), (Hevy1.out.own_but hb (fun e => by have h := HvE.out.2 _ e; have h2 := HgE.out; omega)).base (Nat.zero_le _)⟩
        · skip
          go_simp
          have Hs81 : Hid (Below w76.heap.size w76 (w76.alloc (.cells #[.slice none 0 0, .slice none 0 0, .bool false] 26))) := alloc_below _ _
          have HbE0 : Hid (Bl _ _ _ _) := alloc_bl w76 [.slice none 0 0, .slice none 0 0, .bool false] 26
          have Hba21 : Hid (Bl _ _ _ _) := Hba20.out.below Hs81.out Hba20.out.lt
          have Hbb20 : Hid (Bl _ _ _ _) := Hbb19.out.below Hs81.out Hbb19.out.lt
          try dsimp only
          refine hK.out _ _ (fun _ => ⟨Hba21.out.cell 0 (by simp), Hba21.out.cell 1 (by simp), Hba21.out.cell 2 (by simp), Hbb20.out.cell 0 (by simp), Hbb20.out.cell 1 (by simp), Hbb20.out.cell 2 (by simp)⟩) ?_
          have hHeld : ((fun (w' : World) => w'.cell? ⟨w3.heap.size, 0, none⟩ = some (.slice (some ⟨ag1, 0, none⟩) xs.length ad1) ∧ w'.cell? ⟨w3.heap.size, 1, none⟩ = some (.slice (some ⟨ag2, 0, none⟩) ys.length ad2) ∧ w'.cell? ⟨w3.heap.size, 2, none⟩ = some (.bool inf) ∧ w'.cell? ⟨w7.heap.size, 0, none⟩ = some (.slice (some ⟨bg1, 0, none⟩) us.length bd1) ∧ w'.cell? ⟨w7.heap.size, 1, none⟩ = some (.slice (some ⟨bg2, 0, none⟩) vs.length bd2) ∧ w'.cell? ⟨w7.heap.size, 2, none⟩ = some (.bool jnf))) _ := ⟨Hba21.out.cell 0 (by simp), Hba21.out.cell 1 (by simp), Hba21.out.cell 2 (by simp), Hbb20.out.cell 0 (by simp), Hbb20.out.cell 1 (by simp), Hbb20.out.cell 2 (by simp)⟩
          clear hK K
          try simp only [Act.put, List.setIfInBounds_toArray, List.set_cons_zero, List.set_cons_succ]
          generalize hwe : (w76.alloc (.cells #[.slice none 0 0, .slice none 0 0, .bool false] 26)) = we81 at *
          clear hwe
          have HbltE : Hid (w76.heap.size < we81.heap.size) := HbE0.out.lt
          refine wpAnyK_step 5 rfl (by kernel_rfl) (fun K hK => ?_)
          go_simp
          have Hcc11 : Hid (Nu _ _ _) := Hcc10.out.below (btr Hs77.out Hs81.out) (Nat.le_refl _)
          have Hcc21 : Hid (Nu _ _ _) := Hcc20.out.below (btr Hs77.out Hs81.out) (Nat.le_refl _)
          have Hcd11 : Hid (Nu _ _ _) := Hcd10.out.below Hs81.out (Nat.le_refl _)
          have Hcd21 : Hid (Nu _ _ _) := Hcd20.out.below Hs81.out (Nat.le_refl _)
          have C := S.dadd _ _ _ _ _ _ _ _ inf jnf _ Hcc11.out Hcc21.out Hcd11.out Hcd21.out
          rw [← Hb1.out, ← Hb2.out, ← Hbj.out, ← Hbz.out] at C
          refine (C).mono ?_
          rintro e w82 ⟨evxv, evyv, rfl, m1, m2, hB⟩
          have Hs83 : Hid (Below _ _ _) := hB
          obtain ⟨evx0, evx1, evx2, rfl⟩ := m1.nk.sl
          have Hevx0 : Hid (Mk w82 we81.heap.size (.slice evx0 evx1 evx2) b1 384) := m1
          have Hvevx : Hid (∀ g, (Value.slice evx0 evx1 evx2).ownBlock = some g → we81.heap.size ≤ g ∧ g < w82.heap.size) := m1.iv
          obtain ⟨evy0, evy1, evy2, rfl⟩ := m2.nk.sl
          have Hevy0 : Hid (Mk w82 we81.heap.size (.slice evy0 evy1 evy2) b2 384) := m2
          have Hvevy : Hid (∀ g, (Value.slice evy0 evy1 evy2).ownBlock = some g → we81.heap.size ≤ g ∧ g < w82.heap.size) := m2.iv
          clear C m1 m2 hB
          have HvE : Hid ((∀ g, (Value.slice evx0 evx1 evx2).ownBlock = some g → w76.heap.size < g) ∧ ∀ g, (Value.slice evy0 evy1 evy2).ownBlock = some g → w76.heap.size < g) := ⟨fun g e => Nat.lt_of_lt_of_le HbltE.out (Hvevx.out g e).1, fun g e => Nat.lt_of_lt_of_le HbltE.out (Hvevy.out g e).1⟩
          have HgE : Hid (True) := trivial
          have Hba22 : Hid (Bl _ _ _ _) := Hba21.out.below Hs83.out Hba21.out.lt
          have Hbb21 : Hid (Bl _ _ _ _) := Hbb20.out.below Hs83.out Hbb20.out.lt
          try dsimp only
          refine hK.out _ _ (fun _ => ⟨Hba22.out.cell 0 (by simp), Hba22.out.cell 1 (by simp), Hba22.out.cell 2 (by simp), Hbb21.out.cell 0 (by simp), Hbb21.out.cell 1 (by simp), Hbb21.out.cell 2 (by simp)⟩) ?_
          have hHeld : ((fun (w' : World) => w'.cell? ⟨w3.heap.size, 0, none⟩ = some (.slice (some ⟨ag1, 0, none⟩) xs.length ad1) ∧ w'.cell? ⟨w3.heap.size, 1, none⟩ = some (.slice (some ⟨ag2, 0, none⟩) ys.length ad2) ∧ w'.cell? ⟨w3.heap.size, 2, none⟩ = some (.bool inf) ∧ w'.cell? ⟨w7.heap.size, 0, none⟩ = some (.slice (some ⟨bg1, 0, none⟩) us.length bd1) ∧ w'.cell? ⟨w7.heap.size, 1, none⟩ = some (.slice (some ⟨bg2, 0, none⟩) vs.length bd2) ∧ w'.cell? ⟨w7.heap.size, 2, none⟩ = some (.bool jnf))) _ := ⟨Hba22.out.cell 0 (by simp), Hba22.out.cell 1 (by simp), Hba22.out.cell 2 (by simp), Hbb21.out.cell 0 (by simp), Hbb21.out.cell 1 (by simp), Hbb21.out.cell 2 (by simp)⟩
          clear hK K
          try simp only [Act.put, List.setIfInBounds_toArray, List.set_cons_zero, List.set_cons_succ]
          refine wpAnyK_take0 6 (v := ?v54) rfl (by kernel_rfl) (fun _ _ _ h => h) (Or.inl ⟨by rfl, ?hy54⟩) (fun _ => hHeld) ?_
          case hy54 => (intro w hSw; go_simp; try with_reducible rfl)
          try simp only [Act.put, List.setIfInBounds_toArray, List.set_cons_zero, List.set_cons_succ]
          refine wpAnyK_take0 7 (v := ?v55) rfl (by kernel_rfl) (fun _ _ _ h => h) (Or.inl ⟨by rfl, ?hy55⟩) (fun _ => hHeld) ?_
          case hy55 => (intro w hSw; go_simp; try with_reducible rfl)
          try simp only [Act.put, List.setIfInBounds_toArray, List.set_cons_zero, List.set_cons_succ]
          refine wpAnyK_take0 8 (v := ?v56) rfl (by kernel_rfl) (fun _ _ _ h => h) (Or.inl ⟨by rfl, ?hy56⟩) (fun _ => hHeld) ?_
          case hy56 => (intro w hSw; go_simp; try with_reducible rfl)
          try simp only [Act.put, List.setIfInBounds_toArray, List.set_cons_zero, List.set_cons_succ]
          have HbE1 : Hid (Bl _ _ _ _) := HbE0.out.below Hs83.out HbE0.out.lt
          refine wpAnyK_step 10 rfl (by kernel_rfl) (fun K hK => ?_)
          rw [if_pos (by kernel_rfl)]
          refine wp_store_row 26 _ _ rfl (w76.heap.size) #[.slice evx0 evx1 evx2, .slice evy0 evy1 evy2, .bool bj] rfl rfl 26 #[.slice none 0 0, .slice none 0 0, .bool false] (HbE1.out) (by kernel_rfl) rfl (by simp [Value.oneCell']) ?_
          refine hK.out _ _ ?hk57 ?_
          case hk57 => exact (fun h => nomatch (h.symm.trans (show _ = true by kernel_rfl)))
          clear hK K
          try simp only [Act.put]
          refine wpAnyK_take0 11 (v := ?v58) rfl (by kernel_rfl) (fun _ _ _ h => h) (Or.inl ⟨by rfl, ?hy58⟩) (fun h => nomatch (h.symm.trans (show _ = true by kernel_rfl))) ?_
          case hy58 => (intro w hSw; go_simp; try with_reducible rfl)
          try simp only [Act.put, List.setIfInBounds_toArray, List.set_cons_zero, List.set_cons_succ]
          refine wpAnyK_done (by kernel_rfl) ?_ _
          go_wp2_with fail
          go_meet
          have hb := But.setRow w82 (w76.heap.size) #[.slice evx0 evx1 evx2, .slice evy0 evy1 evy2, .bool bj]
          have hle : wv72.heap.size ≤ w76.heap.size := ((btr Hs73.out (btr Hs75.out Hs77.out))).size
          exact ⟨_, w76.heap.size, evx0, evy0, evx1, evx2, evy1, evy2, rfl, rfl, rfl, ((btr Hs73.out (btr Hs75.out (btr Hs77.out (btr Hs81.out Hs83.out))))).trans (hb.below ((btr Hs73.out (btr Hs75.out (btr Hs77.out (btr Hs81.out Hs83.out))))).size hle), setRow_heap _ _ _ _ _ _ (HbE1.out), (Hevx0.out.own_but hb (fun e => by have h := HvE.out.1 _ e; have h2 := HgE.out; omega)).base (Nat.zero_le _), (Hevy0.out.own_but hb (fun e => by have h := HvE.out.2 _ e; have h2 := HgE.out; omega)).base (Nat.zero_le _)⟩
      · skip
        go_simp
        have Hs84 : Hid (Below w74.heap.size w74 (w74.alloc (.cells #[.slice none 0 0, .slice none 0 0, .bool false] 26))) := alloc_below _ _
        have HbE0 : Hid (Bl _ _ _ _) := alloc_bl w74 [.slice none 0 0, .slice none 0 0, .bool false] 26
        have Hba20 : Hid (Bl _ _ _ _) := Hba19.out.below Hs84.out Hba19.out.lt
        have Hbb19 : Hid (Bl _ _ _ _) := Hbb18.out.below Hs84.out Hbb18.out.lt
        try dsimp only
        refine hK.out _ _ (fun _ => ⟨Hba20.out.cell 0 (by simp), Hba20.out.cell 1 (by simp), Hba20.out.cell 2 (by simp), Hbb19.out.cell 0 (by simp), Hbb19.out.cell 1 (by simp), Hbb19.out.cell 2 (by simp)⟩) ?_
        have hHeld : ((fun (w' : World) => w'.cell? ⟨w3.heap.size, 0, none⟩ = some (.slice (some ⟨ag1, 0, none⟩) xs.length ad1) ∧ w'.cell? ⟨w3.heap.size, 1, none⟩ = some (.slice (some ⟨ag2, 0, none⟩) ys.length ad2) ∧ w'.cell? ⟨w3.heap.size, 2, none⟩ = some (.bool inf) ∧ w'.cell? ⟨w7.heap.size, 0, none⟩ = some (.slice (some ⟨bg1, 0, none⟩) us.length bd1) ∧ w'.cell? ⟨w7.heap.size, 1, none⟩ = some (.slice (some ⟨bg2, 0, none⟩) vs.length bd2) ∧ w'.cell? ⟨w7.heap.size, 2, none⟩ = some (.bool jnf))) _ := ⟨Hba20.out.cell 0 (by simp), Hba20.out.cell 1 (by simp), Hba20.out.cell 2 (by simp), Hbb19.out.cell 0 (by simp), Hbb19.out.cell 1 (by simp), Hbb19.out.cell 2 (by simp)⟩
        clear hK K
        try simp only [Act.put, List.setIfInBounds_toArray, List.set_cons_zero, List.set_cons_succ]
        generalize hwe : (w74.alloc (.cells #[.slice none 0 0, .slice none 0 0, .bool false] 26)) = we84 at *
        clear hwe
        have HbltE : Hid (w74.heap.size < we84.heap.size) := HbE0.out.lt
        refine wpAnyK_step 4 rfl (by kernel_rfl) (fun K hK => ?_)
        go_simp
        have Hb112 : Hid (Lk _ _ _ _ _) := Hb111.out.below (btr Hs68.out (btr Hs70.out (btr Hs71.out (btr Hs73.out (btr Hs75.out Hs84.out))))) (Nat.le_refl _)
        have Hb212 : Hid (Lk _ _ _ _ _) := Hb211.out.below (btr Hs68.out (btr Hs70.out (btr Hs71.out (btr Hs73.out (btr Hs75.out Hs84.out))))) (Nat.le_refl _)
        refine (copied_v _ _ (ov us.length (dg Bs X)) (ov vs.length (dg Bs Y)) jnf _ (Lk.nm' Hb112.out (ov_sm (dg_sm Bs_two X)) (ov_len _ _)) (Lk.nm' Hb212.out (ov_sm (dg_sm Bs_two Y)) (ov_len _ _)) (by rw [ov_len]; exact HL.out.2.2.1) (by rw [ov_len]; exact HL.out.2.2.2)).mono ?_
        rintro e w85 ⟨cd1v, cd2v, rfl, c1, c2, hB⟩
        have Hs86 : Hid (Below _ _ _) := hB
        obtain ⟨cd10, cd11, cd12, rfl⟩ := (Nm.nu' c1 (by rw [ov_len]; exact HL.out.2.2.1)).shape
        have Hcd10 : Hid (Nu w85 (.slice cd10 cd11 cd12) (nv Bs (ov us.length (dg Bs X)))) := Nm.nu' c1 (by rw [ov_len]; exact HL.out.2.2.1)
        obtain ⟨cd20, cd21, cd22, rfl⟩ := (Nm.nu' c2 (by rw [ov_len]; exact HL.out.2.2.2)).shape
        have Hcd20 : Hid (Nu w85 (.slice cd20 cd21 cd22) (nv Bs (ov vs.length (dg Bs Y)))) := Nm.nu' c2 (by rw [ov_len]; exact HL.out.2.2.2)
        clear c1 c2 hB
        have Hba21 : Hid (Bl _ _ _ _) := Hba20.out.below Hs86.out Hba20.out.lt
        have Hbb20 : Hid (Bl _ _ _ _) := Hbb19.out.below Hs86.out Hbb19.out.lt
        try dsimp only
        refine hK.out _ _ (fun _ => ⟨Hba21.out.cell 0 (by simp), Hba21.out.cell 1 (by simp), Hba21.out.cell 2 (by simp), Hbb20.out.cell 0 (by simp), Hbb20.out.cell 1 (by simp), Hbb20.out.cell 2 (by simp)⟩) ?_
        have hHeld : ((fun (w' : World) => w'.cell? ⟨w3.heap.size, 0, none⟩ = some (.slice (some ⟨ag1, 0, none⟩) xs.length ad1) ∧ w'.cell? ⟨w3.heap.size, 1, none⟩ = some (.slice (some ⟨ag2, 0, none⟩) ys.length ad2) ∧ w'.cell? ⟨w3.heap.size, 2, none⟩ = some (.bool inf) ∧ w'.cell? ⟨w7.heap.size, 0, none⟩ = some (.slice (some ⟨bg1, 0, none⟩) us.length bd1) ∧ w'.cell? ⟨w7.heap.size, 1, none⟩ = some (.slice (some ⟨bg2, 0, none⟩) vs.length bd2) ∧ w'.cell? ⟨w7.heap.size, 2, none⟩ = some (.bool jnf))) _ := ⟨Hba21.out.cell 0 (by simp), Hba21.out.cell 1 (by simp), Hba21.out.cell 2 (by simp), Hbb20.out.cell 0 (by simp), Hbb20.out.cell 1 (by simp), Hbb20.out.cell 2 (by simp)⟩
        clear hK K
        try simp only [Act.put, List.setIfInBounds_toArray, List.set_cons_zero, List.set_cons_succ]
        have HbE1 : Hid (Bl _ _ _ _) := HbE0.out.below Hs86.out HbE0.out.lt
        have HbltE : Hid (w74.heap.size < w85.heap.size) := HbE1.out.lt
        refine wpAnyK_step 5 rfl (by kernel_rfl) (fun K hK => ?_)
        go_simp
        have Hcc11 : Hid (Nu _ _ _) := Hcc10.out.below (btr Hs84.out Hs86.out) (Nat.le_refl _)
        have Hcc21 : Hid (Nu _ _ _) := Hcc20.out.below (btr Hs84.out Hs86.out) (Nat.le_refl _)
        have C := S.dadd _ _ _ _ _ _ _ _ inf jnf _ Hcc11.out Hcc21.out Hcd10.out Hcd20.out
        rw [← Hb1.out, ← Hb2.out, ← Hbj.out, ← Hbz.out] at C
        refine (C).mono ?_
        rintro e w87 ⟨evxv, evyv, rfl, m1, m2, hB⟩
        have Hs88 : Hid (Below _ _ _) := hB
        obtain ⟨evx0, evx1, evx2, rfl⟩ := m1.nk.sl
        have Hevx0 : Hid (Mk w87 w85.heap.size (.slice evx0 evx1 evx2) b1 384) := m1
        have Hvevx : Hid (∀ g, (Value.slice evx0 evx1 evx2).ownBlock = some g → w85.heap.size ≤ g ∧ g < w87.heap.size) := m1.iv
        obtain ⟨evy0, evy1, evy2, rfl⟩ := m2.nk.sl
        have Hevy0 : Hid (Mk w87 w85.heap.size (.slice evy0 evy1 evy2) b2 384) := m2
        have Hvevy : Hid (∀ g, (Value.slice evy0 evy1 evy2).ownBlock = some g → w85.heap.size ≤ g ∧ g < w87.heap.size) := m2.iv
        clear C m1 m2 hB
        have HvE : Hid ((∀ g, (Value.slice evx0 evx1 evx2).ownBlock = some g → w74.heap.size < g) ∧ ∀ g, (Value.slice evy0 evy1 evy2).ownBlock = some g → w74.heap.size < g) := ⟨fun g e => Nat.lt_of_lt_of_le HbltE.out (Hvevx.out g e).1, fun g e => Nat.lt_of_lt_of_le HbltE.out (Hvevy.out g e).1⟩
        have HgE : Hid (True) := trivial
        have Hba22 : Hid (Bl _ _ _ _) := Hba21.out.below Hs88.out Hba21.out.lt
        have Hbb21 : Hid (Bl _ _ _ _) := Hbb20.out.below Hs88.out Hbb20.out.lt
        try dsimp only
        refine hK.out _ _ (fun _ => ⟨Hba22.out.cell 0 (by simp), Hba22.out.cell 1 (by simp), Hba22.out.cell 2 (by simp), Hbb21.out.cell 0 (by simp), Hbb21.out.cell 1 (by simp), Hbb21.out.cell 2 (by simp)⟩) ?_
        have hHeld : ((fun (w' : World) => w'.cell? ⟨w3.heap.size, 0, none⟩ = some (.slice (some ⟨ag1, 0, none⟩) xs.length ad1) ∧ w'.cell? ⟨w3.heap.size, 1, none⟩ = some (.slice (some ⟨ag2, 0, none⟩) ys.length ad2) ∧ w'.cell? ⟨w3.heap.size, 2, none⟩ = some (.bool inf) ∧ w'.cell? ⟨w7.heap.size, 0, none⟩ = some (.slice (some ⟨bg1, 0, none⟩) us.length bd1) ∧ w'.cell? ⟨w7.heap.size, 1, none⟩ = some (.slice (some ⟨bg2, 0, none⟩) vs.length bd2) ∧ w'.cell? ⟨w7.heap.size, 2, none⟩ = some (.bool jnf))) _ := ⟨Hba22.out.cell 0 (by simp), Hba22.out.cell 1 (by simp), Hba22.out.cell 2 (by simp), Hbb21.out.cell 0 (by simp), Hbb21.out.cell 1 (by simp), Hbb21.out.cell 2 (by simp)⟩
        clear hK K
        try simp only [Act.put, List.setIfInBounds_toArray, List.set_cons_zero, List.set_cons_succ]
        refine wpAnyK_take0 6 (v := ?v59) rfl (by kernel_rfl) (fun _ _ _ h => h) (Or.inl ⟨by rfl, ?hy59⟩) (fun _ => hHeld) ?_
        case hy59 => (intro w hSw; go_simp; try with_reducible rfl)
        try simp only [Act.put, List.setIfInBounds_toArray, List.set_cons_zero, List.set_cons_succ]
        refine wpAnyK_take0 7 (v := ?v60) rfl (by kernel_rfl) (fun _ _ _ h => h) (Or.inl ⟨by rfl, ?hy60⟩) (fun _ => hHeld) ?_
        case hy60 => (intro w hSw; go_simp; try with_reducible rfl)
        try simp only [Act.put, List.setIfInBounds_toArray, List.set_cons_zero, List.set_cons_succ]
        refine wpAnyK_take0 8 (v := ?v61) rfl (by kernel_rfl) (fun _ _ _ h => h) (Or.inl ⟨by rfl, ?hy61⟩) (fun _ => hHeld) ?_
        case hy61 => (intro w hSw; go_simp; try with_reducible rfl)
        try simp only [Act.put, List.setIfInBounds_toArray, List.set_cons_zero, List.set_cons_succ]
        have HbE2 : Hid (Bl _ _ _ _) := HbE1.out.below Hs88.out HbE1.out.lt
        refine wpAnyK_step 10 rfl (by kernel_rfl) (fun K hK => ?_)
        rw [if_pos (by kernel_rfl)]
        refine wp_store_row 26 _ _ rfl (w74.heap.size) #[.slice evx0 evx1 evx2, .slice evy0 evy1 evy2, .bool bj] rfl rfl 26 #[.slice none 0 0, .slice none 0 0, .bool false] (HbE2.out) (by kernel_rfl) rfl (by simp [Value.oneCell']) ?_
        refine hK.out _ _ ?hk62 ?_
        case hk62 => exact (fun h => nomatch (h.symm.trans (show _ = true by kernel_rfl)))
        clear hK K
        try simp only [Act.put]
        refine wpAnyK_take0 11 (v := ?v63) rfl (by kernel_rfl) (fun _ _ _ h => h) (Or.inl ⟨by rfl, ?hy63⟩) (fun h => nomatch (h.symm.trans (show _ = true by kernel_rfl))) ?_
        case hy63 => (intro w hSw; go_simp; try with_reducible rfl)
        try simp only [Act.put, List.setIfInBounds_toArray, List.set_cons_zero, List.set_cons_succ]
        refine wpAnyK_done (by kernel_rfl) ?_ _
        go_wp2_with fail
        go_meet
        have hb := But.setRow w87 (w74.heap.size) #[.slice evx0 evx1 evx2, .slice evy0 evy1 evy2, .bool bj]
        have hle : wv72.heap.size ≤ w74.heap.size := ((btr Hs73.out Hs75.out)).size
        exact ⟨_, w74.heap.size, evx0, evy0, evx1, evx2, evy1, evy2, rfl, rfl, rfl, ((btr Hs73.out (btr Hs75.out (btr Hs84.out (btr Hs86.out Hs88.out))))).trans (hb.below ((btr Hs73.out (btr Hs75.out (btr Hs84.out (btr Hs86.out Hs88.out))))).size hle), setRow_heap _ _ _ _ _ _ (HbE2.out), (Hevx0.out.own_but hb (fun e => by have h := HvE.out.1 _ e; have h2 := HgE.out; omega)).base (Nat.zero_le _), (Hevy0.out.own_but hb (fun e => by have h := HvE.out.2 _ e; have h2 := HgE.out; omega)).base (Nat.zero_le _)⟩
    · skip
      go_simp
      have Hs89 : Hid (Below wd.heap.size wd (wd.alloc (.cells #[.slice none 0 0, .slice none 0 0, .bool false] 26))) := alloc_below _ _
      have HbE0 : Hid (Bl _ _ _ _) := alloc_bl wd [.slice none 0 0, .slice none 0 0, .bool false] 26
      have Hba19 : Hid (Bl _ _ _ _) := Hba18.out.below Hs89.out Hba18.out.lt
      have Hbb18 : Hid (Bl _ _ _ _) := Hbb17.out.below Hs89.out Hbb17.out.lt
      try dsimp only
      refine hK.out _ _ (fun _ => ⟨Hba19.out.cell 0 (by simp), Hba19.out.cell 1 (by simp), Hba19.out.cell 2 (by simp), Hbb18.out.cell 0 (by simp), Hbb18.out.cell 1 (by simp), Hbb18.out.cell 2 (by simp)⟩) ?_
      have hHeld : ((fun (w' : World) => w'.cell? ⟨w3.heap.size, 0, none⟩ = some (.slice (some ⟨ag1, 0, none⟩) xs.length ad1) ∧ w'.cell? ⟨w3.heap.size, 1, none⟩ = some (.slice (some ⟨ag2, 0, none⟩) ys.length ad2) ∧ w'.cell? ⟨w3.heap.size, 2, none⟩ = some (.bool inf) ∧ w'.cell? ⟨w7.heap.size, 0, none⟩ = some (.slice (some ⟨bg1, 0, none⟩) us.length bd1) ∧ w'.cell? ⟨w7.heap.size, 1, none⟩ = some (.slice (some ⟨bg2, 0, none⟩) vs.length bd2) ∧ w'.cell? ⟨w7.heap.size, 2, none⟩ = some (.bool jnf))) _ := ⟨Hba19.out.cell 0 (by simp), Hba19.out.cell 1 (by simp), Hba19.out.cell 2 (by simp), Hbb18.out.cell 0 (by simp), Hbb18.out.cell 1 (by simp), Hbb18.out.cell 2 (by simp)⟩
      clear hK K
      try simp only [Act.put, List.setIfInBounds_toArray, List.set_cons_zero, List.set_cons_succ]
      generalize hwe : (wd.alloc (.cells #[.slice none 0 0, .slice none 0 0, .bool false] 26)) = we89 at *
      clear hwe
      have HbltE : Hid (wd.heap.size < we89.heap.size) := HbE0.out.lt
      refine wpAnyK_step 2 rfl (by kernel_rfl) (fun K hK => ?_)
      go_simp
      have Ha115 : Hid (Lk _ _ _ _ _) := Ha114.out.below (btr Hs68.out (btr Hs70.out (btr Hs71.out (btr Hs73.out Hs89.out)))) (Nat.le_refl _)
      have Ha215 : Hid (Lk _ _ _ _ _) := Ha214.out.below (btr Hs68.out (btr Hs70.out (btr Hs71.out (btr Hs73.out Hs89.out)))) (Nat.le_refl _)
      refine (copied_v _ _ (ov xs.length us) (ov ys.length vs) inf _ (Lk.nm' Ha115.out (ov_sm HS.out.2.2.1) (ov_len _ _)) (Lk.nm' Ha215.out (ov_sm HS.out.2.2.2) (ov_len _ _)) (by rw [ov_len]; exact HL.out.1) (by rw [ov_len]; exact HL.out.2.1)).mono ?_
      rintro e w90 ⟨cc1v, cc2v, rfl, c1, c2, hB⟩
      have Hs91 : Hid (Below _ _ _) := hB
      obtain ⟨cc10, cc11, cc12, rfl⟩ := (Nm.nu' c1 (by rw [ov_len]; exact HL.out.1)).shape
      have Hcc10 : Hid (Nu w90 (.slice cc10 cc11 cc12) (nv Bs (ov xs.length us))) := Nm.nu' c1 (by rw [ov_len]; exact HL.out.1)
      obtain ⟨cc20, cc21, cc22, rfl⟩ := (Nm.nu' c2 (by rw [ov_len]; exact HL.out.2.1)).shape
      have Hcc20 : Hid (Nu w90 (.slice cc20 cc21 cc22) (nv Bs (ov ys.length vs))) := Nm.nu' c2 (by rw [ov_len]; exact HL.out.2.1)
      clear c1 c2 hB
      have Hba20 : Hid (Bl _ _ _ _) := Hba19.out.below Hs91.out Hba19.out.lt
      have Hbb19 : Hid (Bl _ _ _ _) := Hbb18.out.below Hs91.out Hbb18.out.lt
      try dsimp only
      refine hK.out _ _ (fun _ => ⟨Hba20.out.cell 0 (by simp), Hba20.out.cell 1 (by simp), Hba20.out.cell 2 (by simp), Hbb19.out.cell 0 (by simp), Hbb19.out.cell 1 (by simp), Hbb19.out.cell 2 (by simp)⟩) ?_
      have hHeld : ((fun (w' : World) => w'.cell? ⟨w3.heap.size, 0, none⟩ = some (.slice (some ⟨ag1, 0, none⟩) xs.length ad1) ∧ w'.cell? ⟨w3.heap.size, 1, none⟩ = some (.slice (some ⟨ag2, 0, none⟩) ys.length ad2) ∧ w'.cell? ⟨w3.heap.size, 2, none⟩ = some (.bool inf) ∧ w'.cell? ⟨w7.heap.size, 0, none⟩ = some (.slice (some ⟨bg1, 0, none⟩) us.length bd1) ∧ w'.cell? ⟨w7.heap.size, 1, none⟩ = some (.slice (some ⟨bg2, 0, none⟩) vs.length bd2) ∧ w'.cell? ⟨w7.heap.size, 2, none⟩ = some (.bool jnf))) _ := ⟨Hba20.out.cell 0 (by simp), Hba20.out.cell 1 (by simp), Hba20.out.cell 2 (by simp), Hbb19.out.cell 0 (by simp), Hbb19.out.cell 1 (by simp), Hbb19.out.cell 2 (by simp)⟩
      clear hK K
      try simp only [Act.put, List.setIfInBounds_toArray, List.set_cons_zero, List.set_cons_succ]
      have HbE1 : Hid (Bl _ _ _ _) := HbE0.out.below Hs91.out HbE0.out.lt
      have HbltE : Hid (wd.heap.size < w90.heap.size) := HbE1.out.lt
      refine wpAnyK_step 4 rfl (by kernel_rfl) (fun K hK => ?_)
      go_simp
      have Hb112 : Hid (Lk _ _ _ _ _) := Hb111.out.below (btr Hs68.out (btr Hs70.out (btr Hs71.out (btr Hs73.out (btr Hs89.out Hs91.out))))) (Nat.le_refl _)
      have Hb212 : Hid (Lk _ _ _ _ _) := Hb211.out.below (btr Hs68.out (btr Hs70.out (btr Hs71.out (btr Hs73.out (btr Hs89.out Hs91.out))))) (Nat.le_refl _)
      refine (copied_v _ _ (ov us.length (dg Bs X)) (ov vs.length (dg Bs Y)) jnf _ (Lk.nm' Hb112.out (ov_sm (dg_sm Bs_two X)) (ov_len _ _)) (Lk.nm' Hb212.out (ov_sm (dg_sm Bs_two Y)) (ov_len _ _)) (by rw [ov_len]; exact HL.out.2.2.1) (by rw [ov_len]; exact HL.out.2.2.2)).mono ?_
      rintro e w92 ⟨cd1v, cd2v, rfl, c1, c2, hB⟩
      have Hs93 : Hid (Below _ _ _) := hB
      obtain ⟨cd10, cd11, cd12, rfl⟩ := (Nm.nu' c1 (by rw [ov_len]; exact HL.out.2.2.1)).shape
      have Hcd10 : Hid (Nu w92 (.slice cd10 cd11 cd12) (nv Bs (ov us.length (dg Bs X)))) := Nm.nu' c1 (by rw [ov_len]; exact HL.out.2.2.1)
      obtain ⟨cd20, cd21, cd22, rfl⟩ := (Nm.nu' c2 (by rw [ov_len]; exact HL.out.2.2.2)).shape
      have Hcd20 : Hid (Nu w92 (.slice cd20 cd21 cd22) (nv Bs (ov vs.length (dg Bs Y)))) := Nm.nu' c2 (by rw [ov_len]; exact HL.out.2.2.2)
      clear c1 c2 hB
      have Hba21 : Hid (Bl _ _ _ _) := Hba20.out.below Hs93.out Hba20.out.lt
      have Hbb20 : Hid (Bl _ _ _ _) := Hbb19.out.below Hs93.out Hbb19.out.lt
      try dsimp only
      refine hK.out _ _ (fun _ => ⟨Hba21.out.cell 0 (by simp), Hba21.out.cell 1 (by simp), Hba21.out.cell 2 (by simp), Hbb20.out.cell 0 (by simp), Hbb20.out.cell 1 (by simp), Hbb20.out.cell 2 (by simp)⟩) ?_
      have hHeld : ((fun (w' : World) => w'.cell? ⟨w3.heap.size, 0, none⟩ = some (.slice (some ⟨ag1, 0, none⟩) xs.length ad1) ∧ w'.cell? ⟨w3.heap.size, 1, none⟩ = some (.slice (some ⟨ag2, 0, none⟩) ys.length ad2) ∧ w'.cell? ⟨w3.heap.size, 2, none⟩ = some (.bool inf) ∧ w'.cell? ⟨w7.heap.size, 0, none⟩ = some (.slice (some ⟨bg1, 0, none⟩) us.length bd1) ∧ w'.cell? ⟨w7.heap.size, 1, none⟩ = some (.slice (some ⟨bg2, 0, none⟩) vs.length bd2) ∧ w'.cell? ⟨w7.heap.size, 2, none⟩ = some (.bool jnf))) _ := ⟨Hba21.out.cell 0 (by simp), Hba21.out.cell 1 (by simp), Hba21.out.cell 2 (by simp), Hbb20.out.cell 0 (by simp), Hbb20.out.cell 1 (by simp), Hbb20.out.cell 2 (by simp)⟩
      clear hK K
      try simp only [Act.put, List.setIfInBounds_toArray, List.set_cons_zero, List.set_cons_succ]
      have HbE2 : Hid (Bl _ _ _ _) := HbE1.out.below Hs93.out HbE1.out.lt
      have HbltE : Hid (wd.heap.size < w92.heap.size) := HbE2.out.lt
      refine wpAnyK_step 5 rfl (by kernel_rfl) (fun K hK => ?_)
      go_simp
      have Hcc11 : Hid (Nu _ _ _) := Hcc10.out.below Hs93.out (Nat.le_refl _)
      have Hcc21 : Hid (Nu _ _ _) := Hcc20.out.below Hs93.out (Nat.le_refl _)
      have C := S.dadd _ _ _ _ _ _ _ _ inf jnf _ Hcc11.out Hcc21.out Hcd10.out Hcd20.out
      rw [← Hb1.out, ← Hb2.out, ← Hbj.out, ← Hbz.out] at C
      refine (C).mono ?_
      rintro e w94 ⟨evxv, evyv, rfl, m1, m2, hB⟩
      have Hs95 : Hid (Below _ _ _) := hB
      obtain ⟨evx0, evx1, evx2, rfl⟩ := m1.nk.sl
      have Hevx0 : Hid (Mk w94 w92.heap.size (.slice evx0 evx1 evx2) b1 384) := m1
      have Hvevx : Hid (∀ g, (Value.slice evx0 evx1 evx2).ownBlock = some g → w92.heap.size ≤ g ∧ g < w94.heap.size) := m1.iv
      obtain ⟨evy0, evy1, evy2, rfl⟩ := m2.nk.sl
      have Hevy0 : Hid (Mk w94 w92.heap.size (.slice evy0 evy1 evy2) b2 384) := m2
      have Hvevy : Hid (∀ g, (Value.slice evy0 evy1 evy2).ownBlock = some g → w92.heap.size ≤ g ∧ g < w94.heap.size) := m2.iv
      clear C m1 m2 hB
      have HvE : Hid ((∀ g, (Value.slice evx0 evx1 evx2).ownBlock = some g → wd.heap.size < g) ∧ ∀ g, (Value.slice evy0 evy1 evy2).ownBlock = some g → wd.heap.size < g) := ⟨fun g e => Nat.lt_of_lt_of_le HbltE.out (Hvevx.out g e).1, fun g e => Nat.lt_of_lt_of_le HbltE.out (Hvevy.out g e).1⟩
      have HgE : Hid (True) := trivial
      have Hba22 : Hid (Bl _ _ _ _) := Hba21.out.below Hs95.out Hba21.out.lt
      have Hbb21 : Hid (Bl _ _ _ _) := Hbb20.out.below Hs95.out Hbb20.out.lt
      try dsimp only
      refine hK.out _ _ (fun _ => ⟨Hba22.out.cell 0 (by simp), Hba22.out.cell 1 (by simp), Hba22.out.cell 2 (by simp), Hbb21.out.cell 0 (by simp), Hbb21.out.cell 1 (by simp), Hbb21.out.cell 2 (by simp)⟩) ?_
      have hHeld : ((fun (w' : World) => w'.cell? ⟨w3.heap.size, 0, none⟩ = some (.slice (some ⟨ag1, 0, none⟩) xs.length ad1) ∧ w'.cell? ⟨w3.heap.size, 1, none⟩ = some (.slice (some ⟨ag2, 0, none⟩) ys.length ad2) ∧ w'.cell? ⟨w3.heap.size, 2, none⟩ = some (.bool inf) ∧ w'.cell? ⟨w7.heap.size, 0, none⟩ = some (.slice (some ⟨bg1, 0, none⟩) us.length bd1) ∧ w'.cell? ⟨w7.heap.size, 1, none⟩ = some (.slice (some ⟨bg2, 0, none⟩) vs.length bd2) ∧ w'.cell? ⟨w7.heap.size, 2, none⟩ = some (.bool jnf))) _ := ⟨Hba22.out.cell 0 (by simp), Hba22.out.cell 1 (by simp), Hba22.out.cell 2 (by simp), Hbb21.out.cell 0 (by simp), Hbb21.out.cell 1 (by simp), Hbb21.out.cell 2 (by simp)⟩
      clear hK K
      try simp only [Act.put, List.setIfInBounds_toArray, List.set_cons_zero, List.set_cons_succ]
      refine wpAnyK_take0 6 (v := ?v64) rfl (by kernel_rfl) (fun _ _ _ h => h) (Or.inl ⟨by rfl, ?hy64⟩) (fun _ => hHeld) ?_
      case hy64 => (intro w hSw; go_simp; try with_reducible rfl)
      try simp only [Act.put, List.setIfInBounds_toArray, List.set_cons_zero, List.set_cons_succ]
      refine wpAnyK_take0 7 (v := ?v65) rfl (by kernel_rfl) (fun _ _ _ h => h) (Or.inl ⟨by rfl, ?hy65⟩) (fun _ => hHeld) ?_
      case hy65 => (intro w hSw; go_simp; try with_reducible rfl)
      try simp only [Act.put, List.setIfInBounds_toArray, List.set_cons_zero, List.set_cons_succ]
      refine wpAnyK_take0 8 (v := ?v66) rfl (by kernel_rfl) (fun _ _ _ h => h) (Or.inl ⟨by rfl, ?hy66⟩) (fun _ => hHeld) ?_
      case hy66 => (intro w hSw; go_simp; try with_reducible rfl)
      try simp only [Act.put, List.setIfInBounds_toArray, List.set_cons_zero, List.set_cons_succ]
      have HbE3 : Hid (Bl _ _ _ _) := HbE2.out.below Hs95.out HbE2.out.lt
      refine wpAnyK_step 10 rfl (by kernel_rfl) (fun K hK => ?_)
      rw [if_pos (by kernel_rfl)]
      refine wp_store_row 26 _ _ rfl (wd.heap.size) #[.slice evx0 evx1 evx2, .slice evy0 evy1 evy2, .bool bj] rfl rfl 26 #[.slice none 0 0, .slice none 0 0, .bool false] (HbE3.out) (by kernel_rfl) rfl (by simp [Value.oneCell']) ?_
      refine hK.out _ _ ?hk67 ?_
      case hk67 => exact (fun h => nomatch (h.symm.trans (show _ = true by kernel_rfl)))
      clear hK K
      try simp only [Act.put]
      refine wpAnyK_take0 11 (v := ?v68) rfl (by kernel_rfl) (fun _ _ _ h => h) (Or.inl ⟨by rfl, ?hy68⟩) (fun h => nomatch (h.symm.trans (show _ = true by kernel_rfl))) ?_
      case hy68 => (intro w hSw; go_simp; try with_reducible rfl)
      try simp only [Act.put, List.setIfInBounds_toArray, List.set_cons_zero, List.set_cons_succ]
      refine wpAnyK_done (by kernel_rfl) ?_ _
      go_wp2_with fail
      go_meet
      have hb := But.setRow w94 (wd.heap.size) #[.slice evx0 evx1 evx2, .slice evy0 evy1 evy2, .bool bj]
      have hle : wv72.heap.size ≤ wd.heap.size := (Hs73.out).size
      exact ⟨_, wd.heap.size, evx0, evy0, evx1, evx2, evy1, evy2, rfl, rfl, rfl, ((btr Hs73.out (btr Hs89.out (btr Hs91.out (btr Hs93.out Hs95.out))))).trans (hb.below ((btr Hs73.out (btr Hs89.out (btr Hs91.out (btr Hs93.out Hs95.out))))).size hle), setRow_heap _ _ _ _ _ _ (HbE3.out), (Hevx0.out.own_but hb (fun e => by have h := HvE.out.1 _ e; have h2 := HgE.out; omega)).base (Nat.zero_le _), (Hevy0.out.own_but hb (fun e => by have h := HvE.out.2 _ e; have h2 := HgE.out; omega)).base (Nat.zero_le _)⟩
  case rest =>
    obtain ⟨wk, gE, evx0, evy0, evx1, evx2, evy1, evy2, rfl, rfl, rfl, HCk⟩ := hcut
    have Hs96 : Hid (Below wv72.heap.size wv72 wk) := HCk.out.1
    have Hbev0 : Hid (Bl 26 wk gE [.slice evx0 evx1 evx2, .slice evy0 evy1 evy2, .bool bj]) := HCk.out.2.1
    have Hevx0 : Hid (Mk wk 0 (.slice evx0 evx1 evx2) b1 384) := HCk.out.2.2.1
    have Hevy0 : Hid (Mk wk 0 (.slice evy0 evy1 evy2) b2 384) := HCk.out.2.2.2
    have Hba18 : Hid (Bl _ _ _ _) := Hba17.out.below (btr Hs68.out (btr Hs70.out (btr Hs71.out Hs96.out))) Hba17.out.lt
    have ka_0 : wk.cell? ⟨w3.heap.size, 0, none⟩ = some (.slice (some ⟨ag1, 0, none⟩) xs.length ad1) := Hba18.out.cell 0 (by simp)
    have ka_1 : wk.cell? ⟨w3.heap.size, 1, none⟩ = some (.slice (some ⟨ag2, 0, none⟩) ys.length ad2) := Hba18.out.cell 1 (by simp)
    have ka_2 : wk.cell? ⟨w3.heap.size, 2, none⟩ = some (.bool inf) := Hba18.out.cell 2 (by simp)
    go_wp2_with fail
    clear ka_0 ka_1 ka_2
    have Ha115 : Hid (Lk _ _ _ _ _) := Ha114.out.below (btr Hs68.out (btr Hs70.out (btr Hs71.out Hs96.out))) (Nat.le_refl _)
    have Ha215 : Hid (Lk _ _ _ _ _) := Ha214.out.below (btr Hs68.out (btr Hs70.out (btr Hs71.out Hs96.out))) (Nat.le_refl _)
    refine (copied_v _ _ (ov xs.length us) (ov ys.length vs) inf _ (Lk.nm' Ha115.out (ov_sm HS.out.2.2.1) (ov_len _ _)) (Lk.nm' Ha215.out (ov_sm HS.out.2.2.2) (ov_len _ _)) (by rw [ov_len]; exact HL.out.1) (by rw [ov_len]; exact HL.out.2.1)).mono ?_
    rintro e w97 ⟨cf1v, cf2v, rfl, c1, c2, hB⟩
    have Hs98 : Hid (Below _ _ _) := hB
    obtain ⟨cf10, cf11, cf12, rfl⟩ := (Nm.nu' c1 (by rw [ov_len]; exact HL.out.1)).shape
    have Hcf10 : Hid (Nu w97 (.slice cf10 cf11 cf12) (nv Bs (ov xs.length us))) := Nm.nu' c1 (by rw [ov_len]; exact HL.out.1)
    obtain ⟨cf20, cf21, cf22, rfl⟩ := (Nm.nu' c2 (by rw [ov_len]; exact HL.out.2.1)).shape
    have Hcf20 : Hid (Nu w97 (.slice cf20 cf21 cf22) (nv Bs (ov ys.length vs))) := Nm.nu' c2 (by rw [ov_len]; exact HL.out.2.1)
    clear c1 c2 hB
    go_wp2_with fail
    have C := A.dn _ _ _ _ inf _ Hcf10.out Hcf20.out
    rw [← Hop.out] at C
    refine (C).mono ?_
    rintro e w99 ⟨rfl, hB⟩
    have Hs100 : Hid (Below _ _ _) := hB
    clear hB C
    have Hba19 : Hid (Bl _ _ _ _) := Hba18.out.below (btr Hs98.out Hs100.out) Hba18.out.lt
    have ka_0 : w99.cell? ⟨w3.heap.size, 0, none⟩ = some (.slice (some ⟨ag1, 0, none⟩) xs.length ad1) := Hba19.out.cell 0 (by simp)
    have ka_1 : w99.cell? ⟨w3.heap.size, 1, none⟩ = some (.slice (some ⟨ag2, 0, none⟩) ys.length ad2) := Hba19.out.cell 1 (by simp)
    have ka_2 : w99.cell? ⟨w3.heap.size, 2, none⟩ = some (.bool inf) := Hba19.out.cell 2 (by simp)
    go_wp2_with fail
    clear ka_0 ka_1 ka_2
    have Ha116 : Hid (Lk _ _ _ _ _) := Ha115.out.below (btr Hs98.out Hs100.out) (Nat.le_refl _)
    have Ha216 : Hid (Lk _ _ _ _ _) := Ha215.out.below (btr Hs98.out Hs100.out) (Nat.le_refl _)
    have C := S.pneg _ _ _ _ inf _ (Nm.nu' (Lk.nm' Ha116.out (ov_sm HS.out.2.2.1) (ov_len _ _)) (by have h := HL.out.1; first | exact h | (rw [ov_len]; exact h))) (Nm.nu' (Lk.nm' Ha216.out (ov_sm HS.out.2.2.2) (ov_len _ _)) (by have h := HL.out.2.1; first | exact h | (rw [ov_len]; exact h)))
    rw [← Hmm1.out, ← Hmm2.out, ← Hmmj.out, ← Hmmz.out] at C
    refine (C).mono ?_
    rintro e w101 ⟨fxxv, fxyv, rfl, m1, m2, ma, hB⟩
    have Hs102 : Hid (Below _ _ _) := hB
    obtain ⟨fxx0, fxx1, fxx2, rfl⟩ := m1.nk.sl
    have Hfxx0 : Hid (Mk w101 w99.heap.size (.slice fxx0 fxx1 fxx2) mm1 384) := m1
    have Hvfxx : Hid (∀ g, (Value.slice fxx0 fxx1 fxx2).ownBlock = some g → w99.heap.size ≤ g ∧ g < w101.heap.size) := m1.iv
    obtain ⟨fxy0, fxy1, fxy2, rfl⟩ := m2.nk.sl
    have Hfxy0 : Hid (Mk w101 w99.heap.size (.slice fxy0 fxy1 fxy2) mm2 384) := m2
    have Hvfxy : Hid (∀ g, (Value.slice fxy0 fxy1 fxy2).ownBlock = some g → w99.heap.size ≤ g ∧ g < w101.heap.size) := m2.iv
    have Hafx : Hid (Apt (.slice fxx0 fxx1 fxx2) (.slice fxy0 fxy1 fxy2)) := ma
    clear ma
    clear C m1 m2 hB
    have Hs103 : Hid (Below w101.heap.size w101 (w101.alloc (.cells #[.slice fxx0 fxx1 fxx2, .slice fxy0 fxy1 fxy2, .bool mmj] 26))) := alloc_below _ _
    have Hbfx0 : Hid (Bl _ _ _ _) := alloc_bl w101 [.slice fxx0 fxx1 fxx2, .slice fxy0 fxy1 fxy2, .bool mmj] 26
    have Hba20 : Hid (Bl _ _ _ _) := Hba19.out.below (btr Hs102.out Hs103.out) Hba19.out.lt
    have ka_0 : (w101.alloc (.cells #[.slice fxx0 fxx1 fxx2, .slice fxy0 fxy1 fxy2, .bool mmj] 26)).cell? ⟨w3.heap.size, 0, none⟩ = some (.slice (some ⟨ag1, 0, none⟩) xs.length ad1) := Hba20.out.cell 0 (by simp)
    have ka_1 : (w101.alloc (.cells #[.slice fxx0 fxx1 fxx2, .slice fxy0 fxy1 fxy2, .bool mmj] 26)).cell? ⟨w3.heap.size, 1, none⟩ = some (.slice (some ⟨ag2, 0, none⟩) ys.length ad2) := Hba20.out.cell 1 (by simp)
    have ka_2 : (w101.alloc (.cells #[.slice fxx0 fxx1 fxx2, .slice fxy0 fxy1 fxy2, .bool mmj] 26)).cell? ⟨w3.heap.size, 2, none⟩ = some (.bool inf) := Hba20.out.cell 2 (by simp)
    have Hbb17 : Hid (Bl _ _ _ _) := Hbb16.out.below (btr Hs68.out (btr Hs70.out (btr Hs71.out (btr Hs96.out (btr Hs98.out (btr Hs100.out (btr Hs102.out Hs103.out))))))) Hbb16.out.lt
    have kb_0 : (w101.alloc (.cells #[.slice fxx0 fxx1 fxx2, .slice fxy0 fxy1 fxy2, .bool mmj] 26)).cell? ⟨w7.heap.size, 0, none⟩ = some (.slice (some ⟨bg1, 0, none⟩) us.length bd1) := Hbb17.out.cell 0 (by simp)
    have kb_1 : (w101.alloc (.cells #[.slice fxx0 fxx1 fxx2, .slice fxy0 fxy1 fxy2, .bool mmj] 26)).cell? ⟨w7.heap.size, 1, none⟩ = some (.slice (some ⟨bg2, 0, none⟩) vs.length bd2) := Hbb17.out.cell 1 (by simp)
    have kb_2 : (w101.alloc (.cells #[.slice fxx0 fxx1 fxx2, .slice fxy0 fxy1 fxy2, .bool mmj] 26)).cell? ⟨w7.heap.size, 2, none⟩ = some (.bool jnf) := Hbb17.out.cell 2 (by simp)
    go_wp2_with fail
    clear ka_0 ka_1 ka_2 kb_0 kb_1 kb_2
    generalize (w101.alloc (.cells #[.slice fxx0 fxx1 fxx2, .slice fxy0 fxy1 fxy2, .bool mmj] 26)) = wv104 at *
    have Ha117 : Hid (Lk _ _ _ _ _) := Ha116.out.below (btr Hs102.out Hs103.out) (Nat.le_refl _)
    have Ha217 : Hid (Lk _ _ _ _ _) := Ha216.out.below (btr Hs102.out Hs103.out) (Nat.le_refl _)
    have Hb112 : Hid (Lk _ _ _ _ _) := Hb111.out.below (btr Hs68.out (btr Hs70.out (btr Hs71.out (btr Hs96.out (btr Hs98.out (btr Hs100.out (btr Hs102.out Hs103.out))))))) (Nat.le_refl _)
    have Hb212 : Hid (Lk _ _ _ _ _) := Hb211.out.below (btr Hs68.out (btr Hs70.out (btr Hs71.out (btr Hs96.out (btr Hs98.out (btr Hs100.out (btr Hs102.out Hs103.out))))))) (Nat.le_refl _)
    have C := S.padd _ _ _ _ _ _ _ _ inf jnf _ (Nm.nu' (Lk.nm' Ha117.out (ov_sm HS.out.2.2.1) (ov_len _ _)) (by have h := HL.out.1; first | exact h | (rw [ov_len]; exact h))) (Nm.nu' (Lk.nm' Ha217.out (ov_sm HS.out.2.2.2) (ov_len _ _)) (by have h := HL.out.2.1; first | exact h | (rw [ov_len]; exact h))) (Nm.nu' (Lk.nm' Hb112.out (ov_sm (dg_sm Bs_two X)) (ov_len _ _)) (by have h := HL.out.2.2.1; first | exact h | (rw [ov_len]; exact h))) (Nm.nu' (Lk.nm' Hb212.out (ov_sm (dg_sm Bs_two Y)) (ov_len _ _)) (by have h := HL.out.2.2.2; first | exact h | (rw [ov_len]; exact h)))
    rw [← Hb1.out, ← Hb2.out, ← Hbj.out, ← Hbz.out] at C
    refine (C).mono ?_
    rintro e w105 ⟨fyxv, fyyv, rfl, m1, m2, ma, hB⟩
    have Hs106 : Hid (Below _ _ _) := hB
    obtain ⟨fyx0, fyx1, fyx2, rfl⟩ := m1.nk.sl
    have Hfyx0 : Hid (Mk w105 wv104.heap.size (.slice fyx0 fyx1 fyx2) b1 384) := m1
    have Hvfyx : Hid (∀ g, (Value.slice fyx0 fyx1 fyx2).ownBlock = some g → wv104.heap.size ≤ g ∧ g < w105.heap.size) := m1.iv
    obtain ⟨fyy0, fyy1, fyy2, rfl⟩ := m2.nk.sl
    have Hfyy0 : Hid (Mk w105 wv104.heap.size (.slice fyy0 fyy1 fyy2) b2 384) := m2
    have Hvfyy : Hid (∀ g, (Value.slice fyy0 fyy1 fyy2).ownBlock = some g → wv104.heap.size ≤ g ∧ g < w105.heap.size) := m2.iv
    have Hafy : Hid (Apt (.slice fyx0 fyx1 fyx2) (.slice fyy0 fyy1 fyy2)) := ma
    clear ma
    clear C m1 m2 hB
    have Hs107 : Hid (Below w105.heap.size w105 (w105.alloc (.cells #[.slice fyx0 fyx1 fyx2, .slice fyy0 fyy1 fyy2, .bool bj] 26))) := alloc_below _ _
    have Hbfy0 : Hid (Bl _ _ _ _) := alloc_bl w105 [.slice fyx0 fyx1 fyx2, .slice fyy0 fyy1 fyy2, .bool bj] 26
    have Hbew1 : Hid (Bl _ _ _ _) := Hbew0.out.below (btr Hs96.out (btr Hs98.out (btr Hs100.out (btr Hs102.out (btr Hs103.out (btr Hs106.out Hs107.out)))))) Hbew0.out.lt
    have kew_0 : (w105.alloc (.cells #[.slice fyx0 fyx1 fyx2, .slice fyy0 fyy1 fyy2, .bool bj] 26)).cell? ⟨w69.heap.size, 0, none⟩ = some (.slice ewx0 ewx1 ewx2) := Hbew1.out.cell 0 (by simp)
    have kew_1 : (w105.alloc (.cells #[.slice fyx0 fyx1 fyx2, .slice fyy0 fyy1 fyy2, .bool bj] 26)).cell? ⟨w69.heap.size, 1, none⟩ = some (.slice ewy0 ewy1 ewy2) := Hbew1.out.cell 1 (by simp)
    have kew_2 : (w105.alloc (.cells #[.slice fyx0 fyx1 fyx2, .slice fyy0 fyy1 fyy2, .bool bj] 26)).cell? ⟨w69.heap.size, 2, none⟩ = some (.bool mmj) := Hbew1.out.cell 2 (by simp)
    have Hbfx1 : Hid (Bl _ _ _ _) := Hbfx0.out.below (btr Hs106.out Hs107.out) Hbfx0.out.lt
    have kfx_0 : (w105.alloc (.cells #[.slice fyx0 fyx1 fyx2, .slice fyy0 fyy1 fyy2, .bool bj] 26)).cell? ⟨w101.heap.size, 0, none⟩ = some (.slice fxx0 fxx1 fxx2) := Hbfx1.out.cell 0 (by simp)
    have kfx_1 : (w105.alloc (.cells #[.slice fyx0 fyx1 fyx2, .slice fyy0 fyy1 fyy2, .bool bj] 26)).cell? ⟨w101.heap.size, 1, none⟩ = some (.slice fxy0 fxy1 fxy2) := Hbfx1.out.cell 1 (by simp)
    have kfx_2 : (w105.alloc (.cells #[.slice fyx0 fyx1 fyx2, .slice fyy0 fyy1 fyy2, .bool bj] 26)).cell? ⟨w101.heap.size, 2, none⟩ = some (.bool mmj) := Hbfx1.out.cell 2 (by simp)
    go_wp2_with fail
    clear kew_0 kew_1 kew_2 kfx_0 kfx_1 kfx_2
    generalize (w105.alloc (.cells #[.slice fyx0 fyx1 fyx2, .slice fyy0 fyy1 fyy2, .bool bj] 26)) = wv108 at *
    have Hfxx1 : Hid (Mk _ _ _ _ _) := Hfxx0.out.below (btr Hs103.out (btr Hs106.out Hs107.out))
    have Hfxy1 : Hid (Mk _ _ _ _ _) := Hfxy0.out.below (btr Hs103.out (btr Hs106.out Hs107.out))
    have Hewx1 : Hid (Mk _ _ _ _ _) := Hewx0.out.below (btr Hs71.out (btr Hs96.out (btr Hs98.out (btr Hs100.out (btr Hs102.out (btr Hs103.out (btr Hs106.out Hs107.out)))))))
    have Hewy1 : Hid (Mk _ _ _ _ _) := Hewy0.out.below (btr Hs71.out (btr Hs96.out (btr Hs98.out (btr Hs100.out (btr Hs102.out (btr Hs103.out (btr Hs106.out Hs107.out)))))))
    refine (same_v _ _ _ _ mm1 mm2 mmj _ Hfxx1.out.nm Hfxy1.out.nm Hewx1.out.nm Hewy1.out.nm Hfxx1.out.2.1 Hfxy1.out.2.1).mono ?_
    rintro e w109 ⟨rfl, hB⟩
    have Hs110 : Hid (Below _ _ _) := hB
    clear hB
    have Hbev1 : Hid (Bl _ _ _ _) := Hbev0.out.below (btr Hs98.out (btr Hs100.out (btr Hs102.out (btr Hs103.out (btr Hs106.out (btr Hs107.out Hs110.out)))))) Hbev0.out.lt
    have kev_0 : w109.cell? ⟨gE, 0, none⟩ = some (.slice evx0 evx1 evx2) := Hbev1.out.cell 0 (by simp)
    have kev_1 : w109.cell? ⟨gE, 1, none⟩ = some (.slice evy0 evy1 evy2) := Hbev1.out.cell 1 (by simp)
    have kev_2 : w109.cell? ⟨gE, 2, none⟩ = some (.bool bj) := Hbev1.out.cell 2 (by simp)
    have Hbfy1 : Hid (Bl _ _ _ _) := Hbfy0.out.below Hs110.out Hbfy0.out.lt
    have kfy_0 : w109.cell? ⟨w105.heap.size, 0, none⟩ = some (.slice fyx0 fyx1 fyx2) := Hbfy1.out.cell 0 (by simp)
    have kfy_1 : w109.cell? ⟨w105.heap.size, 1, none⟩ = some (.slice fyy0 fyy1 fyy2) := Hbfy1.out.cell 1 (by simp)
    have kfy_2 : w109.cell? ⟨w105.heap.size, 2, none⟩ = some (.bool bj) := Hbfy1.out.cell 2 (by simp)
    go_wp2_with fail
    clear kev_0 kev_1 kev_2 kfy_0 kfy_1 kfy_2
    have Hfyx1 : Hid (Mk _ _ _ _ _) := Hfyx0.out.below (btr Hs107.out Hs110.out)
    have Hfyy1 : Hid (Mk _ _ _ _ _) := Hfyy0.out.below (btr Hs107.out Hs110.out)
    have Hevx1 : Hid (Mk _ _ _ _ _) := Hevx0.out.below (btr Hs98.out (btr Hs100.out (btr Hs102.out (btr Hs103.out (btr Hs106.out (btr Hs107.out Hs110.out))))))
    have Hevy1 : Hid (Mk _ _ _ _ _) := Hevy0.out.below (btr Hs98.out (btr Hs100.out (btr Hs102.out (btr Hs103.out (btr Hs106.out (btr Hs107.out Hs110.out))))))
    refine (same_v _ _ _ _ b1 b2 bj _ Hfyx1.out.nm Hfyy1.out.nm Hevx1.out.nm Hevy1.out.nm Hfyx1.out.2.1 Hfyy1.out.2.1).mono ?_
    rintro e w111 ⟨rfl, hB⟩
    have Hs112 : Hid (Below _ _ _) := hB
    clear hB
    have Hba21 : Hid (Bl _ _ _ _) := Hba20.out.below (btr Hs106.out (btr Hs107.out (btr Hs110.out Hs112.out))) Hba20.out.lt
    have ka_0 : w111.cell? ⟨w3.heap.size, 0, none⟩ = some (.slice (some ⟨ag1, 0, none⟩) xs.length ad1) := Hba21.out.cell 0 (by simp)
    have ka_1 : w111.cell? ⟨w3.heap.size, 1, none⟩ = some (.slice (some ⟨ag2, 0, none⟩) ys.length ad2) := Hba21.out.cell 1 (by simp)
    have ka_2 : w111.cell? ⟨w3.heap.size, 2, none⟩ = some (.bool inf) := Hba21.out.cell 2 (by simp)
    go_wp2_with fail
    clear ka_0 ka_1 ka_2
    have Ha118 : Hid (Lk _ _ _ _ _) := Ha117.out.below (btr Hs106.out (btr Hs107.out (btr Hs110.out Hs112.out))) (Nat.le_refl _)
    have Ha218 : Hid (Lk _ _ _ _ _) := Ha217.out.below (btr Hs106.out (btr Hs107.out (btr Hs110.out Hs112.out))) (Nat.le_refl _)
    have C := A.pn _ _ _ _ inf _ (Nm.nu' (Lk.nm' Ha118.out (ov_sm HS.out.2.2.1) (ov_len _ _)) (by have h := HL.out.1; first | exact h | (rw [ov_len]; exact h))) (Nm.nu' (Lk.nm' Ha218.out (ov_sm HS.out.2.2.2) (ov_len _ _)) (by have h := HL.out.2.1; first | exact h | (rw [ov_len]; exact h)))
    rw [← Hop.out] at C
    refine (C).mono ?_
    rintro e w113 ⟨rfl, hB⟩
    have Hs114 : Hid (Below _ _ _) := hB
    clear hB C
    have HB17 : Hid (Below _ _ _) := HB16.out.trans ((btr Hs68.out (btr Hs70.out (btr Hs71.out (btr Hs96.out (btr Hs98.out (btr Hs100.out (btr Hs102.out (btr Hs103.out (btr Hs106.out (btr Hs107.out (btr Hs110.out (btr Hs112.out Hs114.out)))))))))))).mono HB16.out.size)
    go_wp2
    go_ret
    exact ⟨rfl, HB17.out⟩
end Go.Proofs.YtmngdaolgdhgmaaGreatDoor
