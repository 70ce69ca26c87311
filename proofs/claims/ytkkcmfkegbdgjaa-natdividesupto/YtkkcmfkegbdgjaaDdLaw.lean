import Derived.Test.YtkkcmfkegbdgjaaRkLaw
import Derived.Test.YtkkcmfkegbdgjaaRef5
namespace Go.Proofs.Ytkkcmfkegbdgjaa
open Go.RowKit

set_option maxHeartbeats 4000000 in
theorem divides_zero (a b : Value) (xs ys : List Nat) (w : World) (ha : Nm w a xs) (hb : Nm w b ys) (na : Nilly a) (nb : Nilly b) (h1 : xs.length ≤ 1048576) (h2 : ys.length ≤ 1048576) (h0 : nv Bs ys = 0) :
    Calls Try.prog 7 #[a, b] w fun e w' => e = .returned (.bool true) ∧ Below w.heap.size w w' := by
  have Na : Hid (Nm w a (xs)) := ha
  have Nb : Hid (Nm w b (ys)) := hb
  have HSxs : Hid (Sm Bs xs) := ha.sm
  have HSys : Hid (Sm Bs ys) := hb.sm
  have HNa : Hid (Nilly a) := na
  have HNb : Hid (Nilly b) := nb
  have L1 : Hid ((dg Bs (nv Bs xs)).length ≤ 1048576) := dgl_arg xs _ ha.sm h1
  have L2 : Hid ((dg Bs (nv Bs ys)).length ≤ 1048576) := dgl_arg ys _ hb.sm h2
  have HB : Hid (Below w.heap.size w w) := Below.refl _ _
  have H0 : Hid (nv Bs ys = 0) := h0
  clear ha hb na nb h0
  go_enter Try.func7, Try.ntmps7
  have Cc := copiedL_any a xs w Na.out HNa.out (by omega)
  go_wp2_with fail
  refine Cc.mono ?_
  clear Cc
  rintro e w1 ⟨x, rfl, hown, hbel⟩
  replace Na : Hid (Nm w1 a (xs)) := Na.out.below hbel (Nat.le_refl _)
  replace Nb : Hid (Nm w1 b (ys)) := Nb.out.below hbel (Nat.le_refl _)
  replace HB : Hid (Below w.heap.size w w1) := HB.out.trans (hbel.mono HB.out.size)
  have Nx : Hid (Nm w1 x (xs)) := hown.nm HSxs.out
  clear hown hbel
  have Cc := copiedL_any b ys w1 Nb.out HNb.out (by omega)
  go_wp2_with fail
  refine Cc.mono ?_
  clear Cc
  rintro e w2 ⟨y, rfl, hown, hbel⟩
  replace Na : Hid (Nm w2 a (xs)) := Na.out.below hbel (Nat.le_refl _)
  replace Nb : Hid (Nm w2 b (ys)) := Nb.out.below hbel (Nat.le_refl _)
  replace Nx : Hid (Nm w2 x (xs)) := Nx.out.below hbel (Nat.le_refl _)
  replace HB : Hid (Below w.heap.size w w2) := HB.out.trans (hbel.mono HB.out.size)
  have Ny : Hid (Nm w2 y (ys)) := hown.nm HSys.out
  clear hown hbel
  have Cc := divmod_zero x y xs ys w2 Nx.out Ny.out (by omega) (by omega) H0.out
  go_wp2_with fail
  refine Cc.mono ?_
  clear Cc
  rintro e w2 ⟨rfl, rfl⟩
  have Cc := rdiv_zero a b xs ys w2 Nb.out (by omega) H0.out Na.out
  go_wp2_with fail
  refine Cc.mono ?_
  clear Cc
  rintro e w3 ⟨rfl, hbel⟩
  replace Na : Hid (Nm w3 a (xs)) := Na.out.below hbel (Nat.le_refl _)
  replace Nb : Hid (Nm w3 b (ys)) := Nb.out.below hbel (Nat.le_refl _)
  replace Nx : Hid (Nm w3 x (xs)) := Nx.out.below hbel (Nat.le_refl _)
  replace Ny : Hid (Nm w3 y (ys)) := Ny.out.below hbel (Nat.le_refl _)
  replace HB : Hid (Below w.heap.size w w3) := HB.out.trans (hbel.mono HB.out.size)
  clear hbel
  have Cc := rsame_eq (.slice none 0 0) (.slice none 0 0) [] w3 (show Nm _ (.slice none 0 0) [] from ⟨none, 0, rfl, Nat.le_refl _, .inl rfl, Sm.nil _⟩) (show Nm _ (.slice none 0 0) [] from ⟨none, 0, rfl, Nat.le_refl _, .inl rfl, Sm.nil _⟩) (by decide)
  go_wp2_with fail
  refine Cc.mono ?_
  clear Cc
  rintro e w4 ⟨rfl, qq, hq⟩
  replace Na : Hid (Nm w4 a (xs)) := by rw [hq]; exact Na.out.drewN qq
  replace Nb : Hid (Nm w4 b (ys)) := by rw [hq]; exact Nb.out.drewN qq
  replace Nx : Hid (Nm w4 x (xs)) := by rw [hq]; exact Nx.out.drewN qq
  replace Ny : Hid (Nm w4 y (ys)) := by rw [hq]; exact Ny.out.drewN qq
  replace HB : Hid (Below w.heap.size w w4) := by rw [hq]; exact below_drewN HB.out qq
  clear hq
  have Cc := rsame_eq (.slice none 0 0) (.slice none 0 0) [] w4 (show Nm _ (.slice none 0 0) [] from ⟨none, 0, rfl, Nat.le_refl _, .inl rfl, Sm.nil _⟩) (show Nm _ (.slice none 0 0) [] from ⟨none, 0, rfl, Nat.le_refl _, .inl rfl, Sm.nil _⟩) (by decide)
  go_wp2_with fail
  refine Cc.mono ?_
  clear Cc
  rintro e w5 ⟨rfl, qq, hq⟩
  replace Na : Hid (Nm w5 a (xs)) := by rw [hq]; exact Na.out.drewN qq
  replace Nb : Hid (Nm w5 b (ys)) := by rw [hq]; exact Nb.out.drewN qq
  replace Nx : Hid (Nm w5 x (xs)) := by rw [hq]; exact Nx.out.drewN qq
  replace Ny : Hid (Nm w5 y (ys)) := by rw [hq]; exact Ny.out.drewN qq
  replace HB : Hid (Below w.heap.size w w5) := by rw [hq]; exact below_drewN HB.out qq
  clear hq
  have Cc := rsame_eq x a _ w5 Nx.out Na.out (by omega)
  go_wp2_with fail
  refine Cc.mono ?_
  clear Cc
  rintro e w6 ⟨rfl, qq, hq⟩
  replace Na : Hid (Nm w6 a (xs)) := by rw [hq]; exact Na.out.drewN qq
  replace Nb : Hid (Nm w6 b (ys)) := by rw [hq]; exact Nb.out.drewN qq
  replace Nx : Hid (Nm w6 x (xs)) := by rw [hq]; exact Nx.out.drewN qq
  replace Ny : Hid (Nm w6 y (ys)) := by rw [hq]; exact Ny.out.drewN qq
  replace HB : Hid (Below w.heap.size w w6) := by rw [hq]; exact below_drewN HB.out qq
  clear hq
  have Cc := rsame_eq y b _ w6 Ny.out Nb.out (by omega)
  go_wp2_with fail
  refine Cc.mono ?_
  clear Cc
  rintro e w7 ⟨rfl, qq, hq⟩
  replace Na : Hid (Nm w7 a (xs)) := by rw [hq]; exact Na.out.drewN qq
  replace Nb : Hid (Nm w7 b (ys)) := by rw [hq]; exact Nb.out.drewN qq
  replace Nx : Hid (Nm w7 x (xs)) := by rw [hq]; exact Nx.out.drewN qq
  replace Ny : Hid (Nm w7 y (ys)) := by rw [hq]; exact Ny.out.drewN qq
  replace HB : Hid (Below w.heap.size w w7) := by rw [hq]; exact below_drewN HB.out qq
  clear hq
  go_wp2
  go_ret
  exact ⟨rfl, HB.out⟩

set_option maxHeartbeats 4000000 in
theorem divides_pos (a b : Value) (xs ys : List Nat) (w : World) (ha : Nm w a xs) (hb : Nm w b ys) (na : Nilly a) (nb : Nilly b) (h1 : xs.length ≤ 1048576) (h2 : ys.length ≤ 1048576) (h0 : nv Bs ys ≠ 0) :
    Calls Try.prog 7 #[a, b] w fun e w' => e = .returned (.bool true) ∧ Below w.heap.size w w' := by
  have Na : Hid (Nm w a (xs)) := ha
  have Nb : Hid (Nm w b (ys)) := hb
  have HSxs : Hid (Sm Bs xs) := ha.sm
  have HSys : Hid (Sm Bs ys) := hb.sm
  have HNa : Hid (Nilly a) := na
  have HNb : Hid (Nilly b) := nb
  have L1 : Hid ((dg Bs (nv Bs xs)).length ≤ 1048576) := dgl_arg xs _ ha.sm h1
  have L2 : Hid ((dg Bs (nv Bs ys)).length ≤ 1048576) := dgl_arg ys _ hb.sm h2
  have HB : Hid (Below w.heap.size w w) := Below.refl _ _
  have H0 : Hid (nv Bs ys ≠ 0) := h0
  clear ha hb na nb h0
  go_enter Try.func7, Try.ntmps7
  have Cc := copiedL_any a xs w Na.out HNa.out (by omega)
  go_wp2_with fail
  refine Cc.mono ?_
  clear Cc
  rintro e w1 ⟨x, rfl, hown, hbel⟩
  replace Na : Hid (Nm w1 a (xs)) := Na.out.below hbel (Nat.le_refl _)
  replace Nb : Hid (Nm w1 b (ys)) := Nb.out.below hbel (Nat.le_refl _)
  replace HB : Hid (Below w.heap.size w w1) := HB.out.trans (hbel.mono HB.out.size)
  have Nx : Hid (Nm w1 x (xs)) := hown.nm HSxs.out
  clear hown hbel
  have Cc := copiedL_any b ys w1 Nb.out HNb.out (by omega)
  go_wp2_with fail
  refine Cc.mono ?_
  clear Cc
  rintro e w2 ⟨y, rfl, hown, hbel⟩
  replace Na : Hid (Nm w2 a (xs)) := Na.out.below hbel (Nat.le_refl _)
  replace Nb : Hid (Nm w2 b (ys)) := Nb.out.below hbel (Nat.le_refl _)
  replace Nx : Hid (Nm w2 x (xs)) := Nx.out.below hbel (Nat.le_refl _)
  replace HB : Hid (Below w.heap.size w w2) := HB.out.trans (hbel.mono HB.out.size)
  have Ny : Hid (Nm w2 y (ys)) := hown.nm HSys.out
  clear hown hbel
  have Cc := divmod_pos x y xs ys w2 Nx.out Ny.out (by omega) (by omega) H0.out
  go_wp2_with fail
  refine Cc.mono ?_
  clear Cc
  rintro e w3 ⟨q, r, b2, rfl, hq1, hr1, hb2, _, hbel⟩
  replace Na : Hid (Nm w3 a (xs)) := Na.out.below hbel (Nat.le_refl _)
  replace Nb : Hid (Nm w3 b (ys)) := Nb.out.below hbel (Nat.le_refl _)
  replace Nx : Hid (Nm w3 x (xs)) := Nx.out.below hbel (Nat.le_refl _)
  replace Ny : Hid (Nm w3 y (ys)) := Ny.out.below hbel (Nat.le_refl _)
  replace HB : Hid (Below w.heap.size w w3) := HB.out.trans (hbel.mono HB.out.size)
  have Nq : Hid (Nm w3 q (dg Bs (nv Bs xs / nv Bs ys))) := hq1.nm (dg_sm Bs_two _)
  have Nr : Hid (Nm w3 r (dg Bs (nv Bs xs % nv Bs ys))) := hr1.nm (dg_sm Bs_two _)
  clear hq1 hr1 hb2 hbel
  have Cc := rdiv_pos a b xs ys w3 Na.out Nb.out (by omega) (by omega) H0.out
  go_wp2_with fail
  refine Cc.mono ?_
  clear Cc
  rintro e w4 ⟨p, s, rfl, hq1, hr1, hbel⟩
  replace Na : Hid (Nm w4 a (xs)) := Na.out.below hbel (Nat.le_refl _)
  replace Nb : Hid (Nm w4 b (ys)) := Nb.out.below hbel (Nat.le_refl _)
  replace Nx : Hid (Nm w4 x (xs)) := Nx.out.below hbel (Nat.le_refl _)
  replace Ny : Hid (Nm w4 y (ys)) := Ny.out.below hbel (Nat.le_refl _)
  replace Nq : Hid (Nm w4 q (dg Bs (nv Bs xs / nv Bs ys))) := Nq.out.below hbel (Nat.le_refl _)
  replace Nr : Hid (Nm w4 r (dg Bs (nv Bs xs % nv Bs ys))) := Nr.out.below hbel (Nat.le_refl _)
  replace HB : Hid (Below w.heap.size w w4) := HB.out.trans (hbel.mono HB.out.size)
  have Np : Hid (Nm w4 p (dg Bs (nv Bs xs / nv Bs ys))) := hq1.nm (dg_sm Bs_two _)
  have Ns : Hid (Nm w4 s (dg Bs (nv Bs xs % nv Bs ys))) := hr1.nm (dg_sm Bs_two _)
  clear hq1 hr1 hbel
  have Cc := rsame_eq q p _ w4 Nq.out Np.out (Nat.le_trans (dgl_le _ _ _ (Nat.div_le_self _ _) L1.out) (by decide))
  go_wp2_with fail
  refine Cc.mono ?_
  clear Cc
  rintro e w5 ⟨rfl, qq, hq⟩
  replace Na : Hid (Nm w5 a (xs)) := by rw [hq]; exact Na.out.drewN qq
  replace Nb : Hid (Nm w5 b (ys)) := by rw [hq]; exact Nb.out.drewN qq
  replace Nx : Hid (Nm w5 x (xs)) := by rw [hq]; exact Nx.out.drewN qq
  replace Ny : Hid (Nm w5 y (ys)) := by rw [hq]; exact Ny.out.drewN qq
  replace Nq : Hid (Nm w5 q (dg Bs (nv Bs xs / nv Bs ys))) := by rw [hq]; exact Nq.out.drewN qq
  replace Nr : Hid (Nm w5 r (dg Bs (nv Bs xs % nv Bs ys))) := by rw [hq]; exact Nr.out.drewN qq
  replace Np : Hid (Nm w5 p (dg Bs (nv Bs xs / nv Bs ys))) := by rw [hq]; exact Np.out.drewN qq
  replace Ns : Hid (Nm w5 s (dg Bs (nv Bs xs % nv Bs ys))) := by rw [hq]; exact Ns.out.drewN qq
  replace HB : Hid (Below w.heap.size w w5) := by rw [hq]; exact below_drewN HB.out qq
  clear hq
  have Cc := rsame_eq r s _ w5 Nr.out Ns.out (Nat.le_trans (dgl_le _ _ _ (Nat.mod_le _ _) L1.out) (by decide))
  go_wp2_with fail
  refine Cc.mono ?_
  clear Cc
  rintro e w6 ⟨rfl, qq, hq⟩
  replace Na : Hid (Nm w6 a (xs)) := by rw [hq]; exact Na.out.drewN qq
  replace Nb : Hid (Nm w6 b (ys)) := by rw [hq]; exact Nb.out.drewN qq
  replace Nx : Hid (Nm w6 x (xs)) := by rw [hq]; exact Nx.out.drewN qq
  replace Ny : Hid (Nm w6 y (ys)) := by rw [hq]; exact Ny.out.drewN qq
  replace Nq : Hid (Nm w6 q (dg Bs (nv Bs xs / nv Bs ys))) := by rw [hq]; exact Nq.out.drewN qq
  replace Nr : Hid (Nm w6 r (dg Bs (nv Bs xs % nv Bs ys))) := by rw [hq]; exact Nr.out.drewN qq
  replace Np : Hid (Nm w6 p (dg Bs (nv Bs xs / nv Bs ys))) := by rw [hq]; exact Np.out.drewN qq
  replace Ns : Hid (Nm w6 s (dg Bs (nv Bs xs % nv Bs ys))) := by rw [hq]; exact Ns.out.drewN qq
  replace HB : Hid (Below w.heap.size w w6) := by rw [hq]; exact below_drewN HB.out qq
  clear hq
  have Cc := rsame_eq x a _ w6 Nx.out Na.out (by omega)
  go_wp2_with fail
  refine Cc.mono ?_
  clear Cc
  rintro e w7 ⟨rfl, qq, hq⟩
  replace Na : Hid (Nm w7 a (xs)) := by rw [hq]; exact Na.out.drewN qq
  replace Nb : Hid (Nm w7 b (ys)) := by rw [hq]; exact Nb.out.drewN qq
  replace Nx : Hid (Nm w7 x (xs)) := by rw [hq]; exact Nx.out.drewN qq
  replace Ny : Hid (Nm w7 y (ys)) := by rw [hq]; exact Ny.out.drewN qq
  replace Nq : Hid (Nm w7 q (dg Bs (nv Bs xs / nv Bs ys))) := by rw [hq]; exact Nq.out.drewN qq
  replace Nr : Hid (Nm w7 r (dg Bs (nv Bs xs % nv Bs ys))) := by rw [hq]; exact Nr.out.drewN qq
  replace Np : Hid (Nm w7 p (dg Bs (nv Bs xs / nv Bs ys))) := by rw [hq]; exact Np.out.drewN qq
  replace Ns : Hid (Nm w7 s (dg Bs (nv Bs xs % nv Bs ys))) := by rw [hq]; exact Ns.out.drewN qq
  replace HB : Hid (Below w.heap.size w w7) := by rw [hq]; exact below_drewN HB.out qq
  clear hq
  have Cc := rsame_eq y b _ w7 Ny.out Nb.out (by omega)
  go_wp2_with fail
  refine Cc.mono ?_
  clear Cc
  rintro e w8 ⟨rfl, qq, hq⟩
  replace Na : Hid (Nm w8 a (xs)) := by rw [hq]; exact Na.out.drewN qq
  replace Nb : Hid (Nm w8 b (ys)) := by rw [hq]; exact Nb.out.drewN qq
  replace Nx : Hid (Nm w8 x (xs)) := by rw [hq]; exact Nx.out.drewN qq
  replace Ny : Hid (Nm w8 y (ys)) := by rw [hq]; exact Ny.out.drewN qq
  replace Nq : Hid (Nm w8 q (dg Bs (nv Bs xs / nv Bs ys))) := by rw [hq]; exact Nq.out.drewN qq
  replace Nr : Hid (Nm w8 r (dg Bs (nv Bs xs % nv Bs ys))) := by rw [hq]; exact Nr.out.drewN qq
  replace Np : Hid (Nm w8 p (dg Bs (nv Bs xs / nv Bs ys))) := by rw [hq]; exact Np.out.drewN qq
  replace Ns : Hid (Nm w8 s (dg Bs (nv Bs xs % nv Bs ys))) := by rw [hq]; exact Ns.out.drewN qq
  replace HB : Hid (Below w.heap.size w w8) := by rw [hq]; exact below_drewN HB.out qq
  clear hq
  go_wp2
  go_ret
  exact ⟨rfl, HB.out⟩

theorem divides_core (a b : Value) (xs ys : List Nat) (w : World) (ha : Nm w a xs) (hb : Nm w b ys) (na : Nilly a) (nb : Nilly b) (h1 : xs.length ≤ 1048576) (h2 : ys.length ≤ 1048576) :
    Calls Try.prog 7 #[a, b] w fun e w' => e = .returned (.bool true) ∧ Below w.heap.size w w' := by
  by_cases h0 : nv Bs ys = 0
  · exact divides_zero a b xs ys w ha hb na nb h1 h2 h0
  · exact divides_pos a b xs ys w ha hb na nb h1 h2 h0

end Go.Proofs.Ytkkcmfkegbdgjaa
