import Derived.Test.YtkkcmfkegbdgjaaRef2
namespace Go.Proofs.Ytkkcmfkegbdgjaa
open Go.RowKit

theorem rsame_eq (v u : Value) (xs : List Nat) (w : World) (hv : Nm w v xs) (hu : Nm w u xs) (hl : xs.length ≤ 1000000000) :
    Calls Try.prog 17 #[v, u] w fun e w' => e = .returned (.bool true) ∧ ∃ q, w' = w.drewN q := by
  obtain ⟨a1, c1, rfl, _, r1, _⟩ := hv
  obtain ⟨a2, c2, rfl, _, r2, _⟩ := hu
  have := rsame_any a1 a2 c1 c2 xs xs w r1 r2 (by omega)
  rwa [decide_eq_true rfl] at this
/-- A nil number has no room. -/
def Nilly (v : Value) : Prop := ∀ ao n c, v = .slice ao n c → ao = none → c = 0

set_option maxHeartbeats 4000000 in
theorem reckons_core (a b : Value) (xs ys : List Nat) (w : World) (ha : Nm w a xs) (hb : Nm w b ys) (na : Nilly a) (nb : Nilly b) (h1 : xs.length ≤ 1048576) (h2 : ys.length ≤ 1048576) :
    Calls Try.prog 3 #[a, b] w fun e w' => e = .returned (.bool true) ∧ Below w.heap.size w w' := by
  have Na : Hid (Nm w a (xs)) := ha
  have Nb : Hid (Nm w b (ys)) := hb
  have HSxs : Hid (Sm Bs xs) := ha.sm
  have HSys : Hid (Sm Bs ys) := hb.sm
  have HNa : Hid (Nilly a) := na
  have HNb : Hid (Nilly b) := nb
  have L1 : Hid ((dg Bs (nv Bs xs)).length ≤ 1048576) := dgl_arg xs _ ha.sm h1
  have L2 : Hid ((dg Bs (nv Bs ys)).length ≤ 1048576) := dgl_arg ys _ hb.sm h2
  have HB : Hid (Below w.heap.size w w) := Below.refl _ _
  obtain ⟨o, Ho⟩ : ∃ o : Int, Hid (cmp3 (nv Bs xs) (nv Bs ys) = o) := ⟨_, rfl⟩
  have hoo : (o == o) = true := by simp
  obtain ⟨k, Hk⟩ : ∃ k : Bool, Hid (decide (nv Bs ys ≤ nv Bs xs) = k) := ⟨_, rfl⟩
  have hkk : (k == k) = true := by simp
  clear ha hb na nb
  go_enter Try.func3, Try.ntmps3
  have Cc := copiedL_any a xs w Na.out HNa.out (by omega)
  go_wp2_with fail
  refine Cc.mono ?_
  clear Cc
  rintro e w1 ⟨x, rfl, hown, hbel⟩
  replace Na : Hid (Nm w1 a (xs)) := Na.out.below hbel (Nat.le_refl _)
  replace Nb : Hid (Nm w1 b (ys)) := Nb.out.below hbel (Nat.le_refl _)
  replace HB : Hid (Below w.heap.size w w1) := HB.out.trans (hbel.mono HB.out.size)
  have Nx : Hid (Nm w1 x (xs)) := hown.nm HSxs.out
  clear hown hbel
  have Cc := copiedL_any b ys w1 Nb.out HNb.out (by omega)
  go_wp2_with fail
  refine Cc.mono ?_
  clear Cc
  rintro e w2 ⟨y, rfl, hown, hbel⟩
  replace Na : Hid (Nm w2 a (xs)) := Na.out.below hbel (Nat.le_refl _)
  replace Nb : Hid (Nm w2 b (ys)) := Nb.out.below hbel (Nat.le_refl _)
  replace Nx : Hid (Nm w2 x (xs)) := Nx.out.below hbel (Nat.le_refl _)
  replace HB : Hid (Below w.heap.size w w2) := HB.out.trans (hbel.mono HB.out.size)
  have Ny : Hid (Nm w2 y (ys)) := hown.nm HSys.out
  clear hown hbel
  have Cc := add_nm x y xs ys w2 Nx.out Ny.out (by omega) (by omega)
  go_wp2_with fail
  refine Cc.mono ?_
  clear Cc
  rintro e w3 ⟨s, rfl, hown, hbel⟩
  replace Na : Hid (Nm w3 a (xs)) := Na.out.below hbel (Nat.le_refl _)
  replace Nb : Hid (Nm w3 b (ys)) := Nb.out.below hbel (Nat.le_refl _)
  replace Nx : Hid (Nm w3 x (xs)) := Nx.out.below hbel (Nat.le_refl _)
  replace Ny : Hid (Nm w3 y (ys)) := Ny.out.below hbel (Nat.le_refl _)
  replace HB : Hid (Below w.heap.size w w3) := HB.out.trans (hbel.mono HB.out.size)
  have Ns : Hid (Nm w3 s (dg Bs (nv Bs xs + nv Bs ys))) := hown.nm (dg_sm Bs_two _)
  clear hown hbel
  have Cc := sub_nm x y xs ys w3 Nx.out Ny.out (by omega) (by omega)
  rw [Hk.out] at Cc
  go_wp2_with fail
  refine Cc.mono ?_
  clear Cc
  rintro e w4 ⟨d, rfl, hown, hbel⟩
  replace Na : Hid (Nm w4 a (xs)) := Na.out.below hbel (Nat.le_refl _)
  replace Nb : Hid (Nm w4 b (ys)) := Nb.out.below hbel (Nat.le_refl _)
  replace Nx : Hid (Nm w4 x (xs)) := Nx.out.below hbel (Nat.le_refl _)
  replace Ny : Hid (Nm w4 y (ys)) := Ny.out.below hbel (Nat.le_refl _)
  replace Ns : Hid (Nm w4 s (dg Bs (nv Bs xs + nv Bs ys))) := Ns.out.below hbel (Nat.le_refl _)
  replace HB : Hid (Below w.heap.size w w4) := HB.out.trans (hbel.mono HB.out.size)
  have Nd : Hid (Nm w4 d (dg Bs (nv Bs xs - nv Bs ys))) := hown.nm (dg_sm Bs_two _)
  clear hown hbel
  have Cc := mul_nm x y xs ys w4 Nx.out Ny.out (by omega) (by omega)
  go_wp2_with fail
  refine Cc.mono ?_
  clear Cc
  rintro e w5 ⟨p, rfl, hown, hbel⟩
  replace Na : Hid (Nm w5 a (xs)) := Na.out.below hbel (Nat.le_refl _)
  replace Nb : Hid (Nm w5 b (ys)) := Nb.out.below hbel (Nat.le_refl _)
  replace Nx : Hid (Nm w5 x (xs)) := Nx.out.below hbel (Nat.le_refl _)
  replace Ny : Hid (Nm w5 y (ys)) := Ny.out.below hbel (Nat.le_refl _)
  replace Ns : Hid (Nm w5 s (dg Bs (nv Bs xs + nv Bs ys))) := Ns.out.below hbel (Nat.le_refl _)
  replace Nd : Hid (Nm w5 d (dg Bs (nv Bs xs - nv Bs ys))) := Nd.out.below hbel (Nat.le_refl _)
  replace HB : Hid (Below w.heap.size w w5) := HB.out.trans (hbel.mono HB.out.size)
  have Np : Hid (Nm w5 p (dg Bs (nv Bs xs * nv Bs ys))) := hown.nm (dg_sm Bs_two _)
  clear hown hbel
  have Cc := cmp_nm x y xs ys w5 Nx.out Ny.out (by omega) (by omega)
  rw [Ho.out] at Cc
  go_wp2_with fail
  refine Cc.mono ?_
  clear Cc
  rintro e w6 ⟨rfl, qq, hq⟩
  replace Na : Hid (Nm w6 a (xs)) := by rw [hq]; exact Na.out.drewN qq
  replace Nb : Hid (Nm w6 b (ys)) := by rw [hq]; exact Nb.out.drewN qq
  replace Nx : Hid (Nm w6 x (xs)) := by rw [hq]; exact Nx.out.drewN qq
  replace Ny : Hid (Nm w6 y (ys)) := by rw [hq]; exact Ny.out.drewN qq
  replace Ns : Hid (Nm w6 s (dg Bs (nv Bs xs + nv Bs ys))) := by rw [hq]; exact Ns.out.drewN qq
  replace Nd : Hid (Nm w6 d (dg Bs (nv Bs xs - nv Bs ys))) := by rw [hq]; exact Nd.out.drewN qq
  replace Np : Hid (Nm w6 p (dg Bs (nv Bs xs * nv Bs ys))) := by rw [hq]; exact Np.out.drewN qq
  replace HB : Hid (Below w.heap.size w w6) := by rw [hq]; exact below_drewN HB.out qq
  clear hq
  have Cc := rsub_nm a b xs ys w6 Na.out Nb.out (by omega) (by omega)
  rw [Hk.out] at Cc
  go_wp2_with fail
  refine Cc.mono ?_
  clear Cc
  rintro e w7 ⟨t, rfl, hown, hbel⟩
  replace Na : Hid (Nm w7 a (xs)) := Na.out.below hbel (Nat.le_refl _)
  replace Nb : Hid (Nm w7 b (ys)) := Nb.out.below hbel (Nat.le_refl _)
  replace Nx : Hid (Nm w7 x (xs)) := Nx.out.below hbel (Nat.le_refl _)
  replace Ny : Hid (Nm w7 y (ys)) := Ny.out.below hbel (Nat.le_refl _)
  replace Ns : Hid (Nm w7 s (dg Bs (nv Bs xs + nv Bs ys))) := Ns.out.below hbel (Nat.le_refl _)
  replace Nd : Hid (Nm w7 d (dg Bs (nv Bs xs - nv Bs ys))) := Nd.out.below hbel (Nat.le_refl _)
  replace Np : Hid (Nm w7 p (dg Bs (nv Bs xs * nv Bs ys))) := Np.out.below hbel (Nat.le_refl _)
  replace HB : Hid (Below w.heap.size w w7) := HB.out.trans (hbel.mono HB.out.size)
  have Nt : Hid (Nm w7 t (dg Bs (nv Bs xs - nv Bs ys))) := hown.nm (dg_sm Bs_two _)
  clear hown hbel
  have Cc := radd_nm a b xs ys w7 Na.out Nb.out (by omega) (by omega)
  go_wp2_with fail
  refine Cc.mono ?_
  clear Cc
  rintro e w8 ⟨s2, rfl, hown, hbel⟩
  replace Na : Hid (Nm w8 a (xs)) := Na.out.below hbel (Nat.le_refl _)
  replace Nb : Hid (Nm w8 b (ys)) := Nb.out.below hbel (Nat.le_refl _)
  replace Nx : Hid (Nm w8 x (xs)) := Nx.out.below hbel (Nat.le_refl _)
  replace Ny : Hid (Nm w8 y (ys)) := Ny.out.below hbel (Nat.le_refl _)
  replace Ns : Hid (Nm w8 s (dg Bs (nv Bs xs + nv Bs ys))) := Ns.out.below hbel (Nat.le_refl _)
  replace Nd : Hid (Nm w8 d (dg Bs (nv Bs xs - nv Bs ys))) := Nd.out.below hbel (Nat.le_refl _)
  replace Np : Hid (Nm w8 p (dg Bs (nv Bs xs * nv Bs ys))) := Np.out.below hbel (Nat.le_refl _)
  replace Nt : Hid (Nm w8 t (dg Bs (nv Bs xs - nv Bs ys))) := Nt.out.below hbel (Nat.le_refl _)
  replace HB : Hid (Below w.heap.size w w8) := HB.out.trans (hbel.mono HB.out.size)
  have Ns2 : Hid (Nm w8 s2 (dg Bs (nv Bs xs + nv Bs ys))) := hown.nm (dg_sm Bs_two _)
  clear hown hbel
  have Cc := rsame_eq s s2 _ w8 Ns.out Ns2.out (Nat.le_trans (dgl_add _ _ _ _ L1.out L2.out) (by decide))
  go_wp2_with fail
  refine Cc.mono ?_
  clear Cc
  rintro e w9 ⟨rfl, qq, hq⟩
  replace Na : Hid (Nm w9 a (xs)) := by rw [hq]; exact Na.out.drewN qq
  replace Nb : Hid (Nm w9 b (ys)) := by rw [hq]; exact Nb.out.drewN qq
  replace Nx : Hid (Nm w9 x (xs)) := by rw [hq]; exact Nx.out.drewN qq
  replace Ny : Hid (Nm w9 y (ys)) := by rw [hq]; exact Ny.out.drewN qq
  replace Ns : Hid (Nm w9 s (dg Bs (nv Bs xs + nv Bs ys))) := by rw [hq]; exact Ns.out.drewN qq
  replace Nd : Hid (Nm w9 d (dg Bs (nv Bs xs - nv Bs ys))) := by rw [hq]; exact Nd.out.drewN qq
  replace Np : Hid (Nm w9 p (dg Bs (nv Bs xs * nv Bs ys))) := by rw [hq]; exact Np.out.drewN qq
  replace Nt : Hid (Nm w9 t (dg Bs (nv Bs xs - nv Bs ys))) := by rw [hq]; exact Nt.out.drewN qq
  replace Ns2 : Hid (Nm w9 s2 (dg Bs (nv Bs xs + nv Bs ys))) := by rw [hq]; exact Ns2.out.drewN qq
  replace HB : Hid (Below w.heap.size w w9) := by rw [hq]; exact below_drewN HB.out qq
  clear hq
  have Cc := rsame_eq d t _ w9 Nd.out Nt.out (Nat.le_trans (dgl_le _ _ _ (Nat.sub_le _ _) L1.out) (by decide))
  go_wp2_with fail
  refine Cc.mono ?_
  clear Cc
  rintro e w10 ⟨rfl, qq, hq⟩
  replace Na : Hid (Nm w10 a (xs)) := by rw [hq]; exact Na.out.drewN qq
  replace Nb : Hid (Nm w10 b (ys)) := by rw [hq]; exact Nb.out.drewN qq
  replace Nx : Hid (Nm w10 x (xs)) := by rw [hq]; exact Nx.out.drewN qq
  replace Ny : Hid (Nm w10 y (ys)) := by rw [hq]; exact Ny.out.drewN qq
  replace Ns : Hid (Nm w10 s (dg Bs (nv Bs xs + nv Bs ys))) := by rw [hq]; exact Ns.out.drewN qq
  replace Nd : Hid (Nm w10 d (dg Bs (nv Bs xs - nv Bs ys))) := by rw [hq]; exact Nd.out.drewN qq
  replace Np : Hid (Nm w10 p (dg Bs (nv Bs xs * nv Bs ys))) := by rw [hq]; exact Np.out.drewN qq
  replace Nt : Hid (Nm w10 t (dg Bs (nv Bs xs - nv Bs ys))) := by rw [hq]; exact Nt.out.drewN qq
  replace Ns2 : Hid (Nm w10 s2 (dg Bs (nv Bs xs + nv Bs ys))) := by rw [hq]; exact Ns2.out.drewN qq
  replace HB : Hid (Below w.heap.size w w10) := by rw [hq]; exact below_drewN HB.out qq
  clear hq
  have Cc := rmul_nm a b xs ys w10 Na.out Nb.out (by omega) (by omega)
  go_wp2_with fail
  refine Cc.mono ?_
  clear Cc
  rintro e w11 ⟨p2, rfl, hown, hbel⟩
  replace Na : Hid (Nm w11 a (xs)) := Na.out.below hbel (Nat.le_refl _)
  replace Nb : Hid (Nm w11 b (ys)) := Nb.out.below hbel (Nat.le_refl _)
  replace Nx : Hid (Nm w11 x (xs)) := Nx.out.below hbel (Nat.le_refl _)
  replace Ny : Hid (Nm w11 y (ys)) := Ny.out.below hbel (Nat.le_refl _)
  replace Ns : Hid (Nm w11 s (dg Bs (nv Bs xs + nv Bs ys))) := Ns.out.below hbel (Nat.le_refl _)
  replace Nd : Hid (Nm w11 d (dg Bs (nv Bs xs - nv Bs ys))) := Nd.out.below hbel (Nat.le_refl _)
  replace Np : Hid (Nm w11 p (dg Bs (nv Bs xs * nv Bs ys))) := Np.out.below hbel (Nat.le_refl _)
  replace Nt : Hid (Nm w11 t (dg Bs (nv Bs xs - nv Bs ys))) := Nt.out.below hbel (Nat.le_refl _)
  replace Ns2 : Hid (Nm w11 s2 (dg Bs (nv Bs xs + nv Bs ys))) := Ns2.out.below hbel (Nat.le_refl _)
  replace HB : Hid (Below w.heap.size w w11) := HB.out.trans (hbel.mono HB.out.size)
  have Np2 : Hid (Nm w11 p2 (dg Bs (nv Bs xs * nv Bs ys))) := hown.nm (dg_sm Bs_two _)
  clear hown hbel
  have Cc := rsame_eq p p2 _ w11 Np.out Np2.out (Nat.le_trans (dgl_mul _ _ _ _ L1.out L2.out) (by decide))
  go_wp2_with fail
  refine Cc.mono ?_
  clear Cc
  rintro e w12 ⟨rfl, qq, hq⟩
  replace Na : Hid (Nm w12 a (xs)) := by rw [hq]; exact Na.out.drewN qq
  replace Nb : Hid (Nm w12 b (ys)) := by rw [hq]; exact Nb.out.drewN qq
  replace Nx : Hid (Nm w12 x (xs)) := by rw [hq]; exact Nx.out.drewN qq
  replace Ny : Hid (Nm w12 y (ys)) := by rw [hq]; exact Ny.out.drewN qq
  replace Ns : Hid (Nm w12 s (dg Bs (nv Bs xs + nv Bs ys))) := by rw [hq]; exact Ns.out.drewN qq
  replace Nd : Hid (Nm w12 d (dg Bs (nv Bs xs - nv Bs ys))) := by rw [hq]; exact Nd.out.drewN qq
  replace Np : Hid (Nm w12 p (dg Bs (nv Bs xs * nv Bs ys))) := by rw [hq]; exact Np.out.drewN qq
  replace Nt : Hid (Nm w12 t (dg Bs (nv Bs xs - nv Bs ys))) := by rw [hq]; exact Nt.out.drewN qq
  replace Ns2 : Hid (Nm w12 s2 (dg Bs (nv Bs xs + nv Bs ys))) := by rw [hq]; exact Ns2.out.drewN qq
  replace Np2 : Hid (Nm w12 p2 (dg Bs (nv Bs xs * nv Bs ys))) := by rw [hq]; exact Np2.out.drewN qq
  replace HB : Hid (Below w.heap.size w w12) := by rw [hq]; exact below_drewN HB.out qq
  clear hq
  have Cc := rsame_eq x a _ w12 Nx.out Na.out (by omega)
  go_wp2_with fail
  refine Cc.mono ?_
  clear Cc
  rintro e w13 ⟨rfl, qq, hq⟩
  replace Na : Hid (Nm w13 a (xs)) := by rw [hq]; exact Na.out.drewN qq
  replace Nb : Hid (Nm w13 b (ys)) := by rw [hq]; exact Nb.out.drewN qq
  replace Nx : Hid (Nm w13 x (xs)) := by rw [hq]; exact Nx.out.drewN qq
  replace Ny : Hid (Nm w13 y (ys)) := by rw [hq]; exact Ny.out.drewN qq
  replace Ns : Hid (Nm w13 s (dg Bs (nv Bs xs + nv Bs ys))) := by rw [hq]; exact Ns.out.drewN qq
  replace Nd : Hid (Nm w13 d (dg Bs (nv Bs xs - nv Bs ys))) := by rw [hq]; exact Nd.out.drewN qq
  replace Np : Hid (Nm w13 p (dg Bs (nv Bs xs * nv Bs ys))) := by rw [hq]; exact Np.out.drewN qq
  replace Nt : Hid (Nm w13 t (dg Bs (nv Bs xs - nv Bs ys))) := by rw [hq]; exact Nt.out.drewN qq
  replace Ns2 : Hid (Nm w13 s2 (dg Bs (nv Bs xs + nv Bs ys))) := by rw [hq]; exact Ns2.out.drewN qq
  replace Np2 : Hid (Nm w13 p2 (dg Bs (nv Bs xs * nv Bs ys))) := by rw [hq]; exact Np2.out.drewN qq
  replace HB : Hid (Below w.heap.size w w13) := by rw [hq]; exact below_drewN HB.out qq
  clear hq
  have Cc := rsame_eq y b _ w13 Ny.out Nb.out (by omega)
  go_wp2_with fail
  refine Cc.mono ?_
  clear Cc
  rintro e w14 ⟨rfl, qq, hq⟩
  replace Na : Hid (Nm w14 a (xs)) := by rw [hq]; exact Na.out.drewN qq
  replace Nb : Hid (Nm w14 b (ys)) := by rw [hq]; exact Nb.out.drewN qq
  replace Nx : Hid (Nm w14 x (xs)) := by rw [hq]; exact Nx.out.drewN qq
  replace Ny : Hid (Nm w14 y (ys)) := by rw [hq]; exact Ny.out.drewN qq
  replace Ns : Hid (Nm w14 s (dg Bs (nv Bs xs + nv Bs ys))) := by rw [hq]; exact Ns.out.drewN qq
  replace Nd : Hid (Nm w14 d (dg Bs (nv Bs xs - nv Bs ys))) := by rw [hq]; exact Nd.out.drewN qq
  replace Np : Hid (Nm w14 p (dg Bs (nv Bs xs * nv Bs ys))) := by rw [hq]; exact Np.out.drewN qq
  replace Nt : Hid (Nm w14 t (dg Bs (nv Bs xs - nv Bs ys))) := by rw [hq]; exact Nt.out.drewN qq
  replace Ns2 : Hid (Nm w14 s2 (dg Bs (nv Bs xs + nv Bs ys))) := by rw [hq]; exact Ns2.out.drewN qq
  replace Np2 : Hid (Nm w14 p2 (dg Bs (nv Bs xs * nv Bs ys))) := by rw [hq]; exact Np2.out.drewN qq
  replace HB : Hid (Below w.heap.size w w14) := by rw [hq]; exact below_drewN HB.out qq
  clear hq
  have Cc := rcmp_nm a b xs ys w14 Na.out Nb.out (by omega) (by omega)
  rw [Ho.out] at Cc
  go_wp2_with fail
  refine Cc.mono ?_
  clear Cc
  rintro e w14 ⟨rfl, rfl⟩
  go_wp2
  go_ret
  exact ⟨rfl, HB.out⟩

end Go.Proofs.Ytkkcmfkegbdgjaa
