import Derived.Test.YtjaopeenkbcjcaaDoorNa
import Derived.Test.YtjaopeenkbcjcaaDoorMc
import Derived.Test.YtjaopeenkbcjcaaDoorGd
import Derived.Deep.CutRange
namespace Go.Proofs.YtjaopeenkbcjcaaDoor
open Go.RowKit Go.Shelf

/-- What stands while the lists are written over. -/
structure CJ (w : World) (bp bm bq gv ga gn cv ca cn n m u : Nat) (ps cs qs : List Value) (V : List Nd) (P : List (List UInt8) → Prop) (N M : Nat) (wx : World) : Prop where
  bel : Below w.heap.size w wx
  bp : Bl 29 wx bp ps
  bm : Bl 27 wx bm cs
  bq : Bl 29 wx bq qs
  vs : NO w.heap.size wx (.slice (some ⟨gv, 0, none⟩) (n + 2) cv) V
  as_ : ∃ X : List (List UInt8), (X.length = m + 2 ∧ ∀ x ∈ X, x.length ≤ N) ∧ OT w.heap.size wx (.slice (some ⟨ga, 0, none⟩) (m + 2) ca) X
  ns : ∃ Y : List (List UInt8), (Y.length = u + 2 ∧ (∀ x ∈ Y, x.length ≤ M) ∧ P Y) ∧ OT w.heap.size wx (.slice (some ⟨gn, 0, none⟩) (u + 2) cn) Y
theorem CJ.below {w wx wy : World} {bp bm bq gv ga gn cv ca cn n m u : Nat} {ps cs qs : List Value} {V : List Nd} {P : List (List UInt8) → Prop} {N M : Nat} (h : CJ w bp bm bq gv ga gn cv ca cn n m u ps cs qs V P N M wx) (hb : Below wx.heap.size wx wy) : CJ w bp bm bq gv ga gn cv ca cn n m u ps cs qs V P N M wy :=
  ⟨h.bel.trans (hb.mono h.bel.size), h.bp.below hb h.bp.lt, h.bm.below hb h.bm.lt, h.bq.below hb h.bq.lt, own_below h.vs hb (Nat.le_refl _), h.as_.elim fun X hX => ⟨X, hX.1, own_below hX.2 hb (Nat.le_refl _)⟩, h.ns.elim fun X hX => ⟨X, hX.1, own_below hX.2 hb (Nat.le_refl _)⟩⟩
theorem CJ.drewN {w wx : World} {bp bm bq gv ga gn cv ca cn n m u : Nat} {ps cs qs : List Value} {V : List Nd} {P : List (List UInt8) → Prop} {N M : Nat} (h : CJ w bp bm bq gv ga gn cv ca cn n m u ps cs qs V P N M wx) (q : Nat) : CJ w bp bm bq gv ga gn cv ca cn n m u ps cs qs V P N M (wx.drewN q) := h.below (below_drewN (Below.refl _ _) q)
theorem row_set {w0 wx : World} {X : List (List UInt8)} {g c n k N M : Nat} {y : List UInt8} (hX : X.length = n) (hXl : ∀ x ∈ X, x.length ≤ N) (hO : OT w0.heap.size wx (.slice (some ⟨g, 0, none⟩) n c) X) (hy : y.length ≤ M) (hM : N ≤ M) :
    ((X.set k y).length = n ∧ (∀ x ∈ X.set k y, x.length ≤ M)) ∧ OT w0.heap.size (wx.setCell ⟨g, k, none⟩ (tV y)) (.slice (some ⟨g, 0, none⟩) n c) (X.set k y) ∧ wx.grownBy (wx.setCell ⟨g, k, none⟩ (tV y)) (some g) := by
  have hO2 := hO
  unfold OT at hO2
  rw [hX] at hO2
  have hs := World.ownsRow.stored hO2 k (tV y)
  refine ⟨⟨by rw [List.length_set]; exact hX, fun x hx => ?_⟩, ?_, hs.2⟩
  · rcases List.mem_or_eq_of_mem_set hx with hx | hx
    · exact Nat.le_trans (hXl x hx) hM
    · rw [hx]; exact hy
  unfold OT
  rw [List.length_set, hX, List.map_set]
  exact hs.1
theorem row_at {w0 wx : World} {X : List (List UInt8)} {g c n k N : Nat} (hX : X.length = n) (hXl : ∀ x ∈ X, x.length ≤ N) (hO : OT w0.heap.size wx (.slice (some ⟨g, 0, none⟩) n c) X) (hk : k < n) :
    ∃ x : List UInt8, wx.cell? ⟨g, k, none⟩ = some (.string ⟨x.toArray⟩) ∧ wx.frozen? ⟨g, k, none⟩ = false ∧ x.length ≤ N := by
  unfold OT at hO
  rw [hX] at hO
  have hoc := own_cell hO k (tV (X.getD k [])) (by rw [List.getElem?_map, List.getElem?_eq_getElem (by omega), List.getD_eq_getElem?_getD, List.getElem?_eq_getElem (by omega)]; rfl)
  refine ⟨X.getD k [], hoc.1, hoc.2, hXl _ ?_⟩
  rw [List.getD_eq_getElem?_getD, List.getElem?_eq_getElem (show k < X.length by omega)]
  exact List.getElem_mem _
/-- A text of the first row is written over. -/
theorem CJ.text {w wx : World} {bp bm bq gv ga gn cv ca cn n m u : Nat} {ps cs qs : List Value} {V : List Nd} {P : List (List UInt8) → Prop} {N M : Nat} (h : CJ w bp bm bq gv ga gn cv ca cn n m u ps cs qs V P N M wx) (k : Nat) (y : List UInt8) (N2 : Nat) (hy : y.length ≤ N2) (hM : N ≤ N2) (hlo : w.heap.size ≤ ga) (hne : ga ≠ gn) : CJ w bp bm bq gv ga gn cv ca cn n m u ps cs qs V P N2 M (wx.setCell ⟨ga, k, none⟩ (tV y)) := by
  obtain ⟨X, ⟨hX, hXl⟩, hO⟩ := h.as_
  obtain ⟨Y, hY, hN⟩ := h.ns
  have hs := row_set (k := k) hX hXl hO hy hM
  exact ⟨h.bel.setCell hlo _, bl_grown' h.bp hs.2.2 (fun e => block_apart hO h.bp (by decide) e), bl_grown' h.bm hs.2.2 (fun e => block_apart hO h.bm (by decide) e), bl_grown' h.bq hs.2.2 (fun e => block_apart hO h.bq (by decide) e), own_keep h.vs fun g hg => hs.2.2.block g (h.vs.lt g hg).2 (fun e => kinds_apart h.vs hO (by decide) hg e.symm), ⟨_, hs.1, hs.2.1⟩, Y, hY, own_keep hN fun g hg => hs.2.2.block g (hN.lt g hg).2 (fun e => hne (Option.some.inj (e.symm.trans hg.symm)))⟩
/-- A text of the second row is written over. -/
theorem CJ.text2 {w wx : World} {bp bm bq gv ga gn cv ca cn n m u : Nat} {ps cs qs : List Value} {V : List Nd} {P : List (List UInt8) → Prop} {N M : Nat} (h : CJ w bp bm bq gv ga gn cv ca cn n m u ps cs qs V P N M wx) (k : Nat) (y : List UInt8) (M2 : Nat) (hy : y.length ≤ M2) (hM : M ≤ M2) (hlo : w.heap.size ≤ gn) (hne : ga ≠ gn) : CJ w bp bm bq gv ga gn cv ca cn n m u ps cs qs V (fun _ => True) N M2 (wx.setCell ⟨gn, k, none⟩ (tV y)) := by
  obtain ⟨X, ⟨hX, hXl, _⟩, hO⟩ := h.ns
  obtain ⟨Y, hY, hN⟩ := h.as_
  have hs := row_set (k := k) hX hXl hO hy hM
  exact ⟨h.bel.setCell hlo _, bl_grown' h.bp hs.2.2 (fun e => block_apart hO h.bp (by decide) e), bl_grown' h.bm hs.2.2 (fun e => block_apart hO h.bm (by decide) e), bl_grown' h.bq hs.2.2 (fun e => block_apart hO h.bq (by decide) e), own_keep h.vs fun g hg => hs.2.2.block g (h.vs.lt g hg).2 (fun e => kinds_apart h.vs hO (by decide) hg e.symm), ⟨Y, hY, own_keep hN fun g hg => hs.2.2.block g (hN.lt g hg).2 (fun e => hne (Option.some.inj (hg.trans e).symm).symm)⟩, _, ⟨hs.1.1, hs.1.2, trivial⟩, hs.2.1⟩
theorem CJ.loose {w wx : World} {bp bm bq gv ga gn cv ca cn n m u : Nat} {ps cs qs : List Value} {V : List Nd} {P : List (List UInt8) → Prop} {N M : Nat} (h : CJ w bp bm bq gv ga gn cv ca cn n m u ps cs qs V P N M wx) : CJ w bp bm bq gv ga gn cv ca cn n m u ps cs qs V (fun _ => True) N M wx :=
  ⟨h.bel, h.bp, h.bm, h.bq, h.vs, h.as_, h.ns.elim fun Y hY => ⟨Y, ⟨hY.1.1, hY.1.2.1, trivial⟩, hY.2⟩⟩

set_option maxRecDepth 100000 in
set_option maxHeartbeats 16000000 in
theorem checks_any (l : List Nd) (va : Option Addr) (vc : Nat) (aud : List (List UInt8)) (aa : Option Addr) (ac : Nat) (iss : List UInt8) (hIss : Bool) (sub : List UInt8) (hSub : Bool) (hAud : Bool) (jti : List UInt8) (hJti : Bool) (ex nb it : Tm)
    (pa0 : Option Addr) (pn pc0 : Nat) (pi : List UInt8) (pHi : Bool) (pa : List UInt8) (pHa : Bool) (ty : List UInt8) (wt : Bool) (lee : Int) (nl : List (List UInt8)) (na : Option Addr) (nc : Nat) (w : World)
    (h : NR w (.slice va l.length vc) l va vc) (hA : TR w (.slice aa aud.length ac) aud aa ac) (hN : TR w (.slice na nl.length nc) nl na nc) (hG : GL w.heap.size w) (ht : TB l) (hts : TS l) (hvn : va = none → vc = 0) (han : aa = none → ac = 0) (hnn : na = none → nc = 0) (hl : l.length ≤ 1048576) (hnl : nl.length ≤ 1048576) (hal : aud.length ≤ 1048576) (hml : ∀ x ∈ aud, x.length ≤ 1048576) (hmn : ∀ x ∈ nl, x.length ≤ 1048576) :
    Calls Tryd.prog 3 #[.agg #[.slice va l.length vc, .string ⟨iss.toArray⟩, .bool hIss, .string ⟨sub.toArray⟩, .bool hSub, .slice aa aud.length ac, .bool hAud, .string ⟨jti.toArray⟩, .bool hJti, .bool ex.has, .int .i64 ex.at_, .bool nb.has, .int .i64 nb.at_, .bool it.has, .int .i64 it.at_], .agg #[.slice pa0 pn pc0, .string ⟨pi.toArray⟩, .bool pHi, .string ⟨pa.toArray⟩, .bool pHa, .string ⟨ty.toArray⟩, .bool wt, .int .i64 lee, .slice na nl.length nc]] w fun e w' => e = .returned (.bool true) ∧ Below w.heap.size w w' := by
  obtain ⟨W, hW⟩ : ∃ W : World, (w.alloc (.cells #[.slice va l.length vc, .string ⟨iss.toArray⟩, .bool hIss, .string ⟨sub.toArray⟩, .bool hSub, .slice aa aud.length ac, .bool hAud, .string ⟨jti.toArray⟩, .bool hJti, .bool ex.has, .int .i64 ex.at_, .bool nb.has, .int .i64 nb.at_, .bool it.has, .int .i64 it.at_] 27)).alloc (.cells #[.slice pa0 pn pc0, .string ⟨pi.toArray⟩, .bool pHi, .string ⟨pa.toArray⟩, .bool pHa, .string ⟨ty.toArray⟩, .bool wt, .int .i64 lee, .slice na nl.length nc] 29) = W := ⟨_, rfl⟩
  have h1 := alloc_below w (.cells #[.slice va l.length vc, .string ⟨iss.toArray⟩, .bool hIss, .string ⟨sub.toArray⟩, .bool hSub, .slice aa aud.length ac, .bool hAud, .string ⟨jti.toArray⟩, .bool hJti, .bool ex.has, .int .i64 ex.at_, .bool nb.has, .int .i64 nb.at_, .bool it.has, .int .i64 it.at_] 27)
  have h2 := alloc_below (w.alloc (.cells #[.slice va l.length vc, .string ⟨iss.toArray⟩, .bool hIss, .string ⟨sub.toArray⟩, .bool hSub, .slice aa aud.length ac, .bool hAud, .string ⟨jti.toArray⟩, .bool hJti, .bool ex.has, .int .i64 ex.at_, .bool nb.has, .int .i64 nb.at_, .bool it.has, .int .i64 it.at_] 27)) (.cells #[.slice pa0 pn pc0, .string ⟨pi.toArray⟩, .bool pHi, .string ⟨pa.toArray⟩, .bool pHa, .string ⟨ty.toArray⟩, .bool wt, .int .i64 lee, .slice na nl.length nc] 29)
  have h3 : Bl 27 _ _ [.slice va l.length vc, .string ⟨iss.toArray⟩, .bool hIss, .string ⟨sub.toArray⟩, .bool hSub, .slice aa aud.length ac, .bool hAud, .string ⟨jti.toArray⟩, .bool hJti, .bool ex.has, .int .i64 ex.at_, .bool nb.has, .int .i64 nb.at_, .bool it.has, .int .i64 it.at_] := alloc_bl w [.slice va l.length vc, .string ⟨iss.toArray⟩, .bool hIss, .string ⟨sub.toArray⟩, .bool hSub, .slice aa aud.length ac, .bool hAud, .string ⟨jti.toArray⟩, .bool hJti, .bool ex.has, .int .i64 ex.at_, .bool nb.has, .int .i64 nb.at_, .bool it.has, .int .i64 it.at_] 27
  have h4 : Bl 29 _ _ [.slice pa0 pn pc0, .string ⟨pi.toArray⟩, .bool pHi, .string ⟨pa.toArray⟩, .bool pHa, .string ⟨ty.toArray⟩, .bool wt, .int .i64 lee, .slice na nl.length nc] := alloc_bl (w.alloc (.cells #[.slice va l.length vc, .string ⟨iss.toArray⟩, .bool hIss, .string ⟨sub.toArray⟩, .bool hSub, .slice aa aud.length ac, .bool hAud, .string ⟨jti.toArray⟩, .bool hJti, .bool ex.has, .int .i64 ex.at_, .bool nb.has, .int .i64 nb.at_, .bool it.has, .int .i64 it.at_] 27)) [.slice pa0 pn pc0, .string ⟨pi.toArray⟩, .bool pHi, .string ⟨pa.toArray⟩, .bool pHa, .string ⟨ty.toArray⟩, .bool wt, .int .i64 lee, .slice na nl.length nc] 29
  have h5 : Bl 27 W w.heap.size [.slice va l.length vc, .string ⟨iss.toArray⟩, .bool hIss, .string ⟨sub.toArray⟩, .bool hSub, .slice aa aud.length ac, .bool hAud, .string ⟨jti.toArray⟩, .bool hJti, .bool ex.has, .int .i64 ex.at_, .bool nb.has, .int .i64 nb.at_, .bool it.has, .int .i64 it.at_] := by rw [← hW]; exact h3.below h2 h3.lt
  have h6 : Bl 29 W (w.heap.size + 1) [.slice pa0 pn pc0, .string ⟨pi.toArray⟩, .bool pHi, .string ⟨pa.toArray⟩, .bool pHa, .string ⟨ty.toArray⟩, .bool wt, .int .i64 lee, .slice na nl.length nc] := by rw [alloc_size] at h4; rw [← hW]; exact h4
  have hB : Below w.heap.size w W := by rw [← hW]; exact h1.trans (h2.mono h1.size)
  have HW : Hid ((w.alloc (.cells #[.slice va l.length vc, .string ⟨iss.toArray⟩, .bool hIss, .string ⟨sub.toArray⟩, .bool hSub, .slice aa aud.length ac, .bool hAud, .string ⟨jti.toArray⟩, .bool hJti, .bool ex.has, .int .i64 ex.at_, .bool nb.has, .int .i64 nb.at_, .bool it.has, .int .i64 it.at_] 27)).alloc (.cells #[.slice pa0 pn pc0, .string ⟨pi.toArray⟩, .bool pHi, .string ⟨pa.toArray⟩, .bool pHa, .string ⟨ty.toArray⟩, .bool wt, .int .i64 lee, .slice na nl.length nc] 29) = W) := hW
  have HSW : Hid (w.heap.size ≤ W.heap.size) := hB.size
  have HBc : Hid (∀ wq, Below W.heap.size W wq → Bl 27 wq w.heap.size [.slice va l.length vc, .string ⟨iss.toArray⟩, .bool hIss, .string ⟨sub.toArray⟩, .bool hSub, .slice aa aud.length ac, .bool hAud, .string ⟨jti.toArray⟩, .bool hJti, .bool ex.has, .int .i64 ex.at_, .bool nb.has, .int .i64 nb.at_, .bool it.has, .int .i64 it.at_]) := fun wq hq => h5.below hq h5.lt
  have HBp : Hid (∀ wq, Below W.heap.size W wq → Bl 29 wq (w.heap.size + 1) [.slice pa0 pn pc0, .string ⟨pi.toArray⟩, .bool pHi, .string ⟨pa.toArray⟩, .bool pHa, .string ⟨ty.toArray⟩, .bool wt, .int .i64 lee, .slice na nl.length nc]) := fun wq hq => h6.below hq h6.lt
  have HBq : Hid (∀ wq, Below W.heap.size W wq → Below w.heap.size w wq) := fun wq hq => hB.trans (hq.mono hB.size)
  have HGq : Hid (∀ wq, Below w.heap.size w wq → GL wq.heap.size wq) := fun wq hq => (hG.below hq).up hq.size
  have HNq : Hid (∀ wq, Below w.heap.size w wq → NR wq (.slice va l.length vc) l va vc) := fun wq hq => h.below hq (Nat.le_refl _)
  have HTa : Hid (∀ wq, Below w.heap.size w wq → TR wq (.slice aa aud.length ac) aud aa ac) := fun wq hq => hA.below hq (Nat.le_refl _)
  have HTn : Hid (∀ wq, Below w.heap.size w wq → TR wq (.slice na nl.length nc) nl na nc) := fun wq hq => hN.below hq (Nat.le_refl _)
  have hcl : (Tryd.prog.info? 27).map (·.size) = some ([.slice va l.length vc, .string ⟨iss.toArray⟩, .bool hIss, .string ⟨sub.toArray⟩, .bool hSub, .slice aa aud.length ac, .bool hAud, .string ⟨jti.toArray⟩, .bool hJti, .bool ex.has, .int .i64 ex.at_, .bool nb.has, .int .i64 nb.at_, .bool it.has, .int .i64 it.at_] : List Value).length := by kernel_rfl
  have hcp : (Tryd.prog.info? 29).map (·.size) = some ([.slice pa0 pn pc0, .string ⟨pi.toArray⟩, .bool pHi, .string ⟨pa.toArray⟩, .bool pHa, .string ⟨ty.toArray⟩, .bool wt, .int .i64 lee, .slice na nl.length nc] : List Value).length := by kernel_rfl
  have HTB : Hid (TB l) := ht
  have HNN : Hid (na = none → nc = 0) := hnn
  have CB := beyond_any _ l va vc W (HNq.out W hB) (by omega)
  have HCR : Hid (∀ wq, Below w.heap.size w wq → Calls Tryd.prog 5 #[.agg #[.slice va l.length vc, .string ⟨iss.toArray⟩, .bool hIss, .string ⟨sub.toArray⟩, .bool hSub, .slice aa aud.length ac, .bool hAud, .string ⟨jti.toArray⟩, .bool hJti, .bool ex.has, .int .i64 ex.at_, .bool nb.has, .int .i64 nb.at_, .bool it.has, .int .i64 it.at_]] wq fun e w' => (∃ gv cv ga ca, e = .returned (.agg #[.slice (some ⟨gv, 0, none⟩) l.length cv, .string ⟨iss.toArray⟩, .bool hIss, .string ⟨sub.toArray⟩, .bool hSub, .slice (some ⟨ga, 0, none⟩) aud.length ca, .bool hAud, .string ⟨jti.toArray⟩, .bool hJti, .bool ex.has, .int .i64 ex.at_, .bool nb.has, .int .i64 nb.at_, .bool it.has, .int .i64 it.at_]) ∧ NO wq.heap.size w' (.slice (some ⟨gv, 0, none⟩) (l.length + 2) cv) (l ++ [mkN, mkN]) ∧ OT wq.heap.size w' (.slice (some ⟨ga, 0, none⟩) (aud.length + 2) ca) (aud ++ [mkT, mkT])) ∧ Below wq.heap.size wq w') := fun wq hq => croomy_any l va vc aud aa ac iss hIss sub hSub hAud jti hJti ex nb it wq (HNq.out wq hq) (HTa.out wq hq) hvn han (by omega) (by omega)
  have HSh : Hid (∀ wq, Below w.heap.size w wq → Calls Tryd.prog 9 #[.slice va l.length vc] wq fun e w' => e = .returned (.bool (shapedF l)) ∧ Below wq.heap.size wq w') := fun wq hq => rshaped_any l va vc wq (HNq.out wq hq) (by omega) hts
  have k0 : W.cell? ⟨w.heap.size, 0, none⟩ = some (.slice va l.length vc) := h5.cell 0 (by simp)
  have HML : Hid (∀ x ∈ aud, x.length ≤ 1048576) := hml
  have HMN : Hid (∀ x ∈ nl, x.length ≤ 1048576) := hmn
  clear h hA hN hG ht hts h1 h2 h3 h4 h5 h6 hB hW hvn han hnn hml hmn
  go_enter Tryd.func3, Tryd.ntmps3
  go_wp2_with fail
  rw [HW.out]
  clear HW
  refine CB.mono ?_
  clear CB k0
  rintro e w1 ⟨hq1, by_, rfl⟩
  have HQ1 : Hid (Below W.heap.size W w1) := hq1
  clear hq1
  cases by_
  · have p1 := bl_rng2 (HBc.out w1 HQ1.out)
    have CR := HCR.out w1 (HBq.out w1 HQ1.out)
    clear HCR
    go_wp2_with (first | (refine wpList_load_mid rfl 27 (.tmp 2) rfl w.heap.size 0 rfl [.slice va l.length vc, .string ⟨iss.toArray⟩, .bool hIss, .string ⟨sub.toArray⟩, .bool hSub, .slice aa aud.length ac, .bool hAud, .string ⟨jti.toArray⟩, .bool hJti, .bool ex.has, .int .i64 ex.at_, .bool nb.has, .int .i64 nb.at_, .bool it.has, .int .i64 it.at_] _ p1 Tryd.underlying27 rfl hcl ?_) | fail)
    refine CR.mono ?_
    clear CR p1
    rintro e w2 ⟨⟨gv, cv, ga, ca, rfl, hn, ht⟩, hb⟩
    have HS1 : Hid (w.heap.size ≤ w1.heap.size) := (HBq.out w1 HQ1.out).size
    have HLv : Hid (w.heap.size ≤ gv) := Nat.le_trans HS1.out (hn.lt gv rfl).1
    have HLa : Hid (w.heap.size ≤ ga) := Nat.le_trans HS1.out (ht.lt ga rfl).1
    obtain ⟨w3, hw3⟩ : ∃ x, w2.alloc (.cells #[.slice (some ⟨gv, 0, none⟩) l.length cv, .string ⟨iss.toArray⟩, .bool hIss, .string ⟨sub.toArray⟩, .bool hSub, .slice (some ⟨ga, 0, none⟩) aud.length ca, .bool hAud, .string ⟨jti.toArray⟩, .bool hJti, .bool ex.has, .int .i64 ex.at_, .bool nb.has, .int .i64 nb.at_, .bool it.has, .int .i64 it.at_] 27) = x := ⟨_, rfl⟩
    have hA3 : Below w2.heap.size w2 w3 := by rw [← hw3]; exact alloc_below _ _
    have hD3 : Bl 27 w3 w2.heap.size [.slice (some ⟨gv, 0, none⟩) l.length cv, .string ⟨iss.toArray⟩, .bool hIss, .string ⟨sub.toArray⟩, .bool hSub, .slice (some ⟨ga, 0, none⟩) aud.length ca, .bool hAud, .string ⟨jti.toArray⟩, .bool hJti, .bool ex.has, .int .i64 ex.at_, .bool nb.has, .int .i64 nb.at_, .bool it.has, .int .i64 it.at_] := by rw [← hw3]; exact alloc_bl _ _ _
    have HQ3 : Hid (Below W.heap.size W w3) := HQ1.out.trans ((hb.trans (hA3.mono hb.size)).mono HQ1.out.size)
    have HN3 : Hid (NO w.heap.size w3 (.slice (some ⟨gv, 0, none⟩) (l.length + 2) cv) (l ++ [mkN, mkN])) := own_mono2 (own_below hn hA3 (Nat.le_refl _)) HS1.out
    have HT3 : Hid (OT w.heap.size w3 (.slice (some ⟨ga, 0, none⟩) (aud.length + 2) ca) (aud ++ [mkT, mkT])) := own_mono2 (own_below ht hA3 (Nat.le_refl _)) HS1.out
    obtain ⟨bm, hbme⟩ : ∃ b, w2.heap.size = b := ⟨_, rfl⟩
    rw [hbme] at hD3
    have HD3 : Hid (Bl 27 w3 bm [.slice (some ⟨gv, 0, none⟩) l.length cv, .string ⟨iss.toArray⟩, .bool hIss, .string ⟨sub.toArray⟩, .bool hSub, .slice (some ⟨ga, 0, none⟩) aud.length ca, .bool hAud, .string ⟨jti.toArray⟩, .bool hJti, .bool ex.has, .int .i64 ex.at_, .bool nb.has, .int .i64 nb.at_, .bool it.has, .int .i64 it.at_]) := hD3
    obtain ⟨x4, hx4⟩ : ∃ x, w3.alloc (.cells #[] 9) = x := ⟨_, rfl⟩
    have hA4 : Below w3.heap.size w3 x4 := by rw [← hx4]; exact alloc_below _ _
    have HO4 : Hid (OT w3.heap.size x4 (.slice (some ⟨w3.heap.size, 0, none⟩) 0 0) []) := by rw [← hx4]; exact World.ownsRow_lit w3 #[] 0 (Nat.le_refl _) (by decide) rfl
    have HQ4 : Hid (Below W.heap.size W x4) := HQ3.out.trans (hA4.mono HQ3.out.size)
    have HY4 : Hid (Below w3.heap.size w3 x4) := hA4
    have HS4 : Hid (w3.heap.size ≤ x4.heap.size) := hA4.size
    have k8 : x4.cell? ⟨w.heap.size + 1, 8, none⟩ = some (.slice na nl.length nc) := (HBp.out x4 HQ4.out).cell 8 (by simp)
    have HR4 := HTn.out x4 (HBq.out x4 HQ4.out)
    go_upto_region 4 with fail
    clear hw3 hA3 hD3 hbme hn ht hb hA4
    go_upto_region 5 with (at_builtin; refine append_txt rfl (.tmp 17) (.tmp 19) rfl w3.heap.size (.slice (some ⟨w3.heap.size, 0, none⟩) 0 0) [] rfl HO4.out na nc nl rfl HR4 HNN.out (by simp only [List.length_nil]; omega) HS4.out ?_; intro v5 w5 ho5 hg5; have HB5 : Hid (Below w3.heap.size w3 w5) := HY4.out.grown hg5 HS4.out (own_block HO4.out); have HO5 : Hid (OT w3.heap.size w5 v5 nl) := ho5; obtain ⟨n5, c5, e5, _, _⟩ := own_slice ho5; subst e5; clear ho5 hg5)
    clear hx4 HO4 HQ4 HY4 HS4 k8 HR4
    obtain ⟨x6, hx6⟩ : ∃ x, w5.alloc (.cells #[.string ⟨#[109, 97, 114, 107]⟩, .string ⟨#[109, 97, 114, 107]⟩] 9) = x := ⟨_, rfl⟩
    have hA6 : Below w5.heap.size w5 x6 := by rw [← hx6]; exact alloc_below _ _
    have hM6 : Bl 9 x6 w5.heap.size [tV mkT, tV mkT] := by rw [← hx6]; exact alloc_bl w5 [tV mkT, tV mkT] _
    have HR6 : TR x6 (.slice (some ⟨w5.heap.size, 0, none⟩) 2 2) [mkT, mkT] (some ⟨w5.heap.size, 0, none⟩) 2 := ⟨rfl, Nat.le_refl _, .inr ⟨w5.heap.size, 0, rfl, hM6.lt, fun j hj => by
      rw [Nat.zero_add]
      have hj2 : j = 0 ∨ j = 1 := by simp at hj; omega
      rcases hj2 with rfl | rfl
      · exact hM6.cell 0 (by simp)
      · exact hM6.cell 1 (by simp)⟩⟩
    have HO6 : Hid (OT w3.heap.size x6 (.slice n5 nl.length c5) nl) := own_below HO5.out hA6 (Nat.le_refl _)
    have HB6 : Hid (Below w3.heap.size w3 x6) := HB5.out.trans (hA6.mono HB5.out.size)
    have HS6 : Hid (w3.heap.size ≤ x6.heap.size) := HB6.out.size
    clear hA6 hM6
    go_upto_region 6 with (at_builtin; refine append_txt rfl (.tmp 21) (.tmp 22) rfl w3.heap.size (.slice n5 nl.length c5) nl rfl HO6.out (some ⟨w5.heap.size, 0, none⟩) 2 [mkT, mkT] rfl HR6 (fun h => by cases h) (by simp only [List.length_cons, List.length_nil]; omega) HS6.out ?_; intro v7 w7 ho7 hg7; have HB7 : Hid (Below w3.heap.size w3 w7) := HB6.out.grown hg7 HS6.out (own_block HO6.out); have HO7' : Hid (OT w3.heap.size w7 v7 (nl ++ [mkT, mkT])) := ho7; obtain ⟨n7, cn, e7, _, _⟩ := own_slice ho7; subst e7; clear ho7 hg7)
    obtain ⟨n7', cn', e7, hc7, hg7'⟩ := own_slice HO7'.out
    obtain ⟨gn, e8⟩ := hg7' (by simp)
    cases e7
    subst e8
    have HO7 : Hid (OT w3.heap.size w7 (.slice (some ⟨gn, 0, none⟩) (nl ++ [mkT, mkT]).length cn) (nl ++ [mkT, mkT])) := HO7'.out
    have hc8 : nl.length + 2 ≤ cn := by simpa using hc7
    have HC7 : Hid (nl.length + 2 ≤ cn) := hc8
    clear hc8
    clear hg7' hc7 HO7'
    clear hx6 HO6 HB6 HS6 HR6 HO5 HB5
    rw [show (nl ++ [mkT, mkT]).length = nl.length + 2 from by simp] at HO7
    have HLn : Hid (w3.heap.size ≤ gn) := (HO7.out.lt gn rfl).1
    have hcn : nl.length ≤ cn := by have := HC7.out; omega
    have hcnI : (nl.length : Int) ≤ (cn : Int) := by omega
    have HQ7 : Hid (Below W.heap.size W w7) := HQ3.out.trans (HB7.out.mono HQ3.out.size)
    have p7 := bl_rng2 (HBp.out w7 HQ7.out)
    have k8 : (w7.alloc (.cells #[.slice pa0 pn pc0, .string ⟨pi.toArray⟩, .bool pHi, .string ⟨pa.toArray⟩, .bool pHa, .string ⟨ty.toArray⟩, .bool wt, .int .i64 lee, .slice na nl.length nc] 29)).cell? ⟨w.heap.size + 1, 8, none⟩ = some (.slice na nl.length nc) := ((HBp.out w7 HQ7.out).below (alloc_below w7 _) (HBp.out w7 HQ7.out).lt).cell 8 (by simp)
    go_upto_region 8 with (first | (refine wpList_load_mid rfl 29 (.tmp 3) rfl (w.heap.size + 1) 0 rfl [.slice pa0 pn pc0, .string ⟨pi.toArray⟩, .bool pHi, .string ⟨pa.toArray⟩, .bool pHa, .string ⟨ty.toArray⟩, .bool wt, .int .i64 lee, .slice na nl.length nc] _ p7 Tryd.underlying29 rfl hcp ?_) | fail)
    obtain ⟨w8, hw8⟩ : ∃ x, w7.alloc (.cells #[.slice pa0 pn pc0, .string ⟨pi.toArray⟩, .bool pHi, .string ⟨pa.toArray⟩, .bool pHa, .string ⟨ty.toArray⟩, .bool wt, .int .i64 lee, .slice (some ⟨gn, 0, none⟩) nl.length cn] 29) = x := ⟨_, rfl⟩
    have hA8 : Below w7.heap.size w7 w8 := by rw [← hw8]; exact alloc_below _ _
    have hq8 : Bl 29 w8 w7.heap.size [.slice pa0 pn pc0, .string ⟨pi.toArray⟩, .bool pHi, .string ⟨pa.toArray⟩, .bool pHa, .string ⟨ty.toArray⟩, .bool wt, .int .i64 lee, .slice (some ⟨gn, 0, none⟩) nl.length cn] := by rw [← hw8]; exact alloc_bl _ _ _
    obtain ⟨bq, hbqe⟩ : ∃ b, w7.heap.size = b := ⟨_, rfl⟩
    rw [hbqe] at hq8
    rw [hw8, hbqe]
    have hB38 : Below w3.heap.size w3 w8 := HB7.out.trans (hA8.mono HB7.out.size)
    have HQ8 : Hid (Below W.heap.size W w8) := HQ3.out.trans (hB38.mono HQ3.out.size)
    have HSX : Hid (w.heap.size ≤ w3.heap.size) := (HBq.out w3 HQ3.out).size
    have HGAN : Hid (ga ≠ gn) := by have h1 := (HT3.out.lt ga rfl).2; have h2 := HLn.out; show ga ≠ gn; omega
    have HLn2 : Hid (w.heap.size ≤ gn) := Nat.le_trans HSX.out HLn.out
    have HWq : Hid (∀ wq, Below w8.heap.size w8 wq → Below W.heap.size W wq) := fun wq hq => HQ8.out.trans (hq.mono HQ8.out.size)
    have HDq : Hid (∀ wq, Below w8.heap.size w8 wq → Bl 27 wq bm [.slice (some ⟨gv, 0, none⟩) l.length cv, .string ⟨iss.toArray⟩, .bool hIss, .string ⟨sub.toArray⟩, .bool hSub, .slice (some ⟨ga, 0, none⟩) aud.length ca, .bool hAud, .string ⟨jti.toArray⟩, .bool hJti, .bool ex.has, .int .i64 ex.at_, .bool nb.has, .int .i64 nb.at_, .bool it.has, .int .i64 it.at_]) := fun wq hq => by
      have h1 := HD3.out.below hB38 HD3.out.lt
      exact h1.below hq h1.lt
    have HPq : Hid (∀ wq, Below w8.heap.size w8 wq → Bl 29 wq bq [.slice pa0 pn pc0, .string ⟨pi.toArray⟩, .bool pHi, .string ⟨pa.toArray⟩, .bool pHa, .string ⟨ty.toArray⟩, .bool wt, .int .i64 lee, .slice (some ⟨gn, 0, none⟩) nl.length cn]) := fun wq hq => hq8.below hq hq8.lt
    have HVq : Hid (∀ wq, Below w8.heap.size w8 wq → NO w.heap.size wq (.slice (some ⟨gv, 0, none⟩) (l.length + 2) cv) (l ++ [mkN, mkN])) := fun wq hq => own_below (own_below HN3.out hB38 (Nat.le_refl _)) hq (Nat.le_refl _)
    have HAq : Hid (∀ wq, Below w8.heap.size w8 wq → OT w.heap.size wq (.slice (some ⟨ga, 0, none⟩) (aud.length + 2) ca) (aud ++ [mkT, mkT])) := fun wq hq => own_below (own_below HT3.out hB38 (Nat.le_refl _)) hq (Nat.le_refl _)
    have HOq : Hid (∀ wq, Below w8.heap.size w8 wq → OT w.heap.size wq (.slice (some ⟨gn, 0, none⟩) (nl.length + 2) cn) (nl ++ [mkT, mkT])) := fun wq hq => own_below (own_mono2 (own_below HO7.out hA8 (Nat.le_refl _)) HSX.out) hq (Nat.le_refl _)
    have HPC : Hid (∀ (wq : World) (X Y : List (List UInt8)), Below w.heap.size w wq → NO w.heap.size wq (.slice (some ⟨gv, 0, none⟩) (l.length + 2) cv) (l ++ [mkN, mkN]) → X.length = aud.length + 2 → Y.length = nl.length + 2 → OT w.heap.size wq (.slice (some ⟨ga, 0, none⟩) (aud.length + 2) ca) X → OT w.heap.size wq (.slice (some ⟨gn, 0, none⟩) (nl.length + 2) cn) Y → Calls Tryd.prog 6 #[.agg #[.slice (some ⟨gv, 0, none⟩) l.length cv, .string ⟨iss.toArray⟩, .bool hIss, .string ⟨sub.toArray⟩, .bool hSub, .slice (some ⟨ga, 0, none⟩) aud.length ca, .bool hAud, .string ⟨jti.toArray⟩, .bool hJti, .bool ex.has, .int .i64 ex.at_, .bool nb.has, .int .i64 nb.at_, .bool it.has, .int .i64 it.at_], .agg #[.slice pa0 pn pc0, .string ⟨pi.toArray⟩, .bool pHi, .string ⟨pa.toArray⟩, .bool pHa, .string ⟨ty.toArray⟩, .bool wt, .int .i64 lee, .slice (some ⟨gn, 0, none⟩) nl.length cn]] wq fun e w' => e = .returned (.int .i64 (checkB (lackG l (Y.take nl.length)) iss hIss (X.take aud.length) hAud pi pHi pa pHa : Nat)) ∧ Below wq.heap.size wq w') := fun wq X Y hq hn hX hY hx hy => by
      have t1 : TR wq (.slice (some ⟨ga, 0, none⟩) aud.length ca) (X.take aud.length) (some ⟨ga, 0, none⟩) ca := by
        have := tr_pre (l := X.take aud.length) (M := X.drop aud.length) (n := aud.length + 2) (by rw [List.take_append_drop]; exact hx)
        rwa [List.length_take_of_le (by omega)] at this
      have t2 : TR wq (.slice (some ⟨gn, 0, none⟩) nl.length cn) (Y.take nl.length) (some ⟨gn, 0, none⟩) cn := by
        have := tr_pre (l := Y.take nl.length) (M := Y.drop nl.length) (n := nl.length + 2) (by rw [List.take_append_drop]; exact hy)
        rwa [List.length_take_of_le (by omega)] at this
      have := check_any l (some ⟨gv, 0, none⟩) cv (X.take aud.length) (some ⟨ga, 0, none⟩) ca ⟨l, iss, hIss, sub, hSub, aud, hAud, jti, hJti, ex, nb, it⟩ (.slice pa0 pn pc0) pi pHi pa pHa ty wt lee (Y.take nl.length) (some ⟨gn, 0, none⟩) cn wq (nr_pre hn) (by rw [List.length_take_of_le (by omega)]; exact t1) (by rw [List.length_take_of_le (by omega)]; exact t2) (HGq.out wq hq) HTB.out (by omega) (by rw [List.length_take_of_le (by omega)]; omega) (by rw [List.length_take_of_le (by omega)]; omega)
      rw [List.length_take_of_le (show aud.length ≤ X.length by omega), List.length_take_of_le (show nl.length ≤ Y.length by omega)] at this
      exact this
    have HDC : Hid (shapedF l = true → ∀ (wq : World) (X Y : List (List UInt8)), NO w.heap.size wq (.slice (some ⟨gv, 0, none⟩) (l.length + 2) cv) (l ++ [mkN, mkN]) → X.length = aud.length + 2 → Y.length = nl.length + 2 → OT w.heap.size wq (.slice (some ⟨ga, 0, none⟩) (aud.length + 2) ca) X → OT w.heap.size wq (.slice (some ⟨gn, 0, none⟩) (nl.length + 2) cn) Y → Calls Tryd.prog 10 #[.agg #[.slice (some ⟨gv, 0, none⟩) l.length cv, .string ⟨iss.toArray⟩, .bool hIss, .string ⟨sub.toArray⟩, .bool hSub, .slice (some ⟨ga, 0, none⟩) aud.length ca, .bool hAud, .string ⟨jti.toArray⟩, .bool hJti, .bool ex.has, .int .i64 ex.at_, .bool nb.has, .int .i64 nb.at_, .bool it.has, .int .i64 it.at_], .agg #[.slice pa0 pn pc0, .string ⟨pi.toArray⟩, .bool pHi, .string ⟨pa.toArray⟩, .bool pHa, .string ⟨ty.toArray⟩, .bool wt, .int .i64 lee, .slice (some ⟨gn, 0, none⟩) nl.length cn]] wq fun e w' => e = .returned (.int .i64 (checkB (lackG l (Y.take nl.length)) iss hIss (X.take aud.length) hAud pi pHi pa pHa : Nat)) ∧ Below wq.heap.size wq w') := fun hs wq X Y hn hX hY hx hy => by
      have t1 := tr_pre (l := X.take aud.length) (M := X.drop aud.length) (n := aud.length + 2) (by rw [List.take_append_drop]; exact hx)
      have t2 := tr_pre (l := Y.take nl.length) (M := Y.drop nl.length) (n := nl.length + 2) (by rw [List.take_append_drop]; exact hy)
      have := rcheck_any l (some ⟨gv, 0, none⟩) cv (X.take aud.length) (some ⟨ga, 0, none⟩) ca iss hIss sub hSub hAud jti hJti ex nb it (.slice pa0 pn pc0) pi pHi pa pHa ty wt lee (Y.take nl.length) (some ⟨gn, 0, none⟩) cn wq (nr_pre hn) t1 t2 hs (by omega) (by rw [List.length_take_of_le (by omega)]; omega) (by rw [List.length_take_of_le (by omega)]; omega)
      rw [List.length_take_of_le (show aud.length ≤ X.length by omega), List.length_take_of_le (show nl.length ≤ Y.length by omega)] at this
      exact this
    have HDP : Hid (shapedF l = true → ∀ (wq : World) (X : List (List UInt8)), Below w.heap.size w wq → NO w.heap.size wq (.slice (some ⟨gv, 0, none⟩) (l.length + 2) cv) (l ++ [mkN, mkN]) → X.length = aud.length + 2 → OT w.heap.size wq (.slice (some ⟨ga, 0, none⟩) (aud.length + 2) ca) X → Calls Tryd.prog 10 #[.agg #[.slice (some ⟨gv, 0, none⟩) l.length cv, .string ⟨iss.toArray⟩, .bool hIss, .string ⟨sub.toArray⟩, .bool hSub, .slice (some ⟨ga, 0, none⟩) aud.length ca, .bool hAud, .string ⟨jti.toArray⟩, .bool hJti, .bool ex.has, .int .i64 ex.at_, .bool nb.has, .int .i64 nb.at_, .bool it.has, .int .i64 it.at_], .agg #[.slice pa0 pn pc0, .string ⟨pi.toArray⟩, .bool pHi, .string ⟨pa.toArray⟩, .bool pHa, .string ⟨ty.toArray⟩, .bool wt, .int .i64 lee, .slice na nl.length nc]] wq fun e w' => e = .returned (.int .i64 (checkB (lackG l nl) iss hIss (X.take aud.length) hAud pi pHi pa pHa : Nat)) ∧ Below wq.heap.size wq w') := fun hs wq X hq hn hX hx => by
      have t1 := tr_pre (l := X.take aud.length) (M := X.drop aud.length) (n := aud.length + 2) (by rw [List.take_append_drop]; exact hx)
      have := rcheck_any l (some ⟨gv, 0, none⟩) cv (X.take aud.length) (some ⟨ga, 0, none⟩) ca iss hIss sub hSub hAud jti hJti ex nb it (.slice pa0 pn pc0) pi pHi pa pHa ty wt lee nl na nc wq (nr_pre hn) t1 (HTn.out wq hq) hs (by omega) (by omega) (by rw [List.length_take_of_le (by omega)]; omega)
      rw [List.length_take_of_le (show aud.length ≤ X.length by omega)] at this
      exact this
    have HD0 : Hid (shapedF l = true → ∀ (wq : World), Below w.heap.size w wq → Calls Tryd.prog 10 #[.agg #[.slice va l.length vc, .string ⟨iss.toArray⟩, .bool hIss, .string ⟨sub.toArray⟩, .bool hSub, .slice aa aud.length ac, .bool hAud, .string ⟨jti.toArray⟩, .bool hJti, .bool ex.has, .int .i64 ex.at_, .bool nb.has, .int .i64 nb.at_, .bool it.has, .int .i64 it.at_], .agg #[.slice pa0 pn pc0, .string ⟨pi.toArray⟩, .bool pHi, .string ⟨pa.toArray⟩, .bool pHa, .string ⟨ty.toArray⟩, .bool wt, .int .i64 lee, .slice na nl.length nc]] wq fun e w' => e = .returned (.int .i64 (checkB (lackG l nl) iss hIss aud hAud pi pHi pa pHa : Nat)) ∧ Below wq.heap.size wq w') := fun hs wq hq => rcheck_any l va vc aud aa ac iss hIss sub hSub hAud jti hJti ex nb it (.slice pa0 pn pc0) pi pHi pa pHa ty wt lee nl na nc wq (HNq.out wq hq) (HTa.out wq hq) (HTn.out wq hq) hs (by omega) (by omega) (by omega)
    have CK := HPC.out w8 (aud ++ [mkT, mkT]) (nl ++ [mkT, mkT]) (HBq.out w8 HQ8.out) (HVq.out w8 (Below.refl _ _)) (by simp) (by simp) (HAq.out w8 (Below.refl _ _)) (HOq.out w8 (Below.refl _ _))
    rw [List.take_left' rfl, List.take_left' rfl] at CK
    obtain ⟨E, hE⟩ : ∃ E, checkB (lackG l nl) iss hIss aud hAud pi pHi pa pHa = E := ⟨_, rfl⟩
    rw [hE] at CK HD0
    have hcl2 : (Tryd.prog.info? 27).map (·.size) = some ([.slice (some ⟨gv, 0, none⟩) l.length cv, .string ⟨iss.toArray⟩, .bool hIss, .string ⟨sub.toArray⟩, .bool hSub, .slice (some ⟨ga, 0, none⟩) aud.length ca, .bool hAud, .string ⟨jti.toArray⟩, .bool hJti, .bool ex.has, .int .i64 ex.at_, .bool nb.has, .int .i64 nb.at_, .bool it.has, .int .i64 it.at_] : List Value).length := hcl
    have hcp2 : (Tryd.prog.info? 29).map (·.size) = some ([.slice pa0 pn pc0, .string ⟨pi.toArray⟩, .bool pHi, .string ⟨pa.toArray⟩, .bool pHa, .string ⟨ty.toArray⟩, .bool wt, .int .i64 lee, .slice (some ⟨gn, 0, none⟩) nl.length cn] : List Value).length := hcp
    have pm := bl_rng2 (HDq.out w8 (Below.refl _ _))
    have pq := bl_rng2 (HPq.out w8 (Below.refl _ _))
    clear hw8 hA8 hq8 hbqe hB38 p7 k8 HB7 HO7 HQ7 HD3 HN3 HT3 HLn HSX HTB HGq hE
    go_wp2_with (first | (refine wpList_load_mid rfl 27 (.tmp 5) rfl bm 0 rfl [.slice (some ⟨gv, 0, none⟩) l.length cv, .string ⟨iss.toArray⟩, .bool hIss, .string ⟨sub.toArray⟩, .bool hSub, .slice (some ⟨ga, 0, none⟩) aud.length ca, .bool hAud, .string ⟨jti.toArray⟩, .bool hJti, .bool ex.has, .int .i64 ex.at_, .bool nb.has, .int .i64 nb.at_, .bool it.has, .int .i64 it.at_] _ pm Tryd.underlying27 rfl hcl2 ?_) | (refine wpList_load_mid rfl 29 (.tmp 7) rfl bq 0 rfl [.slice pa0 pn pc0, .string ⟨pi.toArray⟩, .bool pHi, .string ⟨pa.toArray⟩, .bool pHa, .string ⟨ty.toArray⟩, .bool wt, .int .i64 lee, .slice (some ⟨gn, 0, none⟩) nl.length cn] _ pq Tryd.underlying29 rfl hcp2 ?_) | fail)
    refine CK.mono ?_
    clear CK pm pq
    rintro e w9 ⟨rfl, hb9⟩
    have HY9 : Hid (Below w8.heap.size w8 w9) := hb9
    have CS := cspared_any l va vc aud aa ac iss hIss sub hSub hAud jti hJti ex nb it gv cv ga ca w.heap.size w9 (HNq.out w9 (HBq.out w9 (HWq.out w9 hb9))) (HTa.out w9 (HBq.out w9 (HWq.out w9 hb9))) (HVq.out w9 hb9) (HAq.out w9 hb9) (by omega) (by omega)
    have pm := bl_rng2 (HDq.out w9 hb9)
    have pc := bl_rng2 (HBc.out w9 (HWq.out w9 hb9))
    clear hb9
    go_wp2_with (first | (refine wpList_load_mid rfl 27 (.tmp 5) rfl bm 0 rfl [.slice (some ⟨gv, 0, none⟩) l.length cv, .string ⟨iss.toArray⟩, .bool hIss, .string ⟨sub.toArray⟩, .bool hSub, .slice (some ⟨ga, 0, none⟩) aud.length ca, .bool hAud, .string ⟨jti.toArray⟩, .bool hJti, .bool ex.has, .int .i64 ex.at_, .bool nb.has, .int .i64 nb.at_, .bool it.has, .int .i64 it.at_] _ pm Tryd.underlying27 rfl hcl2 ?_) | (refine wpList_load_mid rfl 27 (.tmp 2) rfl w.heap.size 0 rfl [.slice va l.length vc, .string ⟨iss.toArray⟩, .bool hIss, .string ⟨sub.toArray⟩, .bool hSub, .slice aa aud.length ac, .bool hAud, .string ⟨jti.toArray⟩, .bool hJti, .bool ex.has, .int .i64 ex.at_, .bool nb.has, .int .i64 nb.at_, .bool it.has, .int .i64 it.at_] _ pc Tryd.underlying27 rfl hcl ?_) | fail)
    refine CS.mono ?_
    clear CS pm pc
    rintro e w10 ⟨rfl, hb10⟩
    have HY10 : Hid (Below w8.heap.size w8 w10) := HY9.out.trans (hb10.mono HY9.out.size)
    clear hb10 HY9
    have kq : w10.cell? ⟨bq, 8, none⟩ = some (.slice (some ⟨gn, 0, none⟩) nl.length cn) := (HPq.out w10 HY10.out).cell 8 (by simp)
    have kp : w10.cell? ⟨w.heap.size + 1, 8, none⟩ = some (.slice na nl.length nc) := (HBp.out w10 (HWq.out w10 HY10.out)).cell 8 (by simp)
    have CT := stexts_any nl nl (some ⟨gn, 0, none⟩) na cn nc w10 (tr_pre (HOq.out w10 HY10.out)) (HTn.out w10 (HBq.out w10 (HWq.out w10 HY10.out))) (by omega)
    rw [decide_eq_true rfl] at CT
    go_wp2_with fail
    refine CT.mono ?_
    clear CT kq kp
    rintro e w11' ⟨rfl, q11, rfl⟩
    have HY11 : Hid (Below w8.heap.size w8 (w10.drewN q11)) := below_drewN HY10.out q11
    generalize w10.drewN q11 = w11 at *
    clear HY10
    have kp : w11.cell? ⟨w.heap.size + 1, 8, none⟩ = some (.slice na nl.length nc) := (HBp.out w11 (HWq.out w11 HY11.out)).cell 8 (by simp)
    have kc : w11.cell? ⟨w.heap.size, 0, none⟩ = some (.slice va l.length vc) := (HBc.out w11 (HWq.out w11 HY11.out)).cell 0 (by simp)
    have m0 := ot_mark (HOq.out w11 HY11.out) 0 (by decide)
    have m1 := ot_mark (HOq.out w11 HY11.out) 1 (by decide)
    rw [Nat.add_zero] at m0
    have CSh := HSh.out w11 (HBq.out w11 (HWq.out w11 HY11.out))
    have qb0 : (nl.length : Int) < (nl.length : Int) + 2 := by omega
    have qb1 : (nl.length : Int) + 1 < (nl.length : Int) + 2 := by omega
    clear HSh
    go_wp2_with fail
    refine CSh.mono ?_
    clear CSh kp kc m0 m1
    rintro e w12 ⟨rfl, hb12⟩
    have HY12 : Hid (Below w8.heap.size w8 w12) := HY11.out.trans (hb12.mono HY11.out.size)
    clear hb12 HY11
    cases hs : shapedF l
    · have HZ : Hid (Below w.heap.size w w12) := HBq.out w12 (HWq.out w12 HY12.out)
      clear hs HPC HDC HDP HD0
      go_wp2
      go_ret
      exact ⟨rfl, HZ.out⟩
    · have HDC2 : Hid (∀ (wq : World) (X Y : List (List UInt8)), NO w.heap.size wq (.slice (some ⟨gv, 0, none⟩) (l.length + 2) cv) (l ++ [mkN, mkN]) → X.length = aud.length + 2 → Y.length = nl.length + 2 → OT w.heap.size wq (.slice (some ⟨ga, 0, none⟩) (aud.length + 2) ca) X → OT w.heap.size wq (.slice (some ⟨gn, 0, none⟩) (nl.length + 2) cn) Y → Calls Tryd.prog 10 #[.agg #[.slice (some ⟨gv, 0, none⟩) l.length cv, .string ⟨iss.toArray⟩, .bool hIss, .string ⟨sub.toArray⟩, .bool hSub, .slice (some ⟨ga, 0, none⟩) aud.length ca, .bool hAud, .string ⟨jti.toArray⟩, .bool hJti, .bool ex.has, .int .i64 ex.at_, .bool nb.has, .int .i64 nb.at_, .bool it.has, .int .i64 it.at_], .agg #[.slice pa0 pn pc0, .string ⟨pi.toArray⟩, .bool pHi, .string ⟨pa.toArray⟩, .bool pHa, .string ⟨ty.toArray⟩, .bool wt, .int .i64 lee, .slice (some ⟨gn, 0, none⟩) nl.length cn]] wq fun e w' => e = .returned (.int .i64 (checkB (lackG l (Y.take nl.length)) iss hIss (X.take aud.length) hAud pi pHi pa pHa : Nat)) ∧ Below wq.heap.size wq w') := HDC.out hs
      have HDP2 : Hid (∀ (wq : World) (X : List (List UInt8)), Below w.heap.size w wq → NO w.heap.size wq (.slice (some ⟨gv, 0, none⟩) (l.length + 2) cv) (l ++ [mkN, mkN]) → X.length = aud.length + 2 → OT w.heap.size wq (.slice (some ⟨ga, 0, none⟩) (aud.length + 2) ca) X → Calls Tryd.prog 10 #[.agg #[.slice (some ⟨gv, 0, none⟩) l.length cv, .string ⟨iss.toArray⟩, .bool hIss, .string ⟨sub.toArray⟩, .bool hSub, .slice (some ⟨ga, 0, none⟩) aud.length ca, .bool hAud, .string ⟨jti.toArray⟩, .bool hJti, .bool ex.has, .int .i64 ex.at_, .bool nb.has, .int .i64 nb.at_, .bool it.has, .int .i64 it.at_], .agg #[.slice pa0 pn pc0, .string ⟨pi.toArray⟩, .bool pHi, .string ⟨pa.toArray⟩, .bool pHa, .string ⟨ty.toArray⟩, .bool wt, .int .i64 lee, .slice na nl.length nc]] wq fun e w' => e = .returned (.int .i64 (checkB (lackG l nl) iss hIss (X.take aud.length) hAud pi pHi pa pHa : Nat)) ∧ Below wq.heap.size wq w') := HDP.out hs
      have CD := HD0.out hs w12 (HBq.out w12 (HWq.out w12 HY12.out))
      have pc := bl_rng2 (HBc.out w12 (HWq.out w12 HY12.out))
      have pp := bl_rng2 (HBp.out w12 (HWq.out w12 HY12.out))
      clear hs HDC HDP HD0
      go_wp2_with (first | (refine wpList_load_mid rfl 27 (.tmp 2) rfl w.heap.size 0 rfl [.slice va l.length vc, .string ⟨iss.toArray⟩, .bool hIss, .string ⟨sub.toArray⟩, .bool hSub, .slice aa aud.length ac, .bool hAud, .string ⟨jti.toArray⟩, .bool hJti, .bool ex.has, .int .i64 ex.at_, .bool nb.has, .int .i64 nb.at_, .bool it.has, .int .i64 it.at_] _ pc Tryd.underlying27 rfl hcl ?_) | (refine wpList_load_mid rfl 29 (.tmp 3) rfl (w.heap.size + 1) 0 rfl [.slice pa0 pn pc0, .string ⟨pi.toArray⟩, .bool pHi, .string ⟨pa.toArray⟩, .bool pHa, .string ⟨ty.toArray⟩, .bool wt, .int .i64 lee, .slice na nl.length nc] _ pp Tryd.underlying29 rfl hcp ?_) | fail)
      refine CD.mono ?_
      clear CD pc pp
      rintro e w13 ⟨rfl, hb13⟩
      have HY13 : Hid (Below w8.heap.size w8 w13) := HY12.out.trans (hb13.mono HY12.out.size)
      clear hb13 HY12
      have HCJ : Hid (CJ w (w.heap.size + 1) bm bq gv ga gn cv ca cn l.length aud.length nl.length [.slice pa0 pn pc0, .string ⟨pi.toArray⟩, .bool pHi, .string ⟨pa.toArray⟩, .bool pHa, .string ⟨ty.toArray⟩, .bool wt, .int .i64 lee, .slice na nl.length nc] [.slice (some ⟨gv, 0, none⟩) l.length cv, .string ⟨iss.toArray⟩, .bool hIss, .string ⟨sub.toArray⟩, .bool hSub, .slice (some ⟨ga, 0, none⟩) aud.length ca, .bool hAud, .string ⟨jti.toArray⟩, .bool hJti, .bool ex.has, .int .i64 ex.at_, .bool nb.has, .int .i64 nb.at_, .bool it.has, .int .i64 it.at_] [.slice pa0 pn pc0, .string ⟨pi.toArray⟩, .bool pHi, .string ⟨pa.toArray⟩, .bool pHa, .string ⟨ty.toArray⟩, .bool wt, .int .i64 lee, .slice (some ⟨gn, 0, none⟩) nl.length cn] (l ++ [mkN, mkN]) (fun Y => Y = nl ++ [mkT, mkT]) (1048576) (1048576) w13) := ⟨HBq.out w13 (HWq.out w13 HY13.out), HBp.out w13 (HWq.out w13 HY13.out), HDq.out w13 HY13.out, HPq.out w13 HY13.out, HVq.out w13 HY13.out, ⟨aud ++ [mkT, mkT], ⟨by simp, fun x hx => by
        rcases List.mem_append.1 hx with hx | hx
        · exact HML.out x hx
        · simp at hx
          rw [hx]
          decide⟩, HAq.out w13 HY13.out⟩, nl ++ [mkT, mkT], ⟨by simp, fun x hx => by
        rcases List.mem_append.1 hx with hx | hx
        · exact HMN.out x hx
        · simp at hx
          rw [hx]
          decide, rfl⟩, HOq.out w13 HY13.out⟩
      clear HY13 HBq HWq HBp HBc HDq HPq HVq HAq HOq HNq HTa HML HMN HSW HQ1 HS1 HLv HQ3 HC7 HQ8 qb0 qb1 hcn hcnI
      go_wp2
      go_loopw [9] (fun s wx => ∃ k : Nat, s = .int .i64 k ∧ k ≤ aud.length ∧ CJ w (w.heap.size + 1) bm bq gv ga gn cv ca cn l.length aud.length nl.length [.slice pa0 pn pc0, .string ⟨pi.toArray⟩, .bool pHi, .string ⟨pa.toArray⟩, .bool pHa, .string ⟨ty.toArray⟩, .bool wt, .int .i64 lee, .slice na nl.length nc] [.slice (some ⟨gv, 0, none⟩) l.length cv, .string ⟨iss.toArray⟩, .bool hIss, .string ⟨sub.toArray⟩, .bool hSub, .slice (some ⟨ga, 0, none⟩) aud.length ca, .bool hAud, .string ⟨jti.toArray⟩, .bool hJti, .bool ex.has, .int .i64 ex.at_, .bool nb.has, .int .i64 nb.at_, .bool it.has, .int .i64 it.at_] [.slice pa0 pn pc0, .string ⟨pi.toArray⟩, .bool pHi, .string ⟨pa.toArray⟩, .bool pHa, .string ⟨ty.toArray⟩, .bool wt, .int .i64 lee, .slice (some ⟨gn, 0, none⟩) nl.length cn] (l ++ [mkN, mkN]) (fun Y => Y = nl ++ [mkT, mkT]) (1048576 + k) (1048576) wx) (fun s _ => aud.length - (intOf s).toNat)
      case atStart => exact ⟨0, rfl, Nat.zero_le _, HCJ.out⟩
      case round =>
        obtain ⟨k, rfl, hk, hci⟩ := hrel
        have HC : Hid (CJ w (w.heap.size + 1) bm bq gv ga gn cv ca cn l.length aud.length nl.length [.slice pa0 pn pc0, .string ⟨pi.toArray⟩, .bool pHi, .string ⟨pa.toArray⟩, .bool pHa, .string ⟨ty.toArray⟩, .bool wt, .int .i64 lee, .slice na nl.length nc] [.slice (some ⟨gv, 0, none⟩) l.length cv, .string ⟨iss.toArray⟩, .bool hIss, .string ⟨sub.toArray⟩, .bool hSub, .slice (some ⟨ga, 0, none⟩) aud.length ca, .bool hAud, .string ⟨jti.toArray⟩, .bool hJti, .bool ex.has, .int .i64 ex.at_, .bool nb.has, .int .i64 nb.at_, .bool it.has, .int .i64 it.at_] [.slice pa0 pn pc0, .string ⟨pi.toArray⟩, .bool pHi, .string ⟨pa.toArray⟩, .bool pHa, .string ⟨ty.toArray⟩, .bool wt, .int .i64 lee, .slice (some ⟨gn, 0, none⟩) nl.length cn] (l ++ [mkN, mkN]) (fun Y => Y = nl ++ [mkT, mkT]) (1048576 + k) (1048576) wr) := hci
        have kb : wr.cell? ⟨bm, 5, none⟩ = some (.slice (some ⟨ga, 0, none⟩) aud.length ca) := hci.bm.cell 5 (by simp)
        clear HCJ
        by_cases hlt : k < aud.length
        · have q0 : decide ((k : Int) < (aud.length : Int)) = true := decide_eq_true (by omega)
          obtain ⟨X, ⟨hX, hXl⟩, hO⟩ := hci.as_
          obtain ⟨x, kc, kf, hxl⟩ := row_at hX hXl hO (show k < aud.length + 2 by omega)
          have hxm : x.length + 1 ≤ 9223372036854775807 := by omega
          have hxn : ¬ (9223372036854775807 < x.length + 1) := by omega
          have HXL : Hid (x.length ≤ 1048576 + k) := hxl
          clear hxl hX hXl hO
          clear hci HDC2 HDP2 HPC HTn
          go_wp2
          refine wp_region_tail 10 (by kernel_rfl) (by kernel_rfl) ?_
          simp only [List.take_succ_cons, List.take_zero, List.drop_succ_cons, List.drop_zero]
          repeat (first | go_big_quiet_skip | (go_big_quiet_want; go_big_quiet_op; go_big_quiet_on))
          refine wpQuiet_nil ?_
          have HC1 : Hid (CJ w (w.heap.size + 1) bm bq gv ga gn cv ca cn l.length aud.length nl.length [.slice pa0 pn pc0, .string ⟨pi.toArray⟩, .bool pHi, .string ⟨pa.toArray⟩, .bool pHa, .string ⟨ty.toArray⟩, .bool wt, .int .i64 lee, .slice na nl.length nc] [.slice (some ⟨gv, 0, none⟩) l.length cv, .string ⟨iss.toArray⟩, .bool hIss, .string ⟨sub.toArray⟩, .bool hSub, .slice (some ⟨ga, 0, none⟩) aud.length ca, .bool hAud, .string ⟨jti.toArray⟩, .bool hJti, .bool ex.has, .int .i64 ex.at_, .bool nb.has, .int .i64 nb.at_, .bool it.has, .int .i64 it.at_] [.slice pa0 pn pc0, .string ⟨pi.toArray⟩, .bool pHi, .string ⟨pa.toArray⟩, .bool pHa, .string ⟨ty.toArray⟩, .bool wt, .int .i64 lee, .slice (some ⟨gn, 0, none⟩) nl.length cn] (l ++ [mkN, mkN]) (fun Y => Y = nl ++ [mkT, mkT]) (1048576 + k) (1048576) (wr.drewN 1)) := HC.out.drewN 1
          have kc1 : (wr.drewN 1).cell? ⟨ga, k, none⟩ = some (.string ⟨x.toArray⟩) := kc
          have kf1 : (wr.drewN 1).frozen? ⟨ga, k, none⟩ = false := kf
          generalize wr.drewN 1 = wd at *
          go_wp2
          go_roundw
          case rel => exact ⟨k + 1, by go_num, by omega, by have h := HC1.out.text k (x ++ [120]) (1048576 + (k + 1)) (by have := HXL.out; rw [List.length_append, List.length_singleton]; omega) (by omega) HLa.out HGAN.out; unfold tV at h; exact h⟩
          case measure => simp [intOf]; omega
        · have q0 : decide ((k : Int) < (aud.length : Int)) = false := decide_eq_false (by omega)
          obtain ⟨X, ⟨hX, hXl⟩, hO⟩ := hci.as_
          obtain ⟨Y, ⟨hY, hYl, hYe⟩, hOY⟩ := hci.ns
          obtain ⟨F, hF⟩ : ∃ F, checkB (lackG l nl) iss hIss (X.take aud.length) hAud pi pHi pa pHa = F := ⟨_, rfl⟩
          have hYt : Y.take nl.length = nl := by rw [hYe]; exact List.take_left' rfl
          have CD := HDP2.out wr X hci.bel hci.vs hX hO
          rw [hF] at CD
          have HPC2 : Hid (∀ wq, Below wr.heap.size wr wq → Calls Tryd.prog 6 #[.agg #[.slice (some ⟨gv, 0, none⟩) l.length cv, .string ⟨iss.toArray⟩, .bool hIss, .string ⟨sub.toArray⟩, .bool hSub, .slice (some ⟨ga, 0, none⟩) aud.length ca, .bool hAud, .string ⟨jti.toArray⟩, .bool hJti, .bool ex.has, .int .i64 ex.at_, .bool nb.has, .int .i64 nb.at_, .bool it.has, .int .i64 it.at_], .agg #[.slice pa0 pn pc0, .string ⟨pi.toArray⟩, .bool pHi, .string ⟨pa.toArray⟩, .bool pHa, .string ⟨ty.toArray⟩, .bool wt, .int .i64 lee, .slice (some ⟨gn, 0, none⟩) nl.length cn]] wq fun e w' => e = .returned (.int .i64 (F : Nat)) ∧ Below wq.heap.size wq w') := fun wq hq => by
            have := HPC.out wq X Y (hci.bel.trans (hq.mono hci.bel.size)) (own_below hci.vs hq (Nat.le_refl _)) hX hY (own_below hO hq (Nat.le_refl _)) (own_below hOY hq (Nat.le_refl _))
            rw [hYt, hF] at this
            exact this
          have pm := bl_rng2 hci.bm
          have pp := bl_rng2 hci.bp
          clear hci HDP2 hF hX hXl hO hY hYl hYe hOY hYt
          go_wp2_with (first | (refine wpList_load_mid rfl 27 (.tmp 5) rfl bm 0 rfl [.slice (some ⟨gv, 0, none⟩) l.length cv, .string ⟨iss.toArray⟩, .bool hIss, .string ⟨sub.toArray⟩, .bool hSub, .slice (some ⟨ga, 0, none⟩) aud.length ca, .bool hAud, .string ⟨jti.toArray⟩, .bool hJti, .bool ex.has, .int .i64 ex.at_, .bool nb.has, .int .i64 nb.at_, .bool it.has, .int .i64 it.at_] _ pm Tryd.underlying27 rfl hcl2 ?_) | (refine wpList_load_mid rfl 29 (.tmp 3) rfl (w.heap.size + 1) 0 rfl [.slice pa0 pn pc0, .string ⟨pi.toArray⟩, .bool pHi, .string ⟨pa.toArray⟩, .bool pHa, .string ⟨ty.toArray⟩, .bool wt, .int .i64 lee, .slice na nl.length nc] _ pp Tryd.underlying29 rfl hcp ?_) | fail)
          refine CD.mono ?_
          clear CD pm pp kb
          rintro e w14 ⟨rfl, hb14⟩
          have HC2 : Hid (CJ w (w.heap.size + 1) bm bq gv ga gn cv ca cn l.length aud.length nl.length [.slice pa0 pn pc0, .string ⟨pi.toArray⟩, .bool pHi, .string ⟨pa.toArray⟩, .bool pHa, .string ⟨ty.toArray⟩, .bool wt, .int .i64 lee, .slice na nl.length nc] [.slice (some ⟨gv, 0, none⟩) l.length cv, .string ⟨iss.toArray⟩, .bool hIss, .string ⟨sub.toArray⟩, .bool hSub, .slice (some ⟨ga, 0, none⟩) aud.length ca, .bool hAud, .string ⟨jti.toArray⟩, .bool hJti, .bool ex.has, .int .i64 ex.at_, .bool nb.has, .int .i64 nb.at_, .bool it.has, .int .i64 it.at_] [.slice pa0 pn pc0, .string ⟨pi.toArray⟩, .bool pHi, .string ⟨pa.toArray⟩, .bool pHa, .string ⟨ty.toArray⟩, .bool wt, .int .i64 lee, .slice (some ⟨gn, 0, none⟩) nl.length cn] (l ++ [mkN, mkN]) (fun Y => Y = nl ++ [mkT, mkT]) (1048576 + k) (1048576) w14) := HC.out.below hb14
          have CK := HPC2.out w14 hb14
          have pm := bl_rng2 HC2.out.bm
          have pq := bl_rng2 HC2.out.bq
          clear hb14 HC HPC2
          go_wp2_with (first | (refine wpList_load_mid rfl 27 (.tmp 5) rfl bm 0 rfl [.slice (some ⟨gv, 0, none⟩) l.length cv, .string ⟨iss.toArray⟩, .bool hIss, .string ⟨sub.toArray⟩, .bool hSub, .slice (some ⟨ga, 0, none⟩) aud.length ca, .bool hAud, .string ⟨jti.toArray⟩, .bool hJti, .bool ex.has, .int .i64 ex.at_, .bool nb.has, .int .i64 nb.at_, .bool it.has, .int .i64 it.at_] _ pm Tryd.underlying27 rfl hcl2 ?_) | (refine wpList_load_mid rfl 29 (.tmp 7) rfl bq 0 rfl [.slice pa0 pn pc0, .string ⟨pi.toArray⟩, .bool pHi, .string ⟨pa.toArray⟩, .bool pHa, .string ⟨ty.toArray⟩, .bool wt, .int .i64 lee, .slice (some ⟨gn, 0, none⟩) nl.length cn] _ pq Tryd.underlying29 rfl hcp2 ?_) | fail)
          refine CK.mono ?_
          clear CK pm pq
          rintro e w15 ⟨rfl, hb15⟩
          have HC3 : Hid (CJ w (w.heap.size + 1) bm bq gv ga gn cv ca cn l.length aud.length nl.length [.slice pa0 pn pc0, .string ⟨pi.toArray⟩, .bool pHi, .string ⟨pa.toArray⟩, .bool pHa, .string ⟨ty.toArray⟩, .bool wt, .int .i64 lee, .slice na nl.length nc] [.slice (some ⟨gv, 0, none⟩) l.length cv, .string ⟨iss.toArray⟩, .bool hIss, .string ⟨sub.toArray⟩, .bool hSub, .slice (some ⟨ga, 0, none⟩) aud.length ca, .bool hAud, .string ⟨jti.toArray⟩, .bool hJti, .bool ex.has, .int .i64 ex.at_, .bool nb.has, .int .i64 nb.at_, .bool it.has, .int .i64 it.at_] [.slice pa0 pn pc0, .string ⟨pi.toArray⟩, .bool pHi, .string ⟨pa.toArray⟩, .bool pHa, .string ⟨ty.toArray⟩, .bool wt, .int .i64 lee, .slice (some ⟨gn, 0, none⟩) nl.length cn] (l ++ [mkN, mkN]) (fun _ => True) (1048576 + k) (1048576) w15) := (HC2.out.below hb15).loose
          clear hb15 HC2
          go_wp2
          go_loopw [11] (fun s wx => ∃ i : Nat, s = .int .i64 i ∧ i ≤ nl.length ∧ CJ w (w.heap.size + 1) bm bq gv ga gn cv ca cn l.length aud.length nl.length [.slice pa0 pn pc0, .string ⟨pi.toArray⟩, .bool pHi, .string ⟨pa.toArray⟩, .bool pHa, .string ⟨ty.toArray⟩, .bool wt, .int .i64 lee, .slice na nl.length nc] [.slice (some ⟨gv, 0, none⟩) l.length cv, .string ⟨iss.toArray⟩, .bool hIss, .string ⟨sub.toArray⟩, .bool hSub, .slice (some ⟨ga, 0, none⟩) aud.length ca, .bool hAud, .string ⟨jti.toArray⟩, .bool hJti, .bool ex.has, .int .i64 ex.at_, .bool nb.has, .int .i64 nb.at_, .bool it.has, .int .i64 it.at_] [.slice pa0 pn pc0, .string ⟨pi.toArray⟩, .bool pHi, .string ⟨pa.toArray⟩, .bool pHa, .string ⟨ty.toArray⟩, .bool wt, .int .i64 lee, .slice (some ⟨gn, 0, none⟩) nl.length cn] (l ++ [mkN, mkN]) (fun _ => True) (1048576 + k) (1048576 + i) wx) (fun s _ => nl.length - (intOf s).toNat)
          case atStart => exact ⟨0, rfl, Nat.zero_le _, HC3.out⟩
          case round =>
            obtain ⟨i, rfl, hi, hci⟩ := hrel
            have HC4 : Hid (CJ w (w.heap.size + 1) bm bq gv ga gn cv ca cn l.length aud.length nl.length [.slice pa0 pn pc0, .string ⟨pi.toArray⟩, .bool pHi, .string ⟨pa.toArray⟩, .bool pHa, .string ⟨ty.toArray⟩, .bool wt, .int .i64 lee, .slice na nl.length nc] [.slice (some ⟨gv, 0, none⟩) l.length cv, .string ⟨iss.toArray⟩, .bool hIss, .string ⟨sub.toArray⟩, .bool hSub, .slice (some ⟨ga, 0, none⟩) aud.length ca, .bool hAud, .string ⟨jti.toArray⟩, .bool hJti, .bool ex.has, .int .i64 ex.at_, .bool nb.has, .int .i64 nb.at_, .bool it.has, .int .i64 it.at_] [.slice pa0 pn pc0, .string ⟨pi.toArray⟩, .bool pHi, .string ⟨pa.toArray⟩, .bool pHa, .string ⟨ty.toArray⟩, .bool wt, .int .i64 lee, .slice (some ⟨gn, 0, none⟩) nl.length cn] (l ++ [mkN, mkN]) (fun _ => True) (1048576 + k) (1048576 + i) wr) := hci
            have kb : wr.cell? ⟨bq, 8, none⟩ = some (.slice (some ⟨gn, 0, none⟩) nl.length cn) := hci.bq.cell 8 (by simp)
            clear HC3
            by_cases hlt2 : i + 1 < nl.length
            · have q1 : decide ((i : Int) + 1 < (nl.length : Int)) = true := decide_eq_true (by omega)
              have q2 : (i : Int) + 1 < (nl.length : Int) := by omega
              have q3 : (i : Int) < (nl.length : Int) := by omega
              obtain ⟨Y, ⟨hY, hYl, _⟩, hO⟩ := hci.ns
              obtain ⟨x, kc, _, hxl⟩ := row_at hY hYl hO (show i + 1 < nl.length + 2 by omega)
              obtain ⟨x2, kc2, kf, _⟩ := row_at hY hYl hO (show i < nl.length + 2 by omega)
              have hxm : x.length + 1 ≤ 9223372036854775807 := by omega
              have hxn : ¬ (9223372036854775807 < x.length + 1) := by omega
              have HXL : Hid (x.length ≤ 1048576 + i) := hxl
              clear hxl hY hYl hO
              clear hci HDC2 HPC HTn
              go_wp2
              refine wp_region_tail 11 (by kernel_rfl) (by kernel_rfl) ?_
              simp only [List.take_succ_cons, List.take_zero, List.drop_succ_cons, List.drop_zero]
              repeat (first | go_big_quiet_skip | (go_big_quiet_want; go_big_quiet_op; go_big_quiet_on))
              refine wpQuiet_nil ?_
              have HC5 : Hid (CJ w (w.heap.size + 1) bm bq gv ga gn cv ca cn l.length aud.length nl.length [.slice pa0 pn pc0, .string ⟨pi.toArray⟩, .bool pHi, .string ⟨pa.toArray⟩, .bool pHa, .string ⟨ty.toArray⟩, .bool wt, .int .i64 lee, .slice na nl.length nc] [.slice (some ⟨gv, 0, none⟩) l.length cv, .string ⟨iss.toArray⟩, .bool hIss, .string ⟨sub.toArray⟩, .bool hSub, .slice (some ⟨ga, 0, none⟩) aud.length ca, .bool hAud, .string ⟨jti.toArray⟩, .bool hJti, .bool ex.has, .int .i64 ex.at_, .bool nb.has, .int .i64 nb.at_, .bool it.has, .int .i64 it.at_] [.slice pa0 pn pc0, .string ⟨pi.toArray⟩, .bool pHi, .string ⟨pa.toArray⟩, .bool pHa, .string ⟨ty.toArray⟩, .bool wt, .int .i64 lee, .slice (some ⟨gn, 0, none⟩) nl.length cn] (l ++ [mkN, mkN]) (fun _ => True) (1048576 + k) (1048576 + i) (wr.drewN 1)) := HC4.out.drewN 1
              have kc1 : (wr.drewN 1).cell? ⟨gn, i + 1, none⟩ = some (.string ⟨x.toArray⟩) := kc
              have kc3 : (wr.drewN 1).cell? ⟨gn, i, none⟩ = some (.string ⟨x2.toArray⟩) := kc2
              have kf1 : (wr.drewN 1).frozen? ⟨gn, i, none⟩ = false := kf
              generalize wr.drewN 1 = wd at *
              go_wp2
              go_roundw
              case rel => exact ⟨i + 1, by go_num, by omega, by have h := HC5.out.text2 i (x ++ [120]) (1048576 + (i + 1)) (by have := HXL.out; rw [List.length_append, List.length_singleton]; omega) (by omega) HLn2.out HGAN.out; unfold tV at h; exact h⟩
              case measure => simp [intOf]; omega
            · have q1 : decide ((i : Int) + 1 < (nl.length : Int)) = false := decide_eq_false (by omega)
              obtain ⟨X, ⟨hX, _⟩, hO⟩ := hci.as_
              obtain ⟨Y, ⟨hY, _⟩, hOY⟩ := hci.ns
              obtain ⟨G, hG⟩ : ∃ G, checkB (lackG l (Y.take nl.length)) iss hIss (X.take aud.length) hAud pi pHi pa pHa = G := ⟨_, rfl⟩
              have CD := HDC2.out wr X Y hci.vs hX hY hO hOY
              rw [hG] at CD
              have HPC2 : Hid (∀ wq, Below wr.heap.size wr wq → Calls Tryd.prog 6 #[.agg #[.slice (some ⟨gv, 0, none⟩) l.length cv, .string ⟨iss.toArray⟩, .bool hIss, .string ⟨sub.toArray⟩, .bool hSub, .slice (some ⟨ga, 0, none⟩) aud.length ca, .bool hAud, .string ⟨jti.toArray⟩, .bool hJti, .bool ex.has, .int .i64 ex.at_, .bool nb.has, .int .i64 nb.at_, .bool it.has, .int .i64 it.at_], .agg #[.slice pa0 pn pc0, .string ⟨pi.toArray⟩, .bool pHi, .string ⟨pa.toArray⟩, .bool pHa, .string ⟨ty.toArray⟩, .bool wt, .int .i64 lee, .slice (some ⟨gn, 0, none⟩) nl.length cn]] wq fun e w' => e = .returned (.int .i64 (G : Nat)) ∧ Below wq.heap.size wq w') := fun wq hq => by
                have := HPC.out wq X Y (hci.bel.trans (hq.mono hci.bel.size)) (own_below hci.vs hq (Nat.le_refl _)) hX hY (own_below hO hq (Nat.le_refl _)) (own_below hOY hq (Nat.le_refl _))
                rw [hG] at this
                exact this
              have pm := bl_rng2 hci.bm
              have pq := bl_rng2 hci.bq
              clear hci HDC2 HPC hG hX hO hY hOY
              go_wp2_with (first | (refine wpList_load_mid rfl 27 (.tmp 5) rfl bm 0 rfl [.slice (some ⟨gv, 0, none⟩) l.length cv, .string ⟨iss.toArray⟩, .bool hIss, .string ⟨sub.toArray⟩, .bool hSub, .slice (some ⟨ga, 0, none⟩) aud.length ca, .bool hAud, .string ⟨jti.toArray⟩, .bool hJti, .bool ex.has, .int .i64 ex.at_, .bool nb.has, .int .i64 nb.at_, .bool it.has, .int .i64 it.at_] _ pm Tryd.underlying27 rfl hcl2 ?_) | (refine wpList_load_mid rfl 29 (.tmp 7) rfl bq 0 rfl [.slice pa0 pn pc0, .string ⟨pi.toArray⟩, .bool pHi, .string ⟨pa.toArray⟩, .bool pHa, .string ⟨ty.toArray⟩, .bool wt, .int .i64 lee, .slice (some ⟨gn, 0, none⟩) nl.length cn] _ pq Tryd.underlying29 rfl hcp2 ?_) | fail)
              refine CD.mono ?_
              clear CD pm pq kb
              rintro e w16 ⟨rfl, hb16⟩
              have HC6 : Hid (CJ w (w.heap.size + 1) bm bq gv ga gn cv ca cn l.length aud.length nl.length [.slice pa0 pn pc0, .string ⟨pi.toArray⟩, .bool pHi, .string ⟨pa.toArray⟩, .bool pHa, .string ⟨ty.toArray⟩, .bool wt, .int .i64 lee, .slice na nl.length nc] [.slice (some ⟨gv, 0, none⟩) l.length cv, .string ⟨iss.toArray⟩, .bool hIss, .string ⟨sub.toArray⟩, .bool hSub, .slice (some ⟨ga, 0, none⟩) aud.length ca, .bool hAud, .string ⟨jti.toArray⟩, .bool hJti, .bool ex.has, .int .i64 ex.at_, .bool nb.has, .int .i64 nb.at_, .bool it.has, .int .i64 it.at_] [.slice pa0 pn pc0, .string ⟨pi.toArray⟩, .bool pHi, .string ⟨pa.toArray⟩, .bool pHa, .string ⟨ty.toArray⟩, .bool wt, .int .i64 lee, .slice (some ⟨gn, 0, none⟩) nl.length cn] (l ++ [mkN, mkN]) (fun _ => True) (1048576 + k) (1048576 + i) w16) := HC4.out.below hb16
              have CK := HPC2.out w16 hb16
              have pm := bl_rng2 HC6.out.bm
              have pq := bl_rng2 HC6.out.bq
              clear hb16 HC4 HPC2
              go_wp2_with (first | (refine wpList_load_mid rfl 27 (.tmp 5) rfl bm 0 rfl [.slice (some ⟨gv, 0, none⟩) l.length cv, .string ⟨iss.toArray⟩, .bool hIss, .string ⟨sub.toArray⟩, .bool hSub, .slice (some ⟨ga, 0, none⟩) aud.length ca, .bool hAud, .string ⟨jti.toArray⟩, .bool hJti, .bool ex.has, .int .i64 ex.at_, .bool nb.has, .int .i64 nb.at_, .bool it.has, .int .i64 it.at_] _ pm Tryd.underlying27 rfl hcl2 ?_) | (refine wpList_load_mid rfl 29 (.tmp 7) rfl bq 0 rfl [.slice pa0 pn pc0, .string ⟨pi.toArray⟩, .bool pHi, .string ⟨pa.toArray⟩, .bool pHa, .string ⟨ty.toArray⟩, .bool wt, .int .i64 lee, .slice (some ⟨gn, 0, none⟩) nl.length cn] _ pq Tryd.underlying29 rfl hcp2 ?_) | fail)
              refine CK.mono ?_
              clear CK pm pq
              rintro e w17 ⟨rfl, hb17⟩
              have HZ : Hid (Below w.heap.size w w17) := HC6.out.bel.trans (hb17.mono HC6.out.bel.size)
              clear hb17 HC6
              go_wp2
              go_ret
              exact ⟨rfl, HZ.out⟩
  · have HZ : Hid (Below w.heap.size w w1) := HBq.out w1 HQ1.out
    clear HCR HSh
    go_wp2
    go_ret
    exact ⟨rfl, HZ.out⟩

theorem ba_of (a : ByteArray) : (⟨a.data.toList.toArray⟩ : ByteArray) = a := by cases a; simp
theorem ts_of {l : List Nd} {N : Nat} (h : ∀ x ∈ l, x.text.length ≤ N ∧ x.key.length ≤ N) (hN : N ≤ 1000000000) : TS l := fun i hi => by
  have hm : l.getD i (nd0 0) ∈ l := by rw [List.getD_eq_getElem?_getD, List.getElem?_eq_getElem hi]; exact List.getElem_mem hi
  have := h _ hm
  omega
/-- The law, at claims and a policy of bounded size. -/
theorem checks_top (va : Option Addr) (vc : Nat) (aa : Option Addr) (ac : Nat) (c : Cm) (ao : Option Addr) (cap : Nat) (l : List (List UInt8)) (iss : ByteArray) (hi : Bool) (aud : ByteArray) (ha : Bool) (ty : List UInt8) (wt : Bool) (lee : Int) (na : Option Addr) (nc : Nat) (nl : List (List UInt8)) (N : Nat) (w : World)
    (h : NR w (.slice va c.val.length vc) c.val va vc) (hA : TR w (.slice aa c.aud.length ac) c.aud aa ac) (hN : TR w (.slice na nl.length nc) nl na nc) (hG : GL w.heap.size w) (ht : ∀ x ∈ c.val, x.text.length ≤ N ∧ x.key.length ≤ N) (hvn : va = none → vc = 0) (han : aa = none → ac = 0) (hnn : na = none → nc = 0) (hl : c.val.length ≤ N) (hal : c.aud.length ≤ N) (hnl : nl.length ≤ 1048576) (hml : ∀ x ∈ c.aud, x.length ≤ N) (hmn : ∀ x ∈ nl, x.length ≤ 1048576) (hb : N ≤ 1048576) :
    Calls Tryd.prog 3 #[clV (.slice va c.val.length vc) (.slice aa c.aud.length ac) c, plV (.slice ao l.length cap) iss hi aud ha ty wt lee (.slice na nl.length nc)] w fun e w' => e = .returned (.bool true) ∧ Below w.heap.size w w' := by
  have := checks_any c.val va vc c.aud aa ac c.iss c.hIss c.sub c.hSub c.hAud c.jti c.hJti c.exp c.nbf c.iat ao l.length cap iss.data.toList hi aud.data.toList ha ty wt lee nl na nc w h hA hN hG (fun x hx => by have := ht x hx; omega) (ts_of ht (by omega)) hvn han hnn (by omega) (by omega) (by omega) (fun x hx => by have := hml x hx; omega) hmn
  rw [ba_of, ba_of] at this
  exact this

end Go.Proofs.YtjaopeenkbcjcaaDoor
