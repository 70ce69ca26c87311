import Derived.Test.YtdhfjhdlimmjhaaGreatDoorQIY
import Derived.Test.YtdhfjhdlimmjhaaGreatDoorQDZ
import Derived.Test.YtdhfjhdlimmjhaaGreatDoorMAll
import Derived.Test.YtdhfjhdlimmjhaaGreatDoorQ2
import Derived.Test.YtdhfjhdlimmjhaaGreatDoorEZ
namespace Go.Proofs.YtdhfjhdlimmjhaaGreatDoor
open Go.RowKit Go.Shelf
set_option maxRecDepth 100000
set_option maxRecDepth 100000

theorem nCs_set22 (P : List Nd) (n m : Nd) (R : List Nd) (j : Nat) (v : Value) (hj : j < 6) (hm : (nC n).set j v = nC m) : (nCs (P ++ n :: R)).set (P.length * 6 + j) v = nCs (P ++ m :: R) := by
  have e1 : ∀ x : Nd, nCs (P ++ x :: R) = nCs P ++ (nC x ++ nCs R) := fun x => by rw [nCs_append]; rfl
  rw [e1, e1, List.set_append_right _ _ (by rw [nCs_length]; omega), nCs_length, show P.length * 6 + j - P.length * 6 = j by omega, List.set_append_left _ _ (by rw [nC_length]; exact hj), hm]
theorem no_cell22 {B : Nat} {w : World} {g n cap : Nat} {Y : List Nd} (h : NO B w (.slice (some ⟨g, 0, none⟩) n cap) Y) (hn : Y.length = n) (k j : Nat) (v : Value) (y : Nd) (hk : k < n) (hj : j < 6) (hy : (nC (Y.getD k (nd0 0))).set j v = nC y) :
    NO B (w.setCell ⟨g, k * 6 + j, none⟩ v) (.slice (some ⟨g, 0, none⟩) n cap) (Y.set k y) ∧ w.grownBy (w.setCell ⟨g, k * 6 + j, none⟩ v) (some g) := by
  have hN2 := h
  unfold NO at hN2
  rw [hn] at hN2
  have hd : Y.drop k = Y.getD k (nd0 0) :: Y.drop (k + 1) := by
    rw [List.drop_eq_getElem_cons (by omega), List.getD_eq_getElem?_getD, List.getElem?_eq_getElem (by omega)]
    rfl
  have hYk : Y = Y.take k ++ (Y.getD k (nd0 0) :: Y.drop (k + 1)) := by rw [← hd, List.take_append_drop]
  have hs := World.ownsRow.stored hN2 (k * 6 + j) v
  have hsn := nCs_set22 (Y.take k) (Y.getD k (nd0 0)) y (Y.drop (k + 1)) j v hj hy
  rw [List.length_take_of_le (by omega), ← hYk] at hsn
  rw [hsn] at hs
  refine ⟨?_, hs.2⟩
  unfold NO
  rw [List.length_set, hn, List.set_eq_take_append_cons_drop, if_pos (by omega)]
  exact hs.1
def turnK (k : Nat) (l : List Nd) : List Nd := (l.take k).map turnX ++ l.drop k
theorem turnK_length (k : Nat) (l : List Nd) : (turnK k l).length = l.length := by
  unfold turnK
  rw [List.length_append, List.length_map, List.length_take, List.length_drop]
  omega
theorem turnK_at {k : Nat} {l : List Nd} (hk : k < l.length) : (turnK k l).getD k (nd0 0) = l.getD k (nd0 0) := by
  unfold turnK
  rw [List.getD_eq_getElem?_getD, List.getElem?_append_right (by rw [List.length_map, List.length_take]; omega), List.length_map, List.length_take_of_le (by omega), Nat.sub_self, List.getElem?_drop, Nat.add_zero, List.getD_eq_getElem?_getD]
theorem turnK_set {k : Nat} {l : List Nd} (hk : k < l.length) : (turnK k l).set k (turnX (l.getD k (nd0 0))) = turnK (k + 1) l := by
  unfold turnK
  have hd : l.drop k = l.getD k (nd0 0) :: l.drop (k + 1) := by
    rw [List.drop_eq_getElem_cons hk, List.getD_eq_getElem?_getD, List.getElem?_eq_getElem hk]
    rfl
  rw [List.set_append_right _ _ (by rw [List.length_map, List.length_take]; omega), List.length_map, List.length_take_of_le (by omega), Nat.sub_self, hd, List.set_cons_zero, List.take_add_one, List.map_append, List.append_assoc, List.getD_eq_getElem?_getD, List.getElem?_eq_getElem hk]
  rfl
theorem turnK_all (l : List Nd) : turnK l.length l = l.map turnX := by unfold turnK; rw [List.take_length, List.drop_length, List.append_nil]
theorem turnK_same {k : Nat} {l : List Nd} (hk : k < l.length) (h5 : (l.getD k (nd0 0)).kind ≠ 5) : turnK (k + 1) l = turnK k l := by
  have e : turnX (l.getD k (nd0 0)) = (turnK k l).getD k (nd0 0) := by rw [turnK_at hk]; unfold turnX; rw [if_neg h5]
  rw [← turnK_set hk, e, List.getD_eq_getElem?_getD, List.getElem?_eq_getElem (by rw [turnK_length]; exact hk)]
  exact List.set_getElem_self _
theorem row_set22 {w0 wx : World} {X : List (List UInt8)} {g c n k N M : Nat} {y : List UInt8} (hX : X.length = n) (hXl : ∀ x ∈ X, x.length ≤ N) (hO : OT w0.heap.size wx (.slice (some ⟨g, 0, none⟩) n c) X) (hy : y.length ≤ M) (hM : N ≤ M) :
    ((X.set k y).length = n ∧ (∀ x ∈ X.set k y, x.length ≤ M)) ∧ OT w0.heap.size (wx.setCell ⟨g, k, none⟩ (tV y)) (.slice (some ⟨g, 0, none⟩) n c) (X.set k y) ∧ wx.grownBy (wx.setCell ⟨g, k, none⟩ (tV y)) (some g) := by
  have hO2 := hO
  unfold OT at hO2
  rw [hX] at hO2
  have hs := World.ownsRow.stored hO2 k (tV y)
  refine ⟨⟨by rw [List.length_set]; exact hX, fun x hx => ?_⟩, ?_, hs.2⟩
  · rcases List.mem_or_eq_of_mem_set hx with hx | hx
    · exact Nat.le_trans (hXl x hx) hM
    · rw [hx]; exact hy
  unfold OT
  rw [List.length_set, hX, List.map_set]
  exact hs.1
theorem row_at22 {w0 wx : World} {X : List (List UInt8)} {g c n k N : Nat} (hX : X.length = n) (hXl : ∀ x ∈ X, x.length ≤ N) (hO : OT w0.heap.size wx (.slice (some ⟨g, 0, none⟩) n c) X) (hk : k < n) :
    ∃ x : List UInt8, wx.cell? ⟨g, k, none⟩ = some (.string ⟨x.toArray⟩) ∧ wx.frozen? ⟨g, k, none⟩ = false ∧ x.length ≤ N := by
  unfold OT at hO
  rw [hX] at hO
  have hoc := own_cell hO k (tV (X.getD k [])) (by rw [List.getElem?_map, List.getElem?_eq_getElem (by omega), List.getD_eq_getElem?_getD, List.getElem?_eq_getElem (by omega)]; rfl)
  refine ⟨X.getD k [], hoc.1, hoc.2, hXl _ ?_⟩
  rw [List.getD_eq_getElem?_getD, List.getElem?_eq_getElem (show k < X.length by omega)]
  exact List.getElem_mem _

structure IJ (w : World) (bm gv ga cv ca n m : Nat) (cs ws ms : List Value) (V : List Nd) (N : Nat) (wx : World) : Prop where
  bel : Below w.heap.size w wx
  bc : Bl 27 wx w.heap.size cs
  bw : Bl 30 wx (w.heap.size + 1) ws
  bm : Bl 27 wx bm ms
  vs : NO w.heap.size wx (.slice (some ⟨gv, 0, none⟩) (n + 1) cv) (V ++ [mkN])
  as_ : ∃ X : List (List UInt8), (X.length = m + 1 ∧ ∀ x ∈ X, x.length ≤ N) ∧ OT w.heap.size wx (.slice (some ⟨ga, 0, none⟩) (m + 1) ca) X
theorem IJ.below {w wx : World} {bm gv ga cv ca n m : Nat} {cs ws ms : List Value} {V : List Nd} {N : Nat} {wy : World} (h : IJ w bm gv ga cv ca n m cs ws ms V N wx) (hb : Below wx.heap.size wx wy) : IJ w bm gv ga cv ca n m cs ws ms V N wy :=
  ⟨h.bel.trans (hb.mono h.bel.size), h.bc.below hb h.bc.lt, h.bw.below hb h.bw.lt, h.bm.below hb h.bm.lt, own_below h.vs hb (Nat.le_refl _), h.as_.elim fun X hX => ⟨X, hX.1, own_below hX.2 hb (Nat.le_refl _)⟩⟩
theorem IJ.drewN {w wx : World} {bm gv ga cv ca n m : Nat} {cs ws ms : List Value} {V : List Nd} {N : Nat} (h : IJ w bm gv ga cv ca n m cs ws ms V N wx) (q : Nat) : IJ w bm gv ga cv ca n m cs ws ms V N (wx.drewN q) := h.below (below_drewN (Below.refl _ _) q)
theorem IJ.text {w wx : World} {bm gv ga cv ca n m : Nat} {cs ws ms : List Value} {V : List Nd} {N : Nat} (h : IJ w bm gv ga cv ca n m cs ws ms V N wx) (k : Nat) (y : List UInt8) (N2 : Nat) (hy : y.length ≤ N2) (hM : N ≤ N2) : IJ w bm gv ga cv ca n m cs ws ms V N2 (wx.setCell ⟨ga, k, none⟩ (tV y)) := by
  obtain ⟨X, ⟨hX, hXl⟩, hO⟩ := h.as_
  have hs := row_set22 (k := k) hX hXl hO hy hM
  have hlo : w.heap.size ≤ ga := (hO.lt ga rfl).1
  exact ⟨h.bel.setCell hlo _, bl_grown' h.bc hs.2.2 (fun e => block_apart hO h.bc (by decide) e), bl_grown' h.bw hs.2.2 (fun e => block_apart hO h.bw (by decide) e), bl_grown' h.bm hs.2.2 (fun e => block_apart hO h.bm (by decide) e), own_keep h.vs fun g hg => hs.2.2.block g (h.vs.lt g hg).2 (fun e => kinds_apart h.vs hO (by decide) hg e.symm), ⟨_, hs.1, hs.2.1⟩⟩
theorem IJ.node {w wx : World} {bm gv ga cv ca n m : Nat} {cs ws ms : List Value} {V : List Nd} {N : Nat} (h : IJ w bm gv ga cv ca n m cs ws ms V N wx) (hV : V.length = n) (k : Nat) (hk : k < n) (y : List UInt8) : IJ w bm gv ga cv ca n m cs ws ms (V.set k { V.getD k (nd0 0) with text := y }) N (wx.setCell ⟨gv, k * 6 + 2, none⟩ (tV y)) := by
  obtain ⟨X, hX, hO⟩ := h.as_
  have eg : (V ++ [mkN]).getD k (nd0 0) = V.getD k (nd0 0) := by rw [List.getD_eq_getElem?_getD, List.getElem?_append_left (by omega), List.getD_eq_getElem?_getD]
  have hs := no_cell22 h.vs (by rw [List.length_append, hV]; rfl) k 2 (tV y) { V.getD k (nd0 0) with text := y } (by omega) (by decide) (by rw [eg]; rfl)
  rw [List.set_append_left _ _ (by omega)] at hs
  have hlo : w.heap.size ≤ gv := (h.vs.lt gv rfl).1
  exact ⟨h.bel.setCell hlo _, bl_grown' h.bc hs.2 (fun e => block_apart h.vs h.bc (by decide) e), bl_grown' h.bw hs.2 (fun e => block_apart h.vs h.bw (by decide) e), bl_grown' h.bm hs.2 (fun e => block_apart h.vs h.bm (by decide) e), hs.1, X, hX, own_keep hO fun g hg => hs.2.block g (hO.lt g hg).2 (fun e => kinds_apart hO h.vs (by decide) hg e.symm)⟩
theorem IJ.at {w wx : World} {bm gv ga cv ca n m : Nat} {cs ws ms : List Value} {V : List Nd} {N : Nat} (h : IJ w bm gv ga cv ca n m cs ws ms V N wx) (hV : V.length = n) (k j : Nat) (v : Value) (hk : k < n) (hj : j < 6) (hv : (nC (V.getD k (nd0 0)))[j]? = some v) : wx.cell? ⟨gv, k * 6 + j, none⟩ = some v ∧ wx.frozen? ⟨gv, k * 6 + j, none⟩ = false := by
  have hO := h.vs
  have e1 : (V ++ [mkN]).length = n + 1 := by rw [List.length_append, hV]; rfl
  unfold NO at hO
  rw [e1] at hO
  refine own_cell hO (k * 6 + j) v ?_
  rw [nCs_append, List.getElem?_append_left (by rw [nCs_length]; omega), nCs_at V k j (by omega) hj]
  exact hv
theorem IJ.la {w wx : World} {bm gv ga cv ca n m : Nat} {cs ws ms : List Value} {V : List Nd} {N : Nat} (h : IJ w bm gv ga cv ca n m cs ws ms V N wx) {c : Cm} (gl : GL wx.heap.size wx) (tb : Sha.Tb wx) {X : List (List UInt8)} (hX : X.length = m + 1) (hO : OT w.heap.size wx (.slice (some ⟨ga, 0, none⟩) (m + 1) ca) X) (hV : V.length ≤ 100000000) (hm : m ≤ 100000000) (ts : ∀ x ∈ V, x.text.length ≤ 100000000 ∧ x.key.length ≤ 100000000) (it : ∀ x ∈ V, I64 x.int) : LA wx { c with val := V, aud := X.take m } (some ⟨gv, 0, none⟩) cv (some ⟨ga, 0, none⟩) ca := by
  have t2 := tr_pre (l := X.take m) (M := X.drop m) (by rw [List.take_append_drop]; exact hO)
  exact ⟨nr_pre h.vs, t2, gl, tb, hV, by show (X.take m).length ≤ _; rw [List.length_take]; omega, ts, it⟩

set_option maxHeartbeats 4000000 in
theorem IJ.both {w wr : World} {bm gv ga cv ca : Nat} {cs ws ms : List Value} {V : List Nd} {N : Nat} {c : Cm} (h : IJ w bm gv ga cv ca c.val.length c.aud.length cs ws ms V N wr) (alg : Int) (tcl : List UInt8) (tno : List UInt8) (thN : Bool) (tac : List UInt8) (thA : Bool) (tco : List UInt8) (thC : Bool) (tag : Int) (thG : Bool) (tle : Int) (now : Int) (LQ : ∀ wq, Below w.heap.size w wq → GL wq.heap.size wq ∧ Sha.Tb wq ∧ Sha.Rt wq) (hV : V.length = c.val.length) (hsh : shapedF V = true) (ts : ∀ x ∈ V, x.text.length ≤ 100000000 ∧ x.key.length ≤ 100000000) (it : ∀ x ∈ V, I64 x.int) (hln : c.val.length ≤ 100000000) (hla : c.aud.length ≤ 100000000) (h1 : tac.length ≤ 100000000) (h2 : tco.length ≤ 100000000) (hn : now ≤ 9223372036854775807) :
    ∃ F : Int, (Calls Tryz.prog 10 #[.agg #[.slice (some ⟨gv, 0, none⟩) c.val.length cv, .string ⟨c.iss.toArray⟩, .bool c.hIss, .string ⟨c.sub.toArray⟩, .bool c.hSub, .slice (some ⟨ga, 0, none⟩) c.aud.length ca, .bool c.hAud, .string ⟨c.jti.toArray⟩, .bool c.hJti, .bool c.exp.has, .int .i64 c.exp.at_, .bool c.nbf.has, .int .i64 c.nbf.at_, .bool c.iat.has, .int .i64 c.iat.at_], .int .i64 alg, .agg #[.string ⟨tcl.toArray⟩, .string ⟨tno.toArray⟩, .bool thN, .string ⟨tac.toArray⟩, .bool thA, .string ⟨tco.toArray⟩, .bool thC, .int .i64 tag, .bool thG, .int .i64 tle], .int .i64 now] wr fun e w' => e = .returned (.int .i64 F) ∧ Below wr.heap.size wr w') ∧ ∀ wq, Below wr.heap.size wr wq → Calls Tryz.prog 6 #[.agg #[.slice (some ⟨gv, 0, none⟩) c.val.length cv, .string ⟨c.iss.toArray⟩, .bool c.hIss, .string ⟨c.sub.toArray⟩, .bool c.hSub, .slice (some ⟨ga, 0, none⟩) c.aud.length ca, .bool c.hAud, .string ⟨c.jti.toArray⟩, .bool c.hJti, .bool c.exp.has, .int .i64 c.exp.at_, .bool c.nbf.has, .int .i64 c.nbf.at_, .bool c.iat.has, .int .i64 c.iat.at_], .int .i64 alg, .agg #[.string ⟨tcl.toArray⟩, .string ⟨tno.toArray⟩, .bool thN, .string ⟨tac.toArray⟩, .bool thA, .string ⟨tco.toArray⟩, .bool thC, .int .i64 tag, .bool thG, .int .i64 tle], .int .i64 now] wq fun e w' => e = .returned (.int .i64 F) ∧ Below wq.heap.size wq w' := by
  obtain ⟨X, ⟨hX, _⟩, hO⟩ := h.as_
  have e1 : (X.take c.aud.length).length = c.aud.length := by rw [List.length_take_of_le (by omega)]
  have LL : ∀ wq, Below wr.heap.size wr wq → LA wq { c with val := V, aud := X.take c.aud.length } (some ⟨gv, 0, none⟩) cv (some ⟨ga, 0, none⟩) ca := fun wq hq => by
    have h3 := h.below hq
    have h4 := LQ wq h3.bel
    exact h3.la h4.1 h4.2.1 hX (own_below hO hq (Nat.le_refl _)) (by omega) hla ts it
  refine ⟨checkQ (mkQ { c with val := V, aud := X.take c.aud.length } (some ⟨gv, 0, none⟩) cv (some ⟨ga, 0, none⟩) ca alg ⟨tcl, tno, thN, tac, thA, tco, thC, tag, thG, tle⟩ now), ?_, fun wq hq => ?_⟩
  · have := rcheck22_any { c with val := V, aud := X.take c.aud.length } (some ⟨gv, 0, none⟩) cv (some ⟨ga, 0, none⟩) ca tcl tno thN tac thA tco thC tag thG tle wr (LL wr (Below.refl _ _)) hsh alg now (fun t wq ht hq => rhalf_any alg t wq (LQ wq (h.bel.trans (hq.mono h.bel.size))).2.2 ht) h1 h2
    rw [check_doc _ hsh hsh it] at this
    dsimp only at this
    rw [e1, hV] at this
    exact this
  · have := (LL wq hq).chk alg ⟨tcl, tno, thN, tac, thA, tco, thC, tag, thG, tle⟩ now (by dsimp only; omega) (by dsimp only; omega) hn
    dsimp only [clC, wtC] at this
    rw [e1, hV] at this
    exact this

end Go.Proofs.YtdhfjhdlimmjhaaGreatDoor
