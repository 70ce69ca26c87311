import Derived.Test.YtkfchdmlemcjhaaDoorKb5
import Derived.Test.YtkfchdmlemcjhaaDoorKf6
import Derived.Test.YtkfchdmlemcjhaaDoorVE
import Derived.Test.YtkfchdmlemcjhaaDoorXZ
namespace Go.Proofs.YtkfchdmlemcjhaaDoor
open Go.RowKit Go.Shelf
set_option maxRecDepth 100000

/-- A node whose text has a sign more, where it is a string. -/
def turnX (n : Nd) : Nd := if n.kind = 5 then { n with text := n.text ++ [120] } else n
theorem turnX_key (n : Nd) : (turnX n).key = n.key := by unfold turnX; split <;> rfl
theorem turnX_kids (n : Nd) : (turnX n).kids = n.kids := by unfold turnX; split <;> rfl
theorem turnX_kind (n : Nd) : (turnX n).kind = n.kind := by unfold turnX; split <;> rfl
theorem wm_turn {n : Nd} {d : Int} (h : wmF n d = true) : wmF (turnX n) d = true := by
  by_cases h5 : n.kind = 5
  · unfold turnX
    rw [if_pos h5]
    unfold wmF at h ⊢
    rw [if_neg (by omega), if_neg (by omega), if_pos h5, Bool.and_eq_true, decide_eq_true_eq] at h
    dsimp only
    rw [if_neg (by omega), if_neg (by omega), if_pos h5, Bool.and_eq_true, decide_eq_true_eq]
    refine ⟨valid_app h.1 [120] (by decide) _ (Nat.le_refl _), ?_⟩
    have e := h.2
    generalize n.text = tx at *
    generalize n.key = ky at *
    subst e
    rfl
  · unfold turnX
    rw [if_neg h5]
    exact h
theorem Sq.turn {d : Int} {ks : List (List UInt8)} {l : List Nd} (h : Sq d ks l) : Sq d ks (l.map turnX) := by
  induction h with
  | nil d => exact Sq.nil d
  | cons hw h1 hn hk h2 ih1 ih2 =>
    rename_i d n ks ks' r r'
    have := Sq.cons (wm_turn hw) ih1 (by rw [turnX_kids]; exact hn) (by rw [turnX_kind]; exact hk) ih2
    rw [turnX_key] at this
    rw [List.map_cons, List.map_append]
    exact this
theorem shaped_turn {l : List Nd} (h : shapedF l = true) : shapedF (l.map turnX) = true := (shaped_sq h).turn.shaped

theorem nCs_set22 (P : List Nd) (n m : Nd) (R : List Nd) (j : Nat) (v : Value) (hj : j < 6) (hm : (nC n).set j v = nC m) : (nCs (P ++ n :: R)).set (P.length * 6 + j) v = nCs (P ++ m :: R) := by
  have e1 : ∀ x : Nd, nCs (P ++ x :: R) = nCs P ++ (nC x ++ nCs R) := fun x => by rw [nCs_append]; rfl
  rw [e1, e1, List.set_append_right _ _ (by rw [nCs_length]; omega), nCs_length, show P.length * 6 + j - P.length * 6 = j by omega, List.set_append_left _ _ (by rw [nC_length]; exact hj), hm]
/-- One cell of a node is written over. -/
theorem no_cell22 {B : Nat} {w : World} {g n cap : Nat} {Y : List Nd} (h : NO B w (.slice (some ⟨g, 0, none⟩) n cap) Y) (hn : Y.length = n) (k j : Nat) (v : Value) (y : Nd) (hk : k < n) (hj : j < 6) (hy : (nC (Y.getD k (nd0 0))).set j v = nC y) :
    NO B (w.setCell ⟨g, k * 6 + j, none⟩ v) (.slice (some ⟨g, 0, none⟩) n cap) (Y.set k y) ∧ w.grownBy (w.setCell ⟨g, k * 6 + j, none⟩ v) (some g) := by
  have hN2 := h
  unfold NO at hN2
  rw [hn] at hN2
  have hd : Y.drop k = Y.getD k (nd0 0) :: Y.drop (k + 1) := by
    rw [List.drop_eq_getElem_cons (by omega), List.getD_eq_getElem?_getD, List.getElem?_eq_getElem (by omega)]
    rfl
  have hYk : Y = Y.take k ++ (Y.getD k (nd0 0) :: Y.drop (k + 1)) := by rw [← hd, List.take_append_drop]
  have hs := World.ownsRow.stored hN2 (k * 6 + j) v
  have hsn := nCs_set22 (Y.take k) (Y.getD k (nd0 0)) y (Y.drop (k + 1)) j v hj hy
  rw [List.length_take_of_le (by omega), ← hYk] at hsn
  rw [hsn] at hs
  refine ⟨?_, hs.2⟩
  unfold NO
  rw [List.length_set, hn, List.set_eq_take_append_cons_drop, if_pos (by omega)]
  exact hs.1
/-- The first k nodes turned. -/
def turnK (k : Nat) (l : List Nd) : List Nd := (l.take k).map turnX ++ l.drop k
theorem turnK_length (k : Nat) (l : List Nd) : (turnK k l).length = l.length := by
  unfold turnK
  rw [List.length_append, List.length_map, List.length_take, List.length_drop]
  omega
theorem turnK_at {k : Nat} {l : List Nd} (hk : k < l.length) : (turnK k l).getD k (nd0 0) = l.getD k (nd0 0) := by
  unfold turnK
  rw [List.getD_eq_getElem?_getD, List.getElem?_append_right (by rw [List.length_map, List.length_take]; omega), List.length_map, List.length_take_of_le (by omega), Nat.sub_self, List.getElem?_drop, Nat.add_zero, List.getD_eq_getElem?_getD]
theorem turnK_set {k : Nat} {l : List Nd} (hk : k < l.length) : (turnK k l).set k (turnX (l.getD k (nd0 0))) = turnK (k + 1) l := by
  unfold turnK
  have hd : l.drop k = l.getD k (nd0 0) :: l.drop (k + 1) := by
    rw [List.drop_eq_getElem_cons hk, List.getD_eq_getElem?_getD, List.getElem?_eq_getElem hk]
    rfl
  rw [List.set_append_right _ _ (by rw [List.length_map, List.length_take]; omega), List.length_map, List.length_take_of_le (by omega), Nat.sub_self, hd, List.set_cons_zero, List.take_add_one, List.map_append, List.append_assoc, List.getD_eq_getElem?_getD, List.getElem?_eq_getElem hk]
  rfl
theorem turnK_all (l : List Nd) : turnK l.length l = l.map turnX := by unfold turnK; rw [List.take_length, List.drop_length, List.append_nil]
theorem turnK_same {k : Nat} {l : List Nd} (hk : k < l.length) (h5 : (l.getD k (nd0 0)).kind ≠ 5) : turnK (k + 1) l = turnK k l := by
  have e : turnX (l.getD k (nd0 0)) = (turnK k l).getD k (nd0 0) := by rw [turnK_at hk]; unfold turnX; rw [if_neg h5]
  rw [← turnK_set hk, e, List.getD_eq_getElem?_getD, List.getElem?_eq_getElem (by rw [turnK_length]; exact hk)]
  exact List.set_getElem_self _
theorem row_set22 {w0 wx : World} {X : List (List UInt8)} {g c n k N M : Nat} {y : List UInt8} (hX : X.length = n) (hXl : ∀ x ∈ X, x.length ≤ N) (hO : OT w0.heap.size wx (.slice (some ⟨g, 0, none⟩) n c) X) (hy : y.length ≤ M) (hM : N ≤ M) :
    ((X.set k y).length = n ∧ (∀ x ∈ X.set k y, x.length ≤ M)) ∧ OT w0.heap.size (wx.setCell ⟨g, k, none⟩ (tV y)) (.slice (some ⟨g, 0, none⟩) n c) (X.set k y) ∧ wx.grownBy (wx.setCell ⟨g, k, none⟩ (tV y)) (some g) := by
  have hO2 := hO
  unfold OT at hO2
  rw [hX] at hO2
  have hs := World.ownsRow.stored hO2 k (tV y)
  refine ⟨⟨by rw [List.length_set]; exact hX, fun x hx => ?_⟩, ?_, hs.2⟩
  · rcases List.mem_or_eq_of_mem_set hx with hx | hx
    · exact Nat.le_trans (hXl x hx) hM
    · rw [hx]; exact hy
  unfold OT
  rw [List.length_set, hX, List.map_set]
  exact hs.1
theorem row_at22 {w0 wx : World} {X : List (List UInt8)} {g c n k N : Nat} (hX : X.length = n) (hXl : ∀ x ∈ X, x.length ≤ N) (hO : OT w0.heap.size wx (.slice (some ⟨g, 0, none⟩) n c) X) (hk : k < n) :
    ∃ x : List UInt8, wx.cell? ⟨g, k, none⟩ = some (.string ⟨x.toArray⟩) ∧ wx.frozen? ⟨g, k, none⟩ = false ∧ x.length ≤ N := by
  unfold OT at hO
  rw [hX] at hO
  have hoc := own_cell hO k (tV (X.getD k [])) (by rw [List.getElem?_map, List.getElem?_eq_getElem (by omega), List.getD_eq_getElem?_getD, List.getElem?_eq_getElem (by omega)]; rfl)
  refine ⟨X.getD k [], hoc.1, hoc.2, hXl _ ?_⟩
  rw [List.getD_eq_getElem?_getD, List.getElem?_eq_getElem (show k < X.length by omega)]
  exact List.getElem_mem _

/-- What stands while the lists are written over. -/
structure KJ (w : World) (gv ga cv ca n m : Nat) (v : Value) (cs : List Value) (y : Ex) (V : List Nd) (N : Nat) (wx : World) : Prop where
  bel : Below w.heap.size w wx
  bc : Bl 26 wx w.heap.size cs
  ro : LO w.heap.size wx v [y]
  vs : NO w.heap.size wx (.slice (some ⟨gv, 0, none⟩) (n + 2) cv) (V ++ [mkN, mkN])
  as_ : ∃ X : List (List UInt8), (X.length = m + 2 ∧ ∀ x ∈ X, x.length ≤ N) ∧ OT w.heap.size wx (.slice (some ⟨ga, 0, none⟩) (m + 2) ca) X
theorem KJ.below {w wx : World} {gv ga cv ca n m : Nat} {v : Value} {cs : List Value} {y : Ex} {V : List Nd} {N : Nat} {wy : World} (h : KJ w gv ga cv ca n m v cs y V N wx) (hb : Below wx.heap.size wx wy) : KJ w gv ga cv ca n m v cs y V N wy :=
  ⟨h.bel.trans (hb.mono h.bel.size), h.bc.below hb h.bc.lt, own_below h.ro hb (Nat.le_refl _), own_below h.vs hb (Nat.le_refl _), h.as_.elim fun X hX => ⟨X, hX.1, own_below hX.2 hb (Nat.le_refl _)⟩⟩
theorem KJ.drewN {w wx : World} {gv ga cv ca n m : Nat} {v : Value} {cs : List Value} {y : Ex} {V : List Nd} {N : Nat} (h : KJ w gv ga cv ca n m v cs y V N wx) (q : Nat) : KJ w gv ga cv ca n m v cs y V N (wx.drewN q) := h.below (below_drewN (Below.refl _ _) q)
theorem KJ.text {w wx : World} {gv ga cv ca n m : Nat} {v : Value} {cs : List Value} {y : Ex} {V : List Nd} {N : Nat} (h : KJ w gv ga cv ca n m v cs y V N wx) (k : Nat) (u : List UInt8) (N2 : Nat) (hy : u.length ≤ N2) (hM : N ≤ N2) : KJ w gv ga cv ca n m v cs y V N2 (wx.setCell ⟨ga, k, none⟩ (tV u)) := by
  obtain ⟨X, ⟨hX, hXl⟩, hO⟩ := h.as_
  have hs := row_set22 (k := k) hX hXl hO hy hM
  have hlo : w.heap.size ≤ ga := (hO.lt ga rfl).1
  exact ⟨h.bel.setCell hlo _, bl_grown' h.bc hs.2.2 (fun e => block_apart hO h.bc (by decide) e), own_keep h.ro fun g hg => hs.2.2.block g (h.ro.lt g hg).2 (fun e => kinds_apart h.ro hO (by decide) hg e.symm), own_keep h.vs fun g hg => hs.2.2.block g (h.vs.lt g hg).2 (fun e => kinds_apart h.vs hO (by decide) hg e.symm), ⟨_, hs.1, hs.2.1⟩⟩
theorem KJ.node {w wx : World} {gv ga cv ca n m : Nat} {v : Value} {cs : List Value} {y : Ex} {V : List Nd} {N : Nat} (h : KJ w gv ga cv ca n m v cs y V N wx) (hV : V.length = n) (k : Nat) (hk : k < n) (u : List UInt8) : KJ w gv ga cv ca n m v cs y (V.set k { V.getD k (nd0 0) with text := u }) N (wx.setCell ⟨gv, k * 6 + 2, none⟩ (tV u)) := by
  obtain ⟨X, hX, hO⟩ := h.as_
  have eg : (V ++ [mkN, mkN]).getD k (nd0 0) = V.getD k (nd0 0) := by rw [List.getD_eq_getElem?_getD, List.getElem?_append_left (by omega), List.getD_eq_getElem?_getD]
  have hs := no_cell22 h.vs (by rw [List.length_append, hV]; rfl) k 2 (tV u) { V.getD k (nd0 0) with text := u } (by omega) (by decide) (by rw [eg]; rfl)
  rw [List.set_append_left _ _ (by omega)] at hs
  have hlo : w.heap.size ≤ gv := (h.vs.lt gv rfl).1
  exact ⟨h.bel.setCell hlo _, bl_grown' h.bc hs.2 (fun e => block_apart h.vs h.bc (by decide) e), own_keep h.ro fun g hg => hs.2.block g (h.ro.lt g hg).2 (fun e => kinds_apart h.ro h.vs (by decide) hg e.symm), hs.1, X, hX, own_keep hO fun g hg => hs.2.block g (hO.lt g hg).2 (fun e => kinds_apart hO h.vs (by decide) hg e.symm)⟩
theorem KJ.at {w wx : World} {gv ga cv ca n m : Nat} {v : Value} {cs : List Value} {y : Ex} {V : List Nd} {N : Nat} (h : KJ w gv ga cv ca n m v cs y V N wx) (hV : V.length = n) (k j : Nat) (u : Value) (hk : k < n) (hj : j < 6) (hv : (nC (V.getD k (nd0 0)))[j]? = some u) : wx.cell? ⟨gv, k * 6 + j, none⟩ = some u ∧ wx.frozen? ⟨gv, k * 6 + j, none⟩ = false := by
  have hO := h.vs
  have e1 : (V ++ [mkN, mkN]).length = n + 2 := by rw [List.length_append, hV]; rfl
  unfold NO at hO
  rw [e1] at hO
  refine own_cell hO (k * 6 + j) u ?_
  rw [nCs_append, List.getElem?_append_left (by rw [nCs_length]; omega), nCs_at V k j (by omega) hj]
  exact hv

set_option maxHeartbeats 4000000 in
/-- The document's answer and the program's of what stands. -/
theorem KJ.both {w wr : World} {gv ga cv ca : Nat} {v : Value} {cs : List Value} {y : Ex} {V : List Nd} {N : Nat} {x : Ex} (h : KJ w gv ga cv ca x.e.val.length x.e.ops.length v cs y V N wr) (a : Int) (LQ : ∀ wq, Below w.heap.size w wq → GL wq.heap.size wq ∧ Alg wq ∧ 0 < wq.heap.size) (hV : V.length = x.e.val.length) (hsh : shapedF V = true) (ts : ∀ z ∈ V, z.text.length ≤ 100000000 ∧ z.key.length ≤ 100000000) (hln : x.e.val.length ≤ 100000000) (hla : x.e.ops.length ≤ 100000000) :
    ∃ F : Int, (Calls Tryd.prog 9 #[.agg #[.slice (some ⟨gv, 0, none⟩) x.e.val.length cv, .int .i64 x.e.kty, .string ⟨x.e.kid.toArray⟩, .bool x.e.hKid, .string ⟨x.e.use.toArray⟩, .bool x.e.hUse, .string ⟨x.e.alg.toArray⟩, .bool x.e.hAlg, .slice (some ⟨ga, 0, none⟩) x.e.ops.length ca, .bool x.e.hOps], .int .i64 a] wr fun r w' => r = .returned (.int .i64 F) ∧ Below wr.heap.size wr w') ∧ ∀ wq, Below wr.heap.size wr wq → Calls Tryd.prog 6 #[.agg #[.slice (some ⟨gv, 0, none⟩) x.e.val.length cv, .int .i64 x.e.kty, .string ⟨x.e.kid.toArray⟩, .bool x.e.hKid, .string ⟨x.e.use.toArray⟩, .bool x.e.hUse, .string ⟨x.e.alg.toArray⟩, .bool x.e.hAlg, .slice (some ⟨ga, 0, none⟩) x.e.ops.length ca, .bool x.e.hOps], .int .i64 a] wq fun r w' => r = .returned (.int .i64 F) ∧ Below wq.heap.size wq w' := by
  obtain ⟨X, ⟨hX, _⟩, hO⟩ := h.as_
  have e1 : (X.take x.e.ops.length).length = x.e.ops.length := by rw [List.length_take_of_le (by omega)]
  have hXR : ∀ wq, Below wr.heap.size wr wq → XR wq ⟨{ x.e with val := V, ops := X.take x.e.ops.length }, some ⟨gv, 0, none⟩, cv, some ⟨ga, 0, none⟩, ca⟩ := fun wq hq => by
    have t1 := nr_pre (own_below h.vs hq (Nat.le_refl _))
    have t2 := tr_pre (l := X.take x.e.ops.length) (M := X.drop x.e.ops.length) (by rw [List.take_append_drop]; exact own_below hO hq (Nat.le_refl _))
    exact ⟨t1, t2, (fun e => by cases e), (fun e => by cases e)⟩
  refine ⟨bindE { x.e with val := V, ops := X.take x.e.ops.length } a, ?_, fun wq hq => ?_⟩
  · have := rbindK_any _ a wr (hXR wr (Below.refl _ _)) hsh (by dsimp only; omega) (by dsimp only; omega)
    dsimp only at this
    rw [e1, hV] at this
    exact this
  · have hl := LQ wq (h.bel.trans (hq.mono h.bel.size))
    have := bindK_any _ a wq (hXR wq hq) hl.2.1 hl.1 (fun z hz => by have := ts z hz; omega) (by dsimp only; omega) (by dsimp only; omega) hl.2.2
    dsimp only at this
    rw [e1, hV] at this
    exact this

end Go.Proofs.YtkfchdmlemcjhaaDoor

namespace Go.Proofs.YtkfchdmlemcjhaaDoor
open Go.RowKit Go.Shelf
set_option maxRecDepth 100000

theorem lr_one {w : World} {b : Nat} {x : Ex} (hb : Bl 26 w b (xC x)) (h : XR w x) : LR w (some ⟨b, 0, none⟩) 1 [x] := ⟨Nat.le_refl _, .inr ⟨b, 0, rfl, hb.lt, fun n y hy => by
  match n, hy with
  | 0, hy =>
    cases hy
    exact ⟨hb.cell 0 (Nat.le_of_ble_eq_true rfl), hb.cell 1 (Nat.le_of_ble_eq_true rfl), hb.cell 2 (Nat.le_of_ble_eq_true rfl), hb.cell 3 (Nat.le_of_ble_eq_true rfl), hb.cell 4 (Nat.le_of_ble_eq_true rfl), hb.cell 5 (Nat.le_of_ble_eq_true rfl), hb.cell 6 (Nat.le_of_ble_eq_true rfl), hb.cell 7 (Nat.le_of_ble_eq_true rfl), hb.cell 8 (Nat.le_of_ble_eq_true rfl), hb.cell 9 (Nat.le_of_ble_eq_true rfl)⟩⟩, fun y hy => by
  rw [List.mem_singleton.1 hy]
  exact h⟩

set_option maxHeartbeats 64000000 in
/-- The law, given rebound. -/
theorem binds16_any (x : Ex) (a : Int) (w : World) (h : XR w x) (LQ : ∀ wq, Below w.heap.size w wq → GL wq.heap.size wq ∧ Alg wq ∧ 0 < wq.heap.size) (hts : ∀ z ∈ x.e.val, z.text.length ≤ 1048576 ∧ z.key.length ≤ 1048576) (hml : ∀ z ∈ x.e.ops, z.length ≤ 1048576) (hln : x.e.val.length ≤ 1048576) (hla : x.e.ops.length ≤ 1048576)
    (REB : ∀ wq, Below w.heap.size w wq → Calls Tryd.prog 10 #[.int .i64 a] wq fun r w' => r = .returned (.bool true) ∧ Below wq.heap.size wq w') :
    Calls Tryd.prog 3 #[.agg #[.slice x.va x.e.val.length x.vc, .int .i64 x.e.kty, .string ⟨x.e.kid.toArray⟩, .bool x.e.hKid, .string ⟨x.e.use.toArray⟩, .bool x.e.hUse, .string ⟨x.e.alg.toArray⟩, .bool x.e.hAlg, .slice x.aa x.e.ops.length x.ac, .bool x.e.hOps], .int .i64 a] w fun r w' => r = .returned (.bool true) ∧ Below w.heap.size w w' := by
  obtain ⟨W, hW⟩ : ∃ y, w.alloc (.cells #[.slice x.va x.e.val.length x.vc, .int .i64 x.e.kty, .string ⟨x.e.kid.toArray⟩, .bool x.e.hKid, .string ⟨x.e.use.toArray⟩, .bool x.e.hUse, .string ⟨x.e.alg.toArray⟩, .bool x.e.hAlg, .slice x.aa x.e.ops.length x.ac, .bool x.e.hOps] 26) = y := ⟨_, rfl⟩
  have x1 := alloc_below w (.cells #[.slice x.va x.e.val.length x.vc, .int .i64 x.e.kty, .string ⟨x.e.kid.toArray⟩, .bool x.e.hKid, .string ⟨x.e.use.toArray⟩, .bool x.e.hUse, .string ⟨x.e.alg.toArray⟩, .bool x.e.hAlg, .slice x.aa x.e.ops.length x.ac, .bool x.e.hOps] 26)
  have x3 : Bl 26 _ _ [.slice x.va x.e.val.length x.vc, .int .i64 x.e.kty, .string ⟨x.e.kid.toArray⟩, .bool x.e.hKid, .string ⟨x.e.use.toArray⟩, .bool x.e.hUse, .string ⟨x.e.alg.toArray⟩, .bool x.e.hAlg, .slice x.aa x.e.ops.length x.ac, .bool x.e.hOps] := alloc_bl w [.slice x.va x.e.val.length x.vc, .int .i64 x.e.kty, .string ⟨x.e.kid.toArray⟩, .bool x.e.hKid, .string ⟨x.e.use.toArray⟩, .bool x.e.hUse, .string ⟨x.e.alg.toArray⟩, .bool x.e.hAlg, .slice x.aa x.e.ops.length x.ac, .bool x.e.hOps] 26
  rw [hW] at x1 x3
  have HW : Hid (w.alloc (.cells #[.slice x.va x.e.val.length x.vc, .int .i64 x.e.kty, .string ⟨x.e.kid.toArray⟩, .bool x.e.hKid, .string ⟨x.e.use.toArray⟩, .bool x.e.hUse, .string ⟨x.e.alg.toArray⟩, .bool x.e.hAlg, .slice x.aa x.e.ops.length x.ac, .bool x.e.hOps] 26) = W) := hW
  have HBW : Hid (Below w.heap.size w W) := x1
  have HBc : Hid (∀ wq, Below W.heap.size W wq → Bl 26 wq w.heap.size [.slice x.va x.e.val.length x.vc, .int .i64 x.e.kty, .string ⟨x.e.kid.toArray⟩, .bool x.e.hKid, .string ⟨x.e.use.toArray⟩, .bool x.e.hUse, .string ⟨x.e.alg.toArray⟩, .bool x.e.hAlg, .slice x.aa x.e.ops.length x.ac, .bool x.e.hOps]) := fun wq hq => x3.below hq x3.lt
  have HXQ : Hid (∀ wq, Below w.heap.size w wq → XR wq x) := fun wq hq => h.below hq
  have HLQ : Hid (∀ wq, Below w.heap.size w wq → GL wq.heap.size wq ∧ Alg wq ∧ 0 < wq.heap.size) := LQ
  have HRB : Hid (∀ wq, Below w.heap.size w wq → Calls Tryd.prog 10 #[.int .i64 a] wq fun r w' => r = .returned (.bool true) ∧ Below wq.heap.size wq w') := REB
  have HLN : Hid (x.e.val.length ≤ 100000000 ∧ x.e.ops.length ≤ 100000000) := ⟨by omega, by omega⟩
  have HTS : Hid (∀ z ∈ x.e.val, z.text.length ≤ 1048576 ∧ z.key.length ≤ 1048576) := hts
  have HTS1 : Hid (∀ z ∈ x.e.val, z.text.length ≤ 100000000 ∧ z.key.length ≤ 100000000) := fun z hz => by have := hts z hz; omega
  have HTS2 : Hid (∀ z ∈ x.e.val.map turnX, z.text.length ≤ 100000000 ∧ z.key.length ≤ 100000000) := fun z hz => by
    obtain ⟨y, hy, rfl⟩ := List.mem_map.1 hz
    have := hts y hy
    refine ⟨?_, by rw [turnX_key]; omega⟩
    unfold turnX
    split
    · rw [List.length_append, List.length_singleton]; omega
    · omega
  have HML : Hid (∀ z ∈ x.e.ops, z.length ≤ 1048576) := hml
  have hce : (Tryd.prog.info? 26).map (·.size) = some ([.slice x.va x.e.val.length x.vc, .int .i64 x.e.kty, .string ⟨x.e.kid.toArray⟩, .bool x.e.hKid, .string ⟨x.e.use.toArray⟩, .bool x.e.hUse, .string ⟨x.e.alg.toArray⟩, .bool x.e.hAlg, .slice x.aa x.e.ops.length x.ac, .bool x.e.hOps] : List Value).length := by kernel_rfl
  have CB := beyond_any _ x.e.val x.va x.vc W (h.below x1).nr (by omega)
  have k0 : W.cell? ⟨w.heap.size, 0, none⟩ = some (.slice x.va x.e.val.length x.vc) := x3.cell 0 (Nat.le_of_ble_eq_true rfl)
  clear h hW x1 x3 LQ hts hml hln hla REB
  go_enter Tryd.func3, Tryd.ntmps3
  go_wp2_with fail
  rw [HW.out]
  clear HW
  refine CB.mono ?_
  clear CB k0
  rintro r w1 ⟨hb, by_, rfl⟩
  have HW1 : Hid (Below W.heap.size W w1) := hb
  have HB1 : Hid (Below w.heap.size w w1) := HBW.out.trans (hb.mono HBW.out.size)
  clear hb
  cases by_
  · have p1 := bl_rng2 (HBc.out w1 HW1.out)
    obtain ⟨w3, hw3⟩ : ∃ y, w1.alloc (.cells #[.slice x.va x.e.val.length x.vc, .int .i64 x.e.kty, .string ⟨x.e.kid.toArray⟩, .bool x.e.hKid, .string ⟨x.e.use.toArray⟩, .bool x.e.hUse, .string ⟨x.e.alg.toArray⟩, .bool x.e.hAlg, .slice x.aa x.e.ops.length x.ac, .bool x.e.hOps] 26) = y := ⟨_, rfl⟩
    have hA3 := alloc_below w1 (.cells #[.slice x.va x.e.val.length x.vc, .int .i64 x.e.kty, .string ⟨x.e.kid.toArray⟩, .bool x.e.hKid, .string ⟨x.e.use.toArray⟩, .bool x.e.hUse, .string ⟨x.e.alg.toArray⟩, .bool x.e.hAlg, .slice x.aa x.e.ops.length x.ac, .bool x.e.hOps] 26)
    have hb3 : Bl 26 (w1.alloc (.cells #[.slice x.va x.e.val.length x.vc, .int .i64 x.e.kty, .string ⟨x.e.kid.toArray⟩, .bool x.e.hKid, .string ⟨x.e.use.toArray⟩, .bool x.e.hUse, .string ⟨x.e.alg.toArray⟩, .bool x.e.hAlg, .slice x.aa x.e.ops.length x.ac, .bool x.e.hOps] 26)) w1.heap.size (xC x) := alloc_bl _ _ _
    rw [hw3] at hA3 hb3
    have HB3 : Hid (Below w.heap.size w w3) := HB1.out.trans (hA3.mono HB1.out.size)
    have HW3 : Hid (Below W.heap.size W w3) := HW1.out.trans (hA3.mono HW1.out.size)
    have CT := twin16_any (some ⟨w1.heap.size, 0, none⟩) 1 [x] w3 (lr_one hb3 (HXQ.out w3 HB3.out)) (Nat.le_of_ble_eq_true rfl) (fun y hy => by rw [List.mem_singleton.1 hy]; exact HLN.out)
    have HX3 : Hid (w1.alloc (.cells #[.slice x.va x.e.val.length x.vc, .int .i64 x.e.kty, .string ⟨x.e.kid.toArray⟩, .bool x.e.hKid, .string ⟨x.e.use.toArray⟩, .bool x.e.hUse, .string ⟨x.e.alg.toArray⟩, .bool x.e.hAlg, .slice x.aa x.e.ops.length x.ac, .bool x.e.hOps] 26) = w3) := hw3
    clear hw3 hA3 hb3
    go_wp2_with (first | (refine wpList_load_mid rfl 26 (.tmp 2) rfl w.heap.size 0 rfl [.slice x.va x.e.val.length x.vc, .int .i64 x.e.kty, .string ⟨x.e.kid.toArray⟩, .bool x.e.hKid, .string ⟨x.e.use.toArray⟩, .bool x.e.hUse, .string ⟨x.e.alg.toArray⟩, .bool x.e.hAlg, .slice x.aa x.e.ops.length x.ac, .bool x.e.hOps] _ p1 Tryd.underlying26 rfl hce ?_) | fail)
    rw [HX3.out]
    clear HX3
    refine CT.mono ?_
    clear CT p1
    rintro r w4 ⟨⟨v, G, rfl, hlo, hge, hmx⟩, hb4⟩
    obtain ⟨y, rfl⟩ : ∃ y, G = [y] := by
      have h1 := congrArg List.length hge
      rw [List.length_map, List.length_map] at h1
      exact List.length_eq_one_iff.1 h1
    have hye : y.e = x.e := by
      have h1 := hge
      simp only [List.map_cons, List.map_nil, List.cons.injEq, and_true] at h1
      exact h1
    obtain ⟨ye, yva, cv, yaa, ca⟩ := y
    dsimp only at hye
    subst hye
    obtain ⟨gv, ga, e1, e2, hN, hT⟩ := hmx _ (List.mem_singleton_self _)
    dsimp only at e1 e2 hN hT
    subst e1
    subst e2
    obtain ⟨a3, cG, e3, _, hg3⟩ := own_slice hlo
    obtain ⟨g, rfl⟩ := hg3 (Nat.le_of_ble_eq_true rfl)
    have e3' : v = .slice (some ⟨g, 0, none⟩) 1 cG := e3
    subst e3'
    have hW4 : Below W.heap.size W w4 := HW3.out.trans (hb4.mono HW3.out.size)
    have hs3 : w.heap.size ≤ w3.heap.size := HB3.out.size
    have HIJ : Hid (KJ w gv ga cv ca x.e.val.length x.e.ops.length (.slice (some ⟨g, 0, none⟩) 1 cG) [.slice x.va x.e.val.length x.vc, .int .i64 x.e.kty, .string ⟨x.e.kid.toArray⟩, .bool x.e.hKid, .string ⟨x.e.use.toArray⟩, .bool x.e.hUse, .string ⟨x.e.alg.toArray⟩, .bool x.e.hAlg, .slice x.aa x.e.ops.length x.ac, .bool x.e.hOps] ⟨x.e, some ⟨gv, 0, none⟩, cv, some ⟨ga, 0, none⟩, ca⟩ (x.e.val) (1048576) w4) := ⟨HB3.out.trans (hb4.mono hs3), HBc.out w4 hW4, own_mono2 hlo hs3, own_mono2 hN hs3, x.e.ops ++ [mkT, mkT], ⟨by rw [List.length_append]; rfl, fun z hz => by
      rcases List.mem_append.1 hz with h | h
      · exact HML.out z h
      · simp only [List.mem_cons, List.not_mem_nil, or_false] at h
        rcases h with rfl | rfl <;> decide⟩, own_mono2 hT hs3⟩
    have HMX : Hid (∀ wq, Below w4.heap.size w4 wq → MX w.heap.size wq ⟨x.e, some ⟨gv, 0, none⟩, cv, some ⟨ga, 0, none⟩, ca⟩) := fun wq hq => ⟨gv, ga, rfl, rfl, own_below (own_mono2 hN hs3) hq (Nat.le_refl _), own_below (own_mono2 hT hs3) hq (Nat.le_refl _)⟩
    have hXR4 : XR w4 ⟨x.e, some ⟨gv, 0, none⟩, cv, some ⟨ga, 0, none⟩, ca⟩ := ⟨nr_pre (own_mono2 hN hs3), tr_pre (own_mono2 hT hs3), (fun e => by cases e), (fun e => by cases e)⟩
    have hl4 := HLQ.out w4 HIJ.out.bel
    have CP := bindK_any ⟨x.e, some ⟨gv, 0, none⟩, cv, some ⟨ga, 0, none⟩, ca⟩ a w4 hXR4 hl4.2.1 hl4.1 (fun z hz => by have := HTS.out z hz; omega) (by have := HLN.out; dsimp only; omega) (by have := HLN.out; dsimp only; omega) hl4.2.2
    have HW4 : Hid (Below W.heap.size W w4) := hW4
    dsimp only at CP
    have hij := HIJ.out
    obtain ⟨r0, r1, r2, r3, r4, r5, r6, r7, r8, r9⟩ := (hij.ro.cells rfl (show [(⟨x.e, some ⟨gv, 0, none⟩, cv, some ⟨ga, 0, none⟩, ca⟩ : Ex)][0]? = some _ from rfl) 0 rfl)
    simp only [Nat.zero_add] at r1 r2 r3 r4 r5 r6 r7 r8 r9
    clear hij hl4 hXR4 hW4 hN hT hmx hge hlo hs3 hg3 hb4 HW3 HB3 HB1 HW1
    go_wp2_with fail
    refine CP.mono ?_
    clear CP r0 r1 r2 r3 r4 r5 r6 r7 r8 r9
    rintro r w5 ⟨rfl, hb5⟩
    have HIJ5 : Hid (KJ w gv ga cv ca x.e.val.length x.e.ops.length (.slice (some ⟨g, 0, none⟩) 1 cG) [.slice x.va x.e.val.length x.vc, .int .i64 x.e.kty, .string ⟨x.e.kid.toArray⟩, .bool x.e.hKid, .string ⟨x.e.use.toArray⟩, .bool x.e.hUse, .string ⟨x.e.alg.toArray⟩, .bool x.e.hAlg, .slice x.aa x.e.ops.length x.ac, .bool x.e.hOps] ⟨x.e, some ⟨gv, 0, none⟩, cv, some ⟨ga, 0, none⟩, ca⟩ (x.e.val) (1048576) w5) := HIJ.out.below hb5
    have HW5 : Hid (Below W.heap.size W w5) := HW4.out.trans (hb5.mono HW4.out.size)
    have p5 := bl_rng2 (HBc.out w5 HW5.out)
    obtain ⟨w6, hw6⟩ : ∃ y, w5.alloc (.cells #[.slice x.va x.e.val.length x.vc, .int .i64 x.e.kty, .string ⟨x.e.kid.toArray⟩, .bool x.e.hKid, .string ⟨x.e.use.toArray⟩, .bool x.e.hUse, .string ⟨x.e.alg.toArray⟩, .bool x.e.hAlg, .slice x.aa x.e.ops.length x.ac, .bool x.e.hOps] 26) = y := ⟨_, rfl⟩
    have hA6 := alloc_below w5 (.cells #[.slice x.va x.e.val.length x.vc, .int .i64 x.e.kty, .string ⟨x.e.kid.toArray⟩, .bool x.e.hKid, .string ⟨x.e.use.toArray⟩, .bool x.e.hUse, .string ⟨x.e.alg.toArray⟩, .bool x.e.hAlg, .slice x.aa x.e.ops.length x.ac, .bool x.e.hOps] 26)
    have hb6 : Bl 26 (w5.alloc (.cells #[.slice x.va x.e.val.length x.vc, .int .i64 x.e.kty, .string ⟨x.e.kid.toArray⟩, .bool x.e.hKid, .string ⟨x.e.use.toArray⟩, .bool x.e.hUse, .string ⟨x.e.alg.toArray⟩, .bool x.e.hAlg, .slice x.aa x.e.ops.length x.ac, .bool x.e.hOps] 26)) w5.heap.size (xC x) := alloc_bl _ _ _
    rw [hw6] at hA6 hb6
    have HIJ6 : Hid (KJ w gv ga cv ca x.e.val.length x.e.ops.length (.slice (some ⟨g, 0, none⟩) 1 cG) [.slice x.va x.e.val.length x.vc, .int .i64 x.e.kty, .string ⟨x.e.kid.toArray⟩, .bool x.e.hKid, .string ⟨x.e.use.toArray⟩, .bool x.e.hUse, .string ⟨x.e.alg.toArray⟩, .bool x.e.hAlg, .slice x.aa x.e.ops.length x.ac, .bool x.e.hOps] ⟨x.e, some ⟨gv, 0, none⟩, cv, some ⟨ga, 0, none⟩, ca⟩ (x.e.val) (1048576) w6) := HIJ5.out.below hA6
    have HW6 : Hid (Below W.heap.size W w6) := HW5.out.trans (hA6.mono HW5.out.size)
    have CL := left16_any w.heap.size (some ⟨g, 0, none⟩) cG [⟨x.e, some ⟨gv, 0, none⟩, cv, some ⟨ga, 0, none⟩, ca⟩] (some ⟨w5.heap.size, 0, none⟩) 1 [x] w6 HIJ6.out.ro (fun y hy => by rw [List.mem_singleton.1 hy]; exact HMX.out w6 (hb5.trans (hA6.mono hb5.size))) (lr_one hb6 (HXQ.out w6 HIJ6.out.bel)) rfl (Nat.le_of_ble_eq_true rfl) (fun y hy => by rw [List.mem_singleton.1 hy]; exact HLN.out)
    have HX6 : Hid (w5.alloc (.cells #[.slice x.va x.e.val.length x.vc, .int .i64 x.e.kty, .string ⟨x.e.kid.toArray⟩, .bool x.e.hKid, .string ⟨x.e.use.toArray⟩, .bool x.e.hUse, .string ⟨x.e.alg.toArray⟩, .bool x.e.hAlg, .slice x.aa x.e.ops.length x.ac, .bool x.e.hOps] 26) = w6) := hw6
    clear hw6 hA6 hb6 hb5 HMX HIJ HIJ5 HW4
    go_wp2_with (first | (refine wpList_load_mid rfl 26 (.tmp 2) rfl w.heap.size 0 rfl [.slice x.va x.e.val.length x.vc, .int .i64 x.e.kty, .string ⟨x.e.kid.toArray⟩, .bool x.e.hKid, .string ⟨x.e.use.toArray⟩, .bool x.e.hUse, .string ⟨x.e.alg.toArray⟩, .bool x.e.hAlg, .slice x.aa x.e.ops.length x.ac, .bool x.e.hOps] _ p5 Tryd.underlying26 rfl hce ?_) | fail)
    rw [HX6.out]
    clear HX6
    refine CL.mono ?_
    clear CL p5
    rintro r w7 ⟨rfl, hb7⟩
    have HIJ : Hid (KJ w gv ga cv ca x.e.val.length x.e.ops.length (.slice (some ⟨g, 0, none⟩) 1 cG) [.slice x.va x.e.val.length x.vc, .int .i64 x.e.kty, .string ⟨x.e.kid.toArray⟩, .bool x.e.hKid, .string ⟨x.e.use.toArray⟩, .bool x.e.hUse, .string ⟨x.e.alg.toArray⟩, .bool x.e.hAlg, .slice x.aa x.e.ops.length x.ac, .bool x.e.hOps] ⟨x.e, some ⟨gv, 0, none⟩, cv, some ⟨ga, 0, none⟩, ca⟩ (x.e.val) (1048576) w7) := HIJ6.out.below hb7
    have HW7 : Hid (Below W.heap.size W w7) := HW6.out.trans (hb7.mono HW6.out.size)
    clear hb7 HIJ6 HW5 HW6
    have CS := rshaped_any x.e.val x.va x.vc w7 (HXQ.out w7 HIJ.out.bel).nr HLN.out.1 (fun i hi => by
      have h3 : x.e.val.getD i (nd0 0) ∈ x.e.val := by rw [List.getD_eq_getElem?_getD, List.getElem?_eq_getElem hi]; exact List.getElem_mem hi
      have := HTS.out _ h3
      omega)
    have k7 : w7.cell? ⟨w.heap.size, 0, none⟩ = some (.slice x.va x.e.val.length x.vc) := (HBc.out w7 HW7.out).cell 0 (Nat.le_of_ble_eq_true rfl)
    go_wp2_with fail
    refine CS.mono ?_
    clear CS k7
    rintro r w8 ⟨rfl, hb8⟩
    have HIJ8 : Hid (KJ w gv ga cv ca x.e.val.length x.e.ops.length (.slice (some ⟨g, 0, none⟩) 1 cG) [.slice x.va x.e.val.length x.vc, .int .i64 x.e.kty, .string ⟨x.e.kid.toArray⟩, .bool x.e.hKid, .string ⟨x.e.use.toArray⟩, .bool x.e.hUse, .string ⟨x.e.alg.toArray⟩, .bool x.e.hAlg, .slice x.aa x.e.ops.length x.ac, .bool x.e.hOps] ⟨x.e, some ⟨gv, 0, none⟩, cv, some ⟨ga, 0, none⟩, ca⟩ (x.e.val) (1048576) w8) := HIJ.out.below hb8
    have HW8 : Hid (Below W.heap.size W w8) := HW7.out.trans (hb8.mono HW7.out.size)
    clear HIJ HW7 hb8
    obtain ⟨sh, hsh⟩ : ∃ sh, shapedF x.e.val = sh := ⟨_, rfl⟩
    rw [hsh]
    cases sh
    · go_wp2
      go_ret
      exact ⟨rfl, HIJ8.out.bel⟩
    · have HSH : Hid (shapedF x.e.val = true) := hsh
      have CD := rbindK_any x a w8 (HXQ.out w8 HIJ8.out.bel) hsh HLN.out.1 HLN.out.2
      have p8 := bl_rng2 (HBc.out w8 HW8.out)
      obtain ⟨F, hF⟩ : ∃ F, bindE x.e a = F := ⟨_, rfl⟩
      rw [hF] at CD ⊢
      have qF : ((F : Int) != F) = false := by simp
      clear hsh hF
      go_wp2_with (first | (refine wpList_load_mid rfl 26 (.tmp 2) rfl w.heap.size 0 rfl [.slice x.va x.e.val.length x.vc, .int .i64 x.e.kty, .string ⟨x.e.kid.toArray⟩, .bool x.e.hKid, .string ⟨x.e.use.toArray⟩, .bool x.e.hUse, .string ⟨x.e.alg.toArray⟩, .bool x.e.hAlg, .slice x.aa x.e.ops.length x.ac, .bool x.e.hOps] _ p8 Tryd.underlying26 rfl hce ?_) | fail)
      refine CD.mono ?_
      clear CD p8
      rintro r w9 ⟨rfl, hb9⟩
      have HIJ : Hid (KJ w gv ga cv ca x.e.val.length x.e.ops.length (.slice (some ⟨g, 0, none⟩) 1 cG) [.slice x.va x.e.val.length x.vc, .int .i64 x.e.kty, .string ⟨x.e.kid.toArray⟩, .bool x.e.hKid, .string ⟨x.e.use.toArray⟩, .bool x.e.hUse, .string ⟨x.e.alg.toArray⟩, .bool x.e.hAlg, .slice x.aa x.e.ops.length x.ac, .bool x.e.hOps] ⟨x.e, some ⟨gv, 0, none⟩, cv, some ⟨ga, 0, none⟩, ca⟩ (x.e.val) (1048576 + 0) w9) := HIJ8.out.below hb9
      clear HIJ8 HW8 hb9 HBc HBW
      go_wp2
      clear qF
      go_loopw [7] (fun s wx => ∃ k : Nat, s = .int .i64 k ∧ k ≤ x.e.ops.length ∧ KJ w gv ga cv ca x.e.val.length x.e.ops.length (.slice (some ⟨g, 0, none⟩) 1 cG) [.slice x.va x.e.val.length x.vc, .int .i64 x.e.kty, .string ⟨x.e.kid.toArray⟩, .bool x.e.hKid, .string ⟨x.e.use.toArray⟩, .bool x.e.hUse, .string ⟨x.e.alg.toArray⟩, .bool x.e.hAlg, .slice x.aa x.e.ops.length x.ac, .bool x.e.hOps] ⟨x.e, some ⟨gv, 0, none⟩, cv, some ⟨ga, 0, none⟩, ca⟩ (x.e.val) (1048576 + k) wx) (fun s _ => x.e.ops.length - (intOf s).toNat)
      case atStart => exact ⟨0, rfl, Nat.zero_le _, HIJ.out⟩
      case round =>
        clear HIJ
        obtain ⟨k, rfl, hk, hij⟩ := hrel
        have HIJ : Hid (KJ w gv ga cv ca x.e.val.length x.e.ops.length (.slice (some ⟨g, 0, none⟩) 1 cG) [.slice x.va x.e.val.length x.vc, .int .i64 x.e.kty, .string ⟨x.e.kid.toArray⟩, .bool x.e.hKid, .string ⟨x.e.use.toArray⟩, .bool x.e.hUse, .string ⟨x.e.alg.toArray⟩, .bool x.e.hAlg, .slice x.aa x.e.ops.length x.ac, .bool x.e.hOps] ⟨x.e, some ⟨gv, 0, none⟩, cv, some ⟨ga, 0, none⟩, ca⟩ (x.e.val) (1048576 + k) wr) := hij
        obtain ⟨r0, r1, r2, r3, r4, r5, r6, r7, r8, r9⟩ := (hij.ro.cells rfl (show [(⟨x.e, some ⟨gv, 0, none⟩, cv, some ⟨ga, 0, none⟩, ca⟩ : Ex)][0]? = some _ from rfl) 0 rfl)
        simp only [Nat.zero_add] at r1 r2 r3 r4 r5 r6 r7 r8 r9
        by_cases hlt : k < x.e.ops.length
        · have q0 : decide ((k : Int) < (x.e.ops.length : Int)) = true := decide_eq_true (by omega)
          have q1 : (k : Int) < (x.e.ops.length : Int) := by omega
          have qb : x.e.ops.length ≤ 100000000 := HLN.out.2
          obtain ⟨X, ⟨hX, hXl⟩, hO⟩ := hij.as_
          obtain ⟨z, kc, kf, hzl⟩ := row_at22 hX hXl hO (show k < x.e.ops.length + 2 by omega)
          have hxm : z.length + 1 ≤ 9223372036854775807 := by omega
          have hxn : ¬ (9223372036854775807 < z.length + 1) := by omega
          have HXL : Hid (z.length ≤ 1048576 + k) := hzl
          have HKF : Hid (wr.frozen? ⟨ga, k, none⟩ = false) := kf
          clear hX hXl hO hij kf hzl
          go_wp2
          refine wp_region_tail 14 (by kernel_rfl) (by kernel_rfl) ?_
          simp only [List.take_succ_cons, List.take_zero, List.drop_succ_cons, List.drop_zero]
          repeat (first | go_big_quiet_skip | (go_big_quiet_want; go_big_quiet_op; go_big_quiet_on))
          refine wpQuiet_nil ?_
          have HIS : Hid (KJ w gv ga cv ca x.e.val.length x.e.ops.length (.slice (some ⟨g, 0, none⟩) 1 cG) [.slice x.va x.e.val.length x.vc, .int .i64 x.e.kty, .string ⟨x.e.kid.toArray⟩, .bool x.e.hKid, .string ⟨x.e.use.toArray⟩, .bool x.e.hUse, .string ⟨x.e.alg.toArray⟩, .bool x.e.hAlg, .slice x.aa x.e.ops.length x.ac, .bool x.e.hOps] ⟨x.e, some ⟨gv, 0, none⟩, cv, some ⟨ga, 0, none⟩, ca⟩ (x.e.val) (1048576 + k) (wr.drewN 1)) := HIJ.out.drewN 1
          have kc1 : (wr.drewN 1).cell? ⟨ga, k, none⟩ = some (.string ⟨z.toArray⟩) := kc
          have kf1 : (wr.drewN 1).frozen? ⟨ga, k, none⟩ = false := HKF.out
          clear HIJ HKF kc r0 r1 r2 r3 r4 r5 r6 r7 r8 r9
          generalize wr.drewN 1 = wd at *
          go_wp2
          go_roundw
          case rel => exact ⟨k + 1, by go_num, by omega, by have h := HIS.out.text k (z ++ [120]) (1048576 + (k + 1)) (by have := HXL.out; rw [List.length_append, List.length_singleton]; omega) (by omega); unfold tV at h; exact h⟩
          case measure => simp [intOf]; omega
        · have q0 : decide ((k : Int) < (x.e.ops.length : Int)) = false := decide_eq_false (by omega)
          obtain rfl : k = x.e.ops.length := by omega
          clear r0 r1 r2 r3 r4 r5 r6 r7 r8 r9
          obtain ⟨F, CD, CP⟩ := HIJ.out.both a HLQ.out rfl HSH.out HTS1.out HLN.out.1 HLN.out.2
          have HCP := (show Hid _ from CP)
          obtain ⟨r0, r1, r2, r3, r4, r5, r6, r7, r8, r9⟩ := (hij.ro.cells rfl (show [(⟨x.e, some ⟨gv, 0, none⟩, cv, some ⟨ga, 0, none⟩, ca⟩ : Ex)][0]? = some _ from rfl) 0 rfl)
          simp only [Nat.zero_add] at r1 r2 r3 r4 r5 r6 r7 r8 r9
          have qF : ((F : Int) != F) = false := by simp
          clear hij CP
          go_wp2_with fail
          refine CD.mono ?_
          clear CD r0 r1 r2 r3 r4 r5 r6 r7 r8 r9
          rintro r w20 ⟨rfl, hb⟩
          have HIJ2 : Hid (KJ w gv ga cv ca x.e.val.length x.e.ops.length (.slice (some ⟨g, 0, none⟩) 1 cG) [.slice x.va x.e.val.length x.vc, .int .i64 x.e.kty, .string ⟨x.e.kid.toArray⟩, .bool x.e.hKid, .string ⟨x.e.use.toArray⟩, .bool x.e.hUse, .string ⟨x.e.alg.toArray⟩, .bool x.e.hAlg, .slice x.aa x.e.ops.length x.ac, .bool x.e.hOps] ⟨x.e, some ⟨gv, 0, none⟩, cv, some ⟨ga, 0, none⟩, ca⟩ (x.e.val) (1048576 + x.e.ops.length) w20) := HIJ.out.below hb
          have CP := HCP.out w20 hb
          have hij := HIJ2.out
          obtain ⟨r0, r1, r2, r3, r4, r5, r6, r7, r8, r9⟩ := (hij.ro.cells rfl (show [(⟨x.e, some ⟨gv, 0, none⟩, cv, some ⟨ga, 0, none⟩, ca⟩ : Ex)][0]? = some _ from rfl) 0 rfl)
          simp only [Nat.zero_add] at r1 r2 r3 r4 r5 r6 r7 r8 r9
          clear hb HIJ HCP hij
          go_wp2_with fail
          refine CP.mono ?_
          clear CP r0 r1 r2 r3 r4 r5 r6 r7 r8 r9
          rintro r w21 ⟨rfl, hb⟩
          have HIJ : Hid (KJ w gv ga cv ca x.e.val.length x.e.ops.length (.slice (some ⟨g, 0, none⟩) 1 cG) [.slice x.va x.e.val.length x.vc, .int .i64 x.e.kty, .string ⟨x.e.kid.toArray⟩, .bool x.e.hKid, .string ⟨x.e.use.toArray⟩, .bool x.e.hUse, .string ⟨x.e.alg.toArray⟩, .bool x.e.hAlg, .slice x.aa x.e.ops.length x.ac, .bool x.e.hOps] ⟨x.e, some ⟨gv, 0, none⟩, cv, some ⟨ga, 0, none⟩, ca⟩ (x.e.val) (1048576 + x.e.ops.length) w21) := HIJ2.out.below hb
          clear hb HIJ2
          go_wp2
          clear qF q0 hlt hk
          go_loopw [9] (fun s wx => ∃ k : Nat, s = .int .i64 k ∧ k ≤ x.e.ops.length ∧ KJ w gv ga cv ca x.e.val.length x.e.ops.length (.slice (some ⟨g, 0, none⟩) 1 cG) [.slice x.va x.e.val.length x.vc, .int .i64 x.e.kty, .string ⟨x.e.kid.toArray⟩, .bool x.e.hKid, .string ⟨x.e.use.toArray⟩, .bool x.e.hUse, .string ⟨x.e.alg.toArray⟩, .bool x.e.hAlg, .slice x.aa x.e.ops.length x.ac, .bool x.e.hOps] ⟨x.e, some ⟨gv, 0, none⟩, cv, some ⟨ga, 0, none⟩, ca⟩ (x.e.val) (1048576 + x.e.ops.length) wx) (fun s _ => x.e.ops.length - (intOf s).toNat)
          case atStart => exact ⟨0, rfl, Nat.zero_le _, HIJ.out⟩
          case round =>
            clear HIJ
            obtain ⟨k, rfl, hk, hij⟩ := hrel
            have HIJ : Hid (KJ w gv ga cv ca x.e.val.length x.e.ops.length (.slice (some ⟨g, 0, none⟩) 1 cG) [.slice x.va x.e.val.length x.vc, .int .i64 x.e.kty, .string ⟨x.e.kid.toArray⟩, .bool x.e.hKid, .string ⟨x.e.use.toArray⟩, .bool x.e.hUse, .string ⟨x.e.alg.toArray⟩, .bool x.e.hAlg, .slice x.aa x.e.ops.length x.ac, .bool x.e.hOps] ⟨x.e, some ⟨gv, 0, none⟩, cv, some ⟨ga, 0, none⟩, ca⟩ (x.e.val) (1048576 + x.e.ops.length) wr) := hij
            obtain ⟨r0, r1, r2, r3, r4, r5, r6, r7, r8, r9⟩ := (hij.ro.cells rfl (show [(⟨x.e, some ⟨gv, 0, none⟩, cv, some ⟨ga, 0, none⟩, ca⟩ : Ex)][0]? = some _ from rfl) 0 rfl)
            simp only [Nat.zero_add] at r1 r2 r3 r4 r5 r6 r7 r8 r9
            by_cases hlt : k < x.e.ops.length
            · have q0 : decide ((k : Int) < (x.e.ops.length : Int)) = true := decide_eq_true (by omega)
              have q1 : (k : Int) < (x.e.ops.length : Int) := by omega
              have qb : x.e.ops.length ≤ 100000000 := HLN.out.2
              obtain ⟨X, ⟨hX, hXl⟩, hO⟩ := hij.as_
              obtain ⟨z, kc, kf, _⟩ := row_at22 hX hXl hO (show k < x.e.ops.length + 2 by omega)
              have kc0 : wr.cell? ⟨w.heap.size, 8, none⟩ = some (.slice x.aa x.e.ops.length x.ac) := hij.bc.cell 8 (Nat.le_of_ble_eq_true rfl)
              obtain ⟨u, hu⟩ : ∃ u, x.e.ops.getD k [] = u := ⟨_, rfl⟩
              obtain ⟨gA, oA, eA, ka⟩ := (HXQ.out wr hij.bel).tr.at hlt
              rw [hu] at ka
              rw [eA] at kc0
              have HUL : Hid (u.length ≤ 1048576) := by
                rw [← hu, List.getD_eq_getElem?_getD, List.getElem?_eq_getElem hlt]
                exact HML.out _ (List.getElem_mem hlt)
              have HKF : Hid (wr.frozen? ⟨ga, k, none⟩ = false) := kf
              clear hX hXl hO hij hu kf eA
              go_wp2
              refine wp_region_tail 11 (by kernel_rfl) (by kernel_rfl) ?_
              simp only [List.take_succ_cons, List.take_zero, List.drop_succ_cons, List.drop_zero]
              repeat (first | go_big_quiet_skip | (go_big_quiet_want; go_big_quiet_op; go_big_quiet_on))
              refine wpQuiet_nil ?_
              have HIS : Hid (KJ w gv ga cv ca x.e.val.length x.e.ops.length (.slice (some ⟨g, 0, none⟩) 1 cG) [.slice x.va x.e.val.length x.vc, .int .i64 x.e.kty, .string ⟨x.e.kid.toArray⟩, .bool x.e.hKid, .string ⟨x.e.use.toArray⟩, .bool x.e.hUse, .string ⟨x.e.alg.toArray⟩, .bool x.e.hAlg, .slice x.aa x.e.ops.length x.ac, .bool x.e.hOps] ⟨x.e, some ⟨gv, 0, none⟩, cv, some ⟨ga, 0, none⟩, ca⟩ (x.e.val) (1048576 + x.e.ops.length) (wr.drewN 1)) := HIJ.out.drewN 1
              have kc1 : (wr.drewN 1).cell? ⟨ga, k, none⟩ = some (.string ⟨z.toArray⟩) := kc
              have kf1 : (wr.drewN 1).frozen? ⟨ga, k, none⟩ = false := HKF.out
              clear HIJ HKF kc kc0 ka r0 r1 r2 r3 r4 r5 r6 r7 r8 r9
              generalize wr.drewN 1 = wd at *
              go_wp2
              go_roundw
              case rel => exact ⟨k + 1, by go_num, by omega, by have h := HIS.out.text k u (1048576 + x.e.ops.length) (by have := HUL.out; omega) (by omega); unfold tV at h; exact h⟩
              case measure => simp [intOf]; omega
            · have q0 : decide ((k : Int) < (x.e.ops.length : Int)) = false := decide_eq_false (by omega)
              clear hij
              go_wp2
              clear q0 hlt hk r0 r1 r2 r3 r4 r5 r6 r7 r8 r9
              go_loopw [10] (fun s wx => ∃ k : Nat, s = .int .i64 k ∧ k ≤ x.e.val.length ∧ KJ w gv ga cv ca x.e.val.length x.e.ops.length (.slice (some ⟨g, 0, none⟩) 1 cG) [.slice x.va x.e.val.length x.vc, .int .i64 x.e.kty, .string ⟨x.e.kid.toArray⟩, .bool x.e.hKid, .string ⟨x.e.use.toArray⟩, .bool x.e.hUse, .string ⟨x.e.alg.toArray⟩, .bool x.e.hAlg, .slice x.aa x.e.ops.length x.ac, .bool x.e.hOps] ⟨x.e, some ⟨gv, 0, none⟩, cv, some ⟨ga, 0, none⟩, ca⟩ (turnK k x.e.val) (1048576 + x.e.ops.length) wx) (fun s _ => x.e.val.length - (intOf s).toNat)
              case atStart => exact ⟨0, rfl, Nat.zero_le _, HIJ.out⟩
              case round =>
                clear HIJ
                obtain ⟨k, rfl, hk, hij⟩ := hrel
                have HIJ : Hid (KJ w gv ga cv ca x.e.val.length x.e.ops.length (.slice (some ⟨g, 0, none⟩) 1 cG) [.slice x.va x.e.val.length x.vc, .int .i64 x.e.kty, .string ⟨x.e.kid.toArray⟩, .bool x.e.hKid, .string ⟨x.e.use.toArray⟩, .bool x.e.hUse, .string ⟨x.e.alg.toArray⟩, .bool x.e.hAlg, .slice x.aa x.e.ops.length x.ac, .bool x.e.hOps] ⟨x.e, some ⟨gv, 0, none⟩, cv, some ⟨ga, 0, none⟩, ca⟩ (turnK k x.e.val) (1048576 + x.e.ops.length) wr) := hij
                obtain ⟨r0, r1, r2, r3, r4, r5, r6, r7, r8, r9⟩ := (hij.ro.cells rfl (show [(⟨x.e, some ⟨gv, 0, none⟩, cv, some ⟨ga, 0, none⟩, ca⟩ : Ex)][0]? = some _ from rfl) 0 rfl)
                simp only [Nat.zero_add] at r1 r2 r3 r4 r5 r6 r7 r8 r9
                by_cases hlt : k < x.e.val.length
                · have q0 : decide ((k : Int) < (x.e.val.length : Int)) = true := decide_eq_true (by omega)
                  have q1 : (k : Int) < (x.e.val.length : Int) := by omega
                  have qb : x.e.val.length ≤ 100000000 := HLN.out.1
                  obtain ⟨nd, hnd⟩ : ∃ z, x.e.val.getD k (nd0 0) = z := ⟨_, rfl⟩
                  have htk := hij.at (turnK_length k x.e.val) k 0 (.int .i64 nd.kind) hlt (by decide) (by rw [turnK_at hlt, hnd]; rfl)
                  have htx := hij.at (turnK_length k x.e.val) k 2 (.string ⟨nd.text.toArray⟩) hlt (by decide) (by rw [turnK_at hlt, hnd]; rfl)
                  have kq : wr.cell? ⟨gv, k * 6, none⟩ = some (.int .i64 nd.kind) := htk.1
                  have HND : Hid (x.e.val.getD k (nd0 0) = nd) := hnd
                  have HTL : Hid (nd.text.length ≤ 1048576) := by
                    have h3 : x.e.val.getD k (nd0 0) ∈ x.e.val := by rw [List.getD_eq_getElem?_getD, List.getElem?_eq_getElem hlt]; exact List.getElem_mem hlt
                    have := (HTS.out _ h3).1
                    rw [hnd] at this
                    exact this
                  by_cases h5 : nd.kind = 5
                  · have q5 : (nd.kind == (5 : Int)) = true := by simp [h5]
                    have hxm : nd.text.length + 1 ≤ 9223372036854775807 := by have := HTL.out; omega
                    have hxn : ¬ (9223372036854775807 < nd.text.length + 1) := by omega
                    have HTX : Hid (wr.cell? ⟨gv, k * 6 + 2, none⟩ = some (.string ⟨nd.text.toArray⟩) ∧ wr.frozen? ⟨gv, k * 6 + 2, none⟩ = false) := htx
                    have HIS : Hid (∀ wd, wr.drewN 1 = wd → KJ w gv ga cv ca x.e.val.length x.e.ops.length (.slice (some ⟨g, 0, none⟩) 1 cG) [.slice x.va x.e.val.length x.vc, .int .i64 x.e.kty, .string ⟨x.e.kid.toArray⟩, .bool x.e.hKid, .string ⟨x.e.use.toArray⟩, .bool x.e.hUse, .string ⟨x.e.alg.toArray⟩, .bool x.e.hAlg, .slice x.aa x.e.ops.length x.ac, .bool x.e.hOps] ⟨x.e, some ⟨gv, 0, none⟩, cv, some ⟨ga, 0, none⟩, ca⟩ (turnK (k + 1) x.e.val) (1048576 + x.e.ops.length) (wd.setCell ⟨gv, k * 6 + 2, none⟩ (.string ⟨(nd.text ++ [120]).toArray⟩))) := fun wd hwd => by
                      rw [← hwd]
                      have h3 := (HIJ.out.drewN 1).node (turnK_length k x.e.val) k hlt (nd.text ++ [120])
                      rw [turnK_at hlt, HND.out, ← show turnX nd = { nd with text := nd.text ++ [120] } from if_pos h5, ← HND.out, turnK_set hlt, HND.out] at h3
                      exact h3
                    clear htk htx hij hnd
                    go_wp2
                    refine wp_region_tail 16 (by kernel_rfl) (by kernel_rfl) ?_
                    have kx := HTX.out.1
                    simp only [List.take_succ_cons, List.take_zero, List.drop_succ_cons, List.drop_zero]
                    repeat (first | go_big_quiet_skip | (go_big_quiet_want; go_big_quiet_op; go_big_quiet_on))
                    refine wpQuiet_nil ?_
                    have kx1 : (wr.drewN 1).cell? ⟨gv, k * 6 + 2, none⟩ = some (.string ⟨nd.text.toArray⟩) := kx
                    have kf1 : (wr.drewN 1).frozen? ⟨gv, k * 6 + 2, none⟩ = false := HTX.out.2
                    obtain ⟨wd, hwd⟩ : ∃ wd, wr.drewN 1 = wd := ⟨_, rfl⟩
                    have HIS2 := (show Hid _ from HIS.out wd hwd)
                    rw [hwd] at kx1 kf1 ⊢
                    clear hwd HIS HIJ HTX kx kq r0 r1 r2 r3 r4 r5 r6 r7 r8 r9
                    go_wp2
                    go_roundw
                    case rel => exact ⟨k + 1, by go_num, by omega, HIS2.out⟩
                    case measure => simp [intOf]; omega
                  · have q5 : (nd.kind == (5 : Int)) = false := by simpa using h5
                    have HIS : Hid (KJ w gv ga cv ca x.e.val.length x.e.ops.length (.slice (some ⟨g, 0, none⟩) 1 cG) [.slice x.va x.e.val.length x.vc, .int .i64 x.e.kty, .string ⟨x.e.kid.toArray⟩, .bool x.e.hKid, .string ⟨x.e.use.toArray⟩, .bool x.e.hUse, .string ⟨x.e.alg.toArray⟩, .bool x.e.hAlg, .slice x.aa x.e.ops.length x.ac, .bool x.e.hOps] ⟨x.e, some ⟨gv, 0, none⟩, cv, some ⟨ga, 0, none⟩, ca⟩ (turnK (k + 1) x.e.val) (1048576 + x.e.ops.length) wr) := by
                      rw [turnK_same hlt (by rw [hnd]; exact h5)]
                      exact hij
                    clear htk htx hij hnd HIJ
                    go_wp2
                    go_roundw
                    case rel => exact ⟨k + 1, by go_num, by omega, HIS.out⟩
                    case measure => simp [intOf]; omega
                · have q0 : decide ((k : Int) < (x.e.val.length : Int)) = false := decide_eq_false (by omega)
                  obtain rfl : k = x.e.val.length := by omega
                  rw [turnK_all] at hij
                  clear HIJ r0 r1 r2 r3 r4 r5 r6 r7 r8 r9
                  have HIJ : Hid (KJ w gv ga cv ca x.e.val.length x.e.ops.length (.slice (some ⟨g, 0, none⟩) 1 cG) [.slice x.va x.e.val.length x.vc, .int .i64 x.e.kty, .string ⟨x.e.kid.toArray⟩, .bool x.e.hKid, .string ⟨x.e.use.toArray⟩, .bool x.e.hUse, .string ⟨x.e.alg.toArray⟩, .bool x.e.hAlg, .slice x.aa x.e.ops.length x.ac, .bool x.e.hOps] ⟨x.e, some ⟨gv, 0, none⟩, cv, some ⟨ga, 0, none⟩, ca⟩ (x.e.val.map turnX) (1048576 + x.e.ops.length) wr) := hij
                  obtain ⟨F, CD, CP⟩ := HIJ.out.both a HLQ.out (List.length_map ..) (shaped_turn HSH.out) HTS2.out HLN.out.1 HLN.out.2
                  have HCP := (show Hid _ from CP)
                  obtain ⟨r0, r1, r2, r3, r4, r5, r6, r7, r8, r9⟩ := (hij.ro.cells rfl (show [(⟨x.e, some ⟨gv, 0, none⟩, cv, some ⟨ga, 0, none⟩, ca⟩ : Ex)][0]? = some _ from rfl) 0 rfl)
                  simp only [Nat.zero_add] at r1 r2 r3 r4 r5 r6 r7 r8 r9
                  have qF : ((F : Int) == F) = true := by simp
                  clear hij CP
                  go_wp2_with fail
                  refine CD.mono ?_
                  clear CD r0 r1 r2 r3 r4 r5 r6 r7 r8 r9
                  rintro r w20 ⟨rfl, hb⟩
                  have HIJ2 : Hid (KJ w gv ga cv ca x.e.val.length x.e.ops.length (.slice (some ⟨g, 0, none⟩) 1 cG) [.slice x.va x.e.val.length x.vc, .int .i64 x.e.kty, .string ⟨x.e.kid.toArray⟩, .bool x.e.hKid, .string ⟨x.e.use.toArray⟩, .bool x.e.hUse, .string ⟨x.e.alg.toArray⟩, .bool x.e.hAlg, .slice x.aa x.e.ops.length x.ac, .bool x.e.hOps] ⟨x.e, some ⟨gv, 0, none⟩, cv, some ⟨ga, 0, none⟩, ca⟩ (x.e.val.map turnX) (1048576 + x.e.ops.length) w20) := HIJ.out.below hb
                  have CP := HCP.out w20 hb
                  have hij := HIJ2.out
                  obtain ⟨r0, r1, r2, r3, r4, r5, r6, r7, r8, r9⟩ := (hij.ro.cells rfl (show [(⟨x.e, some ⟨gv, 0, none⟩, cv, some ⟨ga, 0, none⟩, ca⟩ : Ex)][0]? = some _ from rfl) 0 rfl)
                  simp only [Nat.zero_add] at r1 r2 r3 r4 r5 r6 r7 r8 r9
                  clear hb HIJ HCP hij
                  go_wp2_with fail
                  refine CP.mono ?_
                  clear CP r0 r1 r2 r3 r4 r5 r6 r7 r8 r9
                  rintro r w21 ⟨rfl, hb⟩
                  have HIJ : Hid (KJ w gv ga cv ca x.e.val.length x.e.ops.length (.slice (some ⟨g, 0, none⟩) 1 cG) [.slice x.va x.e.val.length x.vc, .int .i64 x.e.kty, .string ⟨x.e.kid.toArray⟩, .bool x.e.hKid, .string ⟨x.e.use.toArray⟩, .bool x.e.hUse, .string ⟨x.e.alg.toArray⟩, .bool x.e.hAlg, .slice x.aa x.e.ops.length x.ac, .bool x.e.hOps] ⟨x.e, some ⟨gv, 0, none⟩, cv, some ⟨ga, 0, none⟩, ca⟩ (x.e.val.map turnX) (1048576 + x.e.ops.length) w21) := HIJ2.out.below hb
                  clear hb HIJ2
                  have CR := HRB.out w21 HIJ.out.bel
                  go_wp2_with fail
                  refine CR.mono ?_
                  clear CR
                  rintro r w22 ⟨rfl, hb⟩
                  have HB : Hid (Below w.heap.size w w22) := (HIJ.out.below hb).bel
                  clear hb HIJ
                  go_wp2
                  go_ret
                  exact ⟨rfl, HB.out⟩
  · go_wp2
    go_ret
    exact ⟨rfl, HB1.out⟩

end Go.Proofs.YtkfchdmlemcjhaaDoor

namespace Go.Proofs.YtkfchdmlemcjhaaDoor
open Go.RowKit Go.Shelf
set_option maxRecDepth 100000

def valR (c : List UInt8) : List Nd := [⟨7, [], [], false, 0, 1⟩, ⟨5, crvT, c, false, 0, 0⟩]
def tysR (k : Nat) : Int := [1, 2, 3, 3, 4].getD k 0
def crvR (k : Nat) : List UInt8 := [[], [], [80, 45, 50, 53, 54], [80, 45, 51, 56, 52], [69, 100, 50, 53, 53, 49, 57]].getD k []
def p521 : List UInt8 := [80, 45, 53, 50, 49]
def signT : List UInt8 := [115, 105, 103, 110]
theorem shaped_R : ∀ k, k < 5 → shapedF (valR (crvR k)) = true := fun k hk => by
  match k, hk with
  | 0, _ => decide +kernel
  | 1, _ => decide +kernel
  | 2, _ => decide +kernel
  | 3, _ => decide +kernel
  | 4, _ => decide +kernel
theorem shaped_521 : shapedF (valR p521) = true := by decide +kernel
theorem crvR_len : ∀ k, k < 5 → (crvR k).length ≤ 7 := by decide
def exR (t : Int) (c op : List UInt8) (gv ga : Nat) : Ex := ⟨⟨valR c, t, [], false, [], false, [], false, [op], true⟩, some ⟨gv, 0, none⟩, 2, some ⟨ga, 0, none⟩, 1⟩
/-- What stands of the entry that a round makes. -/
structure RJ (w : World) (bx gv ga : Nat) (t : Int) (c op : List UInt8) (wx : World) : Prop where
  bel : Below w.heap.size w wx
  hx : Bl 26 wx bx [.slice (some ⟨gv, 0, none⟩) 2 2, .int .i64 t, .string ⟨#[]⟩, .bool false, .string ⟨#[]⟩, .bool false, .string ⟨#[]⟩, .bool false, .slice (some ⟨ga, 0, none⟩) 1 1, .bool true]
  hv : Bl 36 wx gv (nCs (valR c))
  ha : Bl 9 wx ga [tV op]
  bt : Bl 23 wx w.heap.size [.int .i64 1, .int .i64 2, .int .i64 3, .int .i64 3, .int .i64 4]
  bc : Bl 9 wx (w.heap.size + 1) [.string ⟨#[]⟩, .string ⟨#[]⟩, .string ⟨#[80, 45, 50, 53, 54]⟩, .string ⟨#[80, 45, 51, 56, 52]⟩, .string ⟨#[69, 100, 50, 53, 53, 49, 57]⟩]
  o1 : w.heap.size + 2 ≤ ga
  o2 : ga < bx
  o3 : bx < gv
theorem RJ.below {w wx wy : World} {bx gv ga : Nat} {t : Int} {c op : List UInt8} (h : RJ w bx gv ga t c op wx) (hb : Below wx.heap.size wx wy) : RJ w bx gv ga t c op wy :=
  ⟨h.bel.trans (hb.mono h.bel.size), h.hx.below hb h.hx.lt, h.hv.below hb h.hv.lt, h.ha.below hb h.ha.lt, h.bt.below hb h.bt.lt, h.bc.below hb h.bc.lt, h.o1, h.o2, h.o3⟩
theorem RJ.op {w wx : World} {bx gv ga : Nat} {t : Int} {c op : List UInt8} (h : RJ w bx gv ga t c op wx) (u : List UInt8) : RJ w bx gv ga t c u (wx.setCell ⟨ga, 0, none⟩ (tV u)) := by
  have o1 := h.o1
  have o2 := h.o2
  have o3 := h.o3
  have hlo : w.heap.size ≤ ga := by omega
  exact ⟨h.bel.setCell hlo _, bl_oth2 h.hx (by omega), bl_oth2 h.hv (by omega), h.ha.set 0 _, bl_oth2 h.bt (by omega), bl_oth2 h.bc (by omega), h.o1, h.o2, h.o3⟩
theorem RJ.cv {w wx : World} {bx gv ga : Nat} {t : Int} {c op : List UInt8} (h : RJ w bx gv ga t c op wx) (u : List UInt8) : RJ w bx gv ga t u op (wx.setCell ⟨gv, 8, none⟩ (tV u)) := by
  have o1 := h.o1
  have o2 := h.o2
  have o3 := h.o3
  have hlo : w.heap.size ≤ gv := by omega
  exact ⟨h.bel.setCell hlo _, bl_oth2 h.hx (by omega), h.hv.set 8 _, bl_oth2 h.ha (by omega), bl_oth2 h.bt (by omega), bl_oth2 h.bc (by omega), h.o1, h.o2, h.o3⟩
theorem RJ.rd {w wx : World} {bx gv ga : Nat} {t : Int} {c op : List UInt8} (h : RJ w bx gv ga t c op wx) : XR wx (exR t c op gv ga) := by
  refine ⟨⟨rfl, Nat.le_refl _, .inr ⟨gv, 0, rfl, h.hv.lt, fun j u hu => ?_⟩⟩, ⟨rfl, Nat.le_refl _, .inr ⟨ga, 0, rfl, h.ha.lt, fun j hj => ?_⟩⟩, (fun e => by cases e), (fun e => by cases e)⟩
  · exact bl_rng2 h.hv j u hu
  · have e : j = 0 := by
      have : ([op] : List (List UInt8)).length = 1 := rfl
      exact Nat.lt_one_iff.1 hj
    subst e
    exact h.ha.cell 0 (by simp)
theorem RJ.cells {w wx : World} {bx gv ga : Nat} {t : Int} {c op : List UInt8} (h : RJ w bx gv ga t c op wx) : wx.cell? ⟨bx, 0, none⟩ = some (.slice (some ⟨gv, 0, none⟩) 2 2) ∧ wx.cell? ⟨bx, 1, none⟩ = some (.int .i64 t) ∧ wx.cell? ⟨bx, 2, none⟩ = some (.string ⟨#[]⟩) ∧ wx.cell? ⟨bx, 3, none⟩ = some (.bool false) ∧ wx.cell? ⟨bx, 4, none⟩ = some (.string ⟨#[]⟩) ∧ wx.cell? ⟨bx, 5, none⟩ = some (.bool false) ∧ wx.cell? ⟨bx, 6, none⟩ = some (.string ⟨#[]⟩) ∧ wx.cell? ⟨bx, 7, none⟩ = some (.bool false) ∧ wx.cell? ⟨bx, 8, none⟩ = some (.slice (some ⟨ga, 0, none⟩) 1 1) ∧ wx.cell? ⟨bx, 9, none⟩ = some (.bool true) := ⟨h.hx.cell 0 (Nat.le_of_ble_eq_true rfl), h.hx.cell 1 (Nat.le_of_ble_eq_true rfl), h.hx.cell 2 (Nat.le_of_ble_eq_true rfl), h.hx.cell 3 (Nat.le_of_ble_eq_true rfl), h.hx.cell 4 (Nat.le_of_ble_eq_true rfl), h.hx.cell 5 (Nat.le_of_ble_eq_true rfl), h.hx.cell 6 (Nat.le_of_ble_eq_true rfl), h.hx.cell 7 (Nat.le_of_ble_eq_true rfl), h.hx.cell 8 (Nat.le_of_ble_eq_true rfl), h.hx.cell 9 (Nat.le_of_ble_eq_true rfl)⟩
set_option maxHeartbeats 4000000 in
/-- Both answers of what stands. -/
theorem RJ.both {w wx : World} {bx gv ga : Nat} {t : Int} {c op : List UInt8} (h : RJ w bx gv ga t c op wx) (a : Int) (LQ : ∀ wq, Below w.heap.size w wq → GL wq.heap.size wq ∧ Alg wq ∧ 0 < wq.heap.size) (hs : shapedF (valR c) = true) (hc : c.length ≤ 7) :
    ∃ F : Int, (∀ wq, Below wx.heap.size wx wq → Calls Tryd.prog 9 #[.agg #[.slice (some ⟨gv, 0, none⟩) 2 2, .int .i64 t, .string ⟨#[]⟩, .bool false, .string ⟨#[]⟩, .bool false, .string ⟨#[]⟩, .bool false, .slice (some ⟨ga, 0, none⟩) 1 1, .bool true], .int .i64 a] wq fun r w' => r = .returned (.int .i64 F) ∧ Below wq.heap.size wq w') ∧ ∀ wq, Below wx.heap.size wx wq → Calls Tryd.prog 6 #[.agg #[.slice (some ⟨gv, 0, none⟩) 2 2, .int .i64 t, .string ⟨#[]⟩, .bool false, .string ⟨#[]⟩, .bool false, .string ⟨#[]⟩, .bool false, .slice (some ⟨ga, 0, none⟩) 1 1, .bool true], .int .i64 a] wq fun r w' => r = .returned (.int .i64 F) ∧ Below wq.heap.size wq w' := by
  refine ⟨bindE (exR t c op gv ga).e a, fun wq hq => ?_, fun wq hq => ?_⟩
  · exact rbindK_any (exR t c op gv ga) a wq (h.below hq).rd hs (by show 2 ≤ _; decide) (by show 1 ≤ _; decide)
  · have hl := LQ wq (h.below hq).bel
    exact bindK_any (exR t c op gv ga) a wq (h.below hq).rd hl.2.1 hl.1 (fun z hz => by
      have h2 : z ∈ valR c := hz
      simp only [valR, List.mem_cons, List.not_mem_nil, or_false] at h2
      rcases h2 with rfl | rfl
      · exact ⟨by decide, by decide⟩
      · exact ⟨by dsimp only; omega, by dsimp only; decide⟩) (by show 2 ≤ _; decide) (by show 1 ≤ _; decide) hl.2.2

set_option maxHeartbeats 64000000 in
/-- Both Binds agree on the entries that it makes. -/
theorem rebound_any (a : Int) (w : World) (LQ : ∀ wq, Below w.heap.size w wq → GL wq.heap.size wq ∧ Alg wq ∧ 0 < wq.heap.size) :
    Calls Tryd.prog 10 #[.int .i64 a] w fun r w' => r = .returned (.bool true) ∧ Below w.heap.size w w' := by
  have HLQ : Hid (∀ wq, Below w.heap.size w wq → GL wq.heap.size wq ∧ Alg wq ∧ 0 < wq.heap.size) := LQ
  obtain ⟨W, hW⟩ : ∃ y, ((w.alloc (.cells #[.int .i64 1, .int .i64 2, .int .i64 3, .int .i64 3, .int .i64 4] 23)).alloc (.cells #[.string ⟨#[]⟩, .string ⟨#[]⟩, .string ⟨#[80, 45, 50, 53, 54]⟩, .string ⟨#[80, 45, 51, 56, 52]⟩, .string ⟨#[69, 100, 50, 53, 53, 49, 57]⟩] 9)) = y := ⟨_, rfl⟩
  have x1 := alloc_below w (.cells #[.int .i64 1, .int .i64 2, .int .i64 3, .int .i64 3, .int .i64 4] 23)
  have x2 := alloc_below (w.alloc (.cells #[.int .i64 1, .int .i64 2, .int .i64 3, .int .i64 3, .int .i64 4] 23)) (.cells #[.string ⟨#[]⟩, .string ⟨#[]⟩, .string ⟨#[80, 45, 50, 53, 54]⟩, .string ⟨#[80, 45, 51, 56, 52]⟩, .string ⟨#[69, 100, 50, 53, 53, 49, 57]⟩] 9)
  have x3 : Bl 23 _ _ [.int .i64 1, .int .i64 2, .int .i64 3, .int .i64 3, .int .i64 4] := alloc_bl w [.int .i64 1, .int .i64 2, .int .i64 3, .int .i64 3, .int .i64 4] 23
  have x4 : Bl 9 _ _ [.string ⟨#[]⟩, .string ⟨#[]⟩, .string ⟨#[80, 45, 50, 53, 54]⟩, .string ⟨#[80, 45, 51, 56, 52]⟩, .string ⟨#[69, 100, 50, 53, 53, 49, 57]⟩] := alloc_bl (w.alloc (.cells #[.int .i64 1, .int .i64 2, .int .i64 3, .int .i64 3, .int .i64 4] 23)) [.string ⟨#[]⟩, .string ⟨#[]⟩, .string ⟨#[80, 45, 50, 53, 54]⟩, .string ⟨#[80, 45, 51, 56, 52]⟩, .string ⟨#[69, 100, 50, 53, 53, 49, 57]⟩] 9
  rw [hW] at x2 x4
  rw [World.size_alloc] at x4
  have HW : Hid (((w.alloc (.cells #[.int .i64 1, .int .i64 2, .int .i64 3, .int .i64 3, .int .i64 4] 23)).alloc (.cells #[.string ⟨#[]⟩, .string ⟨#[]⟩, .string ⟨#[80, 45, 50, 53, 54]⟩, .string ⟨#[80, 45, 51, 56, 52]⟩, .string ⟨#[69, 100, 50, 53, 53, 49, 57]⟩] 9)) = W) := hW
  have HB : Hid (Below w.heap.size w W ∧ Bl 23 W w.heap.size [.int .i64 1, .int .i64 2, .int .i64 3, .int .i64 3, .int .i64 4] ∧ Bl 9 W (w.heap.size + 1) [.string ⟨#[]⟩, .string ⟨#[]⟩, .string ⟨#[80, 45, 50, 53, 54]⟩, .string ⟨#[80, 45, 51, 56, 52]⟩, .string ⟨#[69, 100, 50, 53, 53, 49, 57]⟩]) := ⟨x1.trans (x2.mono x1.size), x3.below x2 x3.lt, x4⟩
  clear x1 x2 x3 x4 hW LQ
  go_enter Tryd.func10, Tryd.ntmps10
  go_upto_region 3 with fail
  rw [HW.out]
  clear HW
  go_wp2
  go_loopw [5] (fun s wx => ∃ k : Nat, s = .int .i64 k ∧ k ≤ 5 ∧ Hid (Below w.heap.size w wx ∧ Bl 23 wx w.heap.size [.int .i64 1, .int .i64 2, .int .i64 3, .int .i64 3, .int .i64 4] ∧ Bl 9 wx (w.heap.size + 1) [.string ⟨#[]⟩, .string ⟨#[]⟩, .string ⟨#[80, 45, 50, 53, 54]⟩, .string ⟨#[80, 45, 51, 56, 52]⟩, .string ⟨#[69, 100, 50, 53, 53, 49, 57]⟩])) (fun s _ => 5 - (intOf s).toNat)
  case atStart => exact ⟨0, rfl, Nat.zero_le _, HB⟩
  case round =>
    obtain ⟨k, rfl, hk, hij⟩ := hrel
    by_cases hlt : k < 5
    · have q0 : decide ((k : Int) < (5 : Int)) = true := decide_eq_true (by omega)
      obtain ⟨t, ht⟩ : ∃ t, tysR k = t := ⟨_, rfl⟩
      obtain ⟨c, hc⟩ : ∃ c, crvR k = c := ⟨_, rfl⟩
      have HSH : Hid (shapedF (valR c) = true) := by rw [← hc]; exact shaped_R k hlt
      have HCL : Hid (c.length ≤ 7) := by rw [← hc]; exact crvR_len k hlt
      have kt : wr.cell? ⟨w.heap.size, k, none⟩ = some (.int .i64 t) := by
        have := bl_rng2 hij.out.2.1 k (.int .i64 t) (by rw [← ht]; match k, hlt with | 0, _ => rfl | 1, _ => rfl | 2, _ => rfl | 3, _ => rfl | 4, _ => rfl)
        rwa [Nat.zero_add] at this
      have kc : wr.cell? ⟨w.heap.size + 1, k, none⟩ = some (.string ⟨c.toArray⟩) := by
        have := bl_rng2 hij.out.2.2 k (.string ⟨c.toArray⟩) (by rw [← hc]; match k, hlt with | 0, _ => rfl | 1, _ => rfl | 2, _ => rfl | 3, _ => rfl | 4, _ => rfl)
        rwa [Nat.zero_add] at this
      clear ht hc
      obtain ⟨wA, hwA⟩ : ∃ y, ((wr.alloc (.cells #[.string ⟨#[118, 101, 114, 105, 102, 121]⟩] 9)).alloc (.cells #[.slice none 0 0, .int .i64 t, .string ⟨#[]⟩, .bool false, .string ⟨#[]⟩, .bool false, .string ⟨#[]⟩, .bool false, .slice (some ⟨wr.heap.size, 0, none⟩) 1 1, .bool true] 26)) = y := ⟨_, rfl⟩
      have b1 := alloc_below wr (.cells #[.string ⟨#[118, 101, 114, 105, 102, 121]⟩] 9)
      have b2 := alloc_below (wr.alloc (.cells #[.string ⟨#[118, 101, 114, 105, 102, 121]⟩] 9)) (.cells #[.slice none 0 0, .int .i64 t, .string ⟨#[]⟩, .bool false, .string ⟨#[]⟩, .bool false, .string ⟨#[]⟩, .bool false, .slice (some ⟨wr.heap.size, 0, none⟩) 1 1, .bool true] 26)
      have l1 : Bl 9 (wr.alloc (.cells #[.string ⟨#[118, 101, 114, 105, 102, 121]⟩] 9)) wr.heap.size [.string ⟨#[118, 101, 114, 105, 102, 121]⟩] := alloc_bl wr [.string ⟨#[118, 101, 114, 105, 102, 121]⟩] 9
      have l2 : Bl 26 ((wr.alloc (.cells #[.string ⟨#[118, 101, 114, 105, 102, 121]⟩] 9)).alloc (.cells #[.slice none 0 0, .int .i64 t, .string ⟨#[]⟩, .bool false, .string ⟨#[]⟩, .bool false, .string ⟨#[]⟩, .bool false, .slice (some ⟨wr.heap.size, 0, none⟩) 1 1, .bool true] 26)) (wr.alloc (.cells #[.string ⟨#[118, 101, 114, 105, 102, 121]⟩] 9)).heap.size [.slice none 0 0, .int .i64 t, .string ⟨#[]⟩, .bool false, .string ⟨#[]⟩, .bool false, .string ⟨#[]⟩, .bool false, .slice (some ⟨wr.heap.size, 0, none⟩) 1 1, .bool true] := alloc_bl (wr.alloc (.cells #[.string ⟨#[118, 101, 114, 105, 102, 121]⟩] 9)) [.slice none 0 0, .int .i64 t, .string ⟨#[]⟩, .bool false, .string ⟨#[]⟩, .bool false, .string ⟨#[]⟩, .bool false, .slice (some ⟨wr.heap.size, 0, none⟩) 1 1, .bool true] 26
      have hsz : wA.heap.size = wr.heap.size + 2 := by rw [← hwA, World.size_alloc, World.size_alloc]
      rw [World.size_alloc] at l2
      rw [hwA] at b2 l2
      have HBA : Hid (Below w.heap.size w wA ∧ Below wr.heap.size wr wA ∧ Bl 9 wA wr.heap.size [.string ⟨#[118, 101, 114, 105, 102, 121]⟩] ∧ Bl 26 wA (wr.heap.size + 1) [.slice none 0 0, .int .i64 t, .string ⟨#[]⟩, .bool false, .string ⟨#[]⟩, .bool false, .string ⟨#[]⟩, .bool false, .slice (some ⟨wr.heap.size, 0, none⟩) 1 1, .bool true]) := ⟨(hij.out.1.trans (b1.mono hij.out.1.size)).trans (b2.mono (Nat.le_trans hij.out.1.size b1.size)), b1.trans (b2.mono b1.size), l1.below b2 l1.lt, l2⟩
      have HSZ : Hid (wA.heap.size = wr.heap.size + 2) := hsz
      have kcA : wA.cell? ⟨w.heap.size + 1, k, none⟩ = some (.string ⟨c.toArray⟩) := cell_but kc fun _ => HBA.out.2.1.block _ (World.block_lt_of_cell? _ _ kc)
      have HVN : Hid (Below wA.heap.size wA (wA.alloc (.cells #[.int .i64 7, .string ⟨#[]⟩, .string ⟨#[]⟩, .bool false, .int .i64 0, .int .i64 1, .int .i64 5, .string ⟨#[99, 114, 118]⟩, .string ⟨c.toArray⟩, .bool false, .int .i64 0, .int .i64 0] 36))) := alloc_below _ _
      have kfN : (wA.alloc (.cells #[.int .i64 7, .string ⟨#[]⟩, .string ⟨#[]⟩, .bool false, .int .i64 0, .int .i64 1, .int .i64 5, .string ⟨#[99, 114, 118]⟩, .string ⟨c.toArray⟩, .bool false, .int .i64 0, .int .i64 0] 36)).frozen? ⟨wr.heap.size + 1, 0, none⟩ = false := (HBA.out.2.2.2.below HVN.out HBA.out.2.2.2.lt).frozen 0
      have kcN : (wA.alloc (.cells #[.int .i64 7, .string ⟨#[]⟩, .string ⟨#[]⟩, .bool false, .int .i64 0, .int .i64 1, .int .i64 5, .string ⟨#[99, 114, 118]⟩, .string ⟨c.toArray⟩, .bool false, .int .i64 0, .int .i64 0] 36)).cell? ⟨wr.heap.size + 1, 0, none⟩ = some (.slice none 0 0) := (HBA.out.2.2.2.below HVN.out HBA.out.2.2.2.lt).cell 0 (by simp)
      have HWA : Hid (((wr.alloc (.cells #[.string ⟨#[118, 101, 114, 105, 102, 121]⟩] 9)).alloc (.cells #[.slice none 0 0, .int .i64 t, .string ⟨#[]⟩, .bool false, .string ⟨#[]⟩, .bool false, .string ⟨#[]⟩, .bool false, .slice (some ⟨wr.heap.size, 0, none⟩) 1 1, .bool true] 26)) = wA) := hwA
      clear b1 b2 l1 l2 hsz hwA kc
      go_upto_region 7 with fail
      rw [HWA.out]
      clear HWA kt
      go_upto_region 8 with fail
      obtain ⟨wB, hwB⟩ : ∃ y, ((wA.alloc (.cells #[.int .i64 7, .string ⟨#[]⟩, .string ⟨#[]⟩, .bool false, .int .i64 0, .int .i64 1, .int .i64 5, .string ⟨#[99, 114, 118]⟩, .string ⟨c.toArray⟩, .bool false, .int .i64 0, .int .i64 0] 36)).setCell ⟨wr.heap.size + 1, 0, none⟩ (.slice (some ⟨wA.heap.size, 0, none⟩) 2 2)) = y := ⟨_, rfl⟩
      have HJ : Hid (RJ w (wr.heap.size + 1) wA.heap.size wr.heap.size t c verT wB) := by
        have e1 := HVN.out
        have hv : Bl 36 (wA.alloc (.cells #[.int .i64 7, .string ⟨#[]⟩, .string ⟨#[]⟩, .bool false, .int .i64 0, .int .i64 1, .int .i64 5, .string ⟨#[99, 114, 118]⟩, .string ⟨c.toArray⟩, .bool false, .int .i64 0, .int .i64 0] 36)) wA.heap.size [.int .i64 7, .string ⟨#[]⟩, .string ⟨#[]⟩, .bool false, .int .i64 0, .int .i64 1, .int .i64 5, .string ⟨#[99, 114, 118]⟩, .string ⟨c.toArray⟩, .bool false, .int .i64 0, .int .i64 0] := alloc_bl wA [.int .i64 7, .string ⟨#[]⟩, .string ⟨#[]⟩, .bool false, .int .i64 0, .int .i64 1, .int .i64 5, .string ⟨#[99, 114, 118]⟩, .string ⟨c.toArray⟩, .bool false, .int .i64 0, .int .i64 0] 36
        have hs := HSZ.out
        have hs2 := hij.out.1.size
        have hlo : w.heap.size ≤ wr.heap.size + 1 := by omega
        have hz := hij.out.2.2.lt
        rw [← hwB]
        exact ⟨(HBA.out.1.trans (e1.mono HBA.out.1.size)).setCell hlo _, (HBA.out.2.2.2.below e1 HBA.out.2.2.2.lt).set 0 _, bl_oth2 hv (by omega), bl_oth2 (HBA.out.2.2.1.below e1 HBA.out.2.2.1.lt) (by omega), bl_oth2 ((hij.out.2.1.below HBA.out.2.1 hij.out.2.1.lt).below e1 (by have := hij.out.2.1.lt; omega)) (by have := hij.out.2.1.lt; omega), bl_oth2 ((hij.out.2.2.below HBA.out.2.1 hz).below e1 (by omega)) (by omega), by omega, by omega, by omega⟩
      rw [hwB]
      clear hwB HVN kfN kcN kcA HBA HSZ hij
      obtain ⟨F, CD, CP⟩ := HJ.out.both a HLQ.out HSH.out HCL.out
      have HCD := (show Hid _ from CD)
      have HCP := (show Hid _ from CP)
      obtain ⟨r0, r1, r2, r3, r4, r5, r6, r7, r8, r9⟩ := HJ.out.cells
      have qF : ((F : Int) != F) = false := by simp
      clear CD CP
      go_cut [35] from 29 to 35 (fun s wx => s = .bool false ∧ Hid (RJ w (wr.heap.size + 1) wA.heap.size wr.heap.size t c verT wx))
      case first =>
        go_region_with (first
          | (go_at_call 6; refine (HCP.out _ (by first | exact below_drewN (Below.refl _ _) 1 | exact Below.refl _ _ | exact hqB)).mono ?_; rintro r wp ⟨rfl, hp⟩; have hpB : Below wB.heap.size wB wp := (by first | exact (below_drewN (Below.refl _ _) 1).trans hp | exact hp | exact hqB.trans (hp.mono hqB.size)); clear r0 r1 r2 r3 r4 r5 r6 r7 r8 r9; obtain ⟨r0, r1, r2, r3, r4, r5, r6, r7, r8, r9⟩ := (HJ.out.below hpB).cells)
          | (go_at_call 9; refine (HCD.out _ (by first | exact below_drewN (Below.refl _ _) 1 | exact Below.refl _ _ | exact hpB)).mono ?_; rintro r wq ⟨rfl, hq⟩; have hqB : Below wB.heap.size wB wq := (by first | exact (below_drewN (Below.refl _ _) 1).trans hq | exact hq | exact hpB.trans (hq.mono hpB.size)); clear r0 r1 r2 r3 r4 r5 r6 r7 r8 r9; obtain ⟨r0, r1, r2, r3, r4, r5, r6, r7, r8, r9⟩ := (HJ.out.below hqB).cells))
        all_goals (
          go_wp2_with fail
          go_meet
          first | exact ⟨rfl, HJ.out.below hqB⟩ | exact ⟨rfl, HJ.out.below hpB⟩)
      obtain ⟨rfl, hj⟩ := hcut
      have HJ : Hid (RJ w (wr.heap.size + 1) wA.heap.size wr.heap.size t c verT wc) := hj.out
      clear hj HCD HCP qF r0 r1 r2 r3 r4 r5 r6 r7 r8 r9
      have ks : wc.cell? ⟨wr.heap.size, 0, none⟩ = some _ := HJ.out.ha.cell 0 (by first | decide | exact Nat.le_of_ble_eq_true rfl)
      have kf : wc.frozen? ⟨wr.heap.size, 0, none⟩ = false := HJ.out.ha.frozen 0
      obtain ⟨r0, r1, r2, r3, r4, r5, r6, r7, r8, r9⟩ := HJ.out.cells
      obtain ⟨wC, hw⟩ : ∃ y, wc.setCell ⟨wr.heap.size, 0, none⟩ (.string ⟨#[115, 105, 103, 110]⟩) = y := ⟨_, rfl⟩
      have HJ2 : Hid (RJ w (wr.heap.size + 1) wA.heap.size wr.heap.size t c signT wC) := by rw [← hw]; exact HJ.out.op signT
      have HWX : Hid (wc.setCell ⟨wr.heap.size, 0, none⟩ (.string ⟨#[115, 105, 103, 110]⟩) = wC) := hw
      clear hw HJ
      go_upto_region 11 with fail
      rw [HWX.out]
      clear HWX ks kf r0 r1 r2 r3 r4 r5 r6 r7 r8 r9
      have HJ := HJ2
      clear HJ2
      obtain ⟨F, CD, CP⟩ := HJ.out.both a HLQ.out HSH.out HCL.out
      have HCD := (show Hid _ from CD)
      have HCP := (show Hid _ from CP)
      obtain ⟨r0, r1, r2, r3, r4, r5, r6, r7, r8, r9⟩ := HJ.out.cells
      have qF : ((F : Int) != F) = false := by simp
      clear CD CP
      go_cut [45] from 39 to 45 (fun s wx => s = .bool false ∧ Hid (RJ w (wr.heap.size + 1) wA.heap.size wr.heap.size t c signT wx))
      case first =>
        go_region_with (first
          | (go_at_call 6; refine (HCP.out _ (by first | exact below_drewN (Below.refl _ _) 1 | exact Below.refl _ _ | exact hqB)).mono ?_; rintro r wp ⟨rfl, hp⟩; have hpB : Below wC.heap.size wC wp := (by first | exact (below_drewN (Below.refl _ _) 1).trans hp | exact hp | exact hqB.trans (hp.mono hqB.size)); clear r0 r1 r2 r3 r4 r5 r6 r7 r8 r9; obtain ⟨r0, r1, r2, r3, r4, r5, r6, r7, r8, r9⟩ := (HJ.out.below hpB).cells)
          | (go_at_call 9; refine (HCD.out _ (by first | exact below_drewN (Below.refl _ _) 1 | exact Below.refl _ _ | exact hpB)).mono ?_; rintro r wq ⟨rfl, hq⟩; have hqB : Below wC.heap.size wC wq := (by first | exact (below_drewN (Below.refl _ _) 1).trans hq | exact hq | exact hpB.trans (hq.mono hpB.size)); clear r0 r1 r2 r3 r4 r5 r6 r7 r8 r9; obtain ⟨r0, r1, r2, r3, r4, r5, r6, r7, r8, r9⟩ := (HJ.out.below hqB).cells))
        all_goals (
          go_wp2_with fail
          go_meet
          first | exact ⟨rfl, HJ.out.below hqB⟩ | exact ⟨rfl, HJ.out.below hpB⟩)
      obtain ⟨rfl, hj⟩ := hcut
      have HJ : Hid (RJ w (wr.heap.size + 1) wA.heap.size wr.heap.size t c signT wc) := hj.out
      clear hj HCD HCP qF r0 r1 r2 r3 r4 r5 r6 r7 r8 r9
      have ks : wc.cell? ⟨wr.heap.size, 0, none⟩ = some _ := HJ.out.ha.cell 0 (by first | decide | exact Nat.le_of_ble_eq_true rfl)
      have kf : wc.frozen? ⟨wr.heap.size, 0, none⟩ = false := HJ.out.ha.frozen 0
      obtain ⟨r0, r1, r2, r3, r4, r5, r6, r7, r8, r9⟩ := HJ.out.cells
      obtain ⟨wD, hw⟩ : ∃ y, wc.setCell ⟨wr.heap.size, 0, none⟩ (.string ⟨#[118, 101, 114, 105, 102, 121]⟩) = y := ⟨_, rfl⟩
      have HJ2 : Hid (RJ w (wr.heap.size + 1) wA.heap.size wr.heap.size t c verT wD) := by rw [← hw]; exact HJ.out.op verT
      have HWX : Hid (wc.setCell ⟨wr.heap.size, 0, none⟩ (.string ⟨#[118, 101, 114, 105, 102, 121]⟩) = wD) := hw
      clear hw HJ
      go_upto_region 14 with fail
      rw [HWX.out]
      clear HWX ks kf r0 r1 r2 r3 r4 r5 r6 r7 r8 r9
      have HJ := HJ2
      clear HJ2
      obtain ⟨F, CD, CP⟩ := HJ.out.both a HLQ.out HSH.out HCL.out
      have HCD := (show Hid _ from CD)
      have HCP := (show Hid _ from CP)
      obtain ⟨r0, r1, r2, r3, r4, r5, r6, r7, r8, r9⟩ := HJ.out.cells
      have qF : ((F : Int) != F) = false := by simp
      clear CD CP
      go_cut [55] from 49 to 55 (fun s wx => s = .bool false ∧ Hid (RJ w (wr.heap.size + 1) wA.heap.size wr.heap.size t c verT wx))
      case first =>
        go_region_with (first
          | (go_at_call 6; refine (HCP.out _ (by first | exact below_drewN (Below.refl _ _) 1 | exact Below.refl _ _ | exact hqB)).mono ?_; rintro r wp ⟨rfl, hp⟩; have hpB : Below wD.heap.size wD wp := (by first | exact (below_drewN (Below.refl _ _) 1).trans hp | exact hp | exact hqB.trans (hp.mono hqB.size)); clear r0 r1 r2 r3 r4 r5 r6 r7 r8 r9; obtain ⟨r0, r1, r2, r3, r4, r5, r6, r7, r8, r9⟩ := (HJ.out.below hpB).cells)
          | (go_at_call 9; refine (HCD.out _ (by first | exact below_drewN (Below.refl _ _) 1 | exact Below.refl _ _ | exact hpB)).mono ?_; rintro r wq ⟨rfl, hq⟩; have hqB : Below wD.heap.size wD wq := (by first | exact (below_drewN (Below.refl _ _) 1).trans hq | exact hq | exact hpB.trans (hq.mono hpB.size)); clear r0 r1 r2 r3 r4 r5 r6 r7 r8 r9; obtain ⟨r0, r1, r2, r3, r4, r5, r6, r7, r8, r9⟩ := (HJ.out.below hqB).cells))
        all_goals (
          go_wp2_with fail
          go_meet
          first | exact ⟨rfl, HJ.out.below hqB⟩ | exact ⟨rfl, HJ.out.below hpB⟩)
      obtain ⟨rfl, hj⟩ := hcut
      have HJ : Hid (RJ w (wr.heap.size + 1) wA.heap.size wr.heap.size t c verT wc) := hj.out
      clear hj HCD HCP qF r0 r1 r2 r3 r4 r5 r6 r7 r8 r9
      have ks : wc.cell? ⟨wA.heap.size, 8, none⟩ = some _ := HJ.out.hv.cell 8 (by first | decide | exact Nat.le_of_ble_eq_true rfl)
      have kf : wc.frozen? ⟨wA.heap.size, 8, none⟩ = false := HJ.out.hv.frozen 8
      obtain ⟨r0, r1, r2, r3, r4, r5, r6, r7, r8, r9⟩ := HJ.out.cells
      obtain ⟨wE, hw⟩ : ∃ y, wc.setCell ⟨wA.heap.size, 8, none⟩ (.string ⟨#[80, 45, 53, 50, 49]⟩) = y := ⟨_, rfl⟩
      have HJ2 : Hid (RJ w (wr.heap.size + 1) wA.heap.size wr.heap.size t p521 verT wE) := by rw [← hw]; exact HJ.out.cv p521
      have HWX : Hid (wc.setCell ⟨wA.heap.size, 8, none⟩ (.string ⟨#[80, 45, 53, 50, 49]⟩) = wE) := hw
      clear hw HJ
      go_upto_region 17 with fail
      rw [HWX.out]
      clear HWX ks kf r0 r1 r2 r3 r4 r5 r6 r7 r8 r9
      have HJ := HJ2
      clear HJ2
      obtain ⟨F, CD, CP⟩ := HJ.out.both a HLQ.out shaped_521 (by decide)
      have HCD := (show Hid _ from CD)
      have HCP := (show Hid _ from CP)
      obtain ⟨r0, r1, r2, r3, r4, r5, r6, r7, r8, r9⟩ := HJ.out.cells
      have qF : ((F : Int) != F) = false := by simp
      clear CD CP
      go_cut [66] from 60 to 66 (fun s wx => s = .bool false ∧ Hid (RJ w (wr.heap.size + 1) wA.heap.size wr.heap.size t p521 verT wx))
      case first =>
        go_region_with (first
          | (go_at_call 6; refine (HCP.out _ (by first | exact below_drewN (Below.refl _ _) 1 | exact Below.refl _ _ | exact hqB)).mono ?_; rintro r wp ⟨rfl, hp⟩; have hpB : Below wE.heap.size wE wp := (by first | exact (below_drewN (Below.refl _ _) 1).trans hp | exact hp | exact hqB.trans (hp.mono hqB.size)); clear r0 r1 r2 r3 r4 r5 r6 r7 r8 r9; obtain ⟨r0, r1, r2, r3, r4, r5, r6, r7, r8, r9⟩ := (HJ.out.below hpB).cells)
          | (go_at_call 9; refine (HCD.out _ (by first | exact below_drewN (Below.refl _ _) 1 | exact Below.refl _ _ | exact hpB)).mono ?_; rintro r wq ⟨rfl, hq⟩; have hqB : Below wE.heap.size wE wq := (by first | exact (below_drewN (Below.refl _ _) 1).trans hq | exact hq | exact hpB.trans (hq.mono hpB.size)); clear r0 r1 r2 r3 r4 r5 r6 r7 r8 r9; obtain ⟨r0, r1, r2, r3, r4, r5, r6, r7, r8, r9⟩ := (HJ.out.below hqB).cells))
        all_goals (
          go_wp2_with fail
          go_meet
          first | exact ⟨rfl, HJ.out.below hqB⟩ | exact ⟨rfl, HJ.out.below hpB⟩)
      obtain ⟨rfl, hj⟩ := hcut
      have HJ : Hid (RJ w (wr.heap.size + 1) wA.heap.size wr.heap.size t p521 verT wc) := hj.out
      clear hj HCD HCP qF r0 r1 r2 r3 r4 r5 r6 r7 r8 r9
      go_wp2
      go_roundw
      case rel => exact ⟨k + 1, by go_num, by omega, HJ.out.bel, HJ.out.bt, HJ.out.bc⟩
      case measure => simp [intOf]; omega
    · have q0 : decide ((k : Int) < (5 : Int)) = false := decide_eq_false (by omega)
      go_wp2
      go_ret
      exact ⟨rfl, hij.out.1⟩

end Go.Proofs.YtkfchdmlemcjhaaDoor
