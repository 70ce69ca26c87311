import Derived.Test.YtjaopeenkbcjcaaMc
import Derived.Test.YtjaopeenkbcjcaaCp
import Derived.Test.YtjaopeenkbcjcaaCq
import Derived.Deep.CutRange
namespace Go.Proofs.Ytjaopeenkbcjcaa
open Go.RowKit Go.Shelf

theorem run_win_eq (w : World) (wn : Wn) : (binOp .eql 32 (.agg #[.bool wn.empty, .int .i64 wn.fr, .int .i64 wn.en]) (.agg #[.bool wn.empty, .int .i64 wn.fr, .int .i64 wn.en])).run Try.prog w = .ok (.bool true) w := by
  rw [run_win]
  simp
set_option maxRecDepth 100000 in
theorem run_win_ne (w : World) (wn : Wn) : (binOp .neq 32 (.agg #[.bool wn.empty, .int .i64 wn.fr, .int .i64 wn.en]) (.agg #[.bool wn.empty, .int .i64 wn.fr, .int .i64 wn.en])).run Try.prog w = .ok (.bool false) w := by
  have h := run_win_eq w wn
  rw [run_eql_struct] at h
  rw [run_neq_struct]
  revert h
  generalize (Op.equalIn 10000 32 _ _).run Try.prog w = r
  intro h
  cases r with
  | ok b w' =>
    simp only [Result.andThen_ok] at h ⊢
    cases h
    rfl
  | _ => cases h

/-- What stands while the lists are written over. -/
structure CI (w : World) (bm bw bx gv ga cv ca n m : Nat) (cs ws : List Value) (N : Nat) (wx : World) : Prop where
  bel : Below w.heap.size w wx
  bm : Bl 27 wx bm cs
  bw : Bl 32 wx bw ws
  bx : Bl 32 wx bx ws
  vs : ∃ X : List Nd, X.length = n + 2 ∧ NO w.heap.size wx (.slice (some ⟨gv, 0, none⟩) (n + 2) cv) X
  as_ : ∃ X : List (List UInt8), (X.length = m + 2 ∧ ∀ x ∈ X, x.length ≤ N) ∧ OT w.heap.size wx (.slice (some ⟨ga, 0, none⟩) (m + 2) ca) X
theorem CI.below {w wx wy : World} {bm bw bx gv ga cv ca n m : Nat} {cs ws : List Value} {N : Nat} (h : CI w bm bw bx gv ga cv ca n m cs ws N wx) (hb : Below wx.heap.size wx wy) : CI w bm bw bx gv ga cv ca n m cs ws N wy :=
  ⟨h.bel.trans (hb.mono h.bel.size), h.bm.below hb h.bm.lt, h.bw.below hb h.bw.lt, h.bx.below hb h.bx.lt, h.vs.elim fun X hX => ⟨X, hX.1, own_below hX.2 hb (Nat.le_refl _)⟩, h.as_.elim fun X hX => ⟨X, hX.1, own_below hX.2 hb (Nat.le_refl _)⟩⟩
theorem CI.drewN {w wx : World} {bm bw bx gv ga cv ca n m : Nat} {cs ws : List Value} {N : Nat} (h : CI w bm bw bx gv ga cv ca n m cs ws N wx) (q : Nat) : CI w bm bw bx gv ga cv ca n m cs ws N (wx.drewN q) := h.below (below_drewN (Below.refl _ _) q)
/-- A text is written over. -/
theorem CI.text {w wx : World} {bm bw bx gv ga cv ca n m : Nat} {cs ws : List Value} {N : Nat} (h : CI w bm bw bx gv ga cv ca n m cs ws N wx) (k : Nat) (y : List UInt8) (M : Nat) (hy : y.length ≤ M) (hM : N ≤ M) (hlo : w.heap.size ≤ ga) : CI w bm bw bx gv ga cv ca n m cs ws M (wx.setCell ⟨ga, k, none⟩ (tV y)) := by
  obtain ⟨X, ⟨hX, hXl⟩, hO⟩ := h.as_
  obtain ⟨Y, hY, hN⟩ := h.vs
  have hO2 := hO
  unfold OT at hO2
  rw [hX] at hO2
  have hs := World.ownsRow.stored hO2 k (tV y)
  refine ⟨h.bel.setCell hlo _, bl_grown' h.bm hs.2 (fun e => block_apart hO h.bm (by decide) e), bl_grown' h.bw hs.2 (fun e => block_apart hO h.bw (by decide) e), bl_grown' h.bx hs.2 (fun e => block_apart hO h.bx (by decide) e), ⟨Y, hY, own_keep hN fun g hg => hs.2.block g (hN.lt g hg).2 (fun e => kinds_apart hN hO (by decide) hg e.symm)⟩, X.set k y, ⟨by rw [List.length_set]; exact hX, fun x hx => ?_⟩, ?_⟩
  · rcases List.mem_or_eq_of_mem_set hx with hx | hx
    · exact Nat.le_trans (hXl x hx) hM
    · rw [hx]; exact hy
  show OT _ _ _ _
  unfold OT
  rw [List.length_set, hX, List.map_set]
  exact hs.1
theorem CI.at_ {w wx : World} {bm bw bx gv ga cv ca n m : Nat} {cs ws : List Value} {N : Nat} (h : CI w bm bw bx gv ga cv ca n m cs ws N wx) {k : Nat} (hk : k < m) : ∃ x : List UInt8, wx.cell? ⟨ga, k, none⟩ = some (.string ⟨x.toArray⟩) ∧ wx.frozen? ⟨ga, k, none⟩ = false ∧ x.length ≤ N := by
  obtain ⟨X, ⟨hX, hXl⟩, hO⟩ := h.as_
  unfold OT at hO
  rw [hX] at hO
  have hoc := own_cell hO k (tV (X.getD k [])) (by rw [List.getElem?_map, List.getElem?_eq_getElem (by omega), List.getD_eq_getElem?_getD, List.getElem?_eq_getElem (by omega)]; rfl)
  refine ⟨X.getD k [], hoc.1, hoc.2, hXl _ ?_⟩
  rw [List.getD_eq_getElem?_getD, List.getElem?_eq_getElem (show k < X.length by omega)]
  exact List.getElem_mem _
/-- A node is written over. -/
theorem CI.node {w wx : World} {bm bw bx gv ga cv ca n m : Nat} {cs ws : List Value} {N : Nat} (h : CI w bm bw bx gv ga cv ca n m cs ws N wx) (k : Nat) (y : Nd) (hk : k < n) (hlo : w.heap.size ≤ gv) : CI w bm bw bx gv ga cv ca n m cs ws N (wx.setCells gv (k * 6) (nC y)) ∧ wx.there gv (k * 6) 6 := by
  obtain ⟨X, hX, hO⟩ := h.as_
  obtain ⟨Y, hY, hN⟩ := h.vs
  have hN2 := hN
  unfold NO at hN2
  rw [hY] at hN2
  have hYk : Y = Y.take k ++ (Y.getD k (nd0 0) :: Y.drop (k + 1)) := by rw [← dropN (by omega), List.take_append_drop]
  have hs := own_setCells (nC y) _ (k * 6) wx hN2
  have hsn := setL_node (Y.take k) (Y.getD k (nd0 0)) y (Y.drop (k + 1))
  rw [List.length_take_of_le (by omega), ← hYk] at hsn
  rw [hsn] at hs
  have hY2 : (Y.take k ++ (y :: Y.drop (k + 1))).length = n + 2 := by simp; omega
  refine ⟨⟨h.bel.grown hs.2 h.bel.size (fun j hj => by cases hj; exact hlo), bl_grown' h.bm hs.2 (fun e => block_apart hN h.bm (by decide) e), bl_grown' h.bw hs.2 (fun e => block_apart hN h.bw (by decide) e), bl_grown' h.bx hs.2 (fun e => block_apart hN h.bx (by decide) e), ⟨_, hY2, ?_⟩, ⟨X, hX, own_keep hO fun g hg => hs.2.block g (hO.lt g hg).2 (fun e => kinds_apart hO hN (by decide) hg e.symm)⟩⟩, own_there hN2 (by rw [nCs_length, hY]; omega)⟩
  unfold NO
  rw [hY2]
  exact hs.1

theorem bl_setr {t : TypeId} {w : World} {b b2 : Nat} {x : Array Value} {cs : List Value} (h : Bl t w b cs) (hne : b ≠ b2) : Bl t (w.setRow b2 x) b cs := by
  unfold Bl at *
  rw [setRow_other w b2 b x hne]; exact h
theorem bl_ne {t1 t2 : TypeId} {w : World} {b1 b2 : Nat} {c1 c2 : List Value} (h1 : Bl t1 w b1 c1) (h2 : Bl t2 w b2 c2) (hne : t1 ≠ t2) : b1 ≠ b2 := by
  intro e
  subst e
  unfold Bl at h1 h2
  rw [h1] at h2
  cases h2
  exact hne rfl

set_option maxRecDepth 100000 in
set_option maxHeartbeats 16000000 in
theorem clocks_any (l : List Nd) (va : Option Addr) (vc : Nat) (aud : List (List UInt8)) (aa : Option Addr) (ac : Nat) (iss : List UInt8) (hIss : Bool) (sub : List UInt8) (hSub : Bool) (hAud : Bool) (jti : List UInt8) (hJti : Bool) (ex nb it : Tm) (lee now : Int) (w : World)
    (h : NR w (.slice va l.length vc) l va vc) (hA : TR w (.slice aa aud.length ac) aud aa ac) (hvn : va = none → vc = 0) (han : aa = none → ac = 0) (hl : l.length ≤ 100000000) (hal : aud.length ≤ 100000000) (he : I64 ex.at_) (hnb : I64 nb.at_) (hit : I64 it.at_) (hnow : I64 now) (hml : ∀ x ∈ aud, x.length ≤ 1048576) :
    Calls Try.prog 3 #[.agg #[.slice va l.length vc, .string ⟨iss.toArray⟩, .bool hIss, .string ⟨sub.toArray⟩, .bool hSub, .slice aa aud.length ac, .bool hAud, .string ⟨jti.toArray⟩, .bool hJti, .bool ex.has, .int .i64 ex.at_, .bool nb.has, .int .i64 nb.at_, .bool it.has, .int .i64 it.at_], .int .i64 lee, .int .i64 now] w fun e w' => e = .returned (.bool true) ∧ Below w.heap.size w w' := by
  obtain ⟨W, hW⟩ : ∃ W : World, w.alloc (.cells #[.slice va l.length vc, .string ⟨iss.toArray⟩, .bool hIss, .string ⟨sub.toArray⟩, .bool hSub, .slice aa aud.length ac, .bool hAud, .string ⟨jti.toArray⟩, .bool hJti, .bool ex.has, .int .i64 ex.at_, .bool nb.has, .int .i64 nb.at_, .bool it.has, .int .i64 it.at_] 27) = W := ⟨_, rfl⟩
  have hB : Below w.heap.size w W := by rw [← hW]; exact alloc_below _ _
  have h5 : Bl 27 W w.heap.size [.slice va l.length vc, .string ⟨iss.toArray⟩, .bool hIss, .string ⟨sub.toArray⟩, .bool hSub, .slice aa aud.length ac, .bool hAud, .string ⟨jti.toArray⟩, .bool hJti, .bool ex.has, .int .i64 ex.at_, .bool nb.has, .int .i64 nb.at_, .bool it.has, .int .i64 it.at_] := by rw [← hW]; exact alloc_bl _ _ _
  have HW : Hid (w.alloc (.cells #[.slice va l.length vc, .string ⟨iss.toArray⟩, .bool hIss, .string ⟨sub.toArray⟩, .bool hSub, .slice aa aud.length ac, .bool hAud, .string ⟨jti.toArray⟩, .bool hJti, .bool ex.has, .int .i64 ex.at_, .bool nb.has, .int .i64 nb.at_, .bool it.has, .int .i64 it.at_] 27) = W) := hW
  have HB : Hid (Below w.heap.size w W) := hB
  have HSW : Hid (w.heap.size ≤ W.heap.size) := hB.size
  have HRc : Hid (∀ wq, Below W.heap.size W wq → wq.rangeAt w.heap.size 0 [.slice va l.length vc, .string ⟨iss.toArray⟩, .bool hIss, .string ⟨sub.toArray⟩, .bool hSub, .slice aa aud.length ac, .bool hAud, .string ⟨jti.toArray⟩, .bool hJti, .bool ex.has, .int .i64 ex.at_, .bool nb.has, .int .i64 nb.at_, .bool it.has, .int .i64 it.at_]) := fun wq hq => bl_range (h5.below hq h5.lt)
  have HNq : Hid (∀ wq, Below w.heap.size w wq → NR wq (.slice va l.length vc) l va vc) := fun wq hq => h.below hq (Nat.le_refl _)
  have HTq : Hid (∀ wq, Below w.heap.size w wq → TR wq (.slice aa aud.length ac) aud aa ac) := fun wq hq => hA.below hq (Nat.le_refl _)
  have hcl : (Try.prog.info? 27).map (·.size) = some ([.slice va l.length vc, .string ⟨iss.toArray⟩, .bool hIss, .string ⟨sub.toArray⟩, .bool hSub, .slice aa aud.length ac, .bool hAud, .string ⟨jti.toArray⟩, .bool hJti, .bool ex.has, .int .i64 ex.at_, .bool nb.has, .int .i64 nb.at_, .bool it.has, .int .i64 it.at_] : List Value).length := by kernel_rfl
  have CR := croomy_any l va vc aud aa ac iss hIss sub hSub hAud jti hJti ex nb it W (HNq.out W hB) (HTq.out W hB) hvn han hl hal
  obtain ⟨E, hE⟩ : ∃ E, clockF ex nb it lee now = E := ⟨_, rfl⟩
  obtain ⟨wn, hwn⟩ : ∃ E, (openF ex nb it lee).1 = E := ⟨_, rfl⟩
  obtain ⟨f, hf⟩ : ∃ E, (openF ex nb it lee).2 = E := ⟨_, rfl⟩
  have HCk : Hid (∀ (x0 x5 : Value) (wq : World), Calls Try.prog 5 #[.agg #[x0, .string ⟨iss.toArray⟩, .bool hIss, .string ⟨sub.toArray⟩, .bool hSub, x5, .bool hAud, .string ⟨jti.toArray⟩, .bool hJti, .bool ex.has, .int .i64 ex.at_, .bool nb.has, .int .i64 nb.at_, .bool it.has, .int .i64 it.at_], .int .i64 lee, .int .i64 now] wq fun e w' => e = .returned (.int .i64 (E : Int)) ∧ Below wq.heap.size wq w') := fun x0 x5 wq => by
    have := clock_any x0 (.string ⟨iss.toArray⟩) (.bool hIss) (.string ⟨sub.toArray⟩) (.bool hSub) x5 (.bool hAud) (.string ⟨jti.toArray⟩) (.bool hJti) ex nb it lee now wq he hnb hit hnow
    rw [hE] at this
    exact this
  have HOk : Hid (∀ (x0 x5 : Value) (wq : World), Calls Try.prog 6 #[.agg #[x0, .string ⟨iss.toArray⟩, .bool hIss, .string ⟨sub.toArray⟩, .bool hSub, x5, .bool hAud, .string ⟨jti.toArray⟩, .bool hJti, .bool ex.has, .int .i64 ex.at_, .bool nb.has, .int .i64 nb.at_, .bool it.has, .int .i64 it.at_], .int .i64 lee] wq fun e w' => e = .returned (.tuple #[.agg #[.bool wn.empty, .int .i64 wn.fr, .int .i64 wn.en], .int .i64 (f : Int)]) ∧ Below wq.heap.size wq w') := fun x0 x5 wq => by
    have := open_any x0 (.string ⟨iss.toArray⟩) (.bool hIss) (.string ⟨sub.toArray⟩) (.bool hSub) x5 (.bool hAud) (.string ⟨jti.toArray⟩) (.bool hJti) ex nb it lee wq he hnb hit
    rw [hwn, hf] at this
    exact this
  have HRCk : Hid (∀ (wq : World), Calls Try.prog 8 #[.agg #[.slice va l.length vc, .string ⟨iss.toArray⟩, .bool hIss, .string ⟨sub.toArray⟩, .bool hSub, .slice aa aud.length ac, .bool hAud, .string ⟨jti.toArray⟩, .bool hJti, .bool ex.has, .int .i64 ex.at_, .bool nb.has, .int .i64 nb.at_, .bool it.has, .int .i64 it.at_], .int .i64 lee, .int .i64 now] wq fun e w' => e = .returned (.int .i64 (E : Int)) ∧ Below wq.heap.size wq w') := fun wq => by
    have := rclock_any (.slice va l.length vc) (.string ⟨iss.toArray⟩) (.bool hIss) (.string ⟨sub.toArray⟩) (.bool hSub) (.slice aa aud.length ac) (.bool hAud) (.string ⟨jti.toArray⟩) (.bool hJti) ex nb it lee now wq he hnb hit hnow
    rw [hE] at this
    exact this
  have HROk : Hid (∀ (wq : World), Calls Try.prog 7 #[.agg #[.slice va l.length vc, .string ⟨iss.toArray⟩, .bool hIss, .string ⟨sub.toArray⟩, .bool hSub, .slice aa aud.length ac, .bool hAud, .string ⟨jti.toArray⟩, .bool hJti, .bool ex.has, .int .i64 ex.at_, .bool nb.has, .int .i64 nb.at_, .bool it.has, .int .i64 it.at_], .int .i64 lee] wq fun e w' => e = .returned (.tuple #[.agg #[.bool wn.empty, .int .i64 wn.fr, .int .i64 wn.en], .int .i64 (f : Int)]) ∧ Below wq.heap.size wq w') := fun wq => by
    have := ropen_any (.slice va l.length vc) (.string ⟨iss.toArray⟩) (.bool hIss) (.string ⟨sub.toArray⟩) (.bool hSub) (.slice aa aud.length ac) (.bool hAud) (.string ⟨jti.toArray⟩) (.bool hJti) ex nb it lee wq he hnb hit
    rw [hwn, hf] at this
    exact this
  have HML : Hid (∀ x ∈ aud ++ [mkT, mkT], x.length ≤ 1048576) := fun x hx => by
    rcases List.mem_append.1 hx with hx | hx
    · exact hml x hx
    · simp at hx
      rw [hx]
      decide
  have p0 := HRc.out W (Below.refl _ _)
  clear hml h hA h5 hB hW hvn han hE hwn hf he hnb hit hnow
  go_enter Try.func3, Try.ntmps3
  go_upto_region 1 with fail
  rw [HW.out]
  clear HW
  go_wp2_with (first | (refine wpList_load_mid rfl 27 (.tmp 3) rfl w.heap.size 0 rfl [.slice va l.length vc, .string ⟨iss.toArray⟩, .bool hIss, .string ⟨sub.toArray⟩, .bool hSub, .slice aa aud.length ac, .bool hAud, .string ⟨jti.toArray⟩, .bool hJti, .bool ex.has, .int .i64 ex.at_, .bool nb.has, .int .i64 nb.at_, .bool it.has, .int .i64 it.at_] _ p0 Try.underlying27 rfl hcl ?_) | fail)
  refine CR.mono ?_
  clear CR p0
  rintro e w1 ⟨⟨gv, cv, ga, ca, rfl, hn, ht⟩, hb⟩
  have HLv : Hid (w.heap.size ≤ gv) := Nat.le_trans HSW.out (hn.lt gv rfl).1
  have HLa : Hid (w.heap.size ≤ ga) := Nat.le_trans HSW.out (ht.lt ga rfl).1
  obtain ⟨w2, hw2⟩ : ∃ x, w1.alloc (.cells #[.slice (some ⟨gv, 0, none⟩) l.length cv, .string ⟨iss.toArray⟩, .bool hIss, .string ⟨sub.toArray⟩, .bool hSub, .slice (some ⟨ga, 0, none⟩) aud.length ca, .bool hAud, .string ⟨jti.toArray⟩, .bool hJti, .bool ex.has, .int .i64 ex.at_, .bool nb.has, .int .i64 nb.at_, .bool it.has, .int .i64 it.at_] 27) = x := ⟨_, rfl⟩
  have hA2 : Below w1.heap.size w1 w2 := by rw [← hw2]; exact alloc_below _ _
  have hD2 : Bl 27 w2 w1.heap.size [.slice (some ⟨gv, 0, none⟩) l.length cv, .string ⟨iss.toArray⟩, .bool hIss, .string ⟨sub.toArray⟩, .bool hSub, .slice (some ⟨ga, 0, none⟩) aud.length ca, .bool hAud, .string ⟨jti.toArray⟩, .bool hJti, .bool ex.has, .int .i64 ex.at_, .bool nb.has, .int .i64 nb.at_, .bool it.has, .int .i64 it.at_] := by rw [← hw2]; exact alloc_bl _ _ _
  have HY2 : Hid (Below W.heap.size W w2) := hb.trans (hA2.mono hb.size)
  have HN2 : Hid (NO w.heap.size w2 (.slice (some ⟨gv, 0, none⟩) (l.length + 2) cv) (l ++ [mkN, mkN])) := own_mono2 (own_below hn hA2 (Nat.le_refl _)) HSW.out
  have HT2 : Hid (OT w.heap.size w2 (.slice (some ⟨ga, 0, none⟩) (aud.length + 2) ca) (aud ++ [mkT, mkT])) := own_mono2 (own_below ht hA2 (Nat.le_refl _)) HSW.out
  obtain ⟨bm, hbme⟩ : ∃ b, w1.heap.size = b := ⟨_, rfl⟩
  rw [hbme] at hD2
  have HD2 : Hid (Bl 27 w2 bm [.slice (some ⟨gv, 0, none⟩) l.length cv, .string ⟨iss.toArray⟩, .bool hIss, .string ⟨sub.toArray⟩, .bool hSub, .slice (some ⟨ga, 0, none⟩) aud.length ca, .bool hAud, .string ⟨jti.toArray⟩, .bool hJti, .bool ex.has, .int .i64 ex.at_, .bool nb.has, .int .i64 nb.at_, .bool it.has, .int .i64 it.at_]) := hD2
  have hcl2 : (Try.prog.info? 27).map (·.size) = some ([.slice (some ⟨gv, 0, none⟩) l.length cv, .string ⟨iss.toArray⟩, .bool hIss, .string ⟨sub.toArray⟩, .bool hSub, .slice (some ⟨ga, 0, none⟩) aud.length ca, .bool hAud, .string ⟨jti.toArray⟩, .bool hJti, .bool ex.has, .int .i64 ex.at_, .bool nb.has, .int .i64 nb.at_, .bool it.has, .int .i64 it.at_] : List Value).length := hcl
  have hcw : (Try.prog.info? 32).map (·.size) = some ([.bool wn.empty, .int .i64 wn.fr, .int .i64 wn.en] : List Value).length := by kernel_rfl
  have p2 := bl_range hD2
  have CK := HCk.out (.slice (some ⟨gv, 0, none⟩) l.length cv) (.slice (some ⟨ga, 0, none⟩) aud.length ca) w2
  go_upto_region 2 with fail
  clear hw2 hA2 hD2 hbme hn ht hb
  go_wp2_with (first | (refine wpList_load_mid rfl 27 (.tmp 7) rfl bm 0 rfl [.slice (some ⟨gv, 0, none⟩) l.length cv, .string ⟨iss.toArray⟩, .bool hIss, .string ⟨sub.toArray⟩, .bool hSub, .slice (some ⟨ga, 0, none⟩) aud.length ca, .bool hAud, .string ⟨jti.toArray⟩, .bool hJti, .bool ex.has, .int .i64 ex.at_, .bool nb.has, .int .i64 nb.at_, .bool it.has, .int .i64 it.at_] _ p2 Try.underlying27 rfl hcl2 ?_) | fail)
  refine CK.mono ?_
  clear CK p2
  rintro e w3 ⟨rfl, hb3⟩
  have HD3 : Hid (Bl 27 w3 bm [.slice (some ⟨gv, 0, none⟩) l.length cv, .string ⟨iss.toArray⟩, .bool hIss, .string ⟨sub.toArray⟩, .bool hSub, .slice (some ⟨ga, 0, none⟩) aud.length ca, .bool hAud, .string ⟨jti.toArray⟩, .bool hJti, .bool ex.has, .int .i64 ex.at_, .bool nb.has, .int .i64 nb.at_, .bool it.has, .int .i64 it.at_]) := HD2.out.below hb3 HD2.out.lt
  have HY3 : Hid (Below W.heap.size W w3) := HY2.out.trans (hb3.mono HY2.out.size)
  have HN3 : Hid (NO w.heap.size w3 (.slice (some ⟨gv, 0, none⟩) (l.length + 2) cv) (l ++ [mkN, mkN])) := own_below HN2.out hb3 (Nat.le_refl _)
  have HT3 : Hid (OT w.heap.size w3 (.slice (some ⟨ga, 0, none⟩) (aud.length + 2) ca) (aud ++ [mkT, mkT])) := own_below HT2.out hb3 (Nat.le_refl _)
  have p3 := bl_range HD3.out
  have CO := HOk.out (.slice (some ⟨gv, 0, none⟩) l.length cv) (.slice (some ⟨ga, 0, none⟩) aud.length ca) w3
  clear hb3 HD2 HY2 HN2 HT2
  go_wp2_with (first | (refine wpList_load_mid rfl 27 (.tmp 7) rfl bm 0 rfl [.slice (some ⟨gv, 0, none⟩) l.length cv, .string ⟨iss.toArray⟩, .bool hIss, .string ⟨sub.toArray⟩, .bool hSub, .slice (some ⟨ga, 0, none⟩) aud.length ca, .bool hAud, .string ⟨jti.toArray⟩, .bool hJti, .bool ex.has, .int .i64 ex.at_, .bool nb.has, .int .i64 nb.at_, .bool it.has, .int .i64 it.at_] _ p3 Try.underlying27 rfl hcl2 ?_) | fail)
  refine CO.mono ?_
  clear CO p3
  rintro e w4 ⟨rfl, hb4⟩
  obtain ⟨w5, hw5⟩ : ∃ x, w4.alloc (.cells #[.bool wn.empty, .int .i64 wn.fr, .int .i64 wn.en] 32) = x := ⟨_, rfl⟩
  have hA5 : Below w4.heap.size w4 w5 := by rw [← hw5]; exact alloc_below _ _
  have hb5 : Below w3.heap.size w3 w5 := hb4.trans (hA5.mono hb4.size)
  have hW5 : Bl 32 w5 w4.heap.size [.bool wn.empty, .int .i64 wn.fr, .int .i64 wn.en] := by rw [← hw5]; exact alloc_bl _ _ _
  obtain ⟨bw, hbwe⟩ : ∃ b, w4.heap.size = b := ⟨_, rfl⟩
  rw [hbwe] at hW5
  have HLw : Hid (w.heap.size ≤ bw) := by rw [← hbwe]; exact Nat.le_trans HSW.out (HY3.out.trans (hb4.mono HY3.out.size)).size
  have HW5 : Hid (Bl 32 w5 bw [.bool wn.empty, .int .i64 wn.fr, .int .i64 wn.en]) := hW5
  have HD5 : Hid (Bl 27 w5 bm [.slice (some ⟨gv, 0, none⟩) l.length cv, .string ⟨iss.toArray⟩, .bool hIss, .string ⟨sub.toArray⟩, .bool hSub, .slice (some ⟨ga, 0, none⟩) aud.length ca, .bool hAud, .string ⟨jti.toArray⟩, .bool hJti, .bool ex.has, .int .i64 ex.at_, .bool nb.has, .int .i64 nb.at_, .bool it.has, .int .i64 it.at_]) := HD3.out.below hb5 HD3.out.lt
  have HY5 : Hid (Below W.heap.size W w5) := HY3.out.trans (hb5.mono HY3.out.size)
  have HN5 : Hid (NO w.heap.size w5 (.slice (some ⟨gv, 0, none⟩) (l.length + 2) cv) (l ++ [mkN, mkN])) := own_below HN3.out hb5 (Nat.le_refl _)
  have HT5 : Hid (OT w.heap.size w5 (.slice (some ⟨ga, 0, none⟩) (aud.length + 2) ca) (aud ++ [mkT, mkT])) := own_below HT3.out hb5 (Nat.le_refl _)
  have p5 := HRc.out w5 HY5.out
  have CO2 := HROk.out w5
  go_upto_region 4 with fail
  clear hw5 hA5 hb5 hb4 hW5 hbwe HD3 HY3 HN3 HT3 HROk
  go_wp2_with (first | (refine wpList_load_mid rfl 27 (.tmp 3) rfl w.heap.size 0 rfl [.slice va l.length vc, .string ⟨iss.toArray⟩, .bool hIss, .string ⟨sub.toArray⟩, .bool hSub, .slice aa aud.length ac, .bool hAud, .string ⟨jti.toArray⟩, .bool hJti, .bool ex.has, .int .i64 ex.at_, .bool nb.has, .int .i64 nb.at_, .bool it.has, .int .i64 it.at_] _ p5 Try.underlying27 rfl hcl ?_) | fail)
  refine CO2.mono ?_
  clear CO2 p5
  rintro e w6 ⟨rfl, hb6⟩
  obtain ⟨w7, hw7⟩ : ∃ x, w6.alloc (.cells #[.bool wn.empty, .int .i64 wn.fr, .int .i64 wn.en] 32) = x := ⟨_, rfl⟩
  have hA7 : Below w6.heap.size w6 w7 := by rw [← hw7]; exact alloc_below _ _
  have hb7 : Below w5.heap.size w5 w7 := hb6.trans (hA7.mono hb6.size)
  have hX7 : Bl 32 w7 w6.heap.size [.bool wn.empty, .int .i64 wn.fr, .int .i64 wn.en] := by rw [← hw7]; exact alloc_bl _ _ _
  obtain ⟨bx, hbxe⟩ : ∃ b, w6.heap.size = b := ⟨_, rfl⟩
  rw [hbxe] at hX7
  have HX7 : Hid (Bl 32 w7 bx [.bool wn.empty, .int .i64 wn.fr, .int .i64 wn.en]) := hX7
  have HWX : Hid (bw < bx) := by rw [← hbxe]; exact Nat.lt_of_lt_of_le HW5.out.lt hb6.size
  have HW7 : Hid (Bl 32 w7 bw [.bool wn.empty, .int .i64 wn.fr, .int .i64 wn.en]) := HW5.out.below hb7 HW5.out.lt
  have HD7 : Hid (Bl 27 w7 bm [.slice (some ⟨gv, 0, none⟩) l.length cv, .string ⟨iss.toArray⟩, .bool hIss, .string ⟨sub.toArray⟩, .bool hSub, .slice (some ⟨ga, 0, none⟩) aud.length ca, .bool hAud, .string ⟨jti.toArray⟩, .bool hJti, .bool ex.has, .int .i64 ex.at_, .bool nb.has, .int .i64 nb.at_, .bool it.has, .int .i64 it.at_]) := HD5.out.below hb7 HD5.out.lt
  have HY7 : Hid (Below W.heap.size W w7) := HY5.out.trans (hb7.mono HY5.out.size)
  have HN7 : Hid (NO w.heap.size w7 (.slice (some ⟨gv, 0, none⟩) (l.length + 2) cv) (l ++ [mkN, mkN])) := own_below HN5.out hb7 (Nat.le_refl _)
  have HT7 : Hid (OT w.heap.size w7 (.slice (some ⟨ga, 0, none⟩) (aud.length + 2) ca) (aud ++ [mkT, mkT])) := own_below HT5.out hb7 (Nat.le_refl _)
  have p7 := HRc.out w7 HY7.out
  have CK2 := HRCk.out w7
  go_upto_region 5 with fail
  clear hw7 hA7 hb7 hb6 hX7 hbxe HD5 HY5 HN5 HT5 HW5 HRCk
  go_wp2_with (first | (refine wpList_load_mid rfl 27 (.tmp 3) rfl w.heap.size 0 rfl [.slice va l.length vc, .string ⟨iss.toArray⟩, .bool hIss, .string ⟨sub.toArray⟩, .bool hSub, .slice aa aud.length ac, .bool hAud, .string ⟨jti.toArray⟩, .bool hJti, .bool ex.has, .int .i64 ex.at_, .bool nb.has, .int .i64 nb.at_, .bool it.has, .int .i64 it.at_] _ p7 Try.underlying27 rfl hcl ?_) | fail)
  refine CK2.mono ?_
  clear CK2 p7
  rintro e w8 ⟨rfl, hb8⟩
  have HX8 : Hid (Bl 32 w8 bx [.bool wn.empty, .int .i64 wn.fr, .int .i64 wn.en]) := HX7.out.below hb8 HX7.out.lt
  have HW8 : Hid (Bl 32 w8 bw [.bool wn.empty, .int .i64 wn.fr, .int .i64 wn.en]) := HW7.out.below hb8 HW7.out.lt
  have HD8 : Hid (Bl 27 w8 bm [.slice (some ⟨gv, 0, none⟩) l.length cv, .string ⟨iss.toArray⟩, .bool hIss, .string ⟨sub.toArray⟩, .bool hSub, .slice (some ⟨ga, 0, none⟩) aud.length ca, .bool hAud, .string ⟨jti.toArray⟩, .bool hJti, .bool ex.has, .int .i64 ex.at_, .bool nb.has, .int .i64 nb.at_, .bool it.has, .int .i64 it.at_]) := HD7.out.below hb8 HD7.out.lt
  have HY8 : Hid (Below W.heap.size W w8) := HY7.out.trans (hb8.mono HY7.out.size)
  have HN8 : Hid (NO w.heap.size w8 (.slice (some ⟨gv, 0, none⟩) (l.length + 2) cv) (l ++ [mkN, mkN])) := own_below HN7.out hb8 (Nat.le_refl _)
  have HT8 : Hid (OT w.heap.size w8 (.slice (some ⟨ga, 0, none⟩) (aud.length + 2) ca) (aud ++ [mkT, mkT])) := own_below HT7.out hb8 (Nat.le_refl _)
  have HB8 : Hid (Below w.heap.size w w8) := HB.out.trans (HY8.out.mono HSW.out)
  have CS := cspared_any l va vc aud aa ac iss hIss sub hSub hAud jti hJti ex nb it gv cv ga ca w.heap.size w8 (HNq.out w8 HB8.out) (HTq.out w8 HB8.out) HN8.out HT8.out hl hal
  have p8 := HRc.out w8 HY8.out
  have pd := bl_range HD8.out
  have pw := bl_range HW8.out
  have px := bl_range HX8.out
  have hne := fun w : World => run_win_ne w wn
  clear hb8 HX7 HW7 HD7 HY7 HN7 HT7
  go_wp2_with (first | (refine wpList_load_midG rfl 32 (.tmp 9) rfl bw 0 rfl [.bool wn.empty, .int .i64 wn.fr, .int .i64 wn.en] _ pw Try.underlying32 rfl hcw ?_) | (refine wpList_load_midG rfl 32 (.tmp 11) rfl bx 0 rfl [.bool wn.empty, .int .i64 wn.fr, .int .i64 wn.en] _ px Try.underlying32 rfl hcw ?_) | (refine wpList_load_midG rfl 27 (.tmp 7) rfl bm 0 rfl [.slice (some ⟨gv, 0, none⟩) l.length cv, .string ⟨iss.toArray⟩, .bool hIss, .string ⟨sub.toArray⟩, .bool hSub, .slice (some ⟨ga, 0, none⟩) aud.length ca, .bool hAud, .string ⟨jti.toArray⟩, .bool hJti, .bool ex.has, .int .i64 ex.at_, .bool nb.has, .int .i64 nb.at_, .bool it.has, .int .i64 it.at_] _ pd Try.underlying27 rfl hcl2 ?_) | (refine wpList_load_midG rfl 27 (.tmp 3) rfl w.heap.size 0 rfl [.slice va l.length vc, .string ⟨iss.toArray⟩, .bool hIss, .string ⟨sub.toArray⟩, .bool hSub, .slice aa aud.length ac, .bool hAud, .string ⟨jti.toArray⟩, .bool hJti, .bool ex.has, .int .i64 ex.at_, .bool nb.has, .int .i64 nb.at_, .bool it.has, .int .i64 it.at_] _ p8 Try.underlying27 rfl hcl ?_) | fail)
  refine CS.mono ?_
  clear CS p8 pd pw px
  rintro e w9 ⟨rfl, hb9⟩
  have HCI : Hid (CI w bm bw bx gv ga cv ca l.length aud.length [.slice (some ⟨gv, 0, none⟩) l.length cv, .string ⟨iss.toArray⟩, .bool hIss, .string ⟨sub.toArray⟩, .bool hSub, .slice (some ⟨ga, 0, none⟩) aud.length ca, .bool hAud, .string ⟨jti.toArray⟩, .bool hJti, .bool ex.has, .int .i64 ex.at_, .bool nb.has, .int .i64 nb.at_, .bool it.has, .int .i64 it.at_] [.bool wn.empty, .int .i64 wn.fr, .int .i64 wn.en] 1048576 w9) := ⟨HB8.out.trans (hb9.mono HB8.out.size), HD8.out.below hb9 HD8.out.lt, HW8.out.below hb9 HW8.out.lt, HX8.out.below hb9 HX8.out.lt, ⟨l ++ [mkN, mkN], by simp, own_below HN8.out hb9 (Nat.le_refl _)⟩, aud ++ [mkT, mkT], ⟨by simp, HML.out⟩, own_below HT8.out hb9 (Nat.le_refl _)⟩
  clear hb9 HX8 HW8 HD8 HY8 HN8 HT8 HB8 HRc HNq HTq HB HSW hne
  go_wp2
  go_loopw [13] (fun s wx => ∃ k : Nat, s = .int .i64 k ∧ k ≤ aud.length ∧ CI w bm bw bx gv ga cv ca l.length aud.length [.slice (some ⟨gv, 0, none⟩) l.length cv, .string ⟨iss.toArray⟩, .bool hIss, .string ⟨sub.toArray⟩, .bool hSub, .slice (some ⟨ga, 0, none⟩) aud.length ca, .bool hAud, .string ⟨jti.toArray⟩, .bool hJti, .bool ex.has, .int .i64 ex.at_, .bool nb.has, .int .i64 nb.at_, .bool it.has, .int .i64 it.at_] [.bool wn.empty, .int .i64 wn.fr, .int .i64 wn.en] (1048576 + k) wx) (fun s _ => aud.length - (intOf s).toNat)
  case atStart => exact ⟨0, rfl, Nat.zero_le _, HCI.out⟩
  case round =>
    obtain ⟨k, rfl, hk, hci⟩ := hrel
    have HC : Hid (CI w bm bw bx gv ga cv ca l.length aud.length [.slice (some ⟨gv, 0, none⟩) l.length cv, .string ⟨iss.toArray⟩, .bool hIss, .string ⟨sub.toArray⟩, .bool hSub, .slice (some ⟨ga, 0, none⟩) aud.length ca, .bool hAud, .string ⟨jti.toArray⟩, .bool hJti, .bool ex.has, .int .i64 ex.at_, .bool nb.has, .int .i64 nb.at_, .bool it.has, .int .i64 it.at_] [.bool wn.empty, .int .i64 wn.fr, .int .i64 wn.en] (1048576 + k) wr) := hci
    have kb : wr.cell? ⟨bm, 5, none⟩ = some (.slice (some ⟨ga, 0, none⟩) aud.length ca) := hci.bm.cell 5 (by simp)
    clear HCI
    by_cases hlt : k < aud.length
    · have q0 : decide ((k : Int) < (aud.length : Int)) = true := decide_eq_true (by omega)
      obtain ⟨x, kc, kf, hxl⟩ := hci.at_ hlt
      have hxm : x.length + 1 ≤ 9223372036854775807 := by omega
      have hxn : ¬ (9223372036854775807 < x.length + 1) := by omega
      have HXL : Hid (x.length ≤ 1048576 + k) := hxl
      clear hxl
      clear hci
      go_wp2
      refine wp_region_tail 10 (by kernel_rfl) (by kernel_rfl) ?_
      simp only [List.take_succ_cons, List.take_zero, List.drop_succ_cons, List.drop_zero]
      repeat (first | go_big_quiet_skip | (go_big_quiet_want; go_big_quiet_op; go_big_quiet_on))
      refine wpQuiet_nil ?_
      have HC1 : Hid (CI w bm bw bx gv ga cv ca l.length aud.length [.slice (some ⟨gv, 0, none⟩) l.length cv, .string ⟨iss.toArray⟩, .bool hIss, .string ⟨sub.toArray⟩, .bool hSub, .slice (some ⟨ga, 0, none⟩) aud.length ca, .bool hAud, .string ⟨jti.toArray⟩, .bool hJti, .bool ex.has, .int .i64 ex.at_, .bool nb.has, .int .i64 nb.at_, .bool it.has, .int .i64 it.at_] [.bool wn.empty, .int .i64 wn.fr, .int .i64 wn.en] (1048576 + k) (wr.drewN 1)) := HC.out.drewN 1
      have kc1 : (wr.drewN 1).cell? ⟨ga, k, none⟩ = some (.string ⟨x.toArray⟩) := kc
      have kf1 : (wr.drewN 1).frozen? ⟨ga, k, none⟩ = false := kf
      generalize wr.drewN 1 = wd at *
      go_wp2
      go_roundw
      case rel => exact ⟨k + 1, by go_num, by omega, by have h := HC1.out.text k (x ++ [120]) (1048576 + (k + 1)) (by have := HXL.out; rw [List.length_append, List.length_singleton]; omega) (by omega) HLa.out; unfold tV at h; exact h⟩
      case measure => simp [intOf]; omega
    · have q0 : decide ((k : Int) < (aud.length : Int)) = false := decide_eq_false (by omega)
      clear hci
      go_wp2
      go_loopw [14] (fun s wx => ∃ k : Nat, s = .int .i64 k ∧ k ≤ l.length ∧ CI w bm bw bx gv ga cv ca l.length aud.length [.slice (some ⟨gv, 0, none⟩) l.length cv, .string ⟨iss.toArray⟩, .bool hIss, .string ⟨sub.toArray⟩, .bool hSub, .slice (some ⟨ga, 0, none⟩) aud.length ca, .bool hAud, .string ⟨jti.toArray⟩, .bool hJti, .bool ex.has, .int .i64 ex.at_, .bool nb.has, .int .i64 nb.at_, .bool it.has, .int .i64 it.at_] [.bool wn.empty, .int .i64 wn.fr, .int .i64 wn.en] (1048576 + aud.length) wx) (fun s _ => l.length - (intOf s).toNat)
      case atStart => exact ⟨0, rfl, Nat.zero_le _, by have h := HC.out; rw [show k = aud.length by omega] at h; exact h⟩
      case round =>
        obtain ⟨i, rfl, hi, hci⟩ := hrel
        have HC2 : Hid (CI w bm bw bx gv ga cv ca l.length aud.length [.slice (some ⟨gv, 0, none⟩) l.length cv, .string ⟨iss.toArray⟩, .bool hIss, .string ⟨sub.toArray⟩, .bool hSub, .slice (some ⟨ga, 0, none⟩) aud.length ca, .bool hAud, .string ⟨jti.toArray⟩, .bool hJti, .bool ex.has, .int .i64 ex.at_, .bool nb.has, .int .i64 nb.at_, .bool it.has, .int .i64 it.at_] [.bool wn.empty, .int .i64 wn.fr, .int .i64 wn.en] (1048576 + aud.length) wr) := hci
        clear kb
        have kb : wr.cell? ⟨bm, 0, none⟩ = some (.slice (some ⟨gv, 0, none⟩) l.length cv) := hci.bm.cell 0 (by simp)
        clear HC
        by_cases hlt2 : i < l.length
        · have q1 : decide ((i : Int) < (l.length : Int)) = true := decide_eq_true (by omega)
          obtain ⟨hcn, hth⟩ := hci.node i ⟨0, [], [], false, now, 0⟩ hlt2 HLv.out
          obtain ⟨wn2, hwn2⟩ : ∃ x, wr.setCells gv (i * 6) (nC ⟨0, [], [], false, now, 0⟩) = x := ⟨_, rfl⟩
          rw [hwn2] at hcn
          have HCn : Hid (CI w bm bw bx gv ga cv ca l.length aud.length [.slice (some ⟨gv, 0, none⟩) l.length cv, .string ⟨iss.toArray⟩, .bool hIss, .string ⟨sub.toArray⟩, .bool hSub, .slice (some ⟨ga, 0, none⟩) aud.length ca, .bool hAud, .string ⟨jti.toArray⟩, .bool hJti, .bool ex.has, .int .i64 ex.at_, .bool nb.has, .int .i64 nb.at_, .bool it.has, .int .i64 it.at_] [.bool wn.empty, .int .i64 wn.fr, .int .i64 wn.en] (1048576 + aud.length) wn2) := hcn
          have HWn : Hid (wr.setCells gv (i * 6) (#[.int .i64 0, .string ⟨#[]⟩, .string ⟨#[]⟩, .bool false, .int .i64 now, .int .i64 0] : Array Value).toList = wn2) := hwn2
          have HTh : Hid (wr.there gv (i * 6) 6) := hth
          have hinf : (Try.prog.info? 38).map (·.size) = some 6 := by kernel_rfl
          clear hci hcn hth hwn2
          go_wp2_with (refine wpList_store_mid rfl 38 (.tmp 84) (.tmp 83) rfl gv (i * 6) #[.int .i64 0, .string ⟨#[]⟩, .string ⟨#[]⟩, .bool false, .int .i64 now, .int .i64 0] rfl rfl HTh.out hinf (by simp [Value.oneCell']) ?_; rw [HWn.out]; clear HWn HTh hinf)
          go_roundw
          case rel => exact ⟨i + 1, by go_num, by omega, HCn.out⟩
          case measure => simp [intOf]; omega
        · have q1 : decide ((i : Int) < (l.length : Int)) = false := decide_eq_false (by omega)
          have pm := bl_range hci.bm
          have CO := HOk.out (.slice (some ⟨gv, 0, none⟩) l.length cv) (.slice (some ⟨ga, 0, none⟩) aud.length ca) wr
          clear hci HOk
          go_wp2_with (first | (refine wpList_load_mid rfl 27 (.tmp 7) rfl bm 0 rfl [.slice (some ⟨gv, 0, none⟩) l.length cv, .string ⟨iss.toArray⟩, .bool hIss, .string ⟨sub.toArray⟩, .bool hSub, .slice (some ⟨ga, 0, none⟩) aud.length ca, .bool hAud, .string ⟨jti.toArray⟩, .bool hJti, .bool ex.has, .int .i64 ex.at_, .bool nb.has, .int .i64 nb.at_, .bool it.has, .int .i64 it.at_] _ pm Try.underlying27 rfl hcl2 ?_) | fail)
          refine CO.mono ?_
          clear CO pm kb
          rintro e w10 ⟨rfl, hb10⟩
          have HC3 : Hid (CI w bm bw bx gv ga cv ca l.length aud.length [.slice (some ⟨gv, 0, none⟩) l.length cv, .string ⟨iss.toArray⟩, .bool hIss, .string ⟨sub.toArray⟩, .bool hSub, .slice (some ⟨ga, 0, none⟩) aud.length ca, .bool hAud, .string ⟨jti.toArray⟩, .bool hJti, .bool ex.has, .int .i64 ex.at_, .bool nb.has, .int .i64 nb.at_, .bool it.has, .int .i64 it.at_] [.bool wn.empty, .int .i64 wn.fr, .int .i64 wn.en] (1048576 + aud.length) w10) := HC2.out.below hb10
          obtain ⟨wz, hwz⟩ : ∃ wz, w10.setRow bw #[.bool wn.empty, .int .i64 wn.fr, .int .i64 wn.en] = wz := ⟨_, rfl⟩
          have HWz : Hid (w10.setRow bw #[.bool wn.empty, .int .i64 wn.fr, .int .i64 wn.en] = wz) := hwz
          have HBw : Hid (Bl 32 w10 bw [.bool wn.empty, .int .i64 wn.fr, .int .i64 wn.en]) := HC3.out.bw
          have HZw : Hid (Bl 32 wz bw [.bool wn.empty, .int .i64 wn.fr, .int .i64 wn.en]) := by rw [← hwz]; exact set_bl2 HC3.out.bw
          have hlw : w.heap.size ≤ bw := by
            rcases Nat.lt_or_ge bw w.heap.size with hx | hx
            · exact absurd (HLw.out) (by omega)
            · exact hx
          have HZb : Hid (Below w.heap.size w wz) := by rw [← hwz]; exact setRow_below2 _ HC3.out.bel hlw
          have HZx : Hid (Bl 32 wz bx [.bool wn.empty, .int .i64 wn.fr, .int .i64 wn.en]) := by rw [← hwz]; exact bl_setr HC3.out.bx (by have := HWX.out; omega)
          have HZm : Hid (Bl 27 wz bm [.slice (some ⟨gv, 0, none⟩) l.length cv, .string ⟨iss.toArray⟩, .bool hIss, .string ⟨sub.toArray⟩, .bool hSub, .slice (some ⟨ga, 0, none⟩) aud.length ca, .bool hAud, .string ⟨jti.toArray⟩, .bool hJti, .bool ex.has, .int .i64 ex.at_, .bool nb.has, .int .i64 nb.at_, .bool it.has, .int .i64 it.at_]) := by rw [← hwz]; exact bl_setr HC3.out.bm (fun e => bl_ne HC3.out.bm HC3.out.bw (by decide) e)
          have hcw3 : (Try.prog.info? 32).map (·.size) = some 3 := hcw
          have pm := bl_range HZm.out
          have CK := HCk.out (.slice (some ⟨gv, 0, none⟩) l.length cv) (.slice (some ⟨ga, 0, none⟩) aud.length ca) wz
          clear hwz hb10 HC2 HCk hlw
          go_wp2_with (first | (refine wpList_store_row rfl 32 (.tmp 9) (.tmp 89) rfl bw #[.bool wn.empty, .int .i64 wn.fr, .int .i64 wn.en] rfl rfl 32 #[.bool wn.empty, .int .i64 wn.fr, .int .i64 wn.en] HBw.out hcw3 rfl (by simp [Value.oneCell']) ?_; rw [HWz.out]; clear HWz hcw3) | (refine wpList_load_mid rfl 27 (.tmp 7) rfl bm 0 rfl [.slice (some ⟨gv, 0, none⟩) l.length cv, .string ⟨iss.toArray⟩, .bool hIss, .string ⟨sub.toArray⟩, .bool hSub, .slice (some ⟨ga, 0, none⟩) aud.length ca, .bool hAud, .string ⟨jti.toArray⟩, .bool hJti, .bool ex.has, .int .i64 ex.at_, .bool nb.has, .int .i64 nb.at_, .bool it.has, .int .i64 it.at_] _ pm Try.underlying27 rfl hcl2 ?_) | fail)
          refine CK.mono ?_
          clear CK pm
          rintro e w11 ⟨rfl, hb11⟩
          have pw := bl_range (HZw.out.below hb11 HZw.out.lt)
          have px := bl_range (HZx.out.below hb11 HZx.out.lt)
          have HZ : Hid (Below w.heap.size w w11) := HZb.out.trans (hb11.mono HZb.out.size)
          have heq := fun w : World => run_win_eq w wn
          clear hb11 HZw HZx HZm HC3 HZb HBw
          go_wp2_with (first | (refine wpList_load_midG rfl 32 (.tmp 9) rfl bw 0 rfl [.bool wn.empty, .int .i64 wn.fr, .int .i64 wn.en] _ pw Try.underlying32 rfl hcw ?_) | (refine wpList_load_midG rfl 32 (.tmp 11) rfl bx 0 rfl [.bool wn.empty, .int .i64 wn.fr, .int .i64 wn.en] _ px Try.underlying32 rfl hcw ?_))
          go_ret
          exact ⟨rfl, HZ.out⟩

end Go.Proofs.Ytjaopeenkbcjcaa
