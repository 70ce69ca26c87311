import Derived.Test.YtjaopeenkbcjcaaDoorMb
namespace Go.Proofs.YtjaopeenkbcjcaaDoor
open Go.RowKit Go.Shelf

theorem nr_pre {B : Nat} {w : World} {g n cap : Nat} {l M : List Nd} (h : NO B w (.slice (some ⟨g, 0, none⟩) n cap) (l ++ M)) : NR w (.slice (some ⟨g, 0, none⟩) l.length cap) l (some ⟨g, 0, none⟩) cap := by
  obtain ⟨a, c, e, hc, _⟩ := own_slice h
  cases e
  have hlt := (h.lt g rfl).2
  rw [List.length_append] at hc
  refine ⟨rfl, by omega, .inr ⟨g, 0, rfl, hlt, fun j u hu => ?_⟩⟩
  rw [Nat.zero_add]
  unfold NO at h
  refine (own_cell h j u ?_).1
  rw [nCs_append, List.getElem?_append_left (List.getElem?_eq_some_iff.1 hu).1]
  exact hu
theorem tr_pre {B : Nat} {w : World} {g n cap : Nat} {l M : List (List UInt8)} (h : OT B w (.slice (some ⟨g, 0, none⟩) n cap) (l ++ M)) : TR w (.slice (some ⟨g, 0, none⟩) l.length cap) l (some ⟨g, 0, none⟩) cap := by
  obtain ⟨a, c, e, hc, _⟩ := own_slice h
  cases e
  have hlt := (h.lt g rfl).2
  rw [List.length_append] at hc
  refine ⟨rfl, by omega, .inr ⟨g, 0, rfl, hlt, fun j hj => ?_⟩⟩
  rw [Nat.zero_add]
  unfold OT at h
  refine (own_cell h j _ ?_).1
  rw [List.map_append, List.getElem?_append_left (by simpa using hj), List.getElem?_map, List.getElem?_eq_getElem hj, List.getD_eq_getElem?_getD, List.getElem?_eq_getElem hj]
  rfl
theorem no_mark {B : Nat} {w : World} {g n cap : Nat} {l : List Nd} (h : NO B w (.slice (some ⟨g, 0, none⟩) n cap) (l ++ [mkN, mkN])) (i : Nat) (hi : i < 2) : w.rangeAt g ((l.length + i) * 6) [.int .i64 0, .string ⟨#[]⟩, .string ⟨#[109, 97, 114, 107]⟩, .bool false, .int .i64 0, .int .i64 0] := fun j u hu => by
  obtain ⟨hj, e⟩ := List.getElem?_eq_some_iff.1 hu
  unfold NO at h
  obtain ⟨a, c, e2, _, _⟩ := own_slice h
  cases e2
  refine (own_cell h ((l.length + i) * 6 + j) u ?_).1
  rw [nCs_append, List.getElem?_append_right (by rw [nCs_length]; omega), nCs_length, show (l.length + i) * 6 + j - l.length * 6 = i * 6 + j by omega]
  have hj6 : j < 6 := hj
  have : i = 0 ∨ i = 1 := by omega
  rcases this with rfl | rfl
  · rw [Nat.zero_mul, Nat.zero_add]
    show (([.int .i64 0, .string ⟨#[]⟩, .string ⟨#[109, 97, 114, 107]⟩, .bool false, .int .i64 0, .int .i64 0] : List Value) ++ nCs [mkN])[j]? = _
    rw [List.getElem?_append_left hj]; exact hu
  · show (([.int .i64 0, .string ⟨#[]⟩, .string ⟨#[109, 97, 114, 107]⟩, .bool false, .int .i64 0, .int .i64 0] : List Value) ++ (([.int .i64 0, .string ⟨#[]⟩, .string ⟨#[109, 97, 114, 107]⟩, .bool false, .int .i64 0, .int .i64 0] : List Value) ++ []))[1 * 6 + j]? = _
    rw [List.getElem?_append_right (by simp), List.getElem?_append_left (by simpa using hj)]
    simp only [List.length_cons, List.length_nil]
    rw [show 1 * 6 + j - (0 + 1 + 1 + 1 + 1 + 1 + 1) = j by omega]
    exact hu
theorem ot_mark {B : Nat} {w : World} {g n cap : Nat} {l : List (List UInt8)} (h : OT B w (.slice (some ⟨g, 0, none⟩) n cap) (l ++ [mkT, mkT])) (i : Nat) (hi : i < 2) : w.cell? ⟨g, l.length + i, none⟩ = some (.string ⟨#[109, 97, 114, 107]⟩) := by
  unfold OT at h
  obtain ⟨a, c, e2, _, _⟩ := own_slice h
  cases e2
  refine (own_cell h (l.length + i) _ ?_).1
  rw [List.map_append, List.getElem?_append_right (by simp), List.length_map, show l.length + i - l.length = i by omega]
  have : i = 0 ∨ i = 1 := by omega
  rcases this with rfl | rfl <;> rfl

set_option maxRecDepth 100000 in
set_option maxHeartbeats 16000000 in
theorem cspared_any (l : List Nd) (va : Option Addr) (vc : Nat) (aud : List (List UInt8)) (aa : Option Addr) (ac : Nat) (iss : List UInt8) (hIss : Bool) (sub : List UInt8) (hSub : Bool) (hAud : Bool) (jti : List UInt8) (hJti : Bool) (ex nb it : Tm) (gv cv ga ca B : Nat) (w : World)
    (h : NR w (.slice va l.length vc) l va vc) (hA : TR w (.slice aa aud.length ac) aud aa ac) (hn : NO B w (.slice (some ⟨gv, 0, none⟩) (l.length + 2) cv) (l ++ [mkN, mkN])) (ht : OT B w (.slice (some ⟨ga, 0, none⟩) (aud.length + 2) ca) (aud ++ [mkT, mkT])) (hl : l.length ≤ 100000000) (hal : aud.length ≤ 100000000) :
    Calls Tryd.prog 7 #[.agg #[.slice (some ⟨gv, 0, none⟩) l.length cv, .string ⟨iss.toArray⟩, .bool hIss, .string ⟨sub.toArray⟩, .bool hSub, .slice (some ⟨ga, 0, none⟩) aud.length ca, .bool hAud, .string ⟨jti.toArray⟩, .bool hJti, .bool ex.has, .int .i64 ex.at_, .bool nb.has, .int .i64 nb.at_, .bool it.has, .int .i64 it.at_], .agg #[.slice va l.length vc, .string ⟨iss.toArray⟩, .bool hIss, .string ⟨sub.toArray⟩, .bool hSub, .slice aa aud.length ac, .bool hAud, .string ⟨jti.toArray⟩, .bool hJti, .bool ex.has, .int .i64 ex.at_, .bool nb.has, .int .i64 nb.at_, .bool it.has, .int .i64 it.at_]] w fun e w' => e = .returned (.bool true) ∧ Below w.heap.size w w' := by
  obtain ⟨W, hW⟩ : ∃ W : World, (w.alloc (.cells #[.slice (some ⟨gv, 0, none⟩) l.length cv, .string ⟨iss.toArray⟩, .bool hIss, .string ⟨sub.toArray⟩, .bool hSub, .slice (some ⟨ga, 0, none⟩) aud.length ca, .bool hAud, .string ⟨jti.toArray⟩, .bool hJti, .bool ex.has, .int .i64 ex.at_, .bool nb.has, .int .i64 nb.at_, .bool it.has, .int .i64 it.at_] 27)).alloc (.cells #[.slice va l.length vc, .string ⟨iss.toArray⟩, .bool hIss, .string ⟨sub.toArray⟩, .bool hSub, .slice aa aud.length ac, .bool hAud, .string ⟨jti.toArray⟩, .bool hJti, .bool ex.has, .int .i64 ex.at_, .bool nb.has, .int .i64 nb.at_, .bool it.has, .int .i64 it.at_] 27) = W := ⟨_, rfl⟩
  have h1 := alloc_below w (.cells #[.slice (some ⟨gv, 0, none⟩) l.length cv, .string ⟨iss.toArray⟩, .bool hIss, .string ⟨sub.toArray⟩, .bool hSub, .slice (some ⟨ga, 0, none⟩) aud.length ca, .bool hAud, .string ⟨jti.toArray⟩, .bool hJti, .bool ex.has, .int .i64 ex.at_, .bool nb.has, .int .i64 nb.at_, .bool it.has, .int .i64 it.at_] 27)
  have h2 := alloc_below (w.alloc (.cells #[.slice (some ⟨gv, 0, none⟩) l.length cv, .string ⟨iss.toArray⟩, .bool hIss, .string ⟨sub.toArray⟩, .bool hSub, .slice (some ⟨ga, 0, none⟩) aud.length ca, .bool hAud, .string ⟨jti.toArray⟩, .bool hJti, .bool ex.has, .int .i64 ex.at_, .bool nb.has, .int .i64 nb.at_, .bool it.has, .int .i64 it.at_] 27)) (.cells #[.slice va l.length vc, .string ⟨iss.toArray⟩, .bool hIss, .string ⟨sub.toArray⟩, .bool hSub, .slice aa aud.length ac, .bool hAud, .string ⟨jti.toArray⟩, .bool hJti, .bool ex.has, .int .i64 ex.at_, .bool nb.has, .int .i64 nb.at_, .bool it.has, .int .i64 it.at_] 27)
  have h3 : Bl 27 _ _ [.slice (some ⟨gv, 0, none⟩) l.length cv, .string ⟨iss.toArray⟩, .bool hIss, .string ⟨sub.toArray⟩, .bool hSub, .slice (some ⟨ga, 0, none⟩) aud.length ca, .bool hAud, .string ⟨jti.toArray⟩, .bool hJti, .bool ex.has, .int .i64 ex.at_, .bool nb.has, .int .i64 nb.at_, .bool it.has, .int .i64 it.at_] := alloc_bl w [.slice (some ⟨gv, 0, none⟩) l.length cv, .string ⟨iss.toArray⟩, .bool hIss, .string ⟨sub.toArray⟩, .bool hSub, .slice (some ⟨ga, 0, none⟩) aud.length ca, .bool hAud, .string ⟨jti.toArray⟩, .bool hJti, .bool ex.has, .int .i64 ex.at_, .bool nb.has, .int .i64 nb.at_, .bool it.has, .int .i64 it.at_] 27
  have h4 : Bl 27 _ _ [.slice va l.length vc, .string ⟨iss.toArray⟩, .bool hIss, .string ⟨sub.toArray⟩, .bool hSub, .slice aa aud.length ac, .bool hAud, .string ⟨jti.toArray⟩, .bool hJti, .bool ex.has, .int .i64 ex.at_, .bool nb.has, .int .i64 nb.at_, .bool it.has, .int .i64 it.at_] := alloc_bl (w.alloc (.cells #[.slice (some ⟨gv, 0, none⟩) l.length cv, .string ⟨iss.toArray⟩, .bool hIss, .string ⟨sub.toArray⟩, .bool hSub, .slice (some ⟨ga, 0, none⟩) aud.length ca, .bool hAud, .string ⟨jti.toArray⟩, .bool hJti, .bool ex.has, .int .i64 ex.at_, .bool nb.has, .int .i64 nb.at_, .bool it.has, .int .i64 it.at_] 27)) [.slice va l.length vc, .string ⟨iss.toArray⟩, .bool hIss, .string ⟨sub.toArray⟩, .bool hSub, .slice aa aud.length ac, .bool hAud, .string ⟨jti.toArray⟩, .bool hJti, .bool ex.has, .int .i64 ex.at_, .bool nb.has, .int .i64 nb.at_, .bool it.has, .int .i64 it.at_] 27
  have h5 : Bl 27 W w.heap.size [.slice (some ⟨gv, 0, none⟩) l.length cv, .string ⟨iss.toArray⟩, .bool hIss, .string ⟨sub.toArray⟩, .bool hSub, .slice (some ⟨ga, 0, none⟩) aud.length ca, .bool hAud, .string ⟨jti.toArray⟩, .bool hJti, .bool ex.has, .int .i64 ex.at_, .bool nb.has, .int .i64 nb.at_, .bool it.has, .int .i64 it.at_] := by rw [← hW]; exact h3.below h2 h3.lt
  have h6 : Bl 27 W (w.heap.size + 1) [.slice va l.length vc, .string ⟨iss.toArray⟩, .bool hIss, .string ⟨sub.toArray⟩, .bool hSub, .slice aa aud.length ac, .bool hAud, .string ⟨jti.toArray⟩, .bool hJti, .bool ex.has, .int .i64 ex.at_, .bool nb.has, .int .i64 nb.at_, .bool it.has, .int .i64 it.at_] := by rw [alloc_size] at h4; rw [← hW]; exact h4
  have hB : Below w.heap.size w W := by rw [← hW]; exact h1.trans (h2.mono h1.size)
  have HW : Hid ((w.alloc (.cells #[.slice (some ⟨gv, 0, none⟩) l.length cv, .string ⟨iss.toArray⟩, .bool hIss, .string ⟨sub.toArray⟩, .bool hSub, .slice (some ⟨ga, 0, none⟩) aud.length ca, .bool hAud, .string ⟨jti.toArray⟩, .bool hJti, .bool ex.has, .int .i64 ex.at_, .bool nb.has, .int .i64 nb.at_, .bool it.has, .int .i64 it.at_] 27)).alloc (.cells #[.slice va l.length vc, .string ⟨iss.toArray⟩, .bool hIss, .string ⟨sub.toArray⟩, .bool hSub, .slice aa aud.length ac, .bool hAud, .string ⟨jti.toArray⟩, .bool hJti, .bool ex.has, .int .i64 ex.at_, .bool nb.has, .int .i64 nb.at_, .bool it.has, .int .i64 it.at_] 27) = W) := hW
  have HB : Hid (Below w.heap.size w W) := hB
  have HB0 : Hid (Bl 27 W w.heap.size [.slice (some ⟨gv, 0, none⟩) l.length cv, .string ⟨iss.toArray⟩, .bool hIss, .string ⟨sub.toArray⟩, .bool hSub, .slice (some ⟨ga, 0, none⟩) aud.length ca, .bool hAud, .string ⟨jti.toArray⟩, .bool hJti, .bool ex.has, .int .i64 ex.at_, .bool nb.has, .int .i64 nb.at_, .bool it.has, .int .i64 it.at_]) := h5
  have p0 := bl_rng2 h5
  have p1 := bl_rng2 h6
  have k0 : W.cell? ⟨w.heap.size + 1, 0, none⟩ = some (.slice va l.length vc) := h6.cell 0 (by simp)
  have k5 : W.cell? ⟨w.heap.size + 1, 5, none⟩ = some (.slice aa aud.length ac) := h6.cell 5 (by simp)
  have HNq : Hid (∀ wq, Below W.heap.size W wq → NO B wq (.slice (some ⟨gv, 0, none⟩) (l.length + 2) cv) (l ++ [mkN, mkN])) := fun wq hq => own_below (own_below hn hB (Nat.le_refl _)) hq (Nat.le_refl _)
  have HTq : Hid (∀ wq, Below W.heap.size W wq → OT B wq (.slice (some ⟨ga, 0, none⟩) (aud.length + 2) ca) (aud ++ [mkT, mkT])) := fun wq hq => own_below (own_below ht hB (Nat.le_refl _)) hq (Nat.le_refl _)
  have hcl : (Tryd.prog.info? 27).map (·.size) = some ([.slice va l.length vc, .string ⟨iss.toArray⟩, .bool hIss, .string ⟨sub.toArray⟩, .bool hSub, .slice aa aud.length ac, .bool hAud, .string ⟨jti.toArray⟩, .bool hJti, .bool ex.has, .int .i64 ex.at_, .bool nb.has, .int .i64 nb.at_, .bool it.has, .int .i64 it.at_] : List Value).length := by kernel_rfl
  have hcl2 : (Tryd.prog.info? 27).map (·.size) = some ([.slice (some ⟨gv, 0, none⟩) l.length cv, .string ⟨iss.toArray⟩, .bool hIss, .string ⟨sub.toArray⟩, .bool hSub, .slice (some ⟨ga, 0, none⟩) aud.length ca, .bool hAud, .string ⟨jti.toArray⟩, .bool hJti, .bool ex.has, .int .i64 ex.at_, .bool nb.has, .int .i64 nb.at_, .bool it.has, .int .i64 it.at_] : List Value).length := hcl
  have hcn : (Tryd.prog.info? 40).map (·.size) = some ([.int .i64 0, .string ⟨#[]⟩, .string ⟨#[109, 97, 114, 107]⟩, .bool false, .int .i64 0, .int .i64 0] : List Value).length := by kernel_rfl
  have CS := csame_eq (some ⟨gv, 0, none⟩) cv (some ⟨ga, 0, none⟩) ca va vc aa ac ⟨l, iss, hIss, sub, hSub, aud, hAud, jti, hJti, ex, nb, it⟩ W (nr_pre (HNq.out W (Below.refl _ _))) (tr_pre (HTq.out W (Below.refl _ _))) (h.below hB (Nat.le_refl _)) (hA.below hB (Nat.le_refl _)) (by show l.length ≤ _; omega) (by show aud.length ≤ _; omega)
  unfold clV at CS
  dsimp only at CS
  have hcv : l.length + 2 ≤ cv := by
    obtain ⟨a, c, e, hc, _⟩ := own_slice hn
    have e3 : cv = c := by injection e
    rw [e3]
    simpa using hc
  have hca : aud.length + 2 ≤ ca := by
    obtain ⟨a, c, e, hc, _⟩ := own_slice ht
    have e3 : ca = c := by injection e
    rw [e3]
    simpa using hc
  have hrn : ∀ w : World, (binOp .eql 40 (.agg #[.int .i64 0, .string ⟨#[]⟩, .string ⟨#[109, 97, 114, 107]⟩, .bool false, .int .i64 0, .int .i64 0]) (.agg #[.int .i64 0, .string ⟨#[]⟩, .string ⟨#[109, 97, 114, 107]⟩, .bool false, .int .i64 0, .int .i64 0])).run Tryd.prog w = .ok (.bool true) w := fun w => by
    have := run_nodes w mkN mkN
    rw [decide_eq_true rfl] at this
    exact this
  clear h hA hn ht h1 h2 h3 h4 h5 h6 hB hW
  go_enter Tryd.func7, Tryd.ntmps7
  go_upto_region 1 with fail
  rw [HW.out]
  clear HW
  go_wp2_with (first | (refine wpList_load_mid rfl 27 (.tmp 2) rfl w.heap.size 0 rfl [.slice (some ⟨gv, 0, none⟩) l.length cv, .string ⟨iss.toArray⟩, .bool hIss, .string ⟨sub.toArray⟩, .bool hSub, .slice (some ⟨ga, 0, none⟩) aud.length ca, .bool hAud, .string ⟨jti.toArray⟩, .bool hJti, .bool ex.has, .int .i64 ex.at_, .bool nb.has, .int .i64 nb.at_, .bool it.has, .int .i64 it.at_] _ p0 Tryd.underlying27 rfl hcl2 ?_) | (refine wpList_load_mid rfl 27 (.tmp 3) rfl (w.heap.size + 1) 0 rfl [.slice va l.length vc, .string ⟨iss.toArray⟩, .bool hIss, .string ⟨sub.toArray⟩, .bool hSub, .slice aa aud.length ac, .bool hAud, .string ⟨jti.toArray⟩, .bool hJti, .bool ex.has, .int .i64 ex.at_, .bool nb.has, .int .i64 nb.at_, .bool it.has, .int .i64 it.at_] _ p1 Tryd.underlying27 rfl hcl ?_) | fail)
  refine CS.mono ?_
  clear CS p0 p1 k0 k5
  rintro e w1 ⟨rfl, hb⟩
  have HZ : Hid (Below w.heap.size w w1) := HB.out.trans (hb.mono HB.out.size)
  have k0 : w1.cell? ⟨w.heap.size, 0, none⟩ = some (.slice (some ⟨gv, 0, none⟩) l.length cv) := (HB0.out.below hb HB0.out.lt).cell 0 (by simp)
  have k5 : w1.cell? ⟨w.heap.size, 5, none⟩ = some (.slice (some ⟨ga, 0, none⟩) aud.length ca) := (HB0.out.below hb HB0.out.lt).cell 5 (by simp)
  have m0 := no_mark (HNq.out w1 hb) 0 (by decide)
  have m1 := no_mark (HNq.out w1 hb) 1 (by decide)
  have t0 := ot_mark (HTq.out w1 hb) 0 (by decide)
  have t1 := ot_mark (HTq.out w1 hb) 1 (by decide)
  rw [Nat.add_zero] at m0 t0
  have q1 : ((l.length : Int) + 2 ≤ (cv : Int)) := by omega
  have q2 : ((aud.length : Int) + 2 ≤ (ca : Int)) := by omega
  clear hb HNq HTq HB HB0
  go_upto_region 7 with fail
  go_wp2_with (first | (refine wpList_load_mid rfl 40 (.tmp 31) rfl gv (l.length * 6) rfl [.int .i64 0, .string ⟨#[]⟩, .string ⟨#[109, 97, 114, 107]⟩, .bool false, .int .i64 0, .int .i64 0] _ m0 Tryd.underlying40 rfl hcn ?_) | (refine wpList_load_midG rfl 40 (.tmp 39) rfl gv ((l.length + 1) * 6) rfl [.int .i64 0, .string ⟨#[]⟩, .string ⟨#[109, 97, 114, 107]⟩, .bool false, .int .i64 0, .int .i64 0] _ m1 Tryd.underlying40 rfl hcn ?_) | fail)
  go_ret
  exact ⟨rfl, HZ.out⟩

end Go.Proofs.YtjaopeenkbcjcaaDoor
