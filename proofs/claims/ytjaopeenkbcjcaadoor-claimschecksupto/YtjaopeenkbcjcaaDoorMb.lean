import Derived.Test.YtjaopeenkbcjcaaDoorMa
import Derived.Test.YtjaopeenkbcjcaaDoorOrk
namespace Go.Proofs.YtjaopeenkbcjcaaDoor
open Go.RowKit Go.Shelf

/-- The marks behind the lists. -/
def mkN : Nd := ⟨0, [], [109, 97, 114, 107], false, 0, 0⟩
def mkT : List UInt8 := [109, 97, 114, 107]
theorem alloc_below_drew' (w : World) (o : Obj) : Below w.heap.size w (w.drew.alloc o) := ⟨rfl, rfl, rfl, by rw [alloc_size]; exact Nat.le_succ _, fun k hk => (alloc_below w.drew o).block k hk⟩
theorem own_mono2 {w : World} {b0 b1 n size : Nat} {e : TypeId} {v : Value} {xs : List Value} (h : w.ownsRow b1 e size v n xs) (hb : b0 ≤ b1) : w.ownsRow b0 e size v n xs :=
  ⟨h.1, h.2.elim .inl fun ⟨g, cap, cur, e, hg, r⟩ => .inr ⟨g, cap, cur, e, Nat.le_trans hb hg, r⟩⟩
theorem bl_grown' {t : TypeId} {w w' : World} {b : Nat} {cs : List Value} {row : Option Nat} (h : Bl t w b cs) (hg : w.grownBy w' row) (hne : row ≠ some b) : Bl t w' b cs := by
  have := h.lt
  unfold Bl at *
  rw [hg.block b this (fun e => hne e.symm)]; exact h

set_option maxRecDepth 100000 in
set_option maxHeartbeats 16000000 in
theorem croomy_any (l : List Nd) (va : Option Addr) (vc : Nat) (aud : List (List UInt8)) (aa : Option Addr) (ac : Nat) (iss : List UInt8) (hIss : Bool) (sub : List UInt8) (hSub : Bool) (hAud : Bool) (jti : List UInt8) (hJti : Bool) (ex nb it : Tm) (w : World)
    (h : NR w (.slice va l.length vc) l va vc) (hA : TR w (.slice aa aud.length ac) aud aa ac) (hvn : va = none → vc = 0) (han : aa = none → ac = 0) (hl : l.length ≤ 100000000) (hal : aud.length ≤ 100000000) :
    Calls Tryd.prog 5 #[.agg #[.slice va l.length vc, .string ⟨iss.toArray⟩, .bool hIss, .string ⟨sub.toArray⟩, .bool hSub, .slice aa aud.length ac, .bool hAud, .string ⟨jti.toArray⟩, .bool hJti, .bool ex.has, .int .i64 ex.at_, .bool nb.has, .int .i64 nb.at_, .bool it.has, .int .i64 it.at_]] w fun e w' => (∃ gv cv ga ca, e = .returned (.agg #[.slice (some ⟨gv, 0, none⟩) l.length cv, .string ⟨iss.toArray⟩, .bool hIss, .string ⟨sub.toArray⟩, .bool hSub, .slice (some ⟨ga, 0, none⟩) aud.length ca, .bool hAud, .string ⟨jti.toArray⟩, .bool hJti, .bool ex.has, .int .i64 ex.at_, .bool nb.has, .int .i64 nb.at_, .bool it.has, .int .i64 it.at_]) ∧ NO w.heap.size w' (.slice (some ⟨gv, 0, none⟩) (l.length + 2) cv) (l ++ [mkN, mkN]) ∧ OT w.heap.size w' (.slice (some ⟨ga, 0, none⟩) (aud.length + 2) ca) (aud ++ [mkT, mkT])) ∧ Below w.heap.size w w' := by
  obtain ⟨W, hW⟩ : ∃ W : World, (w.alloc (.cells #[.slice va l.length vc, .string ⟨iss.toArray⟩, .bool hIss, .string ⟨sub.toArray⟩, .bool hSub, .slice aa aud.length ac, .bool hAud, .string ⟨jti.toArray⟩, .bool hJti, .bool ex.has, .int .i64 ex.at_, .bool nb.has, .int .i64 nb.at_, .bool it.has, .int .i64 it.at_] 27)).alloc (.cells #[.slice none 0 0, .string ⟨#[]⟩, .bool false, .string ⟨#[]⟩, .bool false, .slice none 0 0, .bool false, .string ⟨#[]⟩, .bool false, .bool false, .int .i64 0, .bool false, .int .i64 0, .bool false, .int .i64 0] 27) = W := ⟨_, rfl⟩
  have h1 := alloc_below w (.cells #[.slice va l.length vc, .string ⟨iss.toArray⟩, .bool hIss, .string ⟨sub.toArray⟩, .bool hSub, .slice aa aud.length ac, .bool hAud, .string ⟨jti.toArray⟩, .bool hJti, .bool ex.has, .int .i64 ex.at_, .bool nb.has, .int .i64 nb.at_, .bool it.has, .int .i64 it.at_] 27)
  have h2 := alloc_below (w.alloc (.cells #[.slice va l.length vc, .string ⟨iss.toArray⟩, .bool hIss, .string ⟨sub.toArray⟩, .bool hSub, .slice aa aud.length ac, .bool hAud, .string ⟨jti.toArray⟩, .bool hJti, .bool ex.has, .int .i64 ex.at_, .bool nb.has, .int .i64 nb.at_, .bool it.has, .int .i64 it.at_] 27)) (.cells #[.slice none 0 0, .string ⟨#[]⟩, .bool false, .string ⟨#[]⟩, .bool false, .slice none 0 0, .bool false, .string ⟨#[]⟩, .bool false, .bool false, .int .i64 0, .bool false, .int .i64 0, .bool false, .int .i64 0] 27)
  have h3 : Bl 27 _ _ [.slice va l.length vc, .string ⟨iss.toArray⟩, .bool hIss, .string ⟨sub.toArray⟩, .bool hSub, .slice aa aud.length ac, .bool hAud, .string ⟨jti.toArray⟩, .bool hJti, .bool ex.has, .int .i64 ex.at_, .bool nb.has, .int .i64 nb.at_, .bool it.has, .int .i64 it.at_] := alloc_bl w [.slice va l.length vc, .string ⟨iss.toArray⟩, .bool hIss, .string ⟨sub.toArray⟩, .bool hSub, .slice aa aud.length ac, .bool hAud, .string ⟨jti.toArray⟩, .bool hJti, .bool ex.has, .int .i64 ex.at_, .bool nb.has, .int .i64 nb.at_, .bool it.has, .int .i64 it.at_] 27
  have h4 : Bl 27 _ _ [.slice none 0 0, .string ⟨#[]⟩, .bool false, .string ⟨#[]⟩, .bool false, .slice none 0 0, .bool false, .string ⟨#[]⟩, .bool false, .bool false, .int .i64 0, .bool false, .int .i64 0, .bool false, .int .i64 0] := alloc_bl (w.alloc (.cells #[.slice va l.length vc, .string ⟨iss.toArray⟩, .bool hIss, .string ⟨sub.toArray⟩, .bool hSub, .slice aa aud.length ac, .bool hAud, .string ⟨jti.toArray⟩, .bool hJti, .bool ex.has, .int .i64 ex.at_, .bool nb.has, .int .i64 nb.at_, .bool it.has, .int .i64 it.at_] 27)) [.slice none 0 0, .string ⟨#[]⟩, .bool false, .string ⟨#[]⟩, .bool false, .slice none 0 0, .bool false, .string ⟨#[]⟩, .bool false, .bool false, .int .i64 0, .bool false, .int .i64 0, .bool false, .int .i64 0] 27
  have h5 : Bl 27 W w.heap.size [.slice va l.length vc, .string ⟨iss.toArray⟩, .bool hIss, .string ⟨sub.toArray⟩, .bool hSub, .slice aa aud.length ac, .bool hAud, .string ⟨jti.toArray⟩, .bool hJti, .bool ex.has, .int .i64 ex.at_, .bool nb.has, .int .i64 nb.at_, .bool it.has, .int .i64 it.at_] := by rw [← hW]; exact h3.below h2 h3.lt
  have h6 : Bl 27 W (w.heap.size + 1) [.slice none 0 0, .string ⟨#[]⟩, .bool false, .string ⟨#[]⟩, .bool false, .slice none 0 0, .bool false, .string ⟨#[]⟩, .bool false, .bool false, .int .i64 0, .bool false, .int .i64 0, .bool false, .int .i64 0] := by rw [alloc_size] at h4; rw [← hW]; exact h4
  have hB : Below w.heap.size w W := by rw [← hW]; exact h1.trans (h2.mono h1.size)
  have HW : Hid ((w.alloc (.cells #[.slice va l.length vc, .string ⟨iss.toArray⟩, .bool hIss, .string ⟨sub.toArray⟩, .bool hSub, .slice aa aud.length ac, .bool hAud, .string ⟨jti.toArray⟩, .bool hJti, .bool ex.has, .int .i64 ex.at_, .bool nb.has, .int .i64 nb.at_, .bool it.has, .int .i64 it.at_] 27)).alloc (.cells #[.slice none 0 0, .string ⟨#[]⟩, .bool false, .string ⟨#[]⟩, .bool false, .slice none 0 0, .bool false, .string ⟨#[]⟩, .bool false, .bool false, .int .i64 0, .bool false, .int .i64 0, .bool false, .int .i64 0] 27) = W) := hW
  have HB : Hid (Below w.heap.size w W) := hB
  have HB0 : Hid (Bl 27 W w.heap.size [.slice va l.length vc, .string ⟨iss.toArray⟩, .bool hIss, .string ⟨sub.toArray⟩, .bool hSub, .slice aa aud.length ac, .bool hAud, .string ⟨jti.toArray⟩, .bool hJti, .bool ex.has, .int .i64 ex.at_, .bool nb.has, .int .i64 nb.at_, .bool it.has, .int .i64 it.at_]) := h5
  have HB1 : Hid (Bl 27 W (w.heap.size + 1) [.slice none 0 0, .string ⟨#[]⟩, .bool false, .string ⟨#[]⟩, .bool false, .slice none 0 0, .bool false, .string ⟨#[]⟩, .bool false, .bool false, .int .i64 0, .bool false, .int .i64 0, .bool false, .int .i64 0]) := h6
  have p0 := bl_rng2 h5
  have hcl : (Tryd.prog.info? 27).map (·.size) = some ([.slice va l.length vc, .string ⟨iss.toArray⟩, .bool hIss, .string ⟨sub.toArray⟩, .bool hSub, .slice aa aud.length ac, .bool hAud, .string ⟨jti.toArray⟩, .bool hJti, .bool ex.has, .int .i64 ex.at_, .bool nb.has, .int .i64 nb.at_, .bool it.has, .int .i64 it.at_] : List Value).length := by kernel_rfl
  have CT := ctwin_any l va vc aud aa ac iss hIss sub hSub hAud jti hJti ex nb it W (h.below hB (Nat.le_refl _)) (hA.below hB (Nat.le_refl _)) hvn han hl hal
  clear h hA h1 h2 h3 h4 h5 h6 hB hW hvn han
  go_enter Tryd.func5, Tryd.ntmps5
  go_upto_region 1 with fail
  rw [HW.out]
  clear HW
  go_wp2_with (first | (refine wpList_load_mid rfl 27 (.tmp 1) rfl w.heap.size 0 rfl [.slice va l.length vc, .string ⟨iss.toArray⟩, .bool hIss, .string ⟨sub.toArray⟩, .bool hSub, .slice aa aud.length ac, .bool hAud, .string ⟨jti.toArray⟩, .bool hJti, .bool ex.has, .int .i64 ex.at_, .bool nb.has, .int .i64 nb.at_, .bool it.has, .int .i64 it.at_] _ p0 Tryd.underlying27 rfl hcl ?_) | fail)
  refine CT.mono ?_
  clear CT p0
  rintro e w1 ⟨⟨v, a, rfl, hn, ht⟩, hb⟩
  obtain ⟨vA, vC, e1, _, _⟩ := own_slice hn
  obtain ⟨aA, aC, e2, _, _⟩ := own_slice ht
  subst e1
  subst e2
  obtain ⟨w2, hw2⟩ : ∃ x, w1.alloc (.cells #[.slice vA l.length vC, .string ⟨iss.toArray⟩, .bool hIss, .string ⟨sub.toArray⟩, .bool hSub, .slice aA aud.length aC, .bool hAud, .string ⟨jti.toArray⟩, .bool hJti, .bool ex.has, .int .i64 ex.at_, .bool nb.has, .int .i64 nb.at_, .bool it.has, .int .i64 it.at_] 27) = x := ⟨_, rfl⟩
  have hA2 : Below w1.heap.size w1 w2 := by rw [← hw2]; exact alloc_below _ _
  have hD2 : Bl 27 w2 w1.heap.size [.slice vA l.length vC, .string ⟨iss.toArray⟩, .bool hIss, .string ⟨sub.toArray⟩, .bool hSub, .slice aA aud.length aC, .bool hAud, .string ⟨jti.toArray⟩, .bool hJti, .bool ex.has, .int .i64 ex.at_, .bool nb.has, .int .i64 nb.at_, .bool it.has, .int .i64 it.at_] := by rw [← hw2]; exact alloc_bl _ _ _
  have hY2 : Below W.heap.size W w2 := hb.trans (hA2.mono hb.size)
  have HB2 : Hid (Below w.heap.size w w2) := HB.out.trans (hY2.mono HB.out.size)
  have HC2 : Hid (Bl 27 w2 w.heap.size [.slice va l.length vc, .string ⟨iss.toArray⟩, .bool hIss, .string ⟨sub.toArray⟩, .bool hSub, .slice aa aud.length ac, .bool hAud, .string ⟨jti.toArray⟩, .bool hJti, .bool ex.has, .int .i64 ex.at_, .bool nb.has, .int .i64 nb.at_, .bool it.has, .int .i64 it.at_]) := HB0.out.below hY2 HB0.out.lt
  have HZ2 : Hid (Bl 27 w2 (w.heap.size + 1) [.slice none 0 0, .string ⟨#[]⟩, .bool false, .string ⟨#[]⟩, .bool false, .slice none 0 0, .bool false, .string ⟨#[]⟩, .bool false, .bool false, .int .i64 0, .bool false, .int .i64 0, .bool false, .int .i64 0]) := HB1.out.below hY2 HB1.out.lt
  have HN2 : Hid (NO w.heap.size w2 (.slice vA l.length vC) l) := own_mono2 (own_below hn hA2 (Nat.le_refl _)) HB.out.size
  have HT2 : Hid (OT w.heap.size w2 (.slice aA aud.length aC) aud) := own_mono2 (own_below ht hA2 (Nat.le_refl _)) HB.out.size
  have hbd : w.heap.size + 1 < w1.heap.size := Nat.lt_of_lt_of_le HB1.out.lt hb.size
  obtain ⟨bd, hbde⟩ : ∃ b, w1.heap.size = b := ⟨_, rfl⟩
  rw [hbde] at hD2 hbd
  have HD2 : Hid (Bl 27 w2 bd [.slice vA l.length vC, .string ⟨iss.toArray⟩, .bool hIss, .string ⟨sub.toArray⟩, .bool hSub, .slice aA aud.length aC, .bool hAud, .string ⟨jti.toArray⟩, .bool hJti, .bool ex.has, .int .i64 ex.at_, .bool nb.has, .int .i64 nb.at_, .bool it.has, .int .i64 it.at_]) := hD2
  go_upto_region 2 with fail
  clear hw2 hA2 hD2 hY2 hbde hn ht hb HB HB0 HB1
  have kd : w2.cell? ⟨bd, 0, none⟩ = some (.slice vA l.length vC) := HD2.out.cell 0 (by simp)
  have kc : w2.cell? ⟨w.heap.size, 0, none⟩ = some (.slice va l.length vc) := HC2.out.cell 0 (by simp)
  obtain ⟨i1, hj, hy0, hy1, hy2⟩ := info_parts infoN
  refine wp_region_K 11 (fun (w' : World) => w'.cell? ⟨bd, 0, none⟩ = some (.slice vA l.length vC) ∧ w'.cell? ⟨w.heap.size, 0, none⟩ = some (.slice va l.length vc)) (by kernel_rfl) ?_
  have hHeld : (fun (w' : World) => w'.cell? ⟨bd, 0, none⟩ = some (.slice vA l.length vC) ∧ w'.cell? ⟨w.heap.size, 0, none⟩ = some (.slice va l.length vc)) (World.drew _) := ⟨kd, kc⟩
  refine wpAnyK_take0 0 (v := ?v1) rfl (by kernel_rfl) (fun _ _ _ h => h) (Or.inl ⟨by rfl, ?hy1⟩) (fun _ => hHeld) ?_
  case hy1 => (intro w hSw; go_simp; try with_reducible rfl)
  try simp only [Act.put, List.setIfInBounds_toArray, List.set_cons_zero, List.set_cons_succ]
  refine wpAnyK_take0 2 (v := ?v2) rfl (by kernel_rfl) (fun _ _ _ h => h) (Or.inl ⟨by rfl, ?hy2⟩) (fun _ => hHeld) ?_
  case hy2 => (intro w hSw; go_simp; try with_reducible rfl)
  try simp only [Act.put, List.setIfInBounds_toArray, List.set_cons_zero, List.set_cons_succ]
  refine wpAnyK_take0 3 (v := ?v3) rfl (by kernel_rfl) (fun _ _ _ h => h) (Or.inl ⟨by rfl, ?hy3⟩) (fun _ => hHeld) ?_
  case hy3 => (intro w hSw; go_simp; try with_reducible rfl)
  try simp only [Act.put, List.setIfInBounds_toArray, List.set_cons_zero, List.set_cons_succ]
  refine wpAnyK_take0 6 (v := ?v4) rfl (by kernel_rfl) (fun _ _ _ h => h) (Or.inl ⟨by rfl, ?hy4⟩) (fun _ => hHeld) ?_
  case hy4 => (intro w hSw; go_simp; try with_reducible rfl)
  try simp only [Act.put, List.setIfInBounds_toArray, List.set_cons_zero, List.set_cons_succ]
  refine wpAnyK_take 1 [5, 9, 11] (v := ?v5) rfl (by kernel_rfl) (fun _ _ _ h => h) (Or.inl ⟨by rfl, ?hy5⟩) hHeld ?_
  case hy5 => (intro w hSw; (try dsimp only at hSw); go_simp; try with_reducible rfl)
  try simp only [Act.put, List.setIfInBounds_toArray, List.set_cons_zero, List.set_cons_succ]
  refine wpAnyK_take 7 [8, 9, 11] (v := ?v6) rfl (by kernel_rfl) (fun _ _ _ h => h) (Or.inl ⟨by rfl, ?hy6⟩) hHeld ?_
  case hy6 => (intro w hSw; (try dsimp only at hSw); go_simp; try with_reducible rfl)
  try simp only [Act.put, List.setIfInBounds_toArray, List.set_cons_zero, List.set_cons_succ]
  refine wpAnyK_take0 8 (v := ?v7) rfl (by kernel_rfl) (fun _ _ _ h => h) (Or.inl ⟨by rfl, ?hy7⟩) (fun _ => hHeld) ?_
  case hy7 => (intro w hSw; go_simp; try with_reducible rfl)
  try simp only [Act.put, List.setIfInBounds_toArray, List.set_cons_zero, List.set_cons_succ]
  refine wpAnyK_step 4 rfl (by kernel_rfl) (fun K9 hK => ?_)
  go_simp
  have HAB : Hid (Below w2.heap.size w2 (w2.drew.alloc (Obj.cells #[.int .i64 0, .string ⟨#[]⟩, .string ⟨#[109, 97, 114, 107]⟩, .bool false, .int .i64 0, .int .i64 0, .int .i64 0, .string ⟨#[]⟩, .string ⟨#[109, 97, 114, 107]⟩, .bool false, .int .i64 0, .int .i64 0] 40))) := alloc_below_drew' w2 _
  have HNB : Hid (Bl 40 (w2.drew.alloc (Obj.cells #[.int .i64 0, .string ⟨#[]⟩, .string ⟨#[109, 97, 114, 107]⟩, .bool false, .int .i64 0, .int .i64 0, .int .i64 0, .string ⟨#[]⟩, .string ⟨#[109, 97, 114, 107]⟩, .bool false, .int .i64 0, .int .i64 0] 40)) w2.heap.size (nCs [mkN, mkN])) := alloc_bl w2.drew _ _
  have HNW : Hid (∀ j u, (nCs [mkN, mkN])[j]? = some u → (w2.drew.alloc (Obj.cells #[.int .i64 0, .string ⟨#[]⟩, .string ⟨#[109, 97, 114, 107]⟩, .bool false, .int .i64 0, .int .i64 0, .int .i64 0, .string ⟨#[]⟩, .string ⟨#[109, 97, 114, 107]⟩, .bool false, .int .i64 0, .int .i64 0] 40)).cell? ((⟨w2.heap.size, 0, none⟩ : Addr).add j) = some u) := fun j u hu => by (obtain ⟨hlt, e⟩ := List.getElem?_eq_some_iff.1 hu; rw [Addr.add_mid, Nat.zero_add, ← e]; exact HNB.out.cell j hlt)
  have HDB : Hid (Bl 27 (w2.drew.alloc (Obj.cells #[.int .i64 0, .string ⟨#[]⟩, .string ⟨#[109, 97, 114, 107]⟩, .bool false, .int .i64 0, .int .i64 0, .int .i64 0, .string ⟨#[]⟩, .string ⟨#[109, 97, 114, 107]⟩, .bool false, .int .i64 0, .int .i64 0] 40)) bd [.slice vA l.length vC, .string ⟨iss.toArray⟩, .bool hIss, .string ⟨sub.toArray⟩, .bool hSub, .slice aA aud.length aC, .bool hAud, .string ⟨jti.toArray⟩, .bool hJti, .bool ex.has, .int .i64 ex.at_, .bool nb.has, .int .i64 nb.at_, .bool it.has, .int .i64 it.at_]) := HD2.out.below HAB.out HD2.out.lt
  have HCB : Hid (Bl 27 (w2.drew.alloc (Obj.cells #[.int .i64 0, .string ⟨#[]⟩, .string ⟨#[109, 97, 114, 107]⟩, .bool false, .int .i64 0, .int .i64 0, .int .i64 0, .string ⟨#[]⟩, .string ⟨#[109, 97, 114, 107]⟩, .bool false, .int .i64 0, .int .i64 0] 40)) w.heap.size [.slice va l.length vc, .string ⟨iss.toArray⟩, .bool hIss, .string ⟨sub.toArray⟩, .bool hSub, .slice aa aud.length ac, .bool hAud, .string ⟨jti.toArray⟩, .bool hJti, .bool ex.has, .int .i64 ex.at_, .bool nb.has, .int .i64 nb.at_, .bool it.has, .int .i64 it.at_]) := HC2.out.below HAB.out HC2.out.lt
  have HZB : Hid (Bl 27 (w2.drew.alloc (Obj.cells #[.int .i64 0, .string ⟨#[]⟩, .string ⟨#[109, 97, 114, 107]⟩, .bool false, .int .i64 0, .int .i64 0, .int .i64 0, .string ⟨#[]⟩, .string ⟨#[109, 97, 114, 107]⟩, .bool false, .int .i64 0, .int .i64 0] 40)) (w.heap.size + 1) [.slice none 0 0, .string ⟨#[]⟩, .bool false, .string ⟨#[]⟩, .bool false, .slice none 0 0, .bool false, .string ⟨#[]⟩, .bool false, .bool false, .int .i64 0, .bool false, .int .i64 0, .bool false, .int .i64 0]) := HZ2.out.below HAB.out HZ2.out.lt
  have HOB : Hid (NO w.heap.size (w2.drew.alloc (Obj.cells #[.int .i64 0, .string ⟨#[]⟩, .string ⟨#[109, 97, 114, 107]⟩, .bool false, .int .i64 0, .int .i64 0, .int .i64 0, .string ⟨#[]⟩, .string ⟨#[109, 97, 114, 107]⟩, .bool false, .int .i64 0, .int .i64 0] 40)) (.slice vA l.length vC) l) := own_below HN2.out HAB.out (Nat.le_refl _)
  have HTB : Hid (OT w.heap.size (w2.drew.alloc (Obj.cells #[.int .i64 0, .string ⟨#[]⟩, .string ⟨#[109, 97, 114, 107]⟩, .bool false, .int .i64 0, .int .i64 0, .int .i64 0, .string ⟨#[]⟩, .string ⟨#[109, 97, 114, 107]⟩, .bool false, .int .i64 0, .int .i64 0] 40)) (.slice aA aud.length aC) aud) := own_below HT2.out HAB.out (Nat.le_refl _)
  have HBB : Hid (Below w.heap.size w (w2.drew.alloc (Obj.cells #[.int .i64 0, .string ⟨#[]⟩, .string ⟨#[109, 97, 114, 107]⟩, .bool false, .int .i64 0, .int .i64 0, .int .i64 0, .string ⟨#[]⟩, .string ⟨#[109, 97, 114, 107]⟩, .bool false, .int .i64 0, .int .i64 0] 40))) := HB2.out.trans (HAB.out.mono HB2.out.size)
  have HSB : Hid (w.heap.size ≤ (w2.drew.alloc (Obj.cells #[.int .i64 0, .string ⟨#[]⟩, .string ⟨#[109, 97, 114, 107]⟩, .bool false, .int .i64 0, .int .i64 0, .int .i64 0, .string ⟨#[]⟩, .string ⟨#[109, 97, 114, 107]⟩, .bool false, .int .i64 0, .int .i64 0] 40)).heap.size) := HBB.out.size
  have HKB : Hid ((fun (w' : World) => w'.cell? ⟨bd, 0, none⟩ = some (.slice vA l.length vC) ∧ w'.cell? ⟨w.heap.size, 0, none⟩ = some (.slice va l.length vc)) (w2.drew.alloc (Obj.cells #[.int .i64 0, .string ⟨#[]⟩, .string ⟨#[109, 97, 114, 107]⟩, .bool false, .int .i64 0, .int .i64 0, .int .i64 0, .string ⟨#[]⟩, .string ⟨#[109, 97, 114, 107]⟩, .bool false, .int .i64 0, .int .i64 0] 40))) := ⟨HDB.out.cell 0 (by simp), HCB.out.cell 0 (by simp)⟩
  refine hK.out _ _ ?hk70 ?_
  case hk70 => exact fun _ => HKB.out
  have hHeld : (fun (w' : World) => w'.cell? ⟨bd, 0, none⟩ = some (.slice vA l.length vC) ∧ w'.cell? ⟨w.heap.size, 0, none⟩ = some (.slice va l.length vc)) _ := HKB.out
  clear hK
  try simp only [Act.put, List.setIfInBounds_toArray, List.set_cons_zero, List.set_cons_succ]
  refine wpAnyK_step 5 rfl (by kernel_rfl) (fun K9 hK => ?_)
  rw [if_pos (by rfl)]
  refine wp_append_own_wide _ (.tmp 7) (.tmp 10) 22 rfl w.heap.size 40 i1 (.agg #[.int .i64 0, .string ⟨#[]⟩, .string ⟨#[]⟩, .bool false, .int .i64 0, .int .i64 0]) 6 64 Tryd.underlying22 hj hy0 hy1 hy2 rfl (by decide) (.slice vA l.length vC) l.length (nCs l) rfl HOB.out ⟨w2.heap.size, 0, none⟩ 2 2 (nCs [mkN, mkN]) rfl rfl HNW.out (nCs_oneC _) (by unfold maxLen; omega) (by omega) HSB.out ?_
  intro vZ w4 hownZ hgrowZ hnilZ
  have ha1 := block_apart HOB.out HDB.out (by decide)
  have ha2 := block_apart HOB.out HCB.out (by decide)
  have ha3 := block_apart HOB.out HZB.out (by decide)
  have HD4 : Hid (Bl 27 w4 bd [.slice vA l.length vC, .string ⟨iss.toArray⟩, .bool hIss, .string ⟨sub.toArray⟩, .bool hSub, .slice aA aud.length aC, .bool hAud, .string ⟨jti.toArray⟩, .bool hJti, .bool ex.has, .int .i64 ex.at_, .bool nb.has, .int .i64 nb.at_, .bool it.has, .int .i64 it.at_]) := bl_grown' HDB.out hgrowZ ha1
  have HC4 : Hid (Bl 27 w4 w.heap.size [.slice va l.length vc, .string ⟨iss.toArray⟩, .bool hIss, .string ⟨sub.toArray⟩, .bool hSub, .slice aa aud.length ac, .bool hAud, .string ⟨jti.toArray⟩, .bool hJti, .bool ex.has, .int .i64 ex.at_, .bool nb.has, .int .i64 nb.at_, .bool it.has, .int .i64 it.at_]) := bl_grown' HCB.out hgrowZ ha2
  have HZ4 : Hid (Bl 27 w4 (w.heap.size + 1) [.slice none 0 0, .string ⟨#[]⟩, .bool false, .string ⟨#[]⟩, .bool false, .slice none 0 0, .bool false, .string ⟨#[]⟩, .bool false, .bool false, .int .i64 0, .bool false, .int .i64 0, .bool false, .int .i64 0]) := bl_grown' HZB.out hgrowZ ha3
  have HT4 : Hid (OT w.heap.size w4 (.slice aA aud.length aC) aud) := own_keep HTB.out fun g hg => hgrowZ.block g (HTB.out.lt g hg).2 (fun e => kinds_apart HTB.out HOB.out (by decide) hg e.symm)
  have HN4 : Hid (NO w.heap.size w4 vZ (l ++ [mkN, mkN])) := by
    show NO _ _ _ _
    unfold NO
    rw [List.length_append, nCs_append]
    exact hownZ
  have HB4 : Hid (Below w.heap.size w w4) := HBB.out.grown hgrowZ HBB.out.size (own_block HOB.out)
  have HK4 : Hid ((fun (w' : World) => w'.cell? ⟨bd, 0, none⟩ = some (.slice vA l.length vC) ∧ w'.cell? ⟨w.heap.size, 0, none⟩ = some (.slice va l.length vc)) w4) := ⟨HD4.out.cell 0 (by simp), HC4.out.cell 0 (by simp)⟩
  obtain ⟨aZ, cv, e1, hcz, hgz⟩ := own_slice hownZ
  obtain ⟨gv, e2⟩ := hgz (by omega)
  subst e2
  subst e1
  have HN4 : Hid (NO w.heap.size w4 (.slice (some ⟨gv, 0, none⟩) (l.length + 2) cv) (l ++ [mkN, mkN])) := HN4.out
  clear hownZ hgrowZ hnilZ ha1 ha2 ha3 hgz
  refine hK.out _ _ ?hk71 ?_
  case hk71 => exact fun _ => HK4.out
  have hHeld : (fun (w' : World) => w'.cell? ⟨bd, 0, none⟩ = some (.slice vA l.length vC) ∧ w'.cell? ⟨w.heap.size, 0, none⟩ = some (.slice va l.length vc)) _ := HK4.out
  clear hK
  try simp only [Act.put, List.setIfInBounds_toArray, List.set_cons_zero, List.set_cons_succ]
  have hcz2 : l.length ≤ cv := by omega
  have qs1 : ((l.length : Int) ≤ (cv : Int)) := by omega
  refine wpAnyK_step 9 rfl (by kernel_rfl) (fun K9 hK => ?_)
  go_simp
  refine hK.out _ _ ?hk72 ?_
  case hk72 => exact fun _ => HK4.out
  have hHeld : (fun (w' : World) => w'.cell? ⟨bd, 0, none⟩ = some (.slice vA l.length vC) ∧ w'.cell? ⟨w.heap.size, 0, none⟩ = some (.slice va l.length vc)) _ := HK4.out
  clear hK
  try simp only [Act.put, List.setIfInBounds_toArray, List.set_cons_zero, List.set_cons_succ]
  refine wpAnyK_take0 10 (v := ?v8) rfl (by kernel_rfl) (fun _ _ _ h => h) (Or.inl ⟨by rfl, ?hy8⟩) (fun _ => hHeld) ?_
  case hy8 => (intro w hSw; go_simp; try with_reducible rfl)
  try simp only [Act.put, List.setIfInBounds_toArray, List.set_cons_zero, List.set_cons_succ]
  have kx := HD4.out.cell 0 (by simp)
  have kf := HD4.out.frozen 0
  refine wpAnyK_step 11 rfl (by kernel_rfl) (fun K hK => ?_)
  go_simp
  refine hK.out _ _ ?hk73 ?_
  case hk73 => exact (fun h => nomatch (h.symm.trans (show _ = true by kernel_rfl)))
  clear hK K
  try simp only [Act.put, List.setIfInBounds_toArray, List.set_cons_zero, List.set_cons_succ]
  refine wpAnyK_done (by kernel_rfl) ?_ _
  obtain ⟨w5, hw5⟩ : ∃ x, w4.setCell ⟨bd, 0, none⟩ (.slice (some ⟨gv, 0, none⟩) l.length cv) = x := ⟨_, rfl⟩
  have HB5 : Hid (Below w.heap.size w w5) := by rw [← hw5]; exact HB4.out.setCell (show w.heap.size ≤ bd by omega) _
  have HD5 : Hid (Bl 27 w5 bd [.slice (some ⟨gv, 0, none⟩) l.length cv, .string ⟨iss.toArray⟩, .bool hIss, .string ⟨sub.toArray⟩, .bool hSub, .slice aA aud.length aC, .bool hAud, .string ⟨jti.toArray⟩, .bool hJti, .bool ex.has, .int .i64 ex.at_, .bool nb.has, .int .i64 nb.at_, .bool it.has, .int .i64 it.at_]) := by rw [← hw5]; exact HD4.out.set 0 _
  have HC5 : Hid (Bl 27 w5 w.heap.size [.slice va l.length vc, .string ⟨iss.toArray⟩, .bool hIss, .string ⟨sub.toArray⟩, .bool hSub, .slice aa aud.length ac, .bool hAud, .string ⟨jti.toArray⟩, .bool hJti, .bool ex.has, .int .i64 ex.at_, .bool nb.has, .int .i64 nb.at_, .bool it.has, .int .i64 it.at_]) := by rw [← hw5]; exact bl_oth2 HC4.out (by omega)
  have HZ5 : Hid (Bl 27 w5 (w.heap.size + 1) [.slice none 0 0, .string ⟨#[]⟩, .bool false, .string ⟨#[]⟩, .bool false, .slice none 0 0, .bool false, .string ⟨#[]⟩, .bool false, .bool false, .int .i64 0, .bool false, .int .i64 0, .bool false, .int .i64 0]) := by rw [← hw5]; exact bl_oth2 HZ4.out (by omega)
  have HN5 : Hid (NO w.heap.size w5 (.slice (some ⟨gv, 0, none⟩) (l.length + 2) cv) (l ++ [mkN, mkN])) := by rw [← hw5]; exact own_set HN4.out HD4.out (by decide)
  have HT5 : Hid (OT w.heap.size w5 (.slice aA aud.length aC) aud) := by rw [← hw5]; exact own_set HT4.out HD4.out (by decide)
  simp only [hw5]
  clear hw5 kx kf HAB HNB HNW HDB HCB HZB HOB HTB HBB HSB HKB HD4 HC4 HZ4 HT4 HN4 HB4 HK4 hHeld HB2 HC2 HZ2 HN2 HT2 HD2 kd kc hj hy0 hy1 hy2 i1
  go_upto_region 3 with fail
  have kd : w5.cell? ⟨bd, 5, none⟩ = some (.slice aA aud.length aC) := HD5.out.cell 5 (by simp)
  have kc : w5.cell? ⟨w.heap.size, 5, none⟩ = some (.slice aa aud.length ac) := HC5.out.cell 5 (by simp)
  obtain ⟨i1, hj, hy0, hy1, hy2⟩ := info_parts infoTx
  refine wp_region_K 9 (fun (w' : World) => w'.cell? ⟨bd, 5, none⟩ = some (.slice aA aud.length aC) ∧ w'.cell? ⟨w.heap.size, 5, none⟩ = some (.slice aa aud.length ac)) (by kernel_rfl) ?_
  have hHeld : (fun (w' : World) => w'.cell? ⟨bd, 5, none⟩ = some (.slice aA aud.length aC) ∧ w'.cell? ⟨w.heap.size, 5, none⟩ = some (.slice aa aud.length ac)) (World.drew _) := ⟨kd, kc⟩
  refine wpAnyK_take0 0 (v := ?v9) rfl (by kernel_rfl) (fun _ _ _ h => h) (Or.inl ⟨by rfl, ?hy9⟩) (fun _ => hHeld) ?_
  case hy9 => (intro w hSw; go_simp; try with_reducible rfl)
  try simp only [Act.put, List.setIfInBounds_toArray, List.set_cons_zero, List.set_cons_succ]
  refine wpAnyK_take0 4 (v := ?v10) rfl (by kernel_rfl) (fun _ _ _ h => h) (Or.inl ⟨by rfl, ?hy10⟩) (fun _ => hHeld) ?_
  case hy10 => (intro w hSw; go_simp; try with_reducible rfl)
  try simp only [Act.put, List.setIfInBounds_toArray, List.set_cons_zero, List.set_cons_succ]
  refine wpAnyK_take 1 [3, 7, 9] (v := ?v11) rfl (by kernel_rfl) (fun _ _ _ h => h) (Or.inl ⟨by rfl, ?hy11⟩) hHeld ?_
  case hy11 => (intro w hSw; (try dsimp only at hSw); go_simp; try with_reducible rfl)
  try simp only [Act.put, List.setIfInBounds_toArray, List.set_cons_zero, List.set_cons_succ]
  refine wpAnyK_take 5 [6, 7, 9] (v := ?v12) rfl (by kernel_rfl) (fun _ _ _ h => h) (Or.inl ⟨by rfl, ?hy12⟩) hHeld ?_
  case hy12 => (intro w hSw; (try dsimp only at hSw); go_simp; try with_reducible rfl)
  try simp only [Act.put, List.setIfInBounds_toArray, List.set_cons_zero, List.set_cons_succ]
  refine wpAnyK_take0 6 (v := ?v13) rfl (by kernel_rfl) (fun _ _ _ h => h) (Or.inl ⟨by rfl, ?hy13⟩) (fun _ => hHeld) ?_
  case hy13 => (intro w hSw; go_simp; try with_reducible rfl)
  try simp only [Act.put, List.setIfInBounds_toArray, List.set_cons_zero, List.set_cons_succ]
  refine wpAnyK_step 2 rfl (by kernel_rfl) (fun K9 hK => ?_)
  go_simp
  have HAB : Hid (Below w5.heap.size w5 (w5.drew.alloc (Obj.cells #[.string ⟨#[109, 97, 114, 107]⟩, .string ⟨#[109, 97, 114, 107]⟩] 9))) := alloc_below_drew' w5 _
  have HNB : Hid (Bl 9 (w5.drew.alloc (Obj.cells #[.string ⟨#[109, 97, 114, 107]⟩, .string ⟨#[109, 97, 114, 107]⟩] 9)) w5.heap.size [tV mkT, tV mkT]) := alloc_bl w5.drew _ _
  have HNW : Hid (∀ j u, [tV mkT, tV mkT][j]? = some u → (w5.drew.alloc (Obj.cells #[.string ⟨#[109, 97, 114, 107]⟩, .string ⟨#[109, 97, 114, 107]⟩] 9)).cell? ((⟨w5.heap.size, 0, none⟩ : Addr).add j) = some u) := fun j u hu => by (obtain ⟨hlt, e⟩ := List.getElem?_eq_some_iff.1 hu; rw [Addr.add_mid, Nat.zero_add, ← e]; exact HNB.out.cell j hlt)
  have HDB : Hid (Bl 27 (w5.drew.alloc (Obj.cells #[.string ⟨#[109, 97, 114, 107]⟩, .string ⟨#[109, 97, 114, 107]⟩] 9)) bd [.slice (some ⟨gv, 0, none⟩) l.length cv, .string ⟨iss.toArray⟩, .bool hIss, .string ⟨sub.toArray⟩, .bool hSub, .slice aA aud.length aC, .bool hAud, .string ⟨jti.toArray⟩, .bool hJti, .bool ex.has, .int .i64 ex.at_, .bool nb.has, .int .i64 nb.at_, .bool it.has, .int .i64 it.at_]) := HD5.out.below HAB.out HD5.out.lt
  have HCB : Hid (Bl 27 (w5.drew.alloc (Obj.cells #[.string ⟨#[109, 97, 114, 107]⟩, .string ⟨#[109, 97, 114, 107]⟩] 9)) w.heap.size [.slice va l.length vc, .string ⟨iss.toArray⟩, .bool hIss, .string ⟨sub.toArray⟩, .bool hSub, .slice aa aud.length ac, .bool hAud, .string ⟨jti.toArray⟩, .bool hJti, .bool ex.has, .int .i64 ex.at_, .bool nb.has, .int .i64 nb.at_, .bool it.has, .int .i64 it.at_]) := HC5.out.below HAB.out HC5.out.lt
  have HZB : Hid (Bl 27 (w5.drew.alloc (Obj.cells #[.string ⟨#[109, 97, 114, 107]⟩, .string ⟨#[109, 97, 114, 107]⟩] 9)) (w.heap.size + 1) [.slice none 0 0, .string ⟨#[]⟩, .bool false, .string ⟨#[]⟩, .bool false, .slice none 0 0, .bool false, .string ⟨#[]⟩, .bool false, .bool false, .int .i64 0, .bool false, .int .i64 0, .bool false, .int .i64 0]) := HZ5.out.below HAB.out HZ5.out.lt
  have HOB : Hid (NO w.heap.size (w5.drew.alloc (Obj.cells #[.string ⟨#[109, 97, 114, 107]⟩, .string ⟨#[109, 97, 114, 107]⟩] 9)) (.slice (some ⟨gv, 0, none⟩) (l.length + 2) cv) (l ++ [mkN, mkN])) := own_below HN5.out HAB.out (Nat.le_refl _)
  have HTB : Hid (OT w.heap.size (w5.drew.alloc (Obj.cells #[.string ⟨#[109, 97, 114, 107]⟩, .string ⟨#[109, 97, 114, 107]⟩] 9)) (.slice aA aud.length aC) aud) := own_below HT5.out HAB.out (Nat.le_refl _)
  have HBB : Hid (Below w.heap.size w (w5.drew.alloc (Obj.cells #[.string ⟨#[109, 97, 114, 107]⟩, .string ⟨#[109, 97, 114, 107]⟩] 9))) := HB5.out.trans (HAB.out.mono HB5.out.size)
  have HSB : Hid (w.heap.size ≤ (w5.drew.alloc (Obj.cells #[.string ⟨#[109, 97, 114, 107]⟩, .string ⟨#[109, 97, 114, 107]⟩] 9)).heap.size) := HBB.out.size
  have HKB : Hid ((fun (w' : World) => w'.cell? ⟨bd, 5, none⟩ = some (.slice aA aud.length aC) ∧ w'.cell? ⟨w.heap.size, 5, none⟩ = some (.slice aa aud.length ac)) (w5.drew.alloc (Obj.cells #[.string ⟨#[109, 97, 114, 107]⟩, .string ⟨#[109, 97, 114, 107]⟩] 9))) := ⟨HDB.out.cell 5 (by simp), HCB.out.cell 5 (by simp)⟩
  refine hK.out _ _ ?hk80 ?_
  case hk80 => exact fun _ => HKB.out
  have hHeld : (fun (w' : World) => w'.cell? ⟨bd, 5, none⟩ = some (.slice aA aud.length aC) ∧ w'.cell? ⟨w.heap.size, 5, none⟩ = some (.slice aa aud.length ac)) _ := HKB.out
  clear hK
  try simp only [Act.put, List.setIfInBounds_toArray, List.set_cons_zero, List.set_cons_succ]
  refine wpAnyK_step 3 rfl (by kernel_rfl) (fun K9 hK => ?_)
  rw [if_pos (by rfl)]
  refine wp_append_own_wide _ (.tmp 18) (.tmp 19) 23 rfl w.heap.size 9 i1 (.string ⟨#[]⟩) 1 16 Tryd.underlying23 hj hy0 hy1 hy2 rfl (by decide) (.slice aA aud.length aC) aud.length (aud.map tV) rfl HTB.out ⟨w5.heap.size, 0, none⟩ 2 2 [tV mkT, tV mkT] rfl rfl HNW.out (by intro u hu; simp [tV] at hu; rcases hu with rfl | rfl <;> rfl) (by unfold maxLen; omega) (by omega) HSB.out ?_
  intro vZ w7 hownZ hgrowZ hnilZ
  have ha1 := block_apart HTB.out HDB.out (by decide)
  have ha2 := block_apart HTB.out HCB.out (by decide)
  have ha3 := block_apart HTB.out HZB.out (by decide)
  have HD7 : Hid (Bl 27 w7 bd [.slice (some ⟨gv, 0, none⟩) l.length cv, .string ⟨iss.toArray⟩, .bool hIss, .string ⟨sub.toArray⟩, .bool hSub, .slice aA aud.length aC, .bool hAud, .string ⟨jti.toArray⟩, .bool hJti, .bool ex.has, .int .i64 ex.at_, .bool nb.has, .int .i64 nb.at_, .bool it.has, .int .i64 it.at_]) := bl_grown' HDB.out hgrowZ ha1
  have HC7 : Hid (Bl 27 w7 w.heap.size [.slice va l.length vc, .string ⟨iss.toArray⟩, .bool hIss, .string ⟨sub.toArray⟩, .bool hSub, .slice aa aud.length ac, .bool hAud, .string ⟨jti.toArray⟩, .bool hJti, .bool ex.has, .int .i64 ex.at_, .bool nb.has, .int .i64 nb.at_, .bool it.has, .int .i64 it.at_]) := bl_grown' HCB.out hgrowZ ha2
  have HZ7 : Hid (Bl 27 w7 (w.heap.size + 1) [.slice none 0 0, .string ⟨#[]⟩, .bool false, .string ⟨#[]⟩, .bool false, .slice none 0 0, .bool false, .string ⟨#[]⟩, .bool false, .bool false, .int .i64 0, .bool false, .int .i64 0, .bool false, .int .i64 0]) := bl_grown' HZB.out hgrowZ ha3
  have HN7 : Hid (NO w.heap.size w7 (.slice (some ⟨gv, 0, none⟩) (l.length + 2) cv) (l ++ [mkN, mkN])) := own_keep HOB.out fun g hg => hgrowZ.block g (HOB.out.lt g hg).2 (fun e => kinds_apart HOB.out HTB.out (by decide) hg e.symm)
  have HT7' : Hid (OT w.heap.size w7 vZ (aud ++ [mkT, mkT])) := by
    show OT _ _ _ _
    unfold OT
    rw [List.length_append, List.map_append]
    exact hownZ
  have HB7 : Hid (Below w.heap.size w w7) := HBB.out.grown hgrowZ HBB.out.size (own_block HTB.out)
  have HK7 : Hid ((fun (w' : World) => w'.cell? ⟨bd, 5, none⟩ = some (.slice aA aud.length aC) ∧ w'.cell? ⟨w.heap.size, 5, none⟩ = some (.slice aa aud.length ac)) w7) := ⟨HD7.out.cell 5 (by simp), HC7.out.cell 5 (by simp)⟩
  obtain ⟨aZ, ca, e1, hcz, hgz⟩ := own_slice hownZ
  obtain ⟨ga, e2⟩ := hgz (by omega)
  subst e2
  subst e1
  have HT7 : Hid (OT w.heap.size w7 (.slice (some ⟨ga, 0, none⟩) (aud.length + 2) ca) (aud ++ [mkT, mkT])) := HT7'.out
  clear hownZ hgrowZ hnilZ ha1 ha2 ha3 hgz HT7'
  refine hK.out _ _ ?hk81 ?_
  case hk81 => exact fun _ => HK7.out
  have hHeld : (fun (w' : World) => w'.cell? ⟨bd, 5, none⟩ = some (.slice aA aud.length aC) ∧ w'.cell? ⟨w.heap.size, 5, none⟩ = some (.slice aa aud.length ac)) _ := HK7.out
  clear hK
  try simp only [Act.put, List.setIfInBounds_toArray, List.set_cons_zero, List.set_cons_succ]
  have hcz2 : aud.length ≤ ca := by omega
  have qs1 : ((aud.length : Int) ≤ (ca : Int)) := by omega
  refine wpAnyK_step 7 rfl (by kernel_rfl) (fun K9 hK => ?_)
  go_simp
  refine hK.out _ _ ?hk82 ?_
  case hk82 => exact fun _ => HK7.out
  have hHeld : (fun (w' : World) => w'.cell? ⟨bd, 5, none⟩ = some (.slice aA aud.length aC) ∧ w'.cell? ⟨w.heap.size, 5, none⟩ = some (.slice aa aud.length ac)) _ := HK7.out
  clear hK
  try simp only [Act.put, List.setIfInBounds_toArray, List.set_cons_zero, List.set_cons_succ]
  refine wpAnyK_take0 8 (v := ?v14) rfl (by kernel_rfl) (fun _ _ _ h => h) (Or.inl ⟨by rfl, ?hy14⟩) (fun _ => hHeld) ?_
  case hy14 => (intro w hSw; go_simp; try with_reducible rfl)
  try simp only [Act.put, List.setIfInBounds_toArray, List.set_cons_zero, List.set_cons_succ]
  have kx := HD7.out.cell 5 (by simp)
  have kf := HD7.out.frozen 5
  refine wpAnyK_step 9 rfl (by kernel_rfl) (fun K hK => ?_)
  go_simp
  refine hK.out _ _ ?hk83 ?_
  case hk83 => exact (fun h => nomatch (h.symm.trans (show _ = true by kernel_rfl)))
  clear hK K
  try simp only [Act.put, List.setIfInBounds_toArray, List.set_cons_zero, List.set_cons_succ]
  refine wpAnyK_done (by kernel_rfl) ?_ _
  obtain ⟨w8, hw8⟩ : ∃ x, w7.setCell ⟨bd, 5, none⟩ (.slice (some ⟨ga, 0, none⟩) aud.length ca) = x := ⟨_, rfl⟩
  have HB8 : Hid (Below w.heap.size w w8) := by rw [← hw8]; exact HB7.out.setCell (show w.heap.size ≤ bd by omega) _
  have HD8 : Hid (Bl 27 w8 bd [.slice (some ⟨gv, 0, none⟩) l.length cv, .string ⟨iss.toArray⟩, .bool hIss, .string ⟨sub.toArray⟩, .bool hSub, .slice (some ⟨ga, 0, none⟩) aud.length ca, .bool hAud, .string ⟨jti.toArray⟩, .bool hJti, .bool ex.has, .int .i64 ex.at_, .bool nb.has, .int .i64 nb.at_, .bool it.has, .int .i64 it.at_]) := by rw [← hw8]; exact HD7.out.set 5 _
  have HZ8 : Hid (Bl 27 w8 (w.heap.size + 1) [.slice none 0 0, .string ⟨#[]⟩, .bool false, .string ⟨#[]⟩, .bool false, .slice none 0 0, .bool false, .string ⟨#[]⟩, .bool false, .bool false, .int .i64 0, .bool false, .int .i64 0, .bool false, .int .i64 0]) := by rw [← hw8]; exact bl_oth2 HZ7.out (by omega)
  have HN8 : Hid (NO w.heap.size w8 (.slice (some ⟨gv, 0, none⟩) (l.length + 2) cv) (l ++ [mkN, mkN])) := by rw [← hw8]; exact own_set HN7.out HD7.out (by decide)
  have HT8 : Hid (OT w.heap.size w8 (.slice (some ⟨ga, 0, none⟩) (aud.length + 2) ca) (aud ++ [mkT, mkT])) := by rw [← hw8]; exact own_set HT7.out HD7.out (by decide)
  simp only [hw8]
  clear hw8 kx kf HAB HNB HNW HDB HCB HZB HOB HTB HBB HSB HKB HD7 HC7 HZ7 HT7 HN7 HB7 HK7 hHeld HB5 HC5 HZ5 HN5 HT5 HD5 kd kc hj hy0 hy1 hy2 i1
  have p8 := bl_rng2 HD8.out
  have hcl2 : (Tryd.prog.info? 27).map (·.size) = some ([.slice (some ⟨gv, 0, none⟩) l.length cv, .string ⟨iss.toArray⟩, .bool hIss, .string ⟨sub.toArray⟩, .bool hSub, .slice (some ⟨ga, 0, none⟩) aud.length ca, .bool hAud, .string ⟨jti.toArray⟩, .bool hJti, .bool ex.has, .int .i64 ex.at_, .bool nb.has, .int .i64 nb.at_, .bool it.has, .int .i64 it.at_] : List Value).length := hcl
  have hcl3 : (Tryd.prog.info? 27).map (·.size) = some 15 := hcl
  obtain ⟨wz, hwz⟩ : ∃ wz, w8.setRow (w.heap.size + 1) #[.slice (some ⟨gv, 0, none⟩) l.length cv, .string ⟨iss.toArray⟩, .bool hIss, .string ⟨sub.toArray⟩, .bool hSub, .slice (some ⟨ga, 0, none⟩) aud.length ca, .bool hAud, .string ⟨jti.toArray⟩, .bool hJti, .bool ex.has, .int .i64 ex.at_, .bool nb.has, .int .i64 nb.at_, .bool it.has, .int .i64 it.at_] = wz := ⟨_, rfl⟩
  have HBz : Hid (Bl 27 wz (w.heap.size + 1) [.slice (some ⟨gv, 0, none⟩) l.length cv, .string ⟨iss.toArray⟩, .bool hIss, .string ⟨sub.toArray⟩, .bool hSub, .slice (some ⟨ga, 0, none⟩) aud.length ca, .bool hAud, .string ⟨jti.toArray⟩, .bool hJti, .bool ex.has, .int .i64 ex.at_, .bool nb.has, .int .i64 nb.at_, .bool it.has, .int .i64 it.at_]) := by rw [← hwz]; exact set_bl2 HZ8.out
  have Hz : Hid (Below w.heap.size w wz) := by rw [← hwz]; exact setRow_below2 _ HB8.out (by omega)
  have HNz : Hid (NO w.heap.size wz (.slice (some ⟨gv, 0, none⟩) (l.length + 2) cv) (l ++ [mkN, mkN])) := by rw [← hwz]; exact own_setr HN8.out HZ8.out (by decide)
  have HTz : Hid (OT w.heap.size wz (.slice (some ⟨ga, 0, none⟩) (aud.length + 2) ca) (aud ++ [mkT, mkT])) := by rw [← hwz]; exact own_setr HT8.out HZ8.out (by decide)
  have HWz : Hid (w8.setRow (w.heap.size + 1) #[.slice (some ⟨gv, 0, none⟩) l.length cv, .string ⟨iss.toArray⟩, .bool hIss, .string ⟨sub.toArray⟩, .bool hSub, .slice (some ⟨ga, 0, none⟩) aud.length ca, .bool hAud, .string ⟨jti.toArray⟩, .bool hJti, .bool ex.has, .int .i64 ex.at_, .bool nb.has, .int .i64 nb.at_, .bool it.has, .int .i64 it.at_] = wz) := hwz
  clear hwz HB8 HN8 HT8 HD8
  go_wp2_with (first | (refine wpList_load_mid rfl 27 (.tmp 3) rfl bd 0 rfl [.slice (some ⟨gv, 0, none⟩) l.length cv, .string ⟨iss.toArray⟩, .bool hIss, .string ⟨sub.toArray⟩, .bool hSub, .slice (some ⟨ga, 0, none⟩) aud.length ca, .bool hAud, .string ⟨jti.toArray⟩, .bool hJti, .bool ex.has, .int .i64 ex.at_, .bool nb.has, .int .i64 nb.at_, .bool it.has, .int .i64 it.at_] _ p8 Tryd.underlying27 rfl hcl2 ?_) | (refine wpList_store_row rfl 27 (.tmp 2) (.tmp 26) rfl (w.heap.size + 1) #[.slice (some ⟨gv, 0, none⟩) l.length cv, .string ⟨iss.toArray⟩, .bool hIss, .string ⟨sub.toArray⟩, .bool hSub, .slice (some ⟨ga, 0, none⟩) aud.length ca, .bool hAud, .string ⟨jti.toArray⟩, .bool hJti, .bool ex.has, .int .i64 ex.at_, .bool nb.has, .int .i64 nb.at_, .bool it.has, .int .i64 it.at_] rfl rfl 27 #[.slice none 0 0, .string ⟨#[]⟩, .bool false, .string ⟨#[]⟩, .bool false, .slice none 0 0, .bool false, .string ⟨#[]⟩, .bool false, .bool false, .int .i64 0, .bool false, .int .i64 0, .bool false, .int .i64 0] HZ8.out hcl3 rfl (by simp [Value.oneCell']) ?_; rw [HWz.out]; clear HWz hcl hcl3))
  (try simp only [Exit.inBlock, Exit.then])
  exact bodyPost_ret (results_cl1 rfl _ _ (w.heap.size + 1) [.slice (some ⟨gv, 0, none⟩) l.length cv, .string ⟨iss.toArray⟩, .bool hIss, .string ⟨sub.toArray⟩, .bool hSub, .slice (some ⟨ga, 0, none⟩) aud.length ca, .bool hAud, .string ⟨jti.toArray⟩, .bool hJti, .bool ex.has, .int .i64 ex.at_, .bool nb.has, .int .i64 nb.at_, .bool it.has, .int .i64 it.at_] rfl rfl HBz.out) rfl ⟨⟨_, _, _, _, rfl, HNz.out, HTz.out⟩, Hz.out⟩

end Go.Proofs.YtjaopeenkbcjcaaDoor
