import Derived.Test.YtjehkpndchadbaaGreatDoorFa
import Derived.Test.YtjehkpndchadbaaGreatDoorEZ
import Derived.Test.YtjehkpndchadbaaGreatDoorCZ
namespace Go.Proofs.YtjehkpndchadbaaGreatDoor
open Go.RowKit Go.Shelf

/-- append of nodes that can be read behind a list of one's own. -/
theorem append_nds {wr : World} {ops : Array Oper} {rest : List Oper} {o : Oper} {a : Act} {Q : Exit → Act → World → Prop} (hgd : o.guard = none) (s x : Operand)
    (ho : o.op = .call { callee := .builtin .append, args := #[s, x], argTypes := #[23, 23] })
    (B : Nat) (v : Value) (l : List Nd) (hs : a.eval s = v) (h : NO B wr v l) (ao : Option Addr) (cap : Nat) (m : List Nd) (hx : a.eval x = .slice ao m.length cap) (hR : NR wr (.slice ao m.length cap) m ao cap) (hn : ao = none → cap = 0) (hl : l.length + m.length ≤ 1000000000) (hB : B ≤ wr.heap.size)
    (k : ∀ v' w', NO B w' v' (l ++ m) → wr.grownBy w' v.ownBlock → wpList Tryz.prog ops Q rest (a.put o.dst v') w') : wpList Tryz.prog ops Q (o :: rest) a wr := by
  obtain ⟨i, hi, hz, hsize, hby⟩ := info_parts infoN
  cases ao with
  | none =>
    obtain rfl := hn rfl
    have hm : m = [] := by
      rcases hR.cell with e | ⟨g, off, e, _⟩
      · exact e
      · cases e
    subst hm
    refine wpList_append_own_none hgd s x 23 ho B 37 i 6 Tryz.underlying23 hi v l.length (nCs l) hs h hx ?_
    refine k v wr (by rw [List.append_nil]; exact h) ⟨rfl, rfl, rfl, Nat.le_refl _, fun _ _ _ => rfl⟩
  | some ad =>
    refine wpList_append_own_wide _ hgd s x 23 ho B 37 i (.agg #[.int .i64 0, .string ⟨#[]⟩, .string ⟨#[]⟩, .bool false, .int .i64 0, .int .i64 0]) 6 64 Tryz.underlying23 hi hz hsize hby rfl (by decide) v l.length (nCs l) hs h ad m.length cap (nCs m) hx (nCs_length m) ?_ (nCs_oneC _) (by unfold maxLen; omega) (by omega) hB ?_
    · intro j u hu
      rcases hR.cell with e | ⟨g, off, e, _, hc⟩
      · subst e; simp [nCs] at hu
      · cases e
        rw [Addr.add_mid]
        exact hc j u hu
    · intro v' w' h2 h3 _
      refine k v' w' ?_ h3
      unfold NO
      rw [List.length_append, nCs_append]
      exact h2

theorem results_cl1 {fn : Func} {p : Tmp} (h : fn.results = #[.cell p 28]) (tmps : Array Value) (w : World) (b : Nat) (cs : List Value) (hl : cs.length = 15) (hp : tmps.getD p undef = .pointer (some ⟨b, 0, none⟩)) (hb : Bl 28 w b cs) :
    (results fn tmps).run Tryz.prog w = .ok (.agg cs.toArray) w := by
  have hsz : (Tryz.prog.info? 28).map (·.size) = some 15 := by kernel_rfl
  have hr : (loadVar 28 ⟨b, 0, none⟩).run Tryz.prog w = .ok (.agg cs.toArray) w := by
    refine run_loadVar_mid w b 0 28 cs _ ?_ Tryz.underlying28 rfl (by rw [hl]; exact hsz)
    intro j v hv
    obtain ⟨hj, e⟩ := List.getElem?_eq_some_iff.1 hv
    rw [Nat.zero_add, ← e]
    exact hb.cell j hj
  rw [results_cell h, hp]
  unfold asAddr
  simp only [Sem.run_pure, Result.andThen_ok]
  exact hr
theorem bl_rng2 {t : TypeId} {w : World} {b : Nat} {cs : List Value} (h : Bl t w b cs) : w.rangeAt b 0 cs := fun j v hv => by
  obtain ⟨hj, e⟩ := List.getElem?_eq_some_iff.1 hv
  rw [Nat.zero_add, ← e]
  exact h.cell j hj
theorem bl_oth2 {t : TypeId} {w : World} {b b2 o : Nat} {v : Value} {cs : List Value} (h : Bl t w b cs) (hne : b ≠ b2) : Bl t (w.setCell ⟨b2, o, none⟩ v) b cs := by
  unfold Bl at *
  rw [heap_setCell_other w _ b v hne]; exact h
theorem own_set {w : World} {base n size : Nat} {e t : TypeId} {v x : Value} {xs cs : List Value} {b o : Nat} (h : w.ownsRow base e size v n xs) (hb : Bl t w b cs) (hne : e ≠ t) : (w.setCell ⟨b, o, none⟩ x).ownsRow base e size v n xs := by
  have ha := block_apart h hb hne
  exact own_keep h fun g hg => heap_setCell_other w _ g x (fun e => ha (by rw [hg]; exact congrArg some e))
theorem own_setr {w : World} {base n size : Nat} {e t : TypeId} {v : Value} {xs cs : List Value} {b : Nat} {x : Array Value} (h : w.ownsRow base e size v n xs) (hb : Bl t w b cs) (hne : e ≠ t) : (w.setRow b x).ownsRow base e size v n xs := by
  have ha := block_apart h hb hne
  exact own_keep h fun g hg => setRow_other _ _ _ _ (fun e => ha (by rw [hg]; exact congrArg some e))

set_option maxRecDepth 100000 in
set_option maxHeartbeats 16000000 in
theorem ctwin_any (l : List Nd) (va : Option Addr) (vc : Nat) (aud : List (List UInt8)) (aa : Option Addr) (ac : Nat) (iss : List UInt8) (hIss : Bool) (sub : List UInt8) (hSub : Bool) (hAud : Bool) (jti : List UInt8) (hJti : Bool) (ex nb it : Tm) (w : World)
    (h : NR w (.slice va l.length vc) l va vc) (hA : TR w (.slice aa aud.length ac) aud aa ac) (hvn : va = none → vc = 0) (han : aa = none → ac = 0) (hl : l.length ≤ 100000000) (hal : aud.length ≤ 100000000) :
    Calls Tryz.prog 7 #[.agg #[.slice va l.length vc, .string ⟨iss.toArray⟩, .bool hIss, .string ⟨sub.toArray⟩, .bool hSub, .slice aa aud.length ac, .bool hAud, .string ⟨jti.toArray⟩, .bool hJti, .bool ex.has, .int .i64 ex.at_, .bool nb.has, .int .i64 nb.at_, .bool it.has, .int .i64 it.at_]] w fun e w' => (∃ v a, e = .returned (.agg #[v, .string ⟨iss.toArray⟩, .bool hIss, .string ⟨sub.toArray⟩, .bool hSub, a, .bool hAud, .string ⟨jti.toArray⟩, .bool hJti, .bool ex.has, .int .i64 ex.at_, .bool nb.has, .int .i64 nb.at_, .bool it.has, .int .i64 it.at_]) ∧ NO w.heap.size w' v l ∧ OT w.heap.size w' a aud) ∧ Below w.heap.size w w' := by
  obtain ⟨W, hW⟩ : ∃ W : World, (w.alloc (.cells #[.slice va l.length vc, .string ⟨iss.toArray⟩, .bool hIss, .string ⟨sub.toArray⟩, .bool hSub, .slice aa aud.length ac, .bool hAud, .string ⟨jti.toArray⟩, .bool hJti, .bool ex.has, .int .i64 ex.at_, .bool nb.has, .int .i64 nb.at_, .bool it.has, .int .i64 it.at_] 28)).alloc (.cells #[.slice none 0 0, .string ⟨#[]⟩, .bool false, .string ⟨#[]⟩, .bool false, .slice none 0 0, .bool false, .string ⟨#[]⟩, .bool false, .bool false, .int .i64 0, .bool false, .int .i64 0, .bool false, .int .i64 0] 28) = W := ⟨_, rfl⟩
  have h1 := alloc_below w (.cells #[.slice va l.length vc, .string ⟨iss.toArray⟩, .bool hIss, .string ⟨sub.toArray⟩, .bool hSub, .slice aa aud.length ac, .bool hAud, .string ⟨jti.toArray⟩, .bool hJti, .bool ex.has, .int .i64 ex.at_, .bool nb.has, .int .i64 nb.at_, .bool it.has, .int .i64 it.at_] 28)
  have h2 := alloc_below (w.alloc (.cells #[.slice va l.length vc, .string ⟨iss.toArray⟩, .bool hIss, .string ⟨sub.toArray⟩, .bool hSub, .slice aa aud.length ac, .bool hAud, .string ⟨jti.toArray⟩, .bool hJti, .bool ex.has, .int .i64 ex.at_, .bool nb.has, .int .i64 nb.at_, .bool it.has, .int .i64 it.at_] 28)) (.cells #[.slice none 0 0, .string ⟨#[]⟩, .bool false, .string ⟨#[]⟩, .bool false, .slice none 0 0, .bool false, .string ⟨#[]⟩, .bool false, .bool false, .int .i64 0, .bool false, .int .i64 0, .bool false, .int .i64 0] 28)
  have h3 : Bl 28 _ _ [.slice va l.length vc, .string ⟨iss.toArray⟩, .bool hIss, .string ⟨sub.toArray⟩, .bool hSub, .slice aa aud.length ac, .bool hAud, .string ⟨jti.toArray⟩, .bool hJti, .bool ex.has, .int .i64 ex.at_, .bool nb.has, .int .i64 nb.at_, .bool it.has, .int .i64 it.at_] := alloc_bl w [.slice va l.length vc, .string ⟨iss.toArray⟩, .bool hIss, .string ⟨sub.toArray⟩, .bool hSub, .slice aa aud.length ac, .bool hAud, .string ⟨jti.toArray⟩, .bool hJti, .bool ex.has, .int .i64 ex.at_, .bool nb.has, .int .i64 nb.at_, .bool it.has, .int .i64 it.at_] 28
  have h4 : Bl 28 _ _ [.slice none 0 0, .string ⟨#[]⟩, .bool false, .string ⟨#[]⟩, .bool false, .slice none 0 0, .bool false, .string ⟨#[]⟩, .bool false, .bool false, .int .i64 0, .bool false, .int .i64 0, .bool false, .int .i64 0] := alloc_bl (w.alloc (.cells #[.slice va l.length vc, .string ⟨iss.toArray⟩, .bool hIss, .string ⟨sub.toArray⟩, .bool hSub, .slice aa aud.length ac, .bool hAud, .string ⟨jti.toArray⟩, .bool hJti, .bool ex.has, .int .i64 ex.at_, .bool nb.has, .int .i64 nb.at_, .bool it.has, .int .i64 it.at_] 28)) [.slice none 0 0, .string ⟨#[]⟩, .bool false, .string ⟨#[]⟩, .bool false, .slice none 0 0, .bool false, .string ⟨#[]⟩, .bool false, .bool false, .int .i64 0, .bool false, .int .i64 0, .bool false, .int .i64 0] 28
  have h5 : Bl 28 W w.heap.size [.slice va l.length vc, .string ⟨iss.toArray⟩, .bool hIss, .string ⟨sub.toArray⟩, .bool hSub, .slice aa aud.length ac, .bool hAud, .string ⟨jti.toArray⟩, .bool hJti, .bool ex.has, .int .i64 ex.at_, .bool nb.has, .int .i64 nb.at_, .bool it.has, .int .i64 it.at_] := by rw [← hW]; exact h3.below h2 h3.lt
  have h6 : Bl 28 W (w.heap.size + 1) [.slice none 0 0, .string ⟨#[]⟩, .bool false, .string ⟨#[]⟩, .bool false, .slice none 0 0, .bool false, .string ⟨#[]⟩, .bool false, .bool false, .int .i64 0, .bool false, .int .i64 0, .bool false, .int .i64 0] := by rw [alloc_size] at h4; rw [← hW]; exact h4
  have hB : Below w.heap.size w W := by rw [← hW]; exact h1.trans (h2.mono h1.size)
  have HW : Hid ((w.alloc (.cells #[.slice va l.length vc, .string ⟨iss.toArray⟩, .bool hIss, .string ⟨sub.toArray⟩, .bool hSub, .slice aa aud.length ac, .bool hAud, .string ⟨jti.toArray⟩, .bool hJti, .bool ex.has, .int .i64 ex.at_, .bool nb.has, .int .i64 nb.at_, .bool it.has, .int .i64 it.at_] 28)).alloc (.cells #[.slice none 0 0, .string ⟨#[]⟩, .bool false, .string ⟨#[]⟩, .bool false, .slice none 0 0, .bool false, .string ⟨#[]⟩, .bool false, .bool false, .int .i64 0, .bool false, .int .i64 0, .bool false, .int .i64 0] 28) = W) := hW
  have HNR : Hid (NR W (.slice va l.length vc) l va vc) := h.below hB (Nat.le_refl _)
  have HTRq : Hid (∀ wq, Below w.heap.size w wq → TR wq (.slice aa aud.length ac) aud aa ac) := fun wq hq => hA.below hq (Nat.le_refl _)
  have HB : Hid (Below w.heap.size w W) := hB
  have HB0 : Hid (Bl 28 W w.heap.size [.slice va l.length vc, .string ⟨iss.toArray⟩, .bool hIss, .string ⟨sub.toArray⟩, .bool hSub, .slice aa aud.length ac, .bool hAud, .string ⟨jti.toArray⟩, .bool hJti, .bool ex.has, .int .i64 ex.at_, .bool nb.has, .int .i64 nb.at_, .bool it.has, .int .i64 it.at_]) := h5
  have HB1 : Hid (Bl 28 W (w.heap.size + 1) [.slice none 0 0, .string ⟨#[]⟩, .bool false, .string ⟨#[]⟩, .bool false, .slice none 0 0, .bool false, .string ⟨#[]⟩, .bool false, .bool false, .int .i64 0, .bool false, .int .i64 0, .bool false, .int .i64 0]) := h6
  have k0 : W.cell? ⟨w.heap.size, 0, none⟩ = some (.slice va l.length vc) := h5.cell 0 (by simp)
  have HSW : Hid (w.heap.size ≤ W.heap.size) := hB.size
  have HVN : Hid (va = none → vc = 0) := hvn
  have HAN : Hid (aa = none → ac = 0) := han
  have hcl : (Tryz.prog.info? 28).map (·.size) = some 15 := by kernel_rfl
  clear h hA h1 h2 h3 h4 h5 h6 hB hW hvn han
  go_enter Tryz.func7, Tryz.ntmps7
  go_upto_region 2 with fail
  rw [HW.out]
  clear HW
  go_upto_region 4 with (at_builtin; refine append_nds rfl (.tmp 5) (.tmp 7) rfl w.heap.size (.slice none 0 0) [] rfl (World.ownsRow_nil _ _ _ _) va vc l rfl HNR.out HVN.out (by simp only [List.length_nil]; omega) HSW.out ?_; intro v1 w1 hn1 hg1; have hb1 : Below W.heap.size W w1 := Below.grown (Below.refl _ _) hg1 (Nat.le_refl _) (fun k hk => by cases hk); have kx := (HB0.out.below hb1 HB0.out.lt).cell 0 (by simp); have kf := (HB0.out.below hb1 HB0.out.lt).frozen 0; have HN1 : Hid (NO w.heap.size w1 v1 l) := hn1; have HG1 : Hid (Below W.heap.size W w1) := hb1; obtain ⟨vA, vC, e1, _, _⟩ := own_slice hn1; subst e1; clear hn1 hg1 hb1)
  have hbl1 := HB0.out.below HG1.out HB0.out.lt
  have hbl1' := HB1.out.below HG1.out HB1.out.lt
  have hB1 := HB.out.trans (HG1.out.mono HB.out.size)
  obtain ⟨w2, hw2⟩ : ∃ x, w1.setCell ⟨w.heap.size, 0, none⟩ (.slice vA l.length vC) = x := ⟨_, rfl⟩
  have HB2 : Hid (Below w.heap.size w w2) := by rw [← hw2]; exact hB1.setCell (Nat.le_refl _) _
  have HC2 : Hid (Bl 28 w2 w.heap.size [.slice vA l.length vC, .string ⟨iss.toArray⟩, .bool hIss, .string ⟨sub.toArray⟩, .bool hSub, .slice aa aud.length ac, .bool hAud, .string ⟨jti.toArray⟩, .bool hJti, .bool ex.has, .int .i64 ex.at_, .bool nb.has, .int .i64 nb.at_, .bool it.has, .int .i64 it.at_]) := by rw [← hw2]; exact hbl1.set 0 _
  have HZ2 : Hid (Bl 28 w2 (w.heap.size + 1) [.slice none 0 0, .string ⟨#[]⟩, .bool false, .string ⟨#[]⟩, .bool false, .slice none 0 0, .bool false, .string ⟨#[]⟩, .bool false, .bool false, .int .i64 0, .bool false, .int .i64 0, .bool false, .int .i64 0]) := by rw [← hw2]; exact bl_oth2 hbl1' (by omega)
  have HN2 : Hid (NO w.heap.size w2 (.slice vA l.length vC) l) := by rw [← hw2]; exact own_set HN1.out hbl1 (by decide)
  have HTR2 := HTRq.out w2 HB2.out
  have k5 : w2.cell? ⟨w.heap.size, 5, none⟩ = some (.slice aa aud.length ac) := HC2.out.cell 5 (by simp)
  have HS2 : Hid (w.heap.size ≤ w2.heap.size) := HB2.out.size
  rw [hw2]
  clear hbl1 hbl1' hB1 hw2 kx kf HN1 HG1 HB HB0 HB1 HNR HSW HVN k0 HTRq
  go_upto_region 5 with (at_builtin; refine append_txt rfl (.tmp 10) (.tmp 12) rfl w.heap.size (.slice none 0 0) [] rfl (World.ownsRow_nil _ _ _ _) aa ac aud rfl HTR2 HAN.out (by simp only [List.length_nil]; omega) HS2.out ?_; intro a1 w3 hn3 hg3; have hb3 : Below w2.heap.size w2 w3 := Below.grown (Below.refl _ _) hg3 (Nat.le_refl _) (fun k hk => by cases hk); have kx := (HC2.out.below hb3 HC2.out.lt).cell 5 (by simp); have kf := (HC2.out.below hb3 HC2.out.lt).frozen 5; have HT3 : Hid (OT w.heap.size w3 a1 aud) := hn3; have HG3 : Hid (Below w2.heap.size w2 w3) := hb3; obtain ⟨aA, aC, e1, _, _⟩ := own_slice hn3; subst e1; clear hn3 hg3 hb3)
  have hbl3 := HC2.out.below HG3.out HC2.out.lt
  have hbl3' := HZ2.out.below HG3.out HZ2.out.lt
  have hB3 := HB2.out.trans (HG3.out.mono HB2.out.size)
  have hN3 : NO w.heap.size w3 (.slice vA l.length vC) l := own_below HN2.out HG3.out (Nat.le_refl _)
  obtain ⟨w4, hw4⟩ : ∃ x, w3.setCell ⟨w.heap.size, 5, none⟩ (.slice aA aud.length aC) = x := ⟨_, rfl⟩
  have HB4 : Hid (Below w.heap.size w w4) := by rw [← hw4]; exact hB3.setCell (Nat.le_refl _) _
  have HC4 : Hid (Bl 28 w4 w.heap.size [.slice vA l.length vC, .string ⟨iss.toArray⟩, .bool hIss, .string ⟨sub.toArray⟩, .bool hSub, .slice aA aud.length aC, .bool hAud, .string ⟨jti.toArray⟩, .bool hJti, .bool ex.has, .int .i64 ex.at_, .bool nb.has, .int .i64 nb.at_, .bool it.has, .int .i64 it.at_]) := by rw [← hw4]; exact hbl3.set 5 _
  have HZ4 : Hid (Bl 28 w4 (w.heap.size + 1) [.slice none 0 0, .string ⟨#[]⟩, .bool false, .string ⟨#[]⟩, .bool false, .slice none 0 0, .bool false, .string ⟨#[]⟩, .bool false, .bool false, .int .i64 0, .bool false, .int .i64 0, .bool false, .int .i64 0]) := by rw [← hw4]; exact bl_oth2 hbl3' (by omega)
  have HN4 : Hid (NO w.heap.size w4 (.slice vA l.length vC) l) := by rw [← hw4]; exact own_set hN3 hbl3 (by decide)
  have HT4 : Hid (OT w.heap.size w4 (.slice aA aud.length aC) aud) := by rw [← hw4]; exact own_set HT3.out hbl3 (by decide)
  have p4 := bl_rng2 HC4.out
  have hcl2 : (Tryz.prog.info? 28).map (·.size) = some ([.slice vA l.length vC, .string ⟨iss.toArray⟩, .bool hIss, .string ⟨sub.toArray⟩, .bool hSub, .slice aA aud.length aC, .bool hAud, .string ⟨jti.toArray⟩, .bool hJti, .bool ex.has, .int .i64 ex.at_, .bool nb.has, .int .i64 nb.at_, .bool it.has, .int .i64 it.at_] : List Value).length := hcl
  obtain ⟨wz, hwz⟩ : ∃ wz, w4.setRow (w.heap.size + 1) #[.slice vA l.length vC, .string ⟨iss.toArray⟩, .bool hIss, .string ⟨sub.toArray⟩, .bool hSub, .slice aA aud.length aC, .bool hAud, .string ⟨jti.toArray⟩, .bool hJti, .bool ex.has, .int .i64 ex.at_, .bool nb.has, .int .i64 nb.at_, .bool it.has, .int .i64 it.at_] = wz := ⟨_, rfl⟩
  have HBz : Hid (Bl 28 wz (w.heap.size + 1) [.slice vA l.length vC, .string ⟨iss.toArray⟩, .bool hIss, .string ⟨sub.toArray⟩, .bool hSub, .slice aA aud.length aC, .bool hAud, .string ⟨jti.toArray⟩, .bool hJti, .bool ex.has, .int .i64 ex.at_, .bool nb.has, .int .i64 nb.at_, .bool it.has, .int .i64 it.at_]) := by rw [← hwz]; exact set_bl2 HZ4.out
  have Hz : Hid (Below w.heap.size w wz) := by rw [← hwz]; exact setRow_below2 _ HB4.out (by omega)
  have HNz : Hid (NO w.heap.size wz (.slice vA l.length vC) l) := by rw [← hwz]; exact own_setr HN4.out HZ4.out (by decide)
  have HTz : Hid (OT w.heap.size wz (.slice aA aud.length aC) aud) := by rw [← hwz]; exact own_setr HT4.out HZ4.out (by decide)
  have HWz : Hid (w4.setRow (w.heap.size + 1) #[.slice vA l.length vC, .string ⟨iss.toArray⟩, .bool hIss, .string ⟨sub.toArray⟩, .bool hSub, .slice aA aud.length aC, .bool hAud, .string ⟨jti.toArray⟩, .bool hJti, .bool ex.has, .int .i64 ex.at_, .bool nb.has, .int .i64 nb.at_, .bool it.has, .int .i64 it.at_] = wz) := hwz
  rw [hw4]
  clear hbl3 hbl3' hB3 hN3 hw4 hwz kx kf HT3 HG3 HN2 HB2 HC2 HZ2 HTR2 k5 HB4 HN4 HT4 HC4
  go_wp2_with (first | (refine wpList_load_mid rfl 28 (.tmp 1) rfl w.heap.size 0 rfl [.slice vA l.length vC, .string ⟨iss.toArray⟩, .bool hIss, .string ⟨sub.toArray⟩, .bool hSub, .slice aA aud.length aC, .bool hAud, .string ⟨jti.toArray⟩, .bool hJti, .bool ex.has, .int .i64 ex.at_, .bool nb.has, .int .i64 nb.at_, .bool it.has, .int .i64 it.at_] _ p4 Tryz.underlying28 rfl hcl2 ?_) | (refine wpList_store_row rfl 28 (.tmp 2) (.tmp 15) rfl (w.heap.size + 1) #[.slice vA l.length vC, .string ⟨iss.toArray⟩, .bool hIss, .string ⟨sub.toArray⟩, .bool hSub, .slice aA aud.length aC, .bool hAud, .string ⟨jti.toArray⟩, .bool hJti, .bool ex.has, .int .i64 ex.at_, .bool nb.has, .int .i64 nb.at_, .bool it.has, .int .i64 it.at_] rfl rfl 28 #[.slice none 0 0, .string ⟨#[]⟩, .bool false, .string ⟨#[]⟩, .bool false, .slice none 0 0, .bool false, .string ⟨#[]⟩, .bool false, .bool false, .int .i64 0, .bool false, .int .i64 0, .bool false, .int .i64 0] HZ4.out hcl rfl (by simp [Value.oneCell']) ?_; rw [HWz.out]; clear HWz hcl))
  (try simp only [Exit.inBlock, Exit.then])
  exact bodyPost_ret (results_cl1 rfl _ _ (w.heap.size + 1) [.slice vA l.length vC, .string ⟨iss.toArray⟩, .bool hIss, .string ⟨sub.toArray⟩, .bool hSub, .slice aA aud.length aC, .bool hAud, .string ⟨jti.toArray⟩, .bool hJti, .bool ex.has, .int .i64 ex.at_, .bool nb.has, .int .i64 nb.at_, .bool it.has, .int .i64 it.at_] rfl rfl HBz.out) rfl ⟨⟨_, _, rfl, HNz.out, HTz.out⟩, Hz.out⟩

end Go.Proofs.YtjehkpndchadbaaGreatDoor
