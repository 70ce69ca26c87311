import Derived.Test.YthlfboaidhgnlaaGreatDoorCu
namespace Go.Proofs.YthlfboaidhgnlaaGreatDoor
open Go.RowKit

/-- What stands while the claims are gathered: the answer's block, the claims' own. -/
structure SaS (w : World) (b1 b2 : Nat) (vs : List Value) (wx : World) : Prop where
  bel : Below w.heap.size w wx
  r : Bl 27 wx b1 (clC (.slice none 0 0) (.slice none 0 0) cm0)
  c : Bl 27 wx b2 vs
theorem SaS.below {w wx wy : World} {b1 b2 : Nat} {vs : List Value} (h : SaS w b1 b2 vs wx) (hb : Below wx.heap.size wx wy) : SaS w b1 b2 vs wy :=
  ⟨h.bel.trans (hb.mono h.bel.size), h.r.below hb h.r.lt, h.c.below hb h.c.lt⟩
theorem bl_setCell {t : TypeId} {w : World} {b c j : Nat} {vs : List Value} {v : Value} (h : Bl t w b vs) (hne : b ≠ c) : Bl t (w.setCell ⟨c, j, none⟩ v) b vs := (heap_setCell_other w _ b _ (fun e => hne e)).trans h
theorem SaS.set {w wx : World} {b1 b2 : Nat} {vs : List Value} (h : SaS w b1 b2 vs wx) (j : Nat) (v : Value) (h1 : w.heap.size ≤ b1) (h2 : b1 < b2) : SaS w b1 b2 (vs.set j v) (wx.setCell ⟨b2, j, none⟩ v) :=
  ⟨Below.setCell h.bel (by show w.heap.size ≤ b2; omega) _, bl_setCell h.r (by omega), h.c.set j v⟩
theorem OT.setCell {B : Nat} {w : World} {v x : Value} {l : List (List UInt8)} {b j : Nat} {vs : List Value} (h : OT B w v l) (hb : Bl 27 w b vs) : OT B (w.setCell ⟨b, j, none⟩ x) v l := by
  have ha := block_apart h hb (by decide)
  exact own_keep h fun g hg => heap_setCell_other w _ g _ (fun e => ha (by rw [hg]; exact congrArg some e))
theorem results_cl {fn : Func} {p : Tmp} (h : fn.results = #[.cell p 27]) (tmps : Array Value) (w : World) (b : Nat) (va aa : Value) (c : Cm) (hp : tmps.getD p undef = .pointer (some ⟨b, 0, none⟩)) (hb : Bl 27 w b (clC va aa c)) :
    (results fn tmps).run Tryz.prog w = .ok (clV va aa c) w := by
  have hr : (loadVar 27 ⟨b, 0, none⟩).run Tryz.prog w = .ok (clV va aa c) w := by
    refine run_loadVar_mid w b 0 27 (clC va aa c) _ ?_ Tryz.underlying27 rfl (by kernel_rfl)
    intro j v hv
    obtain ⟨hj, e⟩ := List.getElem?_eq_some_iff.1 hv
    rw [Nat.zero_add, ← e]
    exact hb.cell j hj
  rw [results_cell h, hp]
  unfold asAddr
  simp only [Sem.run_pure, Result.andThen_ok]
  exact hr
theorem results_cl2 {fn : Func} {u p : Tmp} (h : fn.results = #[.cell p 27, .tmp u]) (tmps : Array Value) (w : World) (b : Nat) (va aa : Value) (c : Cm) (y : Value) (hu : tmps.getD u undef = y) (hp : tmps.getD p undef = .pointer (some ⟨b, 0, none⟩)) (hb : Bl 27 w b (clC va aa c)) :
    (results fn tmps).run Tryz.prog w = .ok (.tuple #[clV va aa c, y]) w := by
  have hr : (loadVar 27 ⟨b, 0, none⟩).run Tryz.prog w = .ok (clV va aa c) w := by
    refine run_loadVar_mid w b 0 27 (clC va aa c) _ ?_ Tryz.underlying27 rfl (by kernel_rfl)
    intro j v hv
    obtain ⟨hj, e⟩ := List.getElem?_eq_some_iff.1 hv
    rw [Nat.zero_add, ← e]
    exact hb.cell j hj
  have hr2 : (results fn tmps).run Tryz.prog w = ((asAddr (tmps.getD p undef)).run Tryz.prog w).andThen fun a w₁ => ((loadVar 27 a).run Tryz.prog w₁).andThen fun v w₂ => .ok (.tuple #[v, tmps.getD u undef]) w₂ := by
    simp only [results, h]
    simp [Sem.run_bind, Result.andThen]
  rw [hr2, hp]
  unfold asAddr
  simp only [Sem.run_pure, Result.andThen_ok]
  rw [hr, hu]
  rfl

set_option maxRecDepth 100000 in
set_option maxHeartbeats 8000000 in
theorem said_any (l : List Nd) (ao : Option Addr) (cap : Nat) (w : World) (h : NR w (.slice ao l.length cap) l ao cap) (hl : l.length ≤ 100000000) :
    Calls Tryz.prog 34 #[.slice ao l.length cap] w fun e w' => (∃ aa, e = .returned (clV (.slice ao l.length cap) aa (saidF l)) ∧ OT w.heap.size w' aa (saidF l).aud) ∧ Below w.heap.size w w' := by
  have HNq : Hid (∀ wq, Below w.heap.size w wq → NR wq (.slice ao l.length cap) l ao cap) := fun wq hq => h.below hq (Nat.le_refl _)
  obtain ⟨w0, hw0⟩ : ∃ w0 : World, (w.alloc (.cells (clC (.slice none 0 0) (.slice none 0 0) cm0).toArray 27)).alloc (.cells (clC (.slice ao l.length cap) (.slice none 0 0) cm0).toArray 27) = w0 := ⟨_, rfl⟩
  obtain ⟨b2, hb2⟩ : ∃ b, w.heap.size + 1 = b := ⟨_, rfl⟩
  have HS0 : Hid (SaS w w.heap.size b2 (clC (.slice ao l.length cap) (.slice none 0 0) cm0) w0) := by
    have h1 := alloc_below w (.cells (clC (.slice none 0 0) (.slice none 0 0) cm0).toArray 27)
    have h2 := alloc_below (w.alloc (.cells (clC (.slice none 0 0) (.slice none 0 0) cm0).toArray 27)) (.cells (clC (.slice ao l.length cap) (.slice none 0 0) cm0).toArray 27)
    have h3 := alloc_bl w (clC (.slice none 0 0) (.slice none 0 0) cm0) 27
    have h4 := alloc_bl (w.alloc (.cells (clC (.slice none 0 0) (.slice none 0 0) cm0).toArray 27)) (clC (.slice ao l.length cap) (.slice none 0 0) cm0) 27
    rw [hw0] at h2 h4
    rw [alloc_size, hb2] at h4
    exact ⟨h1.trans (h2.mono h1.size), h3.below h2 h3.lt, h4⟩
  have HB2 : Hid (w.heap.size + 1 = b2) := hb2
  have HLT : Hid (w.heap.size < b2) := by show _ < _; omega
  have HW0 : Hid ((w.alloc (.cells #[.slice none 0 0, .string ⟨#[]⟩, .bool false, .string ⟨#[]⟩, .bool false, .slice none 0 0, .bool false, .string ⟨#[]⟩, .bool false, .bool false, .int .i64 0, .bool false, .int .i64 0, .bool false, .int .i64 0] 27)).alloc (.cells #[.slice ao l.length cap, .string ⟨#[]⟩, .bool false, .string ⟨#[]⟩, .bool false, .slice none 0 0, .bool false, .string ⟨#[]⟩, .bool false, .bool false, .int .i64 0, .bool false, .int .i64 0, .bool false, .int .i64 0] 27) = w0) := hw0
  have HTx : Hid (∀ k wq, Below w.heap.size w wq → Calls Tryz.prog 48 #[.slice ao l.length cap, .string ⟨k.toArray⟩] wq fun e w' => e = .returned (.tuple #[.string ⟨(txF l k).1.toArray⟩, .bool (txF l k).2]) ∧ Below wq.heap.size wq w') := fun k wq hq => text_any l ao cap k wq (HNq.out wq hq) (by omega)
  have HTs : Hid (∀ k wq, Below w.heap.size w wq → Calls Tryz.prog 49 #[.slice ao l.length cap, .string ⟨k.toArray⟩] wq fun e w' => (∃ v, e = .returned (.tuple #[v, .bool (tsF l k).2]) ∧ OT wq.heap.size w' v (tsF l k).1) ∧ Below wq.heap.size wq w') := fun k wq hq => texts_any l ao cap k wq (HNq.out wq hq) hl
  have HMo : Hid (∀ k wq, Below w.heap.size w wq → Calls Tryz.prog 50 #[.slice ao l.length cap, .string ⟨k.toArray⟩] wq fun e w' => e = .returned (tmV (moF l k)) ∧ Below wq.heap.size wq w') := fun k wq hq => moment_any l ao cap k wq (HNq.out wq hq) (by omega)
  have HSF : Hid (saidF l = ⟨l, (txF l kIss).1, (txF l kIss).2, (txF l kSub).1, (txF l kSub).2, (tsF l kAud).1, (tsF l kAud).2, (txF l kJti).1, (txF l kJti).2, moF l kExp, moF l kNbf, moF l kIat⟩) := rfl
  obtain ⟨iss, eiss⟩ : ∃ x, (txF l kIss).1 = x := ⟨_, rfl⟩
  obtain ⟨hIss, ehIss⟩ : ∃ x, (txF l kIss).2 = x := ⟨_, rfl⟩
  rw [eiss, ehIss] at HSF
  obtain ⟨sub, esub⟩ : ∃ x, (txF l kSub).1 = x := ⟨_, rfl⟩
  obtain ⟨hSub, ehSub⟩ : ∃ x, (txF l kSub).2 = x := ⟨_, rfl⟩
  rw [esub, ehSub] at HSF
  obtain ⟨aud, eaud⟩ : ∃ x, (tsF l kAud).1 = x := ⟨_, rfl⟩
  obtain ⟨hAud, ehAud⟩ : ∃ x, (tsF l kAud).2 = x := ⟨_, rfl⟩
  rw [eaud, ehAud] at HSF
  obtain ⟨jti, ejti⟩ : ∃ x, (txF l kJti).1 = x := ⟨_, rfl⟩
  obtain ⟨hJti, ehJti⟩ : ∃ x, (txF l kJti).2 = x := ⟨_, rfl⟩
  rw [ejti, ehJti] at HSF
  obtain ⟨exp, eexp⟩ : ∃ x, moF l kExp = x := ⟨_, rfl⟩
  rw [eexp] at HSF
  obtain ⟨nbf, enbf⟩ : ∃ x, moF l kNbf = x := ⟨_, rfl⟩
  rw [enbf] at HSF
  obtain ⟨iat, eiat⟩ : ∃ x, moF l kIat = x := ⟨_, rfl⟩
  rw [eiat] at HSF
  have HCiss : Hid (∀ wq, Below w.heap.size w wq → Calls Tryz.prog 48 #[.slice ao l.length cap, .string ⟨kIss.toArray⟩] wq fun e w' => e = .returned (.tuple #[.string ⟨iss.toArray⟩, .bool hIss]) ∧ Below wq.heap.size wq w') := fun wq hq => by have := HTx.out kIss wq hq; rw [eiss, ehIss] at this; exact this
  have HCsub : Hid (∀ wq, Below w.heap.size w wq → Calls Tryz.prog 48 #[.slice ao l.length cap, .string ⟨kSub.toArray⟩] wq fun e w' => e = .returned (.tuple #[.string ⟨sub.toArray⟩, .bool hSub]) ∧ Below wq.heap.size wq w') := fun wq hq => by have := HTx.out kSub wq hq; rw [esub, ehSub] at this; exact this
  have HCaud : Hid (∀ wq, Below w.heap.size w wq → Calls Tryz.prog 49 #[.slice ao l.length cap, .string ⟨kAud.toArray⟩] wq fun e w' => (∃ v, e = .returned (.tuple #[v, .bool hAud]) ∧ OT wq.heap.size w' v aud) ∧ Below wq.heap.size wq w') := fun wq hq => by have := HTs.out kAud wq hq; rw [eaud, ehAud] at this; exact this
  have HCjti : Hid (∀ wq, Below w.heap.size w wq → Calls Tryz.prog 48 #[.slice ao l.length cap, .string ⟨kJti.toArray⟩] wq fun e w' => e = .returned (.tuple #[.string ⟨jti.toArray⟩, .bool hJti]) ∧ Below wq.heap.size wq w') := fun wq hq => by have := HTx.out kJti wq hq; rw [ejti, ehJti] at this; exact this
  have HCexp : Hid (∀ wq, Below w.heap.size w wq → Calls Tryz.prog 50 #[.slice ao l.length cap, .string ⟨kExp.toArray⟩] wq fun e w' => e = .returned (tmV exp) ∧ Below wq.heap.size wq w') := fun wq hq => by have := HMo.out kExp wq hq; rw [eexp] at this; exact this
  have HCnbf : Hid (∀ wq, Below w.heap.size w wq → Calls Tryz.prog 50 #[.slice ao l.length cap, .string ⟨kNbf.toArray⟩] wq fun e w' => e = .returned (tmV nbf) ∧ Below wq.heap.size wq w') := fun wq hq => by have := HMo.out kNbf wq hq; rw [enbf] at this; exact this
  have HCiat : Hid (∀ wq, Below w.heap.size w wq → Calls Tryz.prog 50 #[.slice ao l.length cap, .string ⟨kIat.toArray⟩] wq fun e w' => e = .returned (tmV iat) ∧ Below wq.heap.size wq w') := fun wq hq => by have := HMo.out kIat wq hq; rw [eiat] at this; exact this
  clear h hw0 HNq HTx HTs HMo eiss ehIss esub ehSub eaud ehAud ejti ehJti eexp enbf eiat hb2
  have HS : Hid (SaS w w.heap.size b2 (clC (.slice ao l.length cap) (.slice none 0 0) ⟨[], [], false, [], false, [], false, [], false, tm0, tm0, tm0⟩) w0) := HS0.out
  clear HS0
  go_enter Tryz.func34, Tryz.ntmps34
  have C0 := HCiss.out w0 HS.out.bel
  go_wp2_with fail
  rw [HW0.out, HB2.out]
  clear HW0
  refine C0.mono ?_
  clear C0 HCiss
  rintro e v1 ⟨rfl, hB⟩
  have HSn : Hid (SaS w w.heap.size b2 (clC (.slice ao l.length cap) (.slice none 0 0) ⟨[], [], false, [], false, [], false, [], false, tm0, tm0, tm0⟩) v1) := HS.out.below hB
  clear HS hB
  have HS := HSn
  clear HSn
  have k1 : v1.cell? ⟨b2, 1, none⟩ = some (.string ⟨#[]⟩) := HS.out.c.cell 1 (by simp [clC])
  have k2 : v1.cell? ⟨b2, 2, none⟩ = some (.bool false) := HS.out.c.cell 2 (by simp [clC])
  have f1 := HS.out.c.frozen 1
  have f2 := HS.out.c.frozen 2
  obtain ⟨w1, hw⟩ : ∃ x, (v1.setCell ⟨b2, 1, none⟩ (.string ⟨iss.toArray⟩)).setCell ⟨b2, 2, none⟩ (.bool hIss) = x := ⟨_, rfl⟩
  have HSn : Hid (SaS w w.heap.size b2 (clC (.slice ao l.length cap) (.slice none 0 0) ⟨[], iss, hIss, [], false, [], false, [], false, tm0, tm0, tm0⟩) w1) := by
    rw [← hw]
    exact (HS.out.set 1 (.string ⟨iss.toArray⟩) (Nat.le_refl _) HLT.out).set 2 (.bool hIss) (Nat.le_refl _) HLT.out
  have HW : Hid ((v1.setCell ⟨b2, 1, none⟩ (.string ⟨iss.toArray⟩)).setCell ⟨b2, 2, none⟩ (.bool hIss) = w1) := hw
  clear HS hw
  have HS := HSn
  clear HSn
  have C0 := HCsub.out w1 HS.out.bel
  go_wp2_with fail
  rw [HW.out]
  clear HW k1 k2 f1 f2
  refine C0.mono ?_
  clear C0 HCsub
  rintro e v2 ⟨rfl, hB⟩
  have HSn : Hid (SaS w w.heap.size b2 (clC (.slice ao l.length cap) (.slice none 0 0) ⟨[], iss, hIss, [], false, [], false, [], false, tm0, tm0, tm0⟩) v2) := HS.out.below hB
  clear HS hB
  have HS := HSn
  clear HSn
  have k3 : v2.cell? ⟨b2, 3, none⟩ = some (.string ⟨#[]⟩) := HS.out.c.cell 3 (by simp [clC])
  have k4 : v2.cell? ⟨b2, 4, none⟩ = some (.bool false) := HS.out.c.cell 4 (by simp [clC])
  have f3 := HS.out.c.frozen 3
  have f4 := HS.out.c.frozen 4
  obtain ⟨w2, hw⟩ : ∃ x, (v2.setCell ⟨b2, 3, none⟩ (.string ⟨sub.toArray⟩)).setCell ⟨b2, 4, none⟩ (.bool hSub) = x := ⟨_, rfl⟩
  have HSn : Hid (SaS w w.heap.size b2 (clC (.slice ao l.length cap) (.slice none 0 0) ⟨[], iss, hIss, sub, hSub, [], false, [], false, tm0, tm0, tm0⟩) w2) := by
    rw [← hw]
    exact (HS.out.set 3 (.string ⟨sub.toArray⟩) (Nat.le_refl _) HLT.out).set 4 (.bool hSub) (Nat.le_refl _) HLT.out
  have HW : Hid ((v2.setCell ⟨b2, 3, none⟩ (.string ⟨sub.toArray⟩)).setCell ⟨b2, 4, none⟩ (.bool hSub) = w2) := hw
  clear HS hw
  have HS := HSn
  clear HSn
  have C0 := HCaud.out w2 HS.out.bel
  go_wp2_with fail
  rw [HW.out]
  clear HW k3 k4 f3 f4
  refine C0.mono ?_
  clear C0 HCaud
  rintro e v3 ⟨⟨va, rfl, hO⟩, hB⟩
  obtain ⟨aA, cA, rfl, _, _⟩ := own_slice hO
  have HO : Hid (OT w.heap.size v3 (.slice aA aud.length cA) aud) := own_mono hO HS.out.bel.size
  clear hO
  have HSn : Hid (SaS w w.heap.size b2 (clC (.slice ao l.length cap) (.slice none 0 0) ⟨[], iss, hIss, sub, hSub, [], false, [], false, tm0, tm0, tm0⟩) v3) := HS.out.below hB
  clear HS hB
  have HS := HSn
  clear HSn
  have k5 : v3.cell? ⟨b2, 5, none⟩ = some (.slice none 0 0) := HS.out.c.cell 5 (by simp [clC])
  have k6 : v3.cell? ⟨b2, 6, none⟩ = some (.bool false) := HS.out.c.cell 6 (by simp [clC])
  have f5 := HS.out.c.frozen 5
  have f6 := HS.out.c.frozen 6
  obtain ⟨w3, hw⟩ : ∃ x, (v3.setCell ⟨b2, 5, none⟩ (.slice aA aud.length cA)).setCell ⟨b2, 6, none⟩ (.bool hAud) = x := ⟨_, rfl⟩
  have HSn : Hid (SaS w w.heap.size b2 (clC (.slice ao l.length cap) (.slice aA aud.length cA) ⟨[], iss, hIss, sub, hSub, aud, hAud, [], false, tm0, tm0, tm0⟩) w3) := by
    rw [← hw]
    exact (HS.out.set 5 (.slice aA aud.length cA) (Nat.le_refl _) HLT.out).set 6 (.bool hAud) (Nat.le_refl _) HLT.out
  have HOn : Hid (OT w.heap.size w3 (.slice aA aud.length cA) aud) := by
    rw [← hw]
    exact (HO.out.setCell HS.out.c).setCell (HS.out.c.set 5 (.slice aA aud.length cA))
  clear HO
  have HO := HOn
  clear HOn
  have HW : Hid ((v3.setCell ⟨b2, 5, none⟩ (.slice aA aud.length cA)).setCell ⟨b2, 6, none⟩ (.bool hAud) = w3) := hw
  clear HS hw
  have HS := HSn
  clear HSn
  have C0 := HCjti.out w3 HS.out.bel
  go_wp2_with fail
  rw [HW.out]
  clear HW k5 k6 f5 f6
  refine C0.mono ?_
  clear C0 HCjti
  rintro e v4 ⟨rfl, hB⟩
  have HOn : Hid (OT w.heap.size v4 (.slice aA aud.length cA) aud) := HO.out.below hB
  clear HO
  have HO := HOn
  clear HOn
  have HSn : Hid (SaS w w.heap.size b2 (clC (.slice ao l.length cap) (.slice aA aud.length cA) ⟨[], iss, hIss, sub, hSub, aud, hAud, [], false, tm0, tm0, tm0⟩) v4) := HS.out.below hB
  clear HS hB
  have HS := HSn
  clear HSn
  have k7 : v4.cell? ⟨b2, 7, none⟩ = some (.string ⟨#[]⟩) := HS.out.c.cell 7 (by simp [clC])
  have k8 : v4.cell? ⟨b2, 8, none⟩ = some (.bool false) := HS.out.c.cell 8 (by simp [clC])
  have f7 := HS.out.c.frozen 7
  have f8 := HS.out.c.frozen 8
  obtain ⟨w4, hw⟩ : ∃ x, (v4.setCell ⟨b2, 7, none⟩ (.string ⟨jti.toArray⟩)).setCell ⟨b2, 8, none⟩ (.bool hJti) = x := ⟨_, rfl⟩
  have HSn : Hid (SaS w w.heap.size b2 (clC (.slice ao l.length cap) (.slice aA aud.length cA) ⟨[], iss, hIss, sub, hSub, aud, hAud, jti, hJti, tm0, tm0, tm0⟩) w4) := by
    rw [← hw]
    exact (HS.out.set 7 (.string ⟨jti.toArray⟩) (Nat.le_refl _) HLT.out).set 8 (.bool hJti) (Nat.le_refl _) HLT.out
  have HOn : Hid (OT w.heap.size w4 (.slice aA aud.length cA) aud) := by
    rw [← hw]
    exact (HO.out.setCell HS.out.c).setCell (HS.out.c.set 7 (.string ⟨jti.toArray⟩))
  clear HO
  have HO := HOn
  clear HOn
  have HW : Hid ((v4.setCell ⟨b2, 7, none⟩ (.string ⟨jti.toArray⟩)).setCell ⟨b2, 8, none⟩ (.bool hJti) = w4) := hw
  clear HS hw
  have HS := HSn
  clear HSn
  have C0 := HCexp.out w4 HS.out.bel
  go_wp2_with fail
  rw [HW.out]
  clear HW k7 k8 f7 f8
  refine C0.mono ?_
  clear C0 HCexp
  rintro e v5 ⟨rfl, hB⟩
  have HOn : Hid (OT w.heap.size v5 (.slice aA aud.length cA) aud) := HO.out.below hB
  clear HO
  have HO := HOn
  clear HOn
  have HSn : Hid (SaS w w.heap.size b2 (clC (.slice ao l.length cap) (.slice aA aud.length cA) ⟨[], iss, hIss, sub, hSub, aud, hAud, jti, hJti, tm0, tm0, tm0⟩) v5) := HS.out.below hB
  clear HS hB
  have HS := HSn
  clear HSn
  have k9 : v5.cell? ⟨b2, 9, none⟩ = some (.bool false) := HS.out.c.cell 9 (by simp [clC])
  have k10 : v5.cell? ⟨b2, 10, none⟩ = some (.int .i64 0) := HS.out.c.cell 10 (by simp [clC])
  have f9 := HS.out.c.frozen 9
  have f10 := HS.out.c.frozen 10
  obtain ⟨w5, hw⟩ : ∃ x, (v5.setCell ⟨b2, 9, none⟩ (.bool exp.has)).setCell ⟨b2, 10, none⟩ (.int .i64 exp.at_) = x := ⟨_, rfl⟩
  have HSn : Hid (SaS w w.heap.size b2 (clC (.slice ao l.length cap) (.slice aA aud.length cA) ⟨[], iss, hIss, sub, hSub, aud, hAud, jti, hJti, exp, tm0, tm0⟩) w5) := by
    rw [← hw]
    exact (HS.out.set 9 (.bool exp.has) (Nat.le_refl _) HLT.out).set 10 (.int .i64 exp.at_) (Nat.le_refl _) HLT.out
  have HOn : Hid (OT w.heap.size w5 (.slice aA aud.length cA) aud) := by
    rw [← hw]
    exact (HO.out.setCell HS.out.c).setCell (HS.out.c.set 9 (.bool exp.has))
  clear HO
  have HO := HOn
  clear HOn
  have HW : Hid ((v5.setCell ⟨b2, 9, none⟩ (.bool exp.has)).setCell ⟨b2, 10, none⟩ (.int .i64 exp.at_) = w5) := hw
  clear HS hw
  have HS := HSn
  clear HSn
  unfold tmV
  have C0 := HCnbf.out w5 HS.out.bel
  go_wp2_with fail
  rw [HW.out]
  clear HW k9 k10 f9 f10
  refine C0.mono ?_
  clear C0 HCnbf
  rintro e v6 ⟨rfl, hB⟩
  have HOn : Hid (OT w.heap.size v6 (.slice aA aud.length cA) aud) := HO.out.below hB
  clear HO
  have HO := HOn
  clear HOn
  have HSn : Hid (SaS w w.heap.size b2 (clC (.slice ao l.length cap) (.slice aA aud.length cA) ⟨[], iss, hIss, sub, hSub, aud, hAud, jti, hJti, exp, tm0, tm0⟩) v6) := HS.out.below hB
  clear HS hB
  have HS := HSn
  clear HSn
  have k11 : v6.cell? ⟨b2, 11, none⟩ = some (.bool false) := HS.out.c.cell 11 (by simp [clC])
  have k12 : v6.cell? ⟨b2, 12, none⟩ = some (.int .i64 0) := HS.out.c.cell 12 (by simp [clC])
  have f11 := HS.out.c.frozen 11
  have f12 := HS.out.c.frozen 12
  obtain ⟨w6, hw⟩ : ∃ x, (v6.setCell ⟨b2, 11, none⟩ (.bool nbf.has)).setCell ⟨b2, 12, none⟩ (.int .i64 nbf.at_) = x := ⟨_, rfl⟩
  have HSn : Hid (SaS w w.heap.size b2 (clC (.slice ao l.length cap) (.slice aA aud.length cA) ⟨[], iss, hIss, sub, hSub, aud, hAud, jti, hJti, exp, nbf, tm0⟩) w6) := by
    rw [← hw]
    exact (HS.out.set 11 (.bool nbf.has) (Nat.le_refl _) HLT.out).set 12 (.int .i64 nbf.at_) (Nat.le_refl _) HLT.out
  have HOn : Hid (OT w.heap.size w6 (.slice aA aud.length cA) aud) := by
    rw [← hw]
    exact (HO.out.setCell HS.out.c).setCell (HS.out.c.set 11 (.bool nbf.has))
  clear HO
  have HO := HOn
  clear HOn
  have HW : Hid ((v6.setCell ⟨b2, 11, none⟩ (.bool nbf.has)).setCell ⟨b2, 12, none⟩ (.int .i64 nbf.at_) = w6) := hw
  clear HS hw
  have HS := HSn
  clear HSn
  unfold tmV
  have C0 := HCiat.out w6 HS.out.bel
  go_wp2_with fail
  rw [HW.out]
  clear HW k11 k12 f11 f12
  refine C0.mono ?_
  clear C0 HCiat
  rintro e v7 ⟨rfl, hB⟩
  have HOn : Hid (OT w.heap.size v7 (.slice aA aud.length cA) aud) := HO.out.below hB
  clear HO
  have HO := HOn
  clear HOn
  have HSn : Hid (SaS w w.heap.size b2 (clC (.slice ao l.length cap) (.slice aA aud.length cA) ⟨[], iss, hIss, sub, hSub, aud, hAud, jti, hJti, exp, nbf, tm0⟩) v7) := HS.out.below hB
  clear HS hB
  have HS := HSn
  clear HSn
  have k13 : v7.cell? ⟨b2, 13, none⟩ = some (.bool false) := HS.out.c.cell 13 (by simp [clC])
  have k14 : v7.cell? ⟨b2, 14, none⟩ = some (.int .i64 0) := HS.out.c.cell 14 (by simp [clC])
  have f13 := HS.out.c.frozen 13
  have f14 := HS.out.c.frozen 14
  obtain ⟨w7, hw⟩ : ∃ x, (v7.setCell ⟨b2, 13, none⟩ (.bool iat.has)).setCell ⟨b2, 14, none⟩ (.int .i64 iat.at_) = x := ⟨_, rfl⟩
  have HSn : Hid (SaS w w.heap.size b2 (clC (.slice ao l.length cap) (.slice aA aud.length cA) ⟨[], iss, hIss, sub, hSub, aud, hAud, jti, hJti, exp, nbf, iat⟩) w7) := by
    rw [← hw]
    exact (HS.out.set 13 (.bool iat.has) (Nat.le_refl _) HLT.out).set 14 (.int .i64 iat.at_) (Nat.le_refl _) HLT.out
  have HOn : Hid (OT w.heap.size w7 (.slice aA aud.length cA) aud) := by
    rw [← hw]
    exact (HO.out.setCell HS.out.c).setCell (HS.out.c.set 13 (.bool iat.has))
  clear HO
  have HO := HOn
  clear HOn
  have HW : Hid ((v7.setCell ⟨b2, 13, none⟩ (.bool iat.has)).setCell ⟨b2, 14, none⟩ (.int .i64 iat.at_) = w7) := hw
  clear HS hw
  have HS := HSn
  clear HSn
  unfold tmV
  obtain ⟨c, hc⟩ : ∃ c : Cm, c = ⟨[], iss, hIss, sub, hSub, aud, hAud, jti, hJti, exp, nbf, iat⟩ := ⟨_, rfl⟩
  have HCC : Hid (∀ P : Cm → Prop, P c → P ⟨[], iss, hIss, sub, hSub, aud, hAud, jti, hJti, exp, nbf, iat⟩) := fun P h => hc ▸ h
  have HS2 : Hid (SaS w w.heap.size b2 (clC (.slice ao l.length cap) (.slice aA aud.length cA) ⟨[], iss, hIss, sub, hSub, aud, hAud, jti, hJti, exp, nbf, iat⟩) w7) := HS.out
  have HRg : Hid (w7.rangeAt b2 0 (clC (.slice ao l.length cap) (.slice aA aud.length cA) ⟨[], iss, hIss, sub, hSub, aud, hAud, jti, hJti, exp, nbf, iat⟩)) := fun j v hv => by
    obtain ⟨hj, e⟩ := List.getElem?_eq_some_iff.1 hv
    rw [Nat.zero_add, ← e]
    exact HS2.out.c.cell j hj
  obtain ⟨wz, hwz⟩ : ∃ wz, w7.setRow w.heap.size (clC (.slice ao l.length cap) (.slice aA aud.length cA) ⟨[], iss, hIss, sub, hSub, aud, hAud, jti, hJti, exp, nbf, iat⟩).toArray = wz := ⟨_, rfl⟩
  have HBz : Hid (Bl 27 wz w.heap.size (clC (.slice ao l.length cap) (.slice aA aud.length cA) ⟨[], iss, hIss, sub, hSub, aud, hAud, jti, hJti, exp, nbf, iat⟩)) := by rw [← hwz]; exact set_bl2 HS2.out.r
  have Hz : Hid (Below w.heap.size w wz) := by rw [← hwz]; exact setRow_below2 _ HS2.out.bel (Nat.le_refl _)
  have HOz : Hid (OT w.heap.size wz (.slice aA aud.length cA) aud) := by
    rw [← hwz]
    have ha := block_apart HO.out HS2.out.r (by decide)
    exact own_keep HO.out fun g hg => setRow_other _ _ _ _ (fun e => ha (by rw [hg]; exact congrArg some e))
  have HWz : Hid (w7.setRow w.heap.size (clC (.slice ao l.length cap) (.slice aA aud.length cA) ⟨[], iss, hIss, sub, hSub, aud, hAud, jti, hJti, exp, nbf, iat⟩).toArray = wz) := hwz
  have hgi : (Tryz.prog.info? 27).map (·.size) = some 15 := by kernel_rfl
  have hcl : (Tryz.prog.info? 27).map (·.size) = some (clC (.slice ao l.length cap) (.slice aA aud.length cA) ⟨[], iss, hIss, sub, hSub, aud, hAud, jti, hJti, exp, nbf, iat⟩).length := by kernel_rfl
  clear hwz hc HCC
  go_wp2_with (first | (refine wpList_load_mid rfl 27 (.tmp 3) rfl b2 0 rfl (clC (.slice ao l.length cap) (.slice aA aud.length cA) ⟨[], iss, hIss, sub, hSub, aud, hAud, jti, hJti, exp, nbf, iat⟩) _ (by rw [HW.out]; exact HRg.out) Tryz.underlying27 rfl hcl ?_; rw [HW.out]) | (refine wpList_store_row rfl 27 (.tmp 2) (.tmp 43) rfl w.heap.size (clC (.slice ao l.length cap) (.slice aA aud.length cA) ⟨[], iss, hIss, sub, hSub, aud, hAud, jti, hJti, exp, nbf, iat⟩).toArray rfl rfl 27 (clC (.slice none 0 0) (.slice none 0 0) cm0).toArray HS2.out.r hgi rfl (by simp [clC, Value.oneCell']) ?_; rw [HWz.out]; clear HWz hgi))
  (try simp only [Exit.inBlock, Exit.then])
  refine bodyPost_ret (v := clV (.slice ao l.length cap) (.slice aA aud.length cA) ⟨[], iss, hIss, sub, hSub, aud, hAud, jti, hJti, exp, nbf, iat⟩) (results_cl rfl _ _ w.heap.size _ _ _ rfl HBz.out) rfl ⟨⟨.slice aA aud.length cA, ?_, ?_⟩, Hz.out⟩
  · rw [HSF.out]; rfl
  · rw [HSF.out]; exact HOz.out

end Go.Proofs.YthlfboaidhgnlaaGreatDoor
