import Derived.Test.YtkaoobdemaahbaaWdD
namespace Go.Proofs.Ytkaoobdemaahbaa
open Go.RowKit

/-- The first i elements are nothings. -/
def Fv (vs : List Value) (i : Nat) : Prop := ∀ j, j < i → vs[j * 3]? = some (.int .i64 5) ∧ vs[j * 3 + 1]? = some (.slice none 0 0) ∧ vs[j * 3 + 2]? = some (.int .i64 0)
theorem Fv.succ {vs : List Value} {i : Nat} (h : Fv vs i) (hl : i * 3 + 3 ≤ vs.length) : Fv (((vs.set (i * 3) (.int .i64 5)).set (i * 3 + 1) (.slice none 0 0)).set (i * 3 + 2) (.int .i64 0)) (i + 1) := by
  intro j hj
  rcases Nat.lt_or_ge j i with h1 | h1
  · obtain ⟨a, b, c⟩ := h j h1
    refine ⟨?_, ?_, ?_⟩
    · rw [List.getElem?_set_ne (by omega), List.getElem?_set_ne (by omega), List.getElem?_set_ne (by omega)]; exact a
    · rw [List.getElem?_set_ne (by omega), List.getElem?_set_ne (by omega), List.getElem?_set_ne (by omega)]; exact b
    · rw [List.getElem?_set_ne (by omega), List.getElem?_set_ne (by omega), List.getElem?_set_ne (by omega)]; exact c
  · obtain rfl : j = i := by omega
    refine ⟨?_, ?_, ?_⟩
    · rw [List.getElem?_set_ne (by omega), List.getElem?_set_ne (by omega), List.getElem?_set_self (by omega)]
    · rw [List.getElem?_set_ne (by omega), List.getElem?_set_self (by rw [List.length_set]; omega)]
    · rw [List.getElem?_set_self (by rw [List.length_set, List.length_set]; omega)]

/-- The first element is a sequence that says kd, the others are nothings. -/
def Sq (us : List Value) (kd : Int) (N : Nat) : Prop := (us[0]? = some (.int .i64 48) ∧ us[1]? = some (.slice none 0 0) ∧ us[2]? = some (.int .i64 kd)) ∧ ∀ j, 1 ≤ j → j < N → us[j * 3]? = some (.int .i64 5) ∧ us[j * 3 + 1]? = some (.slice none 0 0) ∧ us[j * 3 + 2]? = some (.int .i64 0)
theorem Fv.head {us : List Value} {N : Nat} (h : Fv us N) (hl : 3 ≤ us.length) (kd : Int) : Sq (((us.set 0 (.int .i64 48)).set 1 (.slice none 0 0)).set 2 (.int .i64 kd)) kd N := by
  refine ⟨⟨?_, ?_, ?_⟩, fun j h1 h2 => ?_⟩
  · rw [List.getElem?_set_ne (by omega), List.getElem?_set_ne (by omega), List.getElem?_set_self (by omega)]
  · rw [List.getElem?_set_ne (by omega), List.getElem?_set_self (by rw [List.length_set]; omega)]
  · rw [List.getElem?_set_self (by rw [List.length_set, List.length_set]; omega)]
  · obtain ⟨a, b, c⟩ := h j h2
    refine ⟨?_, ?_, ?_⟩
    · rw [List.getElem?_set_ne (by omega), List.getElem?_set_ne (by omega), List.getElem?_set_ne (by omega)]; exact a
    · rw [List.getElem?_set_ne (by omega), List.getElem?_set_ne (by omega), List.getElem?_set_ne (by omega)]; exact b
    · rw [List.getElem?_set_ne (by omega), List.getElem?_set_ne (by omega), List.getElem?_set_ne (by omega)]; exact c
theorem Sq.kids {us : List Value} {N : Nat} {k0 : Int} (h : Sq us k0 N) (hl : 3 ≤ us.length) (kd : Int) : Sq (us.set 2 (.int .i64 kd)) kd N := by
  refine ⟨⟨?_, ?_, ?_⟩, fun j h1 h2 => ?_⟩
  · rw [List.getElem?_set_ne (by omega)]; exact h.1.1
  · rw [List.getElem?_set_ne (by omega)]; exact h.1.2.1
  · rw [List.getElem?_set_self (by omega)]
  · obtain ⟨a, b, c⟩ := h.2 j h1 h2
    refine ⟨?_, ?_, ?_⟩
    · rw [List.getElem?_set_ne (by omega)]; exact a
    · rw [List.getElem?_set_ne (by omega)]; exact b
    · rw [List.getElem?_set_ne (by omega)]; exact c
theorem bl_at {t : TypeId} {w : World} {b j : Nat} {us : List Value} {v : Value} (h : Bl t w b us) (hj : us[j]? = some v) : w.cell? ⟨b, j, none⟩ = some v := by
  obtain ⟨h1, h2⟩ := List.getElem?_eq_some_iff.1 hj
  rw [h.cell j h1, h2]
/-- The elements that such a list has. -/
def sqX (kd : Int) (m : Nat) : List X := ⟨⟨48, [], kd⟩, none, 0⟩ :: List.replicate m ⟨five, none, 0⟩
theorem sqX_es (kd : Int) (m : Nat) : es (sqX kd m) = ⟨48, [], kd⟩ :: List.replicate m five := by simp [sqX, es]
theorem Sq.row {us : List Value} {kd : Int} {m g : Nat} {w : World} (h : Sq us kd (m + 1)) (hB : Bl 32 w g us) (k1 : -9223372036854775808 ≤ kd) (k2 : kd ≤ 9223372036854775807) : Row w (some ⟨g, 0, none⟩) (sqX kd m) := by
  refine ⟨.inr ⟨g, 0, rfl, hB.lt, fun j hj => ?_⟩, fun x hx => ?_⟩
  · cases j with
    | zero => exact ⟨bl_at hB h.1.1, bl_at hB h.1.2.1, bl_at hB h.1.2.2⟩
    | succ j =>
      have hj2 : j < m := by simpa [sqX] using hj
      obtain ⟨a, b, c⟩ := h.2 (j + 1) (by omega) (by omega)
      have e : (sqX kd m)[j + 1] = ⟨five, none, 0⟩ := by simp [sqX]
      rw [e, Nat.zero_add]
      exact ⟨bl_at hB a, bl_at hB b, bl_at hB c⟩
  · rcases List.mem_cons.1 hx with rfl | hx
    · exact ⟨.inl rfl, Nat.le_refl _, by show 0 ≤ _; omega, k1, k2⟩
    · rw [(List.mem_replicate.1 hx).2]
      exact ⟨.inl rfl, Nat.le_refl _, by show 0 ≤ _; omega, by show (-9223372036854775808 : Int) ≤ 0; omega, by show (0 : Int) ≤ 9223372036854775807; omega⟩

set_option maxRecDepth 100000 in
set_option maxHeartbeats 2000000 in
/-- The statement's reshaped, of a list that is not empty. -/
theorem reshaped_any (base g o c N L : Nat) (w : World) (vs : List Value) (ho : o = 0) (hN : 0 < N) (hN2 : N ≤ 2000000) (hc : N ≤ c) (hc2 : c ≤ 9223372036854775807) (b0 : Bool) (hb : Bl 32 w g vs) (hL : vs.length = L) (hl : N * 3 ≤ L)
    (CS : Calls Try.prog 6 #[.slice (some ⟨g, o, none⟩) N c] w fun e w' => e = .returned (.bool b0) ∧ Below w.heap.size w w') (hg : base ≤ g) (hbs : base ≤ w.heap.size) :
    Calls Try.prog 12 #[.slice (some ⟨g, o, none⟩) N c] w fun e w' => e = .returned (.bool true) ∧ Below base w w' := by
  have d0 : ((N : Int) == 0) = false := by rw [beq_eq_false_iff_ne]; omega
  have HB0 : Hid (Bl 32 w g vs) := hb
  have Ho : Hid (o = 0) := ho
  have HSh : Hid (∀ (w' : World) (us : List Value) (kd : Int) (b : Bool), Bl 32 w' g us → Sq us kd N → 0 ≤ kd → kd ≤ 9223372036854775807 → shaped (⟨48, [], kd⟩ :: List.replicate (N - 1) five) = b → Calls Try.prog 6 #[.slice (some ⟨g, o, none⟩) N c] w' fun e w'' => e = .returned (.bool b) ∧ Below w'.heap.size w' w'') := fun w' us kd b h1 h2 h3 h4 h5 => by
    obtain ⟨m, rfl⟩ : ∃ m, N = m + 1 := ⟨N - 1, by omega⟩
    have := shaped_any (some ⟨g, 0, none⟩) c (sqX kd m) w' (h2.row h1 (by omega) h4) (by simp [sqX]; omega)
    rw [sqX_es, show m = m + 1 - 1 from rfl, h5, ← ho, show (sqX kd (m + 1 - 1)).length = m + 1 by simp [sqX]] at this
    exact this
  clear hb ho
  go_enter Try.func12, Try.ntmps12
  go_wp2_with fail
  refine CS.mono ?_
  rintro e w1 ⟨rfl, hb1⟩
  clear CS
  have H0 : Hid (Bl 32 w1 g vs ∧ Below base w w1) := ⟨HB0.out.below hb1 HB0.out.lt, hb1.mono hbs⟩
  clear hb1
  go_wp2
  go_loopw [3] (fun s wr => ∃ (i : Nat) (us : List Value), s = .int .i64 (i : Int) ∧ i ≤ N ∧ us.length = L ∧ Hid (Bl 32 wr g us ∧ Fv us i ∧ Below base w wr)) (fun s _ => N - (intOf s).toNat)
  case atStart => exact ⟨0, vs, rfl, Nat.zero_le _, hL, H0.out.1, (fun j h => by omega), H0.out.2⟩
  case round =>
    obtain ⟨i, us, rfl, hi, hul, HI⟩ := hrel
    by_cases hlt : i < N
    · have d1 : decide ((i : Int) < (N : Int)) = true := decide_eq_true (by omega)
      have hB := HI.out.1
      have f0 := hB.frozen (o + i * 3)
      have f1 := hB.frozen (o + i * 3 + 1)
      have f2 := hB.frozen (o + i * 3 + 2)
      have hub : i * 3 + 3 ≤ us.length := by omega
      obtain ⟨u0, c0⟩ : ∃ u, wr.cell? ⟨g, o + i * 3, none⟩ = some u := ⟨_, hB.cell _ (by have := Ho.out; omega)⟩
      obtain ⟨u1, c1⟩ : ∃ u, wr.cell? ⟨g, o + i * 3 + 1, none⟩ = some u := ⟨_, hB.cell _ (by have := Ho.out; omega)⟩
      obtain ⟨u2, c2⟩ : ∃ u, wr.cell? ⟨g, o + i * 3 + 2, none⟩ = some u := ⟨_, hB.cell _ (by have := Ho.out; omega)⟩
      have Hul : Hid (us.length = L) := hul
      clear hB hul
      go_wp2
      go_roundw
      case rel =>
        refine ⟨i + 1, ((us.set (i * 3) (.int .i64 5)).set (i * 3 + 1) (.slice none 0 0)).set (i * 3 + 2) (.int .i64 0), by go_num, by omega, by rw [List.length_set, List.length_set, List.length_set]; exact Hul.out, ?_⟩
        have := ((HI.out.1.set (i * 3) (.int .i64 5)).set (i * 3 + 1) (.slice none 0 0)).set (i * 3 + 2) (.int .i64 0)
        rw [Ho.out, Nat.zero_add]
        exact ⟨this, HI.out.2.1.succ hub, ((HI.out.2.2.setCell hg _).setCell hg _).setCell hg _⟩
      case measure => simp [intOf]; omega
    · obtain rfl : i = N := by omega
      have d1 : decide ((i : Int) < (i : Int)) = false := decide_eq_false (by omega)
      obtain ⟨m, em⟩ : ∃ m : Nat, (i : Int) - 1 = (m : Int) := ⟨i - 1, by omega⟩
      have em2 : (m : Int) + 1 = (i : Int) := by omega
      have Hm : Hid (i = m + 1) := by show _ = _; omega
      have hB := HI.out.1
      have f0 := hB.frozen o
      have f1 := hB.frozen (o + 1)
      have f2 := hB.frozen (o + 2)
      have hub : 3 ≤ us.length := by omega
      obtain ⟨u0, c0⟩ : ∃ u, wr.cell? ⟨g, o, none⟩ = some u := ⟨_, hB.cell _ (by have := Ho.out; omega)⟩
      obtain ⟨u1, c1⟩ : ∃ u, wr.cell? ⟨g, o + 1, none⟩ = some u := ⟨_, hB.cell _ (by have := Ho.out; omega)⟩
      obtain ⟨u2, c2⟩ : ∃ u, wr.cell? ⟨g, o + 2, none⟩ = some u := ⟨_, hB.cell _ (by have := Ho.out; omega)⟩
      have HA : Hid (Bl 32 (((wr.setCell ⟨g, o, none⟩ (.int .i64 48)).setCell ⟨g, o + 1, none⟩ (.slice none 0 0)).setCell ⟨g, o + 2, none⟩ (.int .i64 (m : Int))) g (((us.set 0 (.int .i64 48)).set 1 (.slice none 0 0)).set 2 (.int .i64 (m : Int))) ∧ Sq (((us.set 0 (.int .i64 48)).set 1 (.slice none 0 0)).set 2 (.int .i64 (m : Int))) (m : Int) i ∧ Below base w (((wr.setCell ⟨g, o, none⟩ (.int .i64 48)).setCell ⟨g, o + 1, none⟩ (.slice none 0 0)).setCell ⟨g, o + 2, none⟩ (.int .i64 (m : Int)))) := by
        have h1 := ((hB.set 0 (.int .i64 48)).set 1 (.slice none 0 0)).set 2 (.int .i64 (m : Int))
        rw [Ho.out]
        exact ⟨h1, HI.out.2.1.head hub _, ((HI.out.2.2.setCell hg _).setCell hg _).setCell hg _⟩
      have Hul : Hid ((((us.set 0 (.int .i64 48)).set 1 (.slice none 0 0)).set 2 (.int .i64 (m : Int))).length = L) := by show _ = _; rw [List.length_set, List.length_set, List.length_set]; exact hul
      generalize ((us.set 0 (.int .i64 48)).set 1 (.slice none 0 0)).set 2 (.int .i64 (m : Int)) = us2 at *
      have CA := HSh.out _ us2 (m : Int) true HA.out.1 HA.out.2.1 (by omega) (by omega) (by rw [Hm.out]; exact shaped_fives m)
      clear hB HI hlt hi hul
      go_wp2_with fail
      generalize ((wr.setCell ⟨g, o, none⟩ (.int .i64 48)).setCell ⟨g, o + 1, none⟩ (.slice none 0 0)).setCell ⟨g, o + 2, none⟩ (.int .i64 (m : Int)) = wA at *
      refine CA.mono ?_
      rintro e w2 ⟨rfl, hb2⟩
      clear CA c0 c1 c2 f0 f1 f2
      have H2 : Hid (Bl 32 w2 g us2 ∧ Below base w w2) := ⟨HA.out.1.below hb2 HA.out.1.lt, HA.out.2.2.trans (hb2.mono (Nat.le_trans hbs HA.out.2.2.size))⟩
      have Hs2 : Hid (Sq us2 (m : Int) i) := HA.out.2.1
      have f2 := H2.out.1.frozen (o + 2)
      have c2 : w2.cell? ⟨g, o + 2, none⟩ = some (.int .i64 (m : Int)) := by rw [Ho.out]; exact bl_at H2.out.1 Hs2.out.1.2.2
      have hub2 : 3 ≤ us2.length := by rw [Hul.out]; omega
      have H3 : Hid (Bl 32 (w2.setCell ⟨g, o + 2, none⟩ (.int .i64 (i : Int))) g (us2.set 2 (.int .i64 (i : Int))) ∧ Sq (us2.set 2 (.int .i64 (i : Int))) (i : Int) i ∧ Below base w (w2.setCell ⟨g, o + 2, none⟩ (.int .i64 (i : Int)))) := by
        have h1 := H2.out.1.set 2 (.int .i64 (i : Int))
        rw [Ho.out]
        exact ⟨h1, Hs2.out.kids hub2 _, H2.out.2.setCell hg _⟩
      have Hul3 : Hid ((us2.set 2 (.int .i64 (i : Int))).length = L) := by show _ = _; rw [List.length_set]; exact Hul.out
      generalize us2.set 2 (.int .i64 (i : Int)) = us3 at *
      have CB := HSh.out _ us3 (i : Int) false H3.out.1 H3.out.2.1 (by omega) (by omega) (by rw [Hm.out]; exact shaped_fewer m)
      clear HA hb2
      go_wp2_with fail
      generalize w2.setCell ⟨g, o + 2, none⟩ (.int .i64 (i : Int)) = wB at *
      refine CB.mono ?_
      rintro e w3 ⟨rfl, hb3⟩
      clear CB c2 f2
      have H4 : Hid (Bl 32 w3 g us3 ∧ Below base w w3) := ⟨H3.out.1.below hb3 H3.out.1.lt, H3.out.2.2.trans (hb3.mono (Nat.le_trans hbs H3.out.2.2.size))⟩
      have Hs3 : Hid (Sq us3 (i : Int) i) := H3.out.2.1
      have f2 := H4.out.1.frozen (o + 2)
      have c2 : w3.cell? ⟨g, o + 2, none⟩ = some (.int .i64 (i : Int)) := by rw [Ho.out]; exact bl_at H4.out.1 Hs3.out.1.2.2
      have hub3 : 3 ≤ us3.length := by rw [Hul3.out]; omega
      have H5 : Hid (Bl 32 (w3.setCell ⟨g, o + 2, none⟩ (.int .i64 (m : Int))) g (us3.set 2 (.int .i64 (m : Int))) ∧ Sq (us3.set 2 (.int .i64 (m : Int))) (m : Int) i ∧ Below base w (w3.setCell ⟨g, o + 2, none⟩ (.int .i64 (m : Int)))) := by
        have h1 := H4.out.1.set 2 (.int .i64 (m : Int))
        rw [Ho.out]
        exact ⟨h1, Hs3.out.kids hub3 _, H4.out.2.setCell hg _⟩
      generalize us3.set 2 (.int .i64 (m : Int)) = us4 at *
      have CD := HSh.out _ us4 (m : Int) true H5.out.1 H5.out.2.1 (by omega) (by omega) (by rw [Hm.out]; exact shaped_fives m)
      clear H3 hb3 H2 Hs2
      go_wp2_with fail
      generalize w3.setCell ⟨g, o + 2, none⟩ (.int .i64 (m : Int)) = wD at *
      refine CD.mono ?_
      rintro e w4 ⟨rfl, hb4⟩
      clear CD c2 f2
      have H6 : Hid (Below base w w4) := H5.out.2.2.trans (hb4.mono (Nat.le_trans hbs H5.out.2.2.size))
      clear hb4
      go_wp2
      go_ret
      exact ⟨rfl, H6.out⟩

end Go.Proofs.Ytkaoobdemaahbaa
