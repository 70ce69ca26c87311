import Derived.Test.YtglnhlmacngdpaaDoorKZ
import Derived.Test.YtglnhlmacngdpaaDoorIZ
import Derived.Test.YtglnhlmacngdpaaDoorFa
import Derived.Test.YtglnhlmacngdpaaDoorGd
namespace Go.Proofs.YtglnhlmacngdpaaDoor
open Go.RowKit Go.Shelf

theorem sumW_le {X : List Nd} {B : Nat} (h : ∀ n ∈ X, n.text.length ≤ B ∧ n.key.length ≤ B) : sumW X ≤ X.length * (12 * B + 12) := by
  induction X with
  | nil => simp [sumW]
  | cons n r ih =>
    have h1 := h n (by simp)
    have h2 := ih (fun x hx => h x (by simp [hx]))
    rw [sumW, wN, List.length_cons, Nat.add_mul]
    omega
theorem ts_of {X : List Nd} {B : Nat} (h : ∀ n ∈ X, n.text.length ≤ B ∧ n.key.length ≤ B) (hB : B ≤ 1000000000) : TS X := fun i hi => by
  have := h (X.getD i (nd0 0)) (by rw [List.getD_eq_getElem?_getD, List.getElem?_eq_getElem hi]; exact List.getElem_mem hi)
  omega
/-- A text alone is well shaped just if it is UTF-8. -/
theorem shaped_one (t : List UInt8) : shapedF [⟨5, [], t, false, 0, 0⟩] = Lib.validD t := by
  have hw : wmF ⟨5, [], t, false, 0, 0⟩ 0 = Lib.validD t := by
    unfold wmF
    simp [nd0]
  cases hv : Lib.validD t with
  | true =>
    exact Sq.shaped (Sq.one (n := ⟨5, [], t, false, 0, 0⟩) (by rw [hw, hv]) (Sq.nil _) rfl (by unfold KeysOK; simp))
  | false =>
    cases hs : shapedF [⟨5, [], t, false, 0, 0⟩] with
    | false => rfl
    | true =>
      have h := shaped_sq hs
      obtain ⟨d, n, ks, r, pre, post, hd, hvv, hp, hw2, _⟩ := h.at 0 (by simp)
      have hpre : pre = [] := List.eq_nil_of_length_eq_zero hp
      rw [hpre] at hvv
      simp at hvv
      rw [← hvv.1] at hw2
      have := wm_low hw2 (d' := 0) hd
      rw [hw, hv] at this
      cases this

theorem three_nr (w : World) (M : List Nd) (cs : Array Value) (hcs : cs = (nCs M).toArray) (m : Nat) (hm : M.length = m) : NR (w.alloc (.cells cs 36)) (.slice (some ⟨w.heap.size, 0, none⟩) m m) M (some ⟨w.heap.size, 0, none⟩) m := by
  subst hcs hm
  have hbl : Bl 36 (w.alloc (.cells (nCs M).toArray 36)) w.heap.size (nCs M) := alloc_bl _ _ _
  refine ⟨rfl, Nat.le_refl _, .inr ⟨w.heap.size, 0, rfl, hbl.lt, fun j u hu => ?_⟩⟩
  rw [Nat.zero_add]
  obtain ⟨hj, e⟩ := List.getElem?_eq_some_iff.1 hu
  rw [← e]
  exact hbl.cell j hj


set_option maxRecDepth 100000 in
set_option maxHeartbeats 4000000 in
/-- The document's valid. -/
theorem rvalid17_any (t : List UInt8) (w : World) (hl : t.length ≤ 100000000) : Calls Tryd.prog 11 #[.string ⟨t.toArray⟩] w fun e w' => e = .returned (.bool (Lib.validD t)) ∧ Below w.heap.size w w' := by
  have CS := rshaped_any [⟨5, [], t, false, 0, 0⟩] (some ⟨w.heap.size, 0, none⟩) 1 _ (three_nr w [⟨5, [], t, false, 0, 0⟩] #[.int .i64 5, .string ⟨#[]⟩, .string ⟨t.toArray⟩, .bool false, .int .i64 0, .int .i64 0] rfl 1 rfl) (by simp) (ts_of (B := 100000000) (fun n hn => by
    rw [List.mem_singleton.1 hn]
    exact ⟨hl, by simp⟩) (by omega))
  rw [shaped_one] at CS
  obtain ⟨w3, hw3⟩ : ∃ x, w.alloc (.cells #[.int .i64 5, .string ⟨#[]⟩, .string ⟨t.toArray⟩, .bool false, .int .i64 0, .int .i64 0] 36) = x := ⟨_, rfl⟩
  rw [hw3] at CS
  have HB3 : Hid (Below w.heap.size w w3) := by rw [← hw3]; exact alloc_below _ _
  have HW3 : Hid (w.alloc (.cells #[.int .i64 5, .string ⟨#[]⟩, .string ⟨t.toArray⟩, .bool false, .int .i64 0, .int .i64 0] 36) = w3) := hw3
  have CS : Calls Tryd.prog 18 #[.slice (some ⟨w.heap.size, 0, none⟩) 1 1] w3 fun e w' => e = .returned (.bool (Lib.validD t)) ∧ Below w3.heap.size w3 w' := CS
  clear hw3
  go_enter Tryd.func11, Tryd.ntmps11
  go_wp2_with fail
  rw [HW3.out]
  clear HW3
  refine CS.mono ?_
  clear CS
  rintro e w4 ⟨rfl, hB4⟩
  have HBz : Hid (Below w.heap.size w w4) := HB3.out.trans (hB4.mono HB3.out.size)
  clear hB4
  go_wp2
  go_ret
  exact ⟨rfl, HBz.out⟩

theorem wr_bd {h : Hd} {B : Nat} (hB : 100 ≤ B) (hk : h.kid.length ≤ B) (ht : h.typ.length ≤ B) : ∀ n ∈ wrF h, n.text.length ≤ B ∧ n.key.length ≤ B := by
  intro n hn
  have hnm : (nameF' h.alg).length ≤ B := by
    unfold nameF'
    split
    · rename_i hr
      have h13 : ∀ k, k < 13 → (algN k).length ≤ 100 := by decide +kernel
      have := h13 h.alg.toNat (by omega)
      omega
    · simp
  unfold wrF at hn
  cases hh : h.has
  · rw [hh] at hn
    simp at hn
    rcases hn with rfl | rfl | rfl <;> simp <;> omega
  · rw [hh] at hn
    simp at hn
    rcases hn with rfl | rfl | rfl | rfl <;> simp <;> omega

set_option maxRecDepth 100000 in
set_option maxHeartbeats 32000000 in
/-- The document's Print of a header. -/
theorem rhprint_any (h : Hd) (w : World) (hk : h.kid.length ≤ 100000000) (ht : h.typ.length ≤ 100000000) :
    Calls Tryd.prog 5 #[hdV h] w fun e w' => e = .returned (.tuple #[.string ⟨(hprintF h).1.toArray⟩, .int .i64 ((hprintF h).2 : Int)]) ∧ Below w.heap.size w w' := by
  have hgb := wr_bd (h := h) (B := 100000000) (by omega) hk ht
  have hgl : (wrF h).length ≤ 10 := by unfold wrF; cases h.has <;> simp
  have HPR : Hid (∀ ao2 cap2 m wq, (wrF h).length = m → NR wq (.slice ao2 m cap2) (wrF h) ao2 cap2 → Calls Tryd.prog 12 #[.slice ao2 m cap2] wq fun e w' => e = .returned (.tuple #[.string ⟨(printF (wrF h)).1.toArray⟩, .int .i64 ((printF (wrF h)).2 : Int)]) ∧ Below wq.heap.size wq w') := fun ao2 cap2 m wq hm hn => by
    subst hm
    exact rprint_any (wrF h) ao2 cap2 wq hn (by omega) (ts_of hgb (by omega)) (by
      have h1 := sumW_le hgb
      have h2 : (wrF h).length * (12 * 100000000 + 12) ≤ 10 * (12 * 100000000 + 12) := Nat.mul_le_mul_right _ hgl
      omega)
  have HF : Hid (hprintF h = if nameF' h.alg = [] then ([], 111) else if Lib.validD h.kid = false ∨ (h.has = true ∧ Lib.validD h.typ = false) then ([], 110) else printF (wrF h)) := rfl
  have HWR : Hid (wrF h = ⟨7, [], [], false, 0, if h.has then 3 else 2⟩ :: ⟨5, kA, nameF' h.alg, false, 0, 0⟩ :: ⟨5, kK, h.kid, false, 0, 0⟩ :: (if h.has then [⟨5, kT, h.typ, false, 0, 0⟩] else [])) := rfl
  have HNM : Hid (∀ wq, Calls Tryd.prog 10 #[.int .i64 h.alg] wq fun e w' => e = .returned (.string ⟨(nameF' h.alg).toArray⟩) ∧ Below wq.heap.size wq w') := fun wq => rname_any h.alg wq
  generalize wrF h = V at *
  generalize hprintF h = R at *
  clear hgb hgl
  unfold hdV
  obtain ⟨alg, kid, typ, has⟩ := h
  dsimp only at *
  generalize nameF' alg = nm at *
  obtain ⟨W, hW⟩ : ∃ W : World, w.alloc (.cells #[.int .i64 alg, .string ⟨kid.toArray⟩, .string ⟨typ.toArray⟩, .bool has] 24) = W := ⟨_, rfl⟩
  have hB : Below w.heap.size w W := by rw [← hW]; exact alloc_below _ _
  have hBl : Bl 24 W w.heap.size [.int .i64 alg, .string ⟨kid.toArray⟩, .string ⟨typ.toArray⟩, .bool has] := by rw [← hW]; exact alloc_bl _ _ _
  have HBW : Hid (Below w.heap.size w W) := hB
  have HCW : Hid (∀ wx, Below W.heap.size W wx → Bl 24 wx w.heap.size [.int .i64 alg, .string ⟨kid.toArray⟩, .string ⟨typ.toArray⟩, .bool has]) := fun wx hx => hBl.below hx hBl.lt
  have HW : Hid (w.alloc (.cells #[.int .i64 alg, .string ⟨kid.toArray⟩, .string ⟨typ.toArray⟩, .bool has] 24) = W) := hW
  have c0 := hBl.cell 0 (by simp)
  have C0 := HNM.out W
  clear hW hB hBl
  go_enter Tryd.func5, Tryd.ntmps5
  go_upto_region 1 with fail
  rw [HW.out]
  clear HW
  go_wp2_with fail
  refine C0.mono ?_
  clear C0 c0
  rintro e w2 ⟨rfl, hB2⟩
  have B2 : Hid (Below W.heap.size W w2) := hB2
  by_cases hnm : nm = []
  · subst hnm
    have HX : Hid (R = ([], 111)) := by show _ = _; rw [HF.out]; exact if_pos rfl
    have HBz : Hid (Below w.heap.size w w2) := HBW.out.trans (hB2.mono HBW.out.size)
    clear hB2 HF HNM HPR HWR HCW
    go_wp2
    go_ret2
    rw [HX.out]
    exact ⟨rfl, HBz.out⟩
  have qn : (nm == []) = false := by simpa using hnm
  have qn2 : decide (nm = []) = false := decide_eq_false hnm
  have c1 := (HCW.out w2 hB2).cell 1 (by simp)
  have CV := rvalid17_any kid w2 hk
  have HF1 : Hid (R = if Lib.validD kid = false ∨ (has = true ∧ Lib.validD typ = false) then ([], 110) else printF V) := by show _ = _; rw [HF.out]; exact if_neg hnm
  clear hB2 HF hnm
  go_wp2_with fail
  refine CV.mono ?_
  clear CV c1
  rintro e w3 ⟨rfl, hB3⟩
  have B3 : Hid (Below W.heap.size W w3) := B2.out.trans (hB3.mono B2.out.size)
  have HBz3 : Hid (Below w.heap.size w w3) := HBW.out.trans (B3.out.mono HBW.out.size)
  clear hB3 B2
  cases hv : Lib.validD kid with
  | false =>
    have HX : Hid (R = ([], 110)) := by show _ = _; rw [HF1.out, hv]; exact if_pos (Or.inl rfl)
    have HBz : Hid (Below w.heap.size w w3) := HBz3.out
    clear HF1 HNM HPR HWR HCW
    go_wp2
    go_ret2
    rw [HX.out]
    exact ⟨rfl, HBz.out⟩
  | true =>
    have c3 := (HCW.out w3 B3.out).cell 3 (by simp)
    cases has with
    | false =>
      have HX : Hid (R = printF V) := by show _ = _; rw [HF1.out, hv]; exact if_neg (by rintro (h | ⟨h, _⟩) <;> cases h)
      have HBz : Hid (Below w.heap.size w w3) := HBz3.out
      have HVe : Hid (V = [⟨7, [], [], false, 0, 2⟩, ⟨5, kA, nm, false, 0, 0⟩, ⟨5, kK, kid, false, 0, 0⟩]) := HWR.out
      obtain ⟨w5, hw5⟩ : ∃ x, w3 = x := ⟨_, rfl⟩
      subst hw5
      have HCB : Hid (∀ wx, Below w3.heap.size w3 wx → Bl 24 wx w.heap.size [.int .i64 alg, .string ⟨kid.toArray⟩, .string ⟨typ.toArray⟩, .bool false]) := fun wx hx => HCW.out wx (B3.out.trans (hx.mono B3.out.size))
      have HSS : Hid (∀ wx, Below w3.heap.size w3 wx → (fun (w' : World) => w'.cell? ⟨w.heap.size, 0, none⟩ = some (.int .i64 alg) ∧ w'.cell? ⟨w.heap.size, 1, none⟩ = some (.string ⟨kid.toArray⟩)) wx) := fun wx hx => ⟨(HCB.out wx hx).cell 0 (by simp), (HCB.out wx hx).cell 1 (by simp)⟩
      clear HF1 HCW hv HWR
      go_upto_region 5 with fail
      refine wp_region_K 9 (fun (w' : World) => w'.cell? ⟨w.heap.size, 0, none⟩ = some (.int .i64 alg) ∧ w'.cell? ⟨w.heap.size, 1, none⟩ = some (.string ⟨kid.toArray⟩)) (by kernel_rfl) ?_
      have hHeld : (fun (w' : World) => w'.cell? ⟨w.heap.size, 0, none⟩ = some (.int .i64 alg) ∧ w'.cell? ⟨w.heap.size, 1, none⟩ = some (.string ⟨kid.toArray⟩)) (World.drew _) := HSS.out _ (below_drewN (Below.refl _ _) 1)
      refine wpAnyK_take0 0 (v := ?v1) rfl (by kernel_rfl) (fun _ _ _ h => h) (Or.inl ⟨by rfl, ?hy1⟩) (fun _ => hHeld) ?_
      case hy1 => (intro w hSw; go_simp; try with_reducible rfl)
      try simp only [Act.put, List.setIfInBounds_toArray, List.set_cons_zero, List.set_cons_succ]
      refine wpAnyK_take0 1 (v := ?v2) rfl (by kernel_rfl) (fun _ _ _ h => h) (Or.inl ⟨by rfl, ?hy2⟩) (fun _ => hHeld) ?_
      case hy2 => (intro w hSw; go_simp; try with_reducible rfl)
      try simp only [Act.put, List.setIfInBounds_toArray, List.set_cons_zero, List.set_cons_succ]
      refine wpAnyK_take0 5 (v := ?v3) rfl (by kernel_rfl) (fun _ _ _ h => h) (Or.inl ⟨by rfl, ?hy3⟩) (fun _ => hHeld) ?_
      case hy3 => (intro w hSw; go_simp; try with_reducible rfl)
      try simp only [Act.put, List.setIfInBounds_toArray, List.set_cons_zero, List.set_cons_succ]
      refine wpAnyK_take 2 [3, 4, 8, 9] (v := ?v4) rfl (by kernel_rfl) (fun _ _ _ h => h) (Or.inl ⟨by rfl, ?hy4⟩) hHeld ?_
      case hy4 => (intro w hSw; (try dsimp only at hSw); go_simp; try with_reducible rfl)
      try simp only [Act.put, List.setIfInBounds_toArray, List.set_cons_zero, List.set_cons_succ]
      refine wpAnyK_take 6 [7, 8, 9] (v := ?v5) rfl (by kernel_rfl) (fun _ _ _ h => h) (Or.inl ⟨by rfl, ?hy5⟩) hHeld ?_
      case hy5 => (intro w hSw; (try dsimp only at hSw); go_simp; try with_reducible rfl)
      try simp only [Act.put, List.setIfInBounds_toArray, List.set_cons_zero, List.set_cons_succ]
      refine wpAnyK_take0 7 (v := ?v6) rfl (by kernel_rfl) (fun _ _ _ h => h) (Or.inl ⟨by rfl, ?hy6⟩) (fun _ => hHeld) ?_
      case hy6 => (intro w hSw; go_simp; try with_reducible rfl)
      try simp only [Act.put, List.setIfInBounds_toArray, List.set_cons_zero, List.set_cons_succ]
      refine wpAnyK_step 3 rfl (by kernel_rfl) (fun K hK => ?_)
      go_simp
      refine (HNM.out _).mono ?_
      rintro e w6 ⟨rfl, hB6⟩
      have HB6 : Hid (Below w3.heap.size w3 w6) := (below_drewN (Below.refl _ _) 1).trans (hB6.mono (Nat.le_refl _))
      clear hB6
      dsimp only
      refine hK.out _ _ ?hk1 ?_
      case hk1 => exact fun _ => HSS.out _ HB6.out
      have hHeld : (fun (w' : World) => w'.cell? ⟨w.heap.size, 0, none⟩ = some (.int .i64 alg) ∧ w'.cell? ⟨w.heap.size, 1, none⟩ = some (.string ⟨kid.toArray⟩)) _ := HSS.out _ HB6.out
      clear hK K
      try simp only [Act.put, List.setIfInBounds_toArray, List.set_cons_zero, List.set_cons_succ]
      refine wpAnyK_take0 4 (v := ?v7) rfl (by kernel_rfl) (fun _ _ _ h => h) (Or.inl ⟨by rfl, ?hy7⟩) (fun _ => hHeld) ?_
      case hy7 => (intro w hSw; go_simp; try with_reducible rfl)
      try simp only [Act.put, List.setIfInBounds_toArray, List.set_cons_zero, List.set_cons_succ]
      refine wpAnyK_step 8 rfl (by kernel_rfl) (fun K hK => ?_)
      go_simp
      obtain ⟨w7, hw7⟩ : ∃ x, w6.alloc (.cells #[.int .i64 7, .string ⟨#[]⟩, .string ⟨#[]⟩, .bool false, .int .i64 0, .int .i64 2, .int .i64 5, .string ⟨#[97, 108, 103]⟩, .string ⟨nm.toArray⟩, .bool false, .int .i64 0, .int .i64 0, .int .i64 5, .string ⟨#[107, 105, 100]⟩, .string ⟨kid.toArray⟩, .bool false, .int .i64 0, .int .i64 0] 36) = x := ⟨_, rfl⟩
      have HB7 : Hid (Below w3.heap.size w3 w7) := by rw [← hw7]; exact HB6.out.trans ((alloc_below _ _).mono HB6.out.size)
      have HN7 : Hid (NO w.heap.size w7 (.slice (some ⟨w6.heap.size, 0, none⟩) 3 3) [⟨7, [], [], false, 0, 2⟩, ⟨5, kA, nm, false, 0, 0⟩, ⟨5, kK, kid, false, 0, 0⟩]) := by
        rw [← hw7]
        exact World.ownsRow_lit w6 #[.int .i64 7, .string ⟨#[]⟩, .string ⟨#[]⟩, .bool false, .int .i64 0, .int .i64 2, .int .i64 5, .string ⟨#[97, 108, 103]⟩, .string ⟨nm.toArray⟩, .bool false, .int .i64 0, .int .i64 0, .int .i64 5, .string ⟨#[107, 105, 100]⟩, .string ⟨kid.toArray⟩, .bool false, .int .i64 0, .int .i64 0] 3 (Nat.le_trans HBz.out.size HB6.out.size) (by decide) rfl
      have HW7 : Hid (w6.alloc (.cells #[.int .i64 7, .string ⟨#[]⟩, .string ⟨#[]⟩, .bool false, .int .i64 0, .int .i64 2, .int .i64 5, .string ⟨#[97, 108, 103]⟩, .string ⟨nm.toArray⟩, .bool false, .int .i64 0, .int .i64 0, .int .i64 5, .string ⟨#[107, 105, 100]⟩, .string ⟨kid.toArray⟩, .bool false, .int .i64 0, .int .i64 0] 36) = w7) := hw7
      clear hw7
      rw [HW7.out]
      refine hK.out _ _ ?hk3 ?_
      case hk3 => exact fun _ => HSS.out _ HB7.out
      clear hK K
      try simp only [Act.put, List.setIfInBounds_toArray, List.set_cons_zero, List.set_cons_succ]
      refine wpAnyK_step 9 rfl (by kernel_rfl) (fun K hK => ?_)
      go_simp
      refine hK.out _ _ ?hk5 ?_
      case hk5 => exact (fun h => nomatch (h.symm.trans (show _ = true by kernel_rfl)))
      clear hK K
      try simp only [Act.put, List.setIfInBounds_toArray, List.set_cons_zero, List.set_cons_succ]
      refine wpAnyK_done (by kernel_rfl) ?_ _
      obtain ⟨bv, hbv⟩ : ∃ b, w6.heap.size = b := ⟨_, rfl⟩
      rw [hbv] at HN7 ⊢
      have HBw : Hid (Below w.heap.size w w7) := HBz.out.trans (HB7.out.mono HBz.out.size)
      have c3 := (HCB.out w7 HB7.out).cell 3 (by simp)
      have c2 := (HCB.out w7 HB7.out).cell 2 (by simp)
      clear HW7 hbv HB6 HNM HSS
      obtain ⟨a9, c9, hr9⟩ := HN7.out.nr
      obtain ⟨e9, _, _⟩ := id hr9
      cases e9
      have CP := HPR.out (some ⟨bv, 0, none⟩) 3 3 w7 (by rw [HVe.out]; rfl) (by rw [HVe.out]; exact hr9)
      generalize printF V = pv at *
      obtain ⟨px, pe⟩ := pv
      dsimp only at CP
      clear hr9 HPR HN7 c2
      go_wp2_with fail
      refine CP.mono ?_
      clear CP
      rintro e w9 ⟨rfl, hB9⟩
      have HB9 : Hid (Below w.heap.size w w9) := HBw.out.trans (hB9.mono HBw.out.size)
      clear hB9
      go_wp2
      go_ret2
      rw [HX.out]
      exact ⟨rfl, HB9.out⟩
    | true =>
      have c2 := (HCW.out w3 B3.out).cell 2 (by simp)
      have CV := rvalid17_any typ w3 ht
      go_wp2_with fail
      refine CV.mono ?_
      clear CV c2 c3
      rintro e w5 ⟨rfl, hB5⟩
      have B5 : Hid (Below W.heap.size W w5) := B3.out.trans (hB5.mono B3.out.size)
      have HBz : Hid (Below w.heap.size w w5) := HBW.out.trans (B5.out.mono HBW.out.size)
      clear hB5 B3 HBz3
      cases hv2 : Lib.validD typ with
      | false =>
        have HX : Hid (R = ([], 110)) := by show _ = _; rw [HF1.out, hv2]; exact if_pos (Or.inr ⟨by trivial, by trivial⟩)
        clear HF1 HNM HPR HWR HCW
        go_wp2
        go_ret2
        rw [HX.out]
        exact ⟨rfl, HBz.out⟩
      | true =>
        have HX : Hid (R = printF V) := by show _ = _; rw [HF1.out, hv, hv2]; exact if_neg (by rintro (h | ⟨_, h⟩) <;> cases h)
        have HVe : Hid (V = [⟨7, [], [], false, 0, 3⟩, ⟨5, kA, nm, false, 0, 0⟩, ⟨5, kK, kid, false, 0, 0⟩] ++ [⟨5, kT, typ, false, 0, 0⟩]) := HWR.out
        have HCB : Hid (∀ wx, Below w5.heap.size w5 wx → Bl 24 wx w.heap.size [.int .i64 alg, .string ⟨kid.toArray⟩, .string ⟨typ.toArray⟩, .bool true]) := fun wx hx => HCW.out wx (B5.out.trans (hx.mono B5.out.size))
        have HSS : Hid (∀ wx, Below w5.heap.size w5 wx → (fun (w' : World) => w'.cell? ⟨w.heap.size, 0, none⟩ = some (.int .i64 alg) ∧ w'.cell? ⟨w.heap.size, 1, none⟩ = some (.string ⟨kid.toArray⟩)) wx) := fun wx hx => ⟨(HCB.out wx hx).cell 0 (by simp), (HCB.out wx hx).cell 1 (by simp)⟩
        clear HF1 HCW hv hv2 HWR
        go_upto_region 5 with fail
        refine wp_region_K 9 (fun (w' : World) => w'.cell? ⟨w.heap.size, 0, none⟩ = some (.int .i64 alg) ∧ w'.cell? ⟨w.heap.size, 1, none⟩ = some (.string ⟨kid.toArray⟩)) (by kernel_rfl) ?_
        have hHeld : (fun (w' : World) => w'.cell? ⟨w.heap.size, 0, none⟩ = some (.int .i64 alg) ∧ w'.cell? ⟨w.heap.size, 1, none⟩ = some (.string ⟨kid.toArray⟩)) (World.drew _) := HSS.out _ (below_drewN (Below.refl _ _) 1)
        refine wpAnyK_take0 0 (v := ?v1) rfl (by kernel_rfl) (fun _ _ _ h => h) (Or.inl ⟨by rfl, ?hy1⟩) (fun _ => hHeld) ?_
        case hy1 => (intro w hSw; go_simp; try with_reducible rfl)
        try simp only [Act.put, List.setIfInBounds_toArray, List.set_cons_zero, List.set_cons_succ]
        refine wpAnyK_take0 1 (v := ?v2) rfl (by kernel_rfl) (fun _ _ _ h => h) (Or.inl ⟨by rfl, ?hy2⟩) (fun _ => hHeld) ?_
        case hy2 => (intro w hSw; go_simp; try with_reducible rfl)
        try simp only [Act.put, List.setIfInBounds_toArray, List.set_cons_zero, List.set_cons_succ]
        refine wpAnyK_take0 5 (v := ?v3) rfl (by kernel_rfl) (fun _ _ _ h => h) (Or.inl ⟨by rfl, ?hy3⟩) (fun _ => hHeld) ?_
        case hy3 => (intro w hSw; go_simp; try with_reducible rfl)
        try simp only [Act.put, List.setIfInBounds_toArray, List.set_cons_zero, List.set_cons_succ]
        refine wpAnyK_take 2 [3, 4, 8, 9] (v := ?v4) rfl (by kernel_rfl) (fun _ _ _ h => h) (Or.inl ⟨by rfl, ?hy4⟩) hHeld ?_
        case hy4 => (intro w hSw; (try dsimp only at hSw); go_simp; try with_reducible rfl)
        try simp only [Act.put, List.setIfInBounds_toArray, List.set_cons_zero, List.set_cons_succ]
        refine wpAnyK_take 6 [7, 8, 9] (v := ?v5) rfl (by kernel_rfl) (fun _ _ _ h => h) (Or.inl ⟨by rfl, ?hy5⟩) hHeld ?_
        case hy5 => (intro w hSw; (try dsimp only at hSw); go_simp; try with_reducible rfl)
        try simp only [Act.put, List.setIfInBounds_toArray, List.set_cons_zero, List.set_cons_succ]
        refine wpAnyK_take0 7 (v := ?v6) rfl (by kernel_rfl) (fun _ _ _ h => h) (Or.inl ⟨by rfl, ?hy6⟩) (fun _ => hHeld) ?_
        case hy6 => (intro w hSw; go_simp; try with_reducible rfl)
        try simp only [Act.put, List.setIfInBounds_toArray, List.set_cons_zero, List.set_cons_succ]
        refine wpAnyK_step 3 rfl (by kernel_rfl) (fun K hK => ?_)
        go_simp
        refine (HNM.out _).mono ?_
        rintro e w6 ⟨rfl, hB6⟩
        have HB6 : Hid (Below w5.heap.size w5 w6) := (below_drewN (Below.refl _ _) 1).trans (hB6.mono (Nat.le_refl _))
        clear hB6
        dsimp only
        refine hK.out _ _ ?hk1 ?_
        case hk1 => exact fun _ => HSS.out _ HB6.out
        have hHeld : (fun (w' : World) => w'.cell? ⟨w.heap.size, 0, none⟩ = some (.int .i64 alg) ∧ w'.cell? ⟨w.heap.size, 1, none⟩ = some (.string ⟨kid.toArray⟩)) _ := HSS.out _ HB6.out
        clear hK K
        try simp only [Act.put, List.setIfInBounds_toArray, List.set_cons_zero, List.set_cons_succ]
        refine wpAnyK_take0 4 (v := ?v7) rfl (by kernel_rfl) (fun _ _ _ h => h) (Or.inl ⟨by rfl, ?hy7⟩) (fun _ => hHeld) ?_
        case hy7 => (intro w hSw; go_simp; try with_reducible rfl)
        try simp only [Act.put, List.setIfInBounds_toArray, List.set_cons_zero, List.set_cons_succ]
        refine wpAnyK_step 8 rfl (by kernel_rfl) (fun K hK => ?_)
        go_simp
        obtain ⟨w7, hw7⟩ : ∃ x, w6.alloc (.cells #[.int .i64 7, .string ⟨#[]⟩, .string ⟨#[]⟩, .bool false, .int .i64 0, .int .i64 2, .int .i64 5, .string ⟨#[97, 108, 103]⟩, .string ⟨nm.toArray⟩, .bool false, .int .i64 0, .int .i64 0, .int .i64 5, .string ⟨#[107, 105, 100]⟩, .string ⟨kid.toArray⟩, .bool false, .int .i64 0, .int .i64 0] 36) = x := ⟨_, rfl⟩
        have HB7 : Hid (Below w5.heap.size w5 w7) := by rw [← hw7]; exact HB6.out.trans ((alloc_below _ _).mono HB6.out.size)
        have HN7 : Hid (NO w.heap.size w7 (.slice (some ⟨w6.heap.size, 0, none⟩) 3 3) [⟨7, [], [], false, 0, 2⟩, ⟨5, kA, nm, false, 0, 0⟩, ⟨5, kK, kid, false, 0, 0⟩]) := by
          rw [← hw7]
          exact World.ownsRow_lit w6 #[.int .i64 7, .string ⟨#[]⟩, .string ⟨#[]⟩, .bool false, .int .i64 0, .int .i64 2, .int .i64 5, .string ⟨#[97, 108, 103]⟩, .string ⟨nm.toArray⟩, .bool false, .int .i64 0, .int .i64 0, .int .i64 5, .string ⟨#[107, 105, 100]⟩, .string ⟨kid.toArray⟩, .bool false, .int .i64 0, .int .i64 0] 3 (Nat.le_trans HBz.out.size HB6.out.size) (by decide) rfl
        have HW7 : Hid (w6.alloc (.cells #[.int .i64 7, .string ⟨#[]⟩, .string ⟨#[]⟩, .bool false, .int .i64 0, .int .i64 2, .int .i64 5, .string ⟨#[97, 108, 103]⟩, .string ⟨nm.toArray⟩, .bool false, .int .i64 0, .int .i64 0, .int .i64 5, .string ⟨#[107, 105, 100]⟩, .string ⟨kid.toArray⟩, .bool false, .int .i64 0, .int .i64 0] 36) = w7) := hw7
        clear hw7
        rw [HW7.out]
        refine hK.out _ _ ?hk3 ?_
        case hk3 => exact fun _ => HSS.out _ HB7.out
        clear hK K
        try simp only [Act.put, List.setIfInBounds_toArray, List.set_cons_zero, List.set_cons_succ]
        refine wpAnyK_step 9 rfl (by kernel_rfl) (fun K hK => ?_)
        go_simp
        refine hK.out _ _ ?hk5 ?_
        case hk5 => exact (fun h => nomatch (h.symm.trans (show _ = true by kernel_rfl)))
        clear hK K
        try simp only [Act.put, List.setIfInBounds_toArray, List.set_cons_zero, List.set_cons_succ]
        refine wpAnyK_done (by kernel_rfl) ?_ _
        obtain ⟨bv, hbv⟩ : ∃ b, w6.heap.size = b := ⟨_, rfl⟩
        rw [hbv] at HN7 ⊢
        have HBw : Hid (Below w.heap.size w w7) := HBz.out.trans (HB7.out.mono HBz.out.size)
        have c3 := (HCB.out w7 HB7.out).cell 3 (by simp)
        have c2 := (HCB.out w7 HB7.out).cell 2 (by simp)
        clear HW7 hbv HB6 HNM HSS
        have hO7 := HN7.out
        unfold NO at hO7
        obtain ⟨k5, f5⟩ := own_cell hO7 5 (.int .i64 2) rfl
        have hst := World.ownsRow.stored hO7 5 (.int .i64 3)
        have hne : w.heap.size ≠ bv := fun e => by
          have h8 := (HCB.out w7 HB7.out)
          unfold Bl at h8
          rcases hO7.2 with ⟨h9, _⟩ | ⟨g9, cap9, cur9, h9, _, hh, _⟩
          · cases h9
          · cases h9
            rw [e, hh] at h8
            injection h8 with h8
            injection h8 with _ h8
            exact absurd h8 (by decide)
        obtain ⟨w8, hw8⟩ : ∃ x, w7.setCell ⟨bv, 5, none⟩ (.int .i64 3) = x := ⟨_, rfl⟩
        rw [hw8] at hst
        have HN8 : Hid (NO w.heap.size w8 (.slice (some ⟨bv, 0, none⟩) 3 3) [⟨7, [], [], false, 0, 3⟩, ⟨5, kA, nm, false, 0, 0⟩, ⟨5, kK, kid, false, 0, 0⟩]) := hst.1
        have hb8 : Below w.heap.size w w8 := by rw [← hw8]; exact HBw.out.setCell (hO7.lt bv rfl).1 _
        have c2' : w8.cell? ⟨w.heap.size, 2, none⟩ = some (.string ⟨typ.toArray⟩) := by
          rw [← hw8]
          exact (bl_other (HCB.out w7 HB7.out) hne).cell 2 (by simp)
        have HB8 : Hid (Below w.heap.size w w8) := hb8
        have hS8 : w.heap.size ≤ w8.heap.size := hb8.size
        clear hO7 hst hb8 HN7 HBw HCB hne c2
        go_upto_region 8 with fail
        clear hw8 k5 f5 c3
        go_wp2_with (at_builtin; refine append_nd (wr := w8) rfl (.tmp 39) (.tmp 43) rfl w.heap.size (.slice (some ⟨bv, 0, none⟩) 3 3) [⟨7, [], [], false, 0, 3⟩, ⟨5, kA, nm, false, 0, 0⟩, ⟨5, kK, kid, false, 0, 0⟩] ⟨5, kT, typ, false, 0, 0⟩ rfl HN8.out w8.heap.size rfl rfl (by simp) hS8 ?_; intro g9 cap9 w9 ho9 hg9 _; have HN9 : Hid (NO w.heap.size w9 (.slice (some ⟨g9, 0, none⟩) 4 cap9) ([⟨7, [], [], false, 0, 3⟩, ⟨5, kA, nm, false, 0, 0⟩, ⟨5, kK, kid, false, 0, 0⟩] ++ [⟨5, kT, typ, false, 0, 0⟩])) := ho9; have HB9 : Hid (Below w.heap.size w w9) := ((HB8.out.trans ((alloc_below _ _).mono HB8.out.size)).grown hg9 (by rw [alloc_size]; omega) (own_block HN8.out)); clear ho9 hg9)
        obtain ⟨a9, c9, hr9⟩ := HN9.out.nr
        obtain ⟨e9, _, _⟩ := id hr9
        cases e9
        have CP := HPR.out (some ⟨g9, 0, none⟩) cap9 4 w9 (by rw [HVe.out]; rfl) (by rw [HVe.out]; exact hr9)
        generalize printF V = pv at *
        obtain ⟨px, pe⟩ := pv
        dsimp only at CP
        clear hr9 HPR HN9
        go_wp2_with fail
        refine CP.mono ?_
        clear CP
        rintro e wa ⟨rfl, hBa⟩
        have HBa : Hid (Below w.heap.size w wa) := HB9.out.trans (hBa.mono HB9.out.size)
        clear hBa
        go_wp2
        go_ret2
        rw [HX.out]
        exact ⟨rfl, HBa.out⟩

end Go.Proofs.YtglnhlmacngdpaaDoor

namespace Go.Proofs.YtglnhlmacngdpaaDoor
open Go.RowKit Go.Shelf

set_option maxRecDepth 100000 in
set_option maxHeartbeats 8000000 in
/-- The law. -/
theorem hwrites_any (h : Hd) (w : World) (hG : GL w.heap.size w) (hA : Alg w) (hk : h.kid.length ≤ 100000000) (ht : h.typ.length ≤ 100000000) :
    Calls Tryd.prog 3 #[hdV h] w fun e w' => e = .returned (.bool true) ∧ Below w.heap.size w w' := by
  have HCP : Hid (∀ wq, Below w.heap.size w wq → Calls Tryd.prog 4 #[hdV h] wq fun e w' => e = .returned (.tuple #[.string ⟨(hprintF h).1.toArray⟩, .int .i64 ((hprintF h).2 : Nat)]) ∧ Below wq.heap.size wq w') := fun wq hq => hprint_any h wq ((hG.below hq).up hq.size) (hA.bel hq (Nat.le_refl _)) (by omega) (by omega)
  have HCR : Hid (∀ wq, Calls Tryd.prog 5 #[hdV h] wq fun e w' => e = .returned (.tuple #[.string ⟨(hprintF h).1.toArray⟩, .int .i64 ((hprintF h).2 : Int)]) ∧ Below wq.heap.size wq w') := fun wq => rhprint_any h wq hk ht
  generalize hprintF h = R at *
  obtain ⟨px, pe⟩ := R
  clear hG hA
  unfold hdV at *
  obtain ⟨alg, kid, typ, has⟩ := h
  dsimp only at *
  obtain ⟨W, hW⟩ : ∃ W : World, w.alloc (.cells #[.int .i64 alg, .string ⟨kid.toArray⟩, .string ⟨typ.toArray⟩, .bool has] 24) = W := ⟨_, rfl⟩
  have hB : Below w.heap.size w W := by rw [← hW]; exact alloc_below _ _
  have hBl : Bl 24 W w.heap.size [.int .i64 alg, .string ⟨kid.toArray⟩, .string ⟨typ.toArray⟩, .bool has] := by rw [← hW]; exact alloc_bl _ _ _
  have HBW : Hid (Below w.heap.size w W) := hB
  have HW : Hid (w.alloc (.cells #[.int .i64 alg, .string ⟨kid.toArray⟩, .string ⟨typ.toArray⟩, .bool has] 24) = W) := hW
  have HRG : Hid (∀ wx, Below W.heap.size W wx → wx.rangeAt w.heap.size 0 [.int .i64 alg, .string ⟨kid.toArray⟩, .string ⟨typ.toArray⟩, .bool has]) := fun wx hx j v hv => by
    obtain ⟨hj, e⟩ := List.getElem?_eq_some_iff.1 hv
    rw [Nat.zero_add, ← e]
    exact (hBl.below hx hBl.lt).cell j hj
  have hcl : (Tryd.prog.info? 24).map (·.size) = some ([.int .i64 alg, .string ⟨kid.toArray⟩, .string ⟨typ.toArray⟩, .bool has] : List Value).length := by kernel_rfl
  have p1 := HRG.out W (Below.refl _ _)
  have C1 := HCP.out W hB
  clear hW hB hBl HCP
  go_enter Tryd.func3, Tryd.ntmps3
  go_upto_region 1 with fail
  rw [HW.out]
  clear HW
  go_wp2_with (first | (refine wpList_load_mid rfl 24 (.tmp 1) rfl w.heap.size 0 rfl [.int .i64 alg, .string ⟨kid.toArray⟩, .string ⟨typ.toArray⟩, .bool has] _ p1 Tryd.underlying24 rfl hcl ?_) | fail)
  refine C1.mono ?_
  clear C1 p1
  rintro e w2 ⟨rfl, hB2⟩
  have B2 : Hid (Below W.heap.size W w2) := hB2
  have p1 := HRG.out w2 hB2
  have C2 := HCR.out w2
  clear hB2 HCR HRG
  go_wp2_with (first | (refine wpList_load_mid rfl 24 (.tmp 1) rfl w.heap.size 0 rfl [.int .i64 alg, .string ⟨kid.toArray⟩, .string ⟨typ.toArray⟩, .bool has] _ p1 Tryd.underlying24 rfl hcl ?_) | fail)
  refine C2.mono ?_
  clear C2 p1
  rintro e w3 ⟨rfl, hB3⟩
  have HBz : Hid (Below w.heap.size w w3) := HBW.out.trans ((B2.out.trans (hB3.mono B2.out.size)).mono HBW.out.size)
  have qp : (px != px) = false := by simp
  have qp1 : (px == px) = true := by simp
  have qe1 : ((pe : Int) == (pe : Int)) = true := by simp
  clear hB3
  go_wp2
  go_ret
  exact ⟨rfl, HBz.out⟩

end Go.Proofs.YtglnhlmacngdpaaDoor
