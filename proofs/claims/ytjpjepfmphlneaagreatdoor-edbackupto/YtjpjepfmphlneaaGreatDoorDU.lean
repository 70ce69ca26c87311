import Derived.Test.YtjpjepfmphlneaaGreatDoorGC
namespace Go.Proofs.YtjpjepfmphlneaaGreatDoor
open Go.RowKit

set_option maxRecDepth 100000

theorem Apt.symm {u v : Value} (h : Apt u v) : Apt v u := fun g h1 h2 => h g h2 h1
theorem neg_eq {X : Nat} (h : X < eP) : fS eP 0 X = (eP - X) % eP := by
  rw [fS_sS (by decide +kernel)]
  unfold sS
  rw [Nat.zero_mod, Nat.zero_add, Nat.mod_eq_of_lt h]
/-- What Decode answers of 32 bytes. -/
def DecA (l : List UInt8) (w w' : World) (e : Ending) : Prop :=
  (∃ (P : Nat × Nat) (v : Value), onE eP eD P ∧ encL P = l ∧ e = .returned (.tuple #[v, .int .i64 0]) ∧ Pe w' w.heap.size v P) ∨
  ((∀ P, onE eP eD P → encL P ≠ l) ∧ e = .returned (.tuple #[.agg #[.slice none 0 0, .slice none 0 0, .bool false], .int .i64 93]))
theorem DecA.ok {l : List UInt8} {w w' : World} {v : Value} {U x y : Nat} (hl : l.length = 32) (hx : x = dcX U (leN l / h255)) (hy : y = leN l % h255) (ho : onV x y false = true) (hp : x % 2 = leN l / h255) (hv : Pe w' w.heap.size v (x, y)) : DecA l w w' (.returned (.tuple #[v, .int .i64 0])) := by
  have h := ((onV_iff _ _ _).1 ho).2
  refine .inl ⟨(x, y), v, h, (enc_iff h hl).2 ?_, rfl, hv⟩
  subst hx hy
  exact dec_ok hl h hp
theorem DecA.no {l : List UInt8} {w w' : World} {U x y : Nat} (hl : l.length = 32) (hU : U < eP ∧ (eP : Int) ∣ (1 + eD * ((y : Int) * y)) * U - ((y : Int) * y - 1)) (hx : x = dcX U (leN l / h255)) (hy : y = leN l % h255) (hn : ¬ (onV x y false = true ∧ x % 2 = leN l / h255)) : DecA l w w' (.returned (.tuple #[.agg #[.slice none 0 0, .slice none 0 0, .bool false], .int .i64 93])) := by
  refine .inr ⟨fun P hP he => hn ?_, rfl⟩
  subst hx hy
  have h := dec_no hU.1 hU.2 hP ((enc_iff hP hl).1 he)
  exact ⟨(onV_iff _ _ _).2 ⟨rfl, h.1⟩, h.2⟩
theorem take_set32 {cs : List Value} {m : List UInt8} {d d' : UInt8} (hm : m.length = 31) (_hn : 32 ≤ cs.length) (h : cs.take 32 = (m ++ [d]).map B) : (cs.set 31 (.int .u8 (d'.toNat : Int))).take 32 = (m ++ [d']).map B := by
  rw [List.take_set, h, List.map_append, List.map_append, List.set_append_right _ _ (by rw [List.length_map]; omega), List.length_map, hm]
  rfl
theorem results_cs {fn : Func} {p q : Tmp} {ty : TypeId} (h : fn.results = #[.cell p ty, .tmp q]) (tmps : Array Value) (P : Program) (w : World) :
    (results fn tmps).run P w = ((asAddr (tmps.getD p undef)).run P w).andThen fun a w₁ => ((loadVar ty a).run P w₁).andThen fun v w₂ => .ok (.tuple #[v, tmps.getD q undef]) w₂ := by
  simp only [results, h]
  simp [Sem.run_bind, Result.andThen]
set_option maxHeartbeats 8000000 in
theorem decode_true (ao : Option Addr) (c : Nat) (m : List UInt8) (d : UInt8) (w : World) (T : Te w) (hr : Rd w ao (m ++ [d])) (hm : m.length = 31) (hd : d.toNat / 128 = 1) :
    Calls Tryz.prog 14 #[.slice ao 32 c] w fun e w' => DecA (m ++ [d]) w w' e ∧ Below w.heap.size w w' := by
  obtain ⟨l, Hl⟩ : ∃ l, Hid (l = m ++ [d]) := ⟨_, rfl⟩
  have hl : l.length = 32 := by rw [Hl.out, List.length_append, hm]; rfl
  rw [← Hl.out] at hr ⊢
  obtain ⟨Y, HY⟩ : ∃ Y, Hid (Y = leN l % h255) := ⟨_, rfl⟩
  obtain ⟨d', Hd'⟩ : ∃ d', Hid (d' = d &&& 127) := ⟨_, rfl⟩
  have hYe : leN (m ++ [d']) = Y := by rw [HY.out, Hl.out, Hd'.out]; exact le_y d _ hm (andN80 d)
  have HO : Hid (leN l / h255 = 1) := (by rw [Hl.out, le_o d hm, hd] : leN l / h255 = 1)
  have hand := bit80 d
  rw [hd] at hand
  simp only [reduceIte] at hand
  have handn := bitn80 d
  rw [← Hd'.out] at handn
  have HF0 : Hid (Fm w (w.alloc (.cells #[.slice none 0 0, .slice none 0 0, .bool false] 31)) [(31, [.slice none 0 0, .slice none 0 0, .bool false])] [] []) := ((Fm.nil (w := w) (A := []) ar_nil).push (by simp) 31 [.slice none 0 0, .slice none 0 0, .bool false])
  have C := clone_v ao c l _ (hr.below HF0.out.bel (Nat.le_refl _)) (by omega) (by omega)
  rw [hl] at C
  have HT : Hid (Te w) := T
  clear T hr
  go_enter Tryz.func14, Tryz.ntmps14
  go_wp2_with fail
  generalize (w.alloc (.cells #[.slice none 0 0, .slice none 0 0, .bool false] 31)) = w0 at *
  refine C.mono ?_
  clear C
  rintro e w1 ⟨v, rfl, hO, hB⟩
  obtain ⟨g, cap, cs, rfl, hg, hgl, hb, hn, ht, hcap, hmx⟩ := hO.blk (by omega)
  rw [hl] at hn ht ⊢
  have e31 : cs[31]? = some (.int .u8 (d.toNat : Int)) := by
    rw [← List.getElem?_take_of_lt (show 31 < 32 by omega), ht, List.getElem?_map, Hl.out, List.getElem?_append_right (by omega), hm]
    rfl
  have c31 : w1.cell? ⟨g, 31, none⟩ = some (.int .u8 (d.toNat : Int)) := by
    rw [hb.cell 31 (by omega)]
    rw [List.getElem?_eq_getElem (by omega)] at e31
    exact e31
  have f31 := hb.frozen 31
  have hb2 := hb.set 31 (.int .u8 (d'.toNat : Int))
  have ht2 := take_set32 (d' := d') hm hn (Hl.out ▸ ht)
  have hrd : Rd (w1.setCell ⟨g, 31, none⟩ (.int .u8 (d'.toNat : Int))) (some ⟨g, 0, none⟩) (m ++ [d']) := rd_of hb2 (by rw [List.length_append, hm]; exact ht2) (by rw [List.length_append, hm, List.length_set]; exact hn)
  have hs0 := HF0.out.sz
  have HF2 : Hid (Fm w (w1.setCell ⟨g, 31, none⟩ (.int .u8 (d'.toNat : Int))) [(31, [.slice none 0 0, .slice none 0 0, .bool false])] [] []) := (HF0.out.below hB).butB ((But.refl w1 g).set 31 (.int .u8 (d'.toNat : Int))) (by omega)
  have C := lowest_v _ cap (m ++ [d']) _ hrd (by rw [List.length_append]; simp) (by rw [List.length_append, hm, List.length_singleton]; decide)
  rw [show (m ++ [d']).length = 32 by rw [List.length_append, hm]; rfl, hYe] at C
  clear e31 hb2 ht2 hrd hB hO hb ht hn hcap hmx hYe
  go_wp2_with fail
  clear c31 f31 hand handn
  generalize (w1.setCell ⟨g, 31, none⟩ (.int .u8 (d'.toNat : Int))) = w2 at *
  refine C.mono ?_
  clear C
  rintro e w3 ⟨yv, rfl, h⟩
  have HF3 : Hid (Fm w w3 [(31, [.slice none 0 0, .slice none 0 0, .bool false])] [] [(yv, Y, 256)]) := HF2.out.step h
  clear h
  go_wp2_with fail
  refine (beside_v _ Y _ (HT.out.below HF3.out.bel (Nat.le_refl _)) (HF3.out.got 0 (okb rfl))).mono ?_
  rintro e w4 ⟨xv, U, hU, rfl, h⟩
  have HU : Hid (U < eP ∧ (eP : Int) ∣ (1 + eD * ((Y : Int) * Y)) * U - ((Y : Int) * Y - 1)) := hU
  clear hU
  obtain ⟨X, HX⟩ : ∃ X, Hid (X = rtV U) := ⟨_, rfl⟩
  rw [← HX.out] at h
  have HF4 : Hid (Fm w w4 [(31, [.slice none 0 0, .slice none 0 0, .bool false])] [] [(xv, X, 256), (yv, Y, 256)]) := HF3.out.step h
  clear h
  obtain ⟨x0, x1, x2, rfl⟩ := (HF4.out.got 0 (okb rfl)).sl
  obtain ⟨y0, y1, y2, rfl⟩ := (HF4.out.got 1 (okb rfl)).sl
  go_wp2_with fail
  refine (ebit0_v _ X _ (HF4.out.got 0 (okb rfl)).1).mono ?_
  rintro e w4 ⟨rfl, rfl⟩
  by_cases hpx : X % 2 = 1
  · have hbx : decide (X % 2 = 1) = true := by rw [hpx]; rfl
    rw [hbx]
    go_wp2_with fail
    have HF6 : Hid (Fm w (w4.alloc (.cells #[.slice x0 x1 x2, .slice y0 y1 y2, .bool false] 31)) [(31, [.slice none 0 0, .slice none 0 0, .bool false])] [] [(.slice x0 x1 x2, X, 256), (.slice y0 y1 y2, Y, 256)]) := HF4.out.below (alloc_below _ _)
    have HP : Hid (Bl 31 (w4.alloc (.cells #[.slice x0 x1 x2, .slice y0 y1 y2, .bool false] 31)) w4.heap.size [.slice x0 x1 x2, .slice y0 y1 y2, .bool false]) := alloc_bl w4 [.slice x0 x1 x2, .slice y0 y1 y2, .bool false] 31
    have hs6 : w.heap.size + 1 ≤ w4.heap.size := HF4.out.sz
    generalize hw6 : (w4.alloc (.cells #[.slice x0 x1 x2, .slice y0 y1 y2, .bool false] 31)) = w6 at *
    clear hw6
    refine (ebit0_v _ X _ (HF6.out.got 0 (okb rfl)).1).mono ?_
    rintro e w6 ⟨rfl, rfl⟩
    rw [hbx]
    have k0 : w6.cell? ⟨w4.heap.size, 0, none⟩ = some (.slice x0 x1 x2) := HP.out.cell 0 (by simp)
    have k1 : w6.cell? ⟨w4.heap.size, 1, none⟩ = some (.slice y0 y1 y2) := HP.out.cell 1 (by simp)
    have k2 : w6.cell? ⟨w4.heap.size, 2, none⟩ = some (.bool false) := HP.out.cell 2 (by simp)
    go_wp2_with fail
    clear k0 k1 k2
    refine (on_v _ _ X Y false _ (HT.out.below HF6.out.bel (Nat.le_refl _)) (HF6.out.got 0 (okb rfl)).1 (HF6.out.got 1 (okb rfl)).1).mono ?_
    rintro e w7 ⟨rfl, hB7⟩
    have HF7 : Hid (Fm w w7 [(31, [.slice none 0 0, .slice none 0 0, .bool false])] [] [(.slice x0 x1 x2, X, 256), (.slice y0 y1 y2, Y, 256)]) := HF6.out.below hB7
    have HP7 : Hid (Bl 31 w7 w4.heap.size [.slice x0 x1 x2, .slice y0 y1 y2, .bool false]) := HP.out.below hB7 HP.out.lt
    clear hB7
    have k0 : w7.cell? ⟨w4.heap.size, 0, none⟩ = some (.slice x0 x1 x2) := HP7.out.cell 0 (by simp)
    have q0 : w7.cell? ⟨w.heap.size, 0, none⟩ = some (.slice none 0 0) := HF7.out.cell 0 0 (okb rfl) (okb rfl)
    have l0 : w7.frozen? ⟨w.heap.size, 0, none⟩ = false := HF7.out.frozen 0 0 (okb rfl)
    have k1 : w7.cell? ⟨w4.heap.size, 1, none⟩ = some (.slice y0 y1 y2) := HP7.out.cell 1 (by simp)
    have q1 : w7.cell? ⟨w.heap.size, 1, none⟩ = some (.slice none 0 0) := HF7.out.cell 0 1 (okb rfl) (okb rfl)
    have l1 : w7.frozen? ⟨w.heap.size, 1, none⟩ = false := HF7.out.frozen 0 1 (okb rfl)
    have k2 : w7.cell? ⟨w4.heap.size, 2, none⟩ = some (.bool false) := HP7.out.cell 2 (by simp)
    have q2 : w7.cell? ⟨w.heap.size, 2, none⟩ = some (.bool false) := HF7.out.cell 0 2 (okb rfl) (okb rfl)
    have l2 : w7.frozen? ⟨w.heap.size, 2, none⟩ = false := HF7.out.frozen 0 2 (okb rfl)
    cases hon : onV X Y false with
    | true =>
      have HON : Hid (onV X Y false = true) := hon
      clear hon
      go_wp2
      (try simp only [Exit.inBlock, Exit.then])
      have hb := (((But.refl w7 w.heap.size).set 0 (.slice x0 x1 x2)).set 1 (.slice y0 y1 y2)).set 2 (.bool false)
      have HPe : Pe _ w.heap.size (.agg #[.slice x0 x1 x2, .slice y0 y1 y2, .bool false]) (X, Y) := ⟨_, _, rfl, HF7.out.out 0 (by simp) hb 0 (by simp), HF7.out.out 0 (by simp) hb 1 (by simp), (HF7.out.apt 0 1 (by simp) (by simp) (by omega)).symm⟩
      refine bodyPost_ret (v := .tuple #[.agg #[.slice x0 x1 x2, .slice y0 y1 y2, .bool false], .int .i64 0]) ?_ rfl ⟨DecA.ok hl (by rw [HO.out]; unfold dcX; rw [← HX.out, if_pos hpx]) HY.out HON.out (HO.out ▸ hpx) HPe, HF7.out.outB 0 (by simp) hb⟩
      rw [results_cs rfl]; go_simp
    | false =>
      have HON : Hid (onV X Y false = false) := hon
      clear hon
      go_wp2
      (try simp only [Exit.inBlock, Exit.then])
      have hb := (((But.refl w7 w.heap.size).set 0 (.slice none 0 0)).set 1 (.slice none 0 0)).set 2 (.bool false)
      refine bodyPost_ret (v := .tuple #[.agg #[.slice none 0 0, .slice none 0 0, .bool false], .int .i64 93]) ?_ rfl ⟨DecA.no hl HU.out (by rw [HO.out]; unfold dcX; rw [← HX.out, if_pos hpx]) HY.out (fun h => absurd (HON.out.symm.trans h.1) (by decide)), HF7.out.outB 0 (by simp) hb⟩
      rw [results_cs rfl]; go_simp
  · have hbx : decide (X % 2 = 1) = false := by rw [decide_eq_false hpx]
    rw [hbx]
    go_wp2_with fail
    refine (esub_v _ _ 0 X 1 256 _ (HT.out.below HF4.out.bel (Nat.le_refl _)) (Nk.none _ 1) (HF4.out.got 0 (okb rfl)) (by decide) (by decide)).mono ?_
    rintro e w5 ⟨zv, rfl, h⟩
    obtain ⟨Z, HZ⟩ : ∃ Z, Hid (Z = fS eP 0 X) := ⟨_, rfl⟩
    rw [← HZ.out] at h
    have HF5 : Hid (Fm w w5 [(31, [.slice none 0 0, .slice none 0 0, .bool false])] [] [(zv, Z, 256), (.slice x0 x1 x2, X, 256), (.slice y0 y1 y2, Y, 256)]) := HF4.out.step h
    clear h
    obtain ⟨z0, z1, z2, rfl⟩ := (HF5.out.got 0 (okb rfl)).sl
    by_cases hpz : Z % 2 = 1
    · have hbz : decide (Z % 2 = 1) = true := by rw [hpz]; rfl
      go_wp2_with fail
      have HF6 : Hid (Fm w (w5.alloc (.cells #[.slice z0 z1 z2, .slice y0 y1 y2, .bool false] 31)) [(31, [.slice none 0 0, .slice none 0 0, .bool false])] [] [(.slice z0 z1 z2, Z, 256), (.slice x0 x1 x2, X, 256), (.slice y0 y1 y2, Y, 256)]) := HF5.out.below (alloc_below _ _)
      have HP : Hid (Bl 31 (w5.alloc (.cells #[.slice z0 z1 z2, .slice y0 y1 y2, .bool false] 31)) w5.heap.size [.slice z0 z1 z2, .slice y0 y1 y2, .bool false]) := alloc_bl w5 [.slice z0 z1 z2, .slice y0 y1 y2, .bool false] 31
      have hs6 : w.heap.size + 1 ≤ w5.heap.size := HF5.out.sz
      generalize hw6 : (w5.alloc (.cells #[.slice z0 z1 z2, .slice y0 y1 y2, .bool false] 31)) = w6 at *
      clear hw6
      refine (ebit0_v _ Z _ (HF6.out.got 0 (okb rfl)).1).mono ?_
      rintro e w6 ⟨rfl, rfl⟩
      rw [hbz]
      have k0 : w6.cell? ⟨w5.heap.size, 0, none⟩ = some (.slice z0 z1 z2) := HP.out.cell 0 (by simp)
      have k1 : w6.cell? ⟨w5.heap.size, 1, none⟩ = some (.slice y0 y1 y2) := HP.out.cell 1 (by simp)
      have k2 : w6.cell? ⟨w5.heap.size, 2, none⟩ = some (.bool false) := HP.out.cell 2 (by simp)
      go_wp2_with fail
      clear k0 k1 k2
      refine (on_v _ _ Z Y false _ (HT.out.below HF6.out.bel (Nat.le_refl _)) (HF6.out.got 0 (okb rfl)).1 (HF6.out.got 2 (okb rfl)).1).mono ?_
      rintro e w7 ⟨rfl, hB7⟩
      have HF7 : Hid (Fm w w7 [(31, [.slice none 0 0, .slice none 0 0, .bool false])] [] [(.slice z0 z1 z2, Z, 256), (.slice x0 x1 x2, X, 256), (.slice y0 y1 y2, Y, 256)]) := HF6.out.below hB7
      have HP7 : Hid (Bl 31 w7 w5.heap.size [.slice z0 z1 z2, .slice y0 y1 y2, .bool false]) := HP.out.below hB7 HP.out.lt
      clear hB7
      have k0 : w7.cell? ⟨w5.heap.size, 0, none⟩ = some (.slice z0 z1 z2) := HP7.out.cell 0 (by simp)
      have q0 : w7.cell? ⟨w.heap.size, 0, none⟩ = some (.slice none 0 0) := HF7.out.cell 0 0 (okb rfl) (okb rfl)
      have l0 : w7.frozen? ⟨w.heap.size, 0, none⟩ = false := HF7.out.frozen 0 0 (okb rfl)
      have k1 : w7.cell? ⟨w5.heap.size, 1, none⟩ = some (.slice y0 y1 y2) := HP7.out.cell 1 (by simp)
      have q1 : w7.cell? ⟨w.heap.size, 1, none⟩ = some (.slice none 0 0) := HF7.out.cell 0 1 (okb rfl) (okb rfl)
      have l1 : w7.frozen? ⟨w.heap.size, 1, none⟩ = false := HF7.out.frozen 0 1 (okb rfl)
      have k2 : w7.cell? ⟨w5.heap.size, 2, none⟩ = some (.bool false) := HP7.out.cell 2 (by simp)
      have q2 : w7.cell? ⟨w.heap.size, 2, none⟩ = some (.bool false) := HF7.out.cell 0 2 (okb rfl) (okb rfl)
      have l2 : w7.frozen? ⟨w.heap.size, 2, none⟩ = false := HF7.out.frozen 0 2 (okb rfl)
      cases hon : onV Z Y false with
      | true =>
        have HON : Hid (onV Z Y false = true) := hon
        clear hon
        go_wp2
        (try simp only [Exit.inBlock, Exit.then])
        have hb := (((But.refl w7 w.heap.size).set 0 (.slice z0 z1 z2)).set 1 (.slice y0 y1 y2)).set 2 (.bool false)
        have HPe : Pe _ w.heap.size (.agg #[.slice z0 z1 z2, .slice y0 y1 y2, .bool false]) (Z, Y) := ⟨_, _, rfl, HF7.out.out 0 (by simp) hb 0 (by simp), HF7.out.out 0 (by simp) hb 2 (by simp), (HF7.out.apt 0 2 (by simp) (by simp) (by omega)).symm⟩
        refine bodyPost_ret (v := .tuple #[.agg #[.slice z0 z1 z2, .slice y0 y1 y2, .bool false], .int .i64 0]) ?_ rfl ⟨DecA.ok hl (by rw [HO.out, HZ.out]; unfold dcX; rw [← HX.out, if_neg hpx]; exact neg_eq (HX.out ▸ rtV_lt U)) HY.out HON.out (HO.out ▸ hpz) HPe, HF7.out.outB 0 (by simp) hb⟩
        rw [results_cs rfl]; go_simp
      | false =>
        have HON : Hid (onV Z Y false = false) := hon
        clear hon
        go_wp2
        (try simp only [Exit.inBlock, Exit.then])
        have hb := (((But.refl w7 w.heap.size).set 0 (.slice none 0 0)).set 1 (.slice none 0 0)).set 2 (.bool false)
        refine bodyPost_ret (v := .tuple #[.agg #[.slice none 0 0, .slice none 0 0, .bool false], .int .i64 93]) ?_ rfl ⟨DecA.no hl HU.out (by rw [HO.out, HZ.out]; unfold dcX; rw [← HX.out, if_neg hpx]; exact neg_eq (HX.out ▸ rtV_lt U)) HY.out (fun h => absurd (HON.out.symm.trans h.1) (by decide)), HF7.out.outB 0 (by simp) hb⟩
        rw [results_cs rfl]; go_simp
    · have hbz : decide (Z % 2 = 1) = false := by rw [decide_eq_false hpz]
      go_wp2_with fail
      have HF6 : Hid (Fm w (w5.alloc (.cells #[.slice z0 z1 z2, .slice y0 y1 y2, .bool false] 31)) [(31, [.slice none 0 0, .slice none 0 0, .bool false])] [] [(.slice z0 z1 z2, Z, 256), (.slice x0 x1 x2, X, 256), (.slice y0 y1 y2, Y, 256)]) := HF5.out.below (alloc_below _ _)
      have HP : Hid (Bl 31 (w5.alloc (.cells #[.slice z0 z1 z2, .slice y0 y1 y2, .bool false] 31)) w5.heap.size [.slice z0 z1 z2, .slice y0 y1 y2, .bool false]) := alloc_bl w5 [.slice z0 z1 z2, .slice y0 y1 y2, .bool false] 31
      have hs6 : w.heap.size + 1 ≤ w5.heap.size := HF5.out.sz
      generalize hw6 : (w5.alloc (.cells #[.slice z0 z1 z2, .slice y0 y1 y2, .bool false] 31)) = w6 at *
      clear hw6
      refine (ebit0_v _ Z _ (HF6.out.got 0 (okb rfl)).1).mono ?_
      rintro e w6 ⟨rfl, rfl⟩
      rw [hbz]
      have k0 : w6.cell? ⟨w.heap.size, 0, none⟩ = some (.slice none 0 0) := HF6.out.cell 0 0 (okb rfl) (okb rfl)
      have l0 : w6.frozen? ⟨w.heap.size, 0, none⟩ = false := HF6.out.frozen 0 0 (okb rfl)
      have k1 : w6.cell? ⟨w.heap.size, 1, none⟩ = some (.slice none 0 0) := HF6.out.cell 0 1 (okb rfl) (okb rfl)
      have l1 : w6.frozen? ⟨w.heap.size, 1, none⟩ = false := HF6.out.frozen 0 1 (okb rfl)
      have k2 : w6.cell? ⟨w.heap.size, 2, none⟩ = some (.bool false) := HF6.out.cell 0 2 (okb rfl) (okb rfl)
      have l2 : w6.frozen? ⟨w.heap.size, 2, none⟩ = false := HF6.out.frozen 0 2 (okb rfl)
      go_wp2
      (try simp only [Exit.inBlock, Exit.then])
      have hb := (((But.refl w6 w.heap.size).set 0 (.slice none 0 0)).set 1 (.slice none 0 0)).set 2 (.bool false)
      refine bodyPost_ret (v := .tuple #[.agg #[.slice none 0 0, .slice none 0 0, .bool false], .int .i64 93]) ?_ rfl ⟨DecA.no hl HU.out (by rw [HO.out, HZ.out]; unfold dcX; rw [← HX.out, if_neg hpx]; exact neg_eq (HX.out ▸ rtV_lt U)) HY.out (fun h => absurd (h.2.trans HO.out) hpz), HF6.out.outB 0 (by simp) hb⟩
      rw [results_cs rfl]; go_simp
set_option maxHeartbeats 8000000 in
theorem decode_false (ao : Option Addr) (c : Nat) (m : List UInt8) (d : UInt8) (w : World) (T : Te w) (hr : Rd w ao (m ++ [d])) (hm : m.length = 31) (hd : d.toNat / 128 = 0) :
    Calls Tryz.prog 14 #[.slice ao 32 c] w fun e w' => DecA (m ++ [d]) w w' e ∧ Below w.heap.size w w' := by
  obtain ⟨l, Hl⟩ : ∃ l, Hid (l = m ++ [d]) := ⟨_, rfl⟩
  have hl : l.length = 32 := by rw [Hl.out, List.length_append, hm]; rfl
  rw [← Hl.out] at hr ⊢
  obtain ⟨Y, HY⟩ : ∃ Y, Hid (Y = leN l % h255) := ⟨_, rfl⟩
  obtain ⟨d', Hd'⟩ : ∃ d', Hid (d' = d &&& 127) := ⟨_, rfl⟩
  have hYe : leN (m ++ [d']) = Y := by rw [HY.out, Hl.out, Hd'.out]; exact le_y d _ hm (andN80 d)
  have HO : Hid (leN l / h255 = 0) := (by rw [Hl.out, le_o d hm, hd] : leN l / h255 = 0)
  have hand := bit80 d
  rw [hd] at hand
  simp only [reduceIte, Nat.zero_ne_one] at hand
  have handn := bitn80 d
  rw [← Hd'.out] at handn
  have HF0 : Hid (Fm w (w.alloc (.cells #[.slice none 0 0, .slice none 0 0, .bool false] 31)) [(31, [.slice none 0 0, .slice none 0 0, .bool false])] [] []) := ((Fm.nil (w := w) (A := []) ar_nil).push (by simp) 31 [.slice none 0 0, .slice none 0 0, .bool false])
  have C := clone_v ao c l _ (hr.below HF0.out.bel (Nat.le_refl _)) (by omega) (by omega)
  rw [hl] at C
  have HT : Hid (Te w) := T
  clear T hr
  go_enter Tryz.func14, Tryz.ntmps14
  go_wp2_with fail
  generalize (w.alloc (.cells #[.slice none 0 0, .slice none 0 0, .bool false] 31)) = w0 at *
  refine C.mono ?_
  clear C
  rintro e w1 ⟨v, rfl, hO, hB⟩
  obtain ⟨g, cap, cs, rfl, hg, hgl, hb, hn, ht, hcap, hmx⟩ := hO.blk (by omega)
  rw [hl] at hn ht ⊢
  have e31 : cs[31]? = some (.int .u8 (d.toNat : Int)) := by
    rw [← List.getElem?_take_of_lt (show 31 < 32 by omega), ht, List.getElem?_map, Hl.out, List.getElem?_append_right (by omega), hm]
    rfl
  have c31 : w1.cell? ⟨g, 31, none⟩ = some (.int .u8 (d.toNat : Int)) := by
    rw [hb.cell 31 (by omega)]
    rw [List.getElem?_eq_getElem (by omega)] at e31
    exact e31
  have f31 := hb.frozen 31
  have hb2 := hb.set 31 (.int .u8 (d'.toNat : Int))
  have ht2 := take_set32 (d' := d') hm hn (Hl.out ▸ ht)
  have hrd : Rd (w1.setCell ⟨g, 31, none⟩ (.int .u8 (d'.toNat : Int))) (some ⟨g, 0, none⟩) (m ++ [d']) := rd_of hb2 (by rw [List.length_append, hm]; exact ht2) (by rw [List.length_append, hm, List.length_set]; exact hn)
  have hs0 := HF0.out.sz
  have HF2 : Hid (Fm w (w1.setCell ⟨g, 31, none⟩ (.int .u8 (d'.toNat : Int))) [(31, [.slice none 0 0, .slice none 0 0, .bool false])] [] []) := (HF0.out.below hB).butB ((But.refl w1 g).set 31 (.int .u8 (d'.toNat : Int))) (by omega)
  have C := lowest_v _ cap (m ++ [d']) _ hrd (by rw [List.length_append]; simp) (by rw [List.length_append, hm, List.length_singleton]; decide)
  rw [show (m ++ [d']).length = 32 by rw [List.length_append, hm]; rfl, hYe] at C
  clear e31 hb2 ht2 hrd hB hO hb ht hn hcap hmx hYe
  go_wp2_with fail
  clear c31 f31 hand handn
  generalize (w1.setCell ⟨g, 31, none⟩ (.int .u8 (d'.toNat : Int))) = w2 at *
  refine C.mono ?_
  clear C
  rintro e w3 ⟨yv, rfl, h⟩
  have HF3 : Hid (Fm w w3 [(31, [.slice none 0 0, .slice none 0 0, .bool false])] [] [(yv, Y, 256)]) := HF2.out.step h
  clear h
  go_wp2_with fail
  refine (beside_v _ Y _ (HT.out.below HF3.out.bel (Nat.le_refl _)) (HF3.out.got 0 (okb rfl))).mono ?_
  rintro e w4 ⟨xv, U, hU, rfl, h⟩
  have HU : Hid (U < eP ∧ (eP : Int) ∣ (1 + eD * ((Y : Int) * Y)) * U - ((Y : Int) * Y - 1)) := hU
  clear hU
  obtain ⟨X, HX⟩ : ∃ X, Hid (X = rtV U) := ⟨_, rfl⟩
  rw [← HX.out] at h
  have HF4 : Hid (Fm w w4 [(31, [.slice none 0 0, .slice none 0 0, .bool false])] [] [(xv, X, 256), (yv, Y, 256)]) := HF3.out.step h
  clear h
  obtain ⟨x0, x1, x2, rfl⟩ := (HF4.out.got 0 (okb rfl)).sl
  obtain ⟨y0, y1, y2, rfl⟩ := (HF4.out.got 1 (okb rfl)).sl
  go_wp2_with fail
  refine (ebit0_v _ X _ (HF4.out.got 0 (okb rfl)).1).mono ?_
  rintro e w4 ⟨rfl, rfl⟩
  by_cases hpx : X % 2 = 0
  · have hbx : decide (X % 2 = 1) = false := by rw [hpx]; rfl
    rw [hbx]
    go_wp2_with fail
    have HF6 : Hid (Fm w (w4.alloc (.cells #[.slice x0 x1 x2, .slice y0 y1 y2, .bool false] 31)) [(31, [.slice none 0 0, .slice none 0 0, .bool false])] [] [(.slice x0 x1 x2, X, 256), (.slice y0 y1 y2, Y, 256)]) := HF4.out.below (alloc_below _ _)
    have HP : Hid (Bl 31 (w4.alloc (.cells #[.slice x0 x1 x2, .slice y0 y1 y2, .bool false] 31)) w4.heap.size [.slice x0 x1 x2, .slice y0 y1 y2, .bool false]) := alloc_bl w4 [.slice x0 x1 x2, .slice y0 y1 y2, .bool false] 31
    have hs6 : w.heap.size + 1 ≤ w4.heap.size := HF4.out.sz
    generalize hw6 : (w4.alloc (.cells #[.slice x0 x1 x2, .slice y0 y1 y2, .bool false] 31)) = w6 at *
    clear hw6
    refine (ebit0_v _ X _ (HF6.out.got 0 (okb rfl)).1).mono ?_
    rintro e w6 ⟨rfl, rfl⟩
    rw [hbx]
    have k0 : w6.cell? ⟨w4.heap.size, 0, none⟩ = some (.slice x0 x1 x2) := HP.out.cell 0 (by simp)
    have k1 : w6.cell? ⟨w4.heap.size, 1, none⟩ = some (.slice y0 y1 y2) := HP.out.cell 1 (by simp)
    have k2 : w6.cell? ⟨w4.heap.size, 2, none⟩ = some (.bool false) := HP.out.cell 2 (by simp)
    go_wp2_with fail
    clear k0 k1 k2
    refine (on_v _ _ X Y false _ (HT.out.below HF6.out.bel (Nat.le_refl _)) (HF6.out.got 0 (okb rfl)).1 (HF6.out.got 1 (okb rfl)).1).mono ?_
    rintro e w7 ⟨rfl, hB7⟩
    have HF7 : Hid (Fm w w7 [(31, [.slice none 0 0, .slice none 0 0, .bool false])] [] [(.slice x0 x1 x2, X, 256), (.slice y0 y1 y2, Y, 256)]) := HF6.out.below hB7
    have HP7 : Hid (Bl 31 w7 w4.heap.size [.slice x0 x1 x2, .slice y0 y1 y2, .bool false]) := HP.out.below hB7 HP.out.lt
    clear hB7
    have k0 : w7.cell? ⟨w4.heap.size, 0, none⟩ = some (.slice x0 x1 x2) := HP7.out.cell 0 (by simp)
    have q0 : w7.cell? ⟨w.heap.size, 0, none⟩ = some (.slice none 0 0) := HF7.out.cell 0 0 (okb rfl) (okb rfl)
    have l0 : w7.frozen? ⟨w.heap.size, 0, none⟩ = false := HF7.out.frozen 0 0 (okb rfl)
    have k1 : w7.cell? ⟨w4.heap.size, 1, none⟩ = some (.slice y0 y1 y2) := HP7.out.cell 1 (by simp)
    have q1 : w7.cell? ⟨w.heap.size, 1, none⟩ = some (.slice none 0 0) := HF7.out.cell 0 1 (okb rfl) (okb rfl)
    have l1 : w7.frozen? ⟨w.heap.size, 1, none⟩ = false := HF7.out.frozen 0 1 (okb rfl)
    have k2 : w7.cell? ⟨w4.heap.size, 2, none⟩ = some (.bool false) := HP7.out.cell 2 (by simp)
    have q2 : w7.cell? ⟨w.heap.size, 2, none⟩ = some (.bool false) := HF7.out.cell 0 2 (okb rfl) (okb rfl)
    have l2 : w7.frozen? ⟨w.heap.size, 2, none⟩ = false := HF7.out.frozen 0 2 (okb rfl)
    cases hon : onV X Y false with
    | true =>
      have HON : Hid (onV X Y false = true) := hon
      clear hon
      go_wp2
      (try simp only [Exit.inBlock, Exit.then])
      have hb := (((But.refl w7 w.heap.size).set 0 (.slice x0 x1 x2)).set 1 (.slice y0 y1 y2)).set 2 (.bool false)
      have HPe : Pe _ w.heap.size (.agg #[.slice x0 x1 x2, .slice y0 y1 y2, .bool false]) (X, Y) := ⟨_, _, rfl, HF7.out.out 0 (by simp) hb 0 (by simp), HF7.out.out 0 (by simp) hb 1 (by simp), (HF7.out.apt 0 1 (by simp) (by simp) (by omega)).symm⟩
      refine bodyPost_ret (v := .tuple #[.agg #[.slice x0 x1 x2, .slice y0 y1 y2, .bool false], .int .i64 0]) ?_ rfl ⟨DecA.ok hl (by rw [HO.out]; unfold dcX; rw [← HX.out, if_pos hpx]) HY.out HON.out (HO.out ▸ hpx) HPe, HF7.out.outB 0 (by simp) hb⟩
      rw [results_cs rfl]; go_simp
    | false =>
      have HON : Hid (onV X Y false = false) := hon
      clear hon
      go_wp2
      (try simp only [Exit.inBlock, Exit.then])
      have hb := (((But.refl w7 w.heap.size).set 0 (.slice none 0 0)).set 1 (.slice none 0 0)).set 2 (.bool false)
      refine bodyPost_ret (v := .tuple #[.agg #[.slice none 0 0, .slice none 0 0, .bool false], .int .i64 93]) ?_ rfl ⟨DecA.no hl HU.out (by rw [HO.out]; unfold dcX; rw [← HX.out, if_pos hpx]) HY.out (fun h => absurd (HON.out.symm.trans h.1) (by decide)), HF7.out.outB 0 (by simp) hb⟩
      rw [results_cs rfl]; go_simp
  · have hbx : decide (X % 2 = 1) = true := by rw [decide_eq_true (by omega)]
    rw [hbx]
    go_wp2_with fail
    refine (esub_v _ _ 0 X 1 256 _ (HT.out.below HF4.out.bel (Nat.le_refl _)) (Nk.none _ 1) (HF4.out.got 0 (okb rfl)) (by decide) (by decide)).mono ?_
    rintro e w5 ⟨zv, rfl, h⟩
    obtain ⟨Z, HZ⟩ : ∃ Z, Hid (Z = fS eP 0 X) := ⟨_, rfl⟩
    rw [← HZ.out] at h
    have HF5 : Hid (Fm w w5 [(31, [.slice none 0 0, .slice none 0 0, .bool false])] [] [(zv, Z, 256), (.slice x0 x1 x2, X, 256), (.slice y0 y1 y2, Y, 256)]) := HF4.out.step h
    clear h
    obtain ⟨z0, z1, z2, rfl⟩ := (HF5.out.got 0 (okb rfl)).sl
    by_cases hpz : Z % 2 = 0
    · have hbz : decide (Z % 2 = 1) = false := by rw [hpz]; rfl
      go_wp2_with fail
      have HF6 : Hid (Fm w (w5.alloc (.cells #[.slice z0 z1 z2, .slice y0 y1 y2, .bool false] 31)) [(31, [.slice none 0 0, .slice none 0 0, .bool false])] [] [(.slice z0 z1 z2, Z, 256), (.slice x0 x1 x2, X, 256), (.slice y0 y1 y2, Y, 256)]) := HF5.out.below (alloc_below _ _)
      have HP : Hid (Bl 31 (w5.alloc (.cells #[.slice z0 z1 z2, .slice y0 y1 y2, .bool false] 31)) w5.heap.size [.slice z0 z1 z2, .slice y0 y1 y2, .bool false]) := alloc_bl w5 [.slice z0 z1 z2, .slice y0 y1 y2, .bool false] 31
      have hs6 : w.heap.size + 1 ≤ w5.heap.size := HF5.out.sz
      generalize hw6 : (w5.alloc (.cells #[.slice z0 z1 z2, .slice y0 y1 y2, .bool false] 31)) = w6 at *
      clear hw6
      refine (ebit0_v _ Z _ (HF6.out.got 0 (okb rfl)).1).mono ?_
      rintro e w6 ⟨rfl, rfl⟩
      rw [hbz]
      have k0 : w6.cell? ⟨w5.heap.size, 0, none⟩ = some (.slice z0 z1 z2) := HP.out.cell 0 (by simp)
      have k1 : w6.cell? ⟨w5.heap.size, 1, none⟩ = some (.slice y0 y1 y2) := HP.out.cell 1 (by simp)
      have k2 : w6.cell? ⟨w5.heap.size, 2, none⟩ = some (.bool false) := HP.out.cell 2 (by simp)
      go_wp2_with fail
      clear k0 k1 k2
      refine (on_v _ _ Z Y false _ (HT.out.below HF6.out.bel (Nat.le_refl _)) (HF6.out.got 0 (okb rfl)).1 (HF6.out.got 2 (okb rfl)).1).mono ?_
      rintro e w7 ⟨rfl, hB7⟩
      have HF7 : Hid (Fm w w7 [(31, [.slice none 0 0, .slice none 0 0, .bool false])] [] [(.slice z0 z1 z2, Z, 256), (.slice x0 x1 x2, X, 256), (.slice y0 y1 y2, Y, 256)]) := HF6.out.below hB7
      have HP7 : Hid (Bl 31 w7 w5.heap.size [.slice z0 z1 z2, .slice y0 y1 y2, .bool false]) := HP.out.below hB7 HP.out.lt
      clear hB7
      have k0 : w7.cell? ⟨w5.heap.size, 0, none⟩ = some (.slice z0 z1 z2) := HP7.out.cell 0 (by simp)
      have q0 : w7.cell? ⟨w.heap.size, 0, none⟩ = some (.slice none 0 0) := HF7.out.cell 0 0 (okb rfl) (okb rfl)
      have l0 : w7.frozen? ⟨w.heap.size, 0, none⟩ = false := HF7.out.frozen 0 0 (okb rfl)
      have k1 : w7.cell? ⟨w5.heap.size, 1, none⟩ = some (.slice y0 y1 y2) := HP7.out.cell 1 (by simp)
      have q1 : w7.cell? ⟨w.heap.size, 1, none⟩ = some (.slice none 0 0) := HF7.out.cell 0 1 (okb rfl) (okb rfl)
      have l1 : w7.frozen? ⟨w.heap.size, 1, none⟩ = false := HF7.out.frozen 0 1 (okb rfl)
      have k2 : w7.cell? ⟨w5.heap.size, 2, none⟩ = some (.bool false) := HP7.out.cell 2 (by simp)
      have q2 : w7.cell? ⟨w.heap.size, 2, none⟩ = some (.bool false) := HF7.out.cell 0 2 (okb rfl) (okb rfl)
      have l2 : w7.frozen? ⟨w.heap.size, 2, none⟩ = false := HF7.out.frozen 0 2 (okb rfl)
      cases hon : onV Z Y false with
      | true =>
        have HON : Hid (onV Z Y false = true) := hon
        clear hon
        go_wp2
        (try simp only [Exit.inBlock, Exit.then])
        have hb := (((But.refl w7 w.heap.size).set 0 (.slice z0 z1 z2)).set 1 (.slice y0 y1 y2)).set 2 (.bool false)
        have HPe : Pe _ w.heap.size (.agg #[.slice z0 z1 z2, .slice y0 y1 y2, .bool false]) (Z, Y) := ⟨_, _, rfl, HF7.out.out 0 (by simp) hb 0 (by simp), HF7.out.out 0 (by simp) hb 2 (by simp), (HF7.out.apt 0 2 (by simp) (by simp) (by omega)).symm⟩
        refine bodyPost_ret (v := .tuple #[.agg #[.slice z0 z1 z2, .slice y0 y1 y2, .bool false], .int .i64 0]) ?_ rfl ⟨DecA.ok hl (by rw [HO.out, HZ.out]; unfold dcX; rw [← HX.out, if_neg hpx]; exact neg_eq (HX.out ▸ rtV_lt U)) HY.out HON.out (HO.out ▸ hpz) HPe, HF7.out.outB 0 (by simp) hb⟩
        rw [results_cs rfl]; go_simp
      | false =>
        have HON : Hid (onV Z Y false = false) := hon
        clear hon
        go_wp2
        (try simp only [Exit.inBlock, Exit.then])
        have hb := (((But.refl w7 w.heap.size).set 0 (.slice none 0 0)).set 1 (.slice none 0 0)).set 2 (.bool false)
        refine bodyPost_ret (v := .tuple #[.agg #[.slice none 0 0, .slice none 0 0, .bool false], .int .i64 93]) ?_ rfl ⟨DecA.no hl HU.out (by rw [HO.out, HZ.out]; unfold dcX; rw [← HX.out, if_neg hpx]; exact neg_eq (HX.out ▸ rtV_lt U)) HY.out (fun h => absurd (HON.out.symm.trans h.1) (by decide)), HF7.out.outB 0 (by simp) hb⟩
        rw [results_cs rfl]; go_simp
    · have hbz : decide (Z % 2 = 1) = true := by rw [decide_eq_true (by omega)]
      go_wp2_with fail
      have HF6 : Hid (Fm w (w5.alloc (.cells #[.slice z0 z1 z2, .slice y0 y1 y2, .bool false] 31)) [(31, [.slice none 0 0, .slice none 0 0, .bool false])] [] [(.slice z0 z1 z2, Z, 256), (.slice x0 x1 x2, X, 256), (.slice y0 y1 y2, Y, 256)]) := HF5.out.below (alloc_below _ _)
      have HP : Hid (Bl 31 (w5.alloc (.cells #[.slice z0 z1 z2, .slice y0 y1 y2, .bool false] 31)) w5.heap.size [.slice z0 z1 z2, .slice y0 y1 y2, .bool false]) := alloc_bl w5 [.slice z0 z1 z2, .slice y0 y1 y2, .bool false] 31
      have hs6 : w.heap.size + 1 ≤ w5.heap.size := HF5.out.sz
      generalize hw6 : (w5.alloc (.cells #[.slice z0 z1 z2, .slice y0 y1 y2, .bool false] 31)) = w6 at *
      clear hw6
      refine (ebit0_v _ Z _ (HF6.out.got 0 (okb rfl)).1).mono ?_
      rintro e w6 ⟨rfl, rfl⟩
      rw [hbz]
      have k0 : w6.cell? ⟨w.heap.size, 0, none⟩ = some (.slice none 0 0) := HF6.out.cell 0 0 (okb rfl) (okb rfl)
      have l0 : w6.frozen? ⟨w.heap.size, 0, none⟩ = false := HF6.out.frozen 0 0 (okb rfl)
      have k1 : w6.cell? ⟨w.heap.size, 1, none⟩ = some (.slice none 0 0) := HF6.out.cell 0 1 (okb rfl) (okb rfl)
      have l1 : w6.frozen? ⟨w.heap.size, 1, none⟩ = false := HF6.out.frozen 0 1 (okb rfl)
      have k2 : w6.cell? ⟨w.heap.size, 2, none⟩ = some (.bool false) := HF6.out.cell 0 2 (okb rfl) (okb rfl)
      have l2 : w6.frozen? ⟨w.heap.size, 2, none⟩ = false := HF6.out.frozen 0 2 (okb rfl)
      go_wp2
      (try simp only [Exit.inBlock, Exit.then])
      have hb := (((But.refl w6 w.heap.size).set 0 (.slice none 0 0)).set 1 (.slice none 0 0)).set 2 (.bool false)
      refine bodyPost_ret (v := .tuple #[.agg #[.slice none 0 0, .slice none 0 0, .bool false], .int .i64 93]) ?_ rfl ⟨DecA.no hl HU.out (by rw [HO.out, HZ.out]; unfold dcX; rw [← HX.out, if_neg hpx]; exact neg_eq (HX.out ▸ rtV_lt U)) HY.out (fun h => absurd (h.2.trans HO.out) hpz), HF6.out.outB 0 (by simp) hb⟩
      rw [results_cs rfl]; go_simp
theorem decode_32 (ao : Option Addr) (c : Nat) (l : List UInt8) (w : World) (T : Te w) (hr : Rd w ao l) (hl : l.length = 32) :
    Calls Tryz.prog 14 #[.slice ao 32 c] w fun e w' => DecA l w w' e ∧ Below w.heap.size w w' := by
  obtain ⟨m, d, rfl, hm⟩ := last32 hl
  have hd := d.toNat_lt
  rcases (show d.toNat / 128 = 0 ∨ d.toNat / 128 = 1 by omega) with h | h
  · exact decode_false ao c m d w T hr hm h
  · exact decode_true ao c m d w T hr hm h
set_option maxHeartbeats 4000000 in
theorem decode_len (ao : Option Addr) (n c : Nat) (w : World) (hn : n ≠ 32) :
    Calls Tryz.prog 14 #[.slice ao n c] w fun e w' => e = .returned (.tuple #[.agg #[.slice none 0 0, .slice none 0 0, .bool false], .int .i64 93]) ∧ Below w.heap.size w w' := by
  have hz : (((n : Nat) : Int) != 32) = true := by simp; omega
  have hz2 : ¬ ((n : Nat) : Int) = 32 := by omega
  go_enter Tryz.func14, Tryz.ntmps14
  go_wp2
  (try simp only [Exit.inBlock, Exit.then])
  refine bodyPost_ret (v := .tuple #[.agg #[.slice none 0 0, .slice none 0 0, .bool false], .int .i64 93]) ?_ rfl ⟨rfl, ?_⟩
  · rw [results_cs rfl]; go_simp
  · (repeat' (first | with_reducible assumption | with_reducible exact Below.refl _ _ | with_reducible exact Nat.le_refl _ | with_reducible refine Below.setCell ?_ ?_ _ | with_reducible refine Below.alloc ?_ ?_ _ | with_reducible apply Below.drew | with_reducible apply below_drewN | omega | (simp; done) | (simp; omega)))
theorem decode_v (ao : Option Addr) (c : Nat) (l : List UInt8) (w : World) (T : Te w) (hr : Rd w ao l) :
    Calls Tryz.prog 14 #[.slice ao l.length c] w fun e w' => DecA l w w' e ∧ Below w.heap.size w w' := by
  by_cases h : l.length = 32
  · rw [h]
    exact decode_32 ao c l w T hr h
  · refine (decode_len ao l.length c w h).mono ?_
    rintro e w' ⟨rfl, hB⟩
    exact ⟨.inr ⟨fun P _ he => h (by rw [← he]; exact encL_len P), rfl⟩, hB⟩
end Go.Proofs.YtjpjepfmphlneaaGreatDoor
