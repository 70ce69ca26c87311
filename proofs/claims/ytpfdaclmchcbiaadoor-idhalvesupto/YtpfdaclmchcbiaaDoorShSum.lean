import Derived.Test.YtpfdaclmchcbiaaDoorShFin
import Derived.Laws.MakeOwn
namespace Go.Proofs.YtpfdaclmchcbiaaDoor.Sha
open Go.RowKit
set_option maxRecDepth 100000

/-- The first n words of a chain as bytes, each of w. -/
def outF (w n : Nat) (ch : List Int) : List UInt8 := (List.range n).flatMap fun i => tobe w (ch.getD i 0).toNat
/-- The sum. -/
def sumF (h : Int) (m : List UInt8) : List UInt8 := if h = 1 then outF 4 8 (finF h m) else if h = 2 then outF 8 6 (finF h m) else if h = 3 then outF 8 8 (finF h m) else []

theorem outF_succ (w n : Nat) (ch : List Int) : outF w (n + 1) ch = outF w n ch ++ tobe w (ch.getD n 0).toNat := by simp [outF, List.range_succ]
theorem outF_length (w n : Nat) (ch : List Int) : (outF w n ch).length = w * n := by
  induction n with
  | zero => rfl
  | succ n ih => rw [outF_succ, List.length_append, ih, tobe_length, Nat.mul_succ]
theorem sumF_length (h : Int) (m : List UInt8) : (sumF h m).length = siz h := by
  unfold sumF siz
  (repeat' split) <;> simp [outF_length]

theorem zip_bd (f : Int → Int → Int) (hf : ∀ x y, 0 ≤ f x y ∧ f x y < 18446744073709551616) (a b : List Int) (k : Nat) : 0 ≤ (List.zipWith f a b).getD k 0 ∧ (List.zipWith f a b).getD k 0 < 18446744073709551616 := by
  rw [List.getD_eq_getElem?_getD, List.getElem?_zipWith]
  cases a[k]? <;> cases b[k]? <;> simp [hf]
theorem mixF_bd (h : Int) (ch : List Int) (tl : List UInt8) (k : Nat) : 0 ≤ (mixF h ch tl).getD k 0 ∧ (mixF h ch tl).getD k 0 < 18446744073709551616 := by
  unfold mixF
  split
  · unfold mixN; exact zip_bd _ (fun x y => by omega) _ _ _
  · unfold mixW; exact zip_bd _ (fun x y => by omega) _ _ _
theorem finF_bd (h : Int) (m : List UInt8) (k : Nat) : 0 ≤ (finF h m).getD k 0 ∧ (finF h m).getD k 0 < 18446744073709551616 := by
  unfold finF
  split <;> exact mixF_bd _ _ _ _
theorem finF_length (h : Int) (m : List UInt8) : (finF h m).length = 8 := by
  unfold finF
  split
  · exact mixF_length _ _ _ (mixF_length _ _ _ (cF_length h m))
  · exact mixF_length _ _ _ (cF_length h m)

theorem own_cl {w : World} {base g n : Nat} {xs : List Value} (h : w.ownsRow base 5 1 (.slice (some ⟨g, 0, none⟩) n n) n xs) : Cl w g xs := by
  rcases h.2 with ⟨h0, _⟩ | ⟨g', cap, cur, e, hb, hg, hn, hm, hs, ht⟩
  · cases h0
  · cases e
    have : cur.toList = xs := by rw [← ht]; exact (List.take_of_length_le (by simp; omega)).symm
    exact ⟨5, by rw [hg, ← this]⟩

theorem spl_out (w n k N : Nat) (ch : List Int) (_h : w * k + w ≤ n) :
    spl ((outF w k ch ++ List.replicate (n - w * k) 0).map B) (w * k) ((tobe w N).map B) = (outF w k ch ++ tobe w N ++ List.replicate (n - (w * k + w)) 0).map B := by
  unfold spl
  rw [← List.map_take, ← List.map_drop, List.take_append_of_le_length (by rw [outF_length]; omega), List.take_of_length_le (by rw [outF_length]; omega), List.length_map, tobe_length, List.drop_append, List.drop_of_length_le (by rw [outF_length]; omega), outF_length, show w * k + w - w * k = w by omega, List.drop_replicate]
  simp
  omega

theorem alloc_bl (w : World) (vs : List Value) (t : TypeId) : Bl t (w.alloc (.cells vs.toArray t)) w.heap.size vs := by unfold Bl World.alloc; simp

/-- New bytes, all nought. -/
theorem made (w : World) (n : Nat) (hn : n ≤ 140737488355328) : ∃ wm, (Instr.makeSlice 29 (.int .i64 (n : Int)) (.int .i64 (n : Int))).run Tryd.prog w = .ok (.slice (some ⟨w.heap.size, 0, none⟩) n n) wm ∧ Bl 5 wm w.heap.size ((List.replicate n (0 : UInt8)).map B) ∧ Below w.heap.size w wm := by
  obtain ⟨i0, hi, hz0, hz1, hz2⟩ := info_parts infoB
  refine ⟨w.alloc (.cells ((List.replicate n (0 : UInt8)).map B).toArray 5), ?_, alloc_bl _ _ _, alloc_below _ _⟩
  rw [run_make w 29 5 i0 (.int .u8 0) Tryd.underlying29 hi hz0 .i64 .i64 (n : Int) (n : Int) (by omega) (by omega) (by rw [hz2]; omega) (by omega)]
  have e : madeCells (Value.cells (.int .u8 0)) ((n : Int).toNat * i0.size) = ((List.replicate n (0 : UInt8)).map B).toArray := by
    rw [hz1, Int.toNat_natCast, Nat.mul_one]
    apply Array.toList_inj.1
    have := toList_madeCells_one (.int .u8 0) n
    rw [List.map_replicate]
    exact this
  rw [e]
  simp

/-- A stretch of a slice of bytes. -/
theorem slice_mid (g cap l h n : Nat) (w : World) (lo hi : Int) (el : lo = (l : Int)) (eh : hi = (h : Int)) (h1 : h = l + n) (h2 : h ≤ cap) (h3 : 0 < n) :
    (Instr.sliceAt 29 (.slice (some ⟨g, 0, none⟩) cap cap) (some (.int .i64 lo)) (some (.int .i64 hi)) none).run Tryd.prog w = .ok (.slice (some ⟨g, l, none⟩) n (cap - l)) w := by
  subst el eh
  have e0 : Tryd.prog.elem 29 = 5 := by kernel_rfl
  have e2 := run_size1 (P := Tryd.prog) (e := 5) (by kernel_rfl)
  rw [run_sliceAt_slice _ _ _ _ _ _ Tryd.underlying29, run_slice_lh w 29 (some ⟨g, 0, none⟩) cap cap Tryd.underlying29 .i64 .i64 (l : Int) (h : Int) (by omega) (by omega) (by omega), e0, e2]
  show Result.ok (sliced _ _ _ _ 1) w = _
  unfold sliced
  rw [if_neg (by simp; omega)]
  simp only [Int.toNat_natCast, Nat.mul_one, Option.map_some, Addr.add_mid, Nat.zero_add]
  rw [show h - l = n by omega]

set_option maxRecDepth 100000 in
set_option maxHeartbeats 2000000 in
theorem sum_1 (b : Nat) (m : List UInt8) (w : World) (H : Sta w b 1 m) (T : Tb w) (hm : m.length < 2305843009213693952) :
    Calls Tryd.prog 14 #[.pointer (some ⟨b, 0, none⟩)] w fun e w' => ∃ g, e = .returned (.slice (some ⟨g, 0, none⟩) 32 32) ∧ w.heap.size ≤ g ∧ Bl 5 w' g ((sumF 1 m).map B) ∧ Below w.heap.size w w' := by
  have hh : isH 1 := by unfold isH; omega
  have g0 := stV_hash H
  have HH : Hid (Sta w b 1 m) := H
  have HT : Hid (Tb w) := T
  have hbs : b < w.heap.size := Cl.lt H
  have hg7 : 7 ≤ w.heap.size := by
    rcases Nat.lt_or_ge 6 w.heap.size with h1 | h1
    · exact h1
    · exfalso
      have := T.k 0 (by omega)
      unfold World.cell? at this
      simp [Array.getElem?_eq_none h1] at this
  obtain ⟨Z, hZ, hz⟩ := zero138
  obtain ⟨S, hS⟩ : ∃ S, S = stV 1 (cF 1 m) m.length (tF 1 m) := ⟨_, rfl⟩
  have hSl : S.length = 138 := by rw [hS, stV_length, cF_length, tF_length hh]
  have HR : Hid (w.rangeAt b 0 S) := fun j v hj => by
    obtain ⟨hj1, hj2⟩ := List.getElem?_eq_some_iff.1 hj
    have := HH.out
    unfold Sta at this
    rw [← hS] at this
    rw [Nat.zero_add, this.cell j hj1, hj2]
  have HI : Hid ((Tryd.prog.info? 46).map (·.size) = some S.length) := by
    show _ = _
    rw [hSl]; kernel_rfl
  obtain ⟨d, hu, hd⟩ := descState
  have Hu : Hid (Tryd.prog.underlying 46 = some d) := hu
  have Hd : Hid (d.isRow = true) := hd
  have HO : Hid (S.toArray.all (·.oneCell') = true) := by
    show _ = _
    rw [hS]
    exact all_oneCell_toArray (oneS _ _ _ _)
  have hA : Hid (Cl (w.alloc (.cells (.int .i64 0 :: Z : List Value).toArray 46)) w.heap.size (.int .i64 0 :: Z)) := alloc_cl _ _ _
  have hB : Hid (Below w.heap.size w (w.alloc (.cells (.int .i64 0 :: Z : List Value).toArray 46))) := alloc_below _ _
  have hZl : (.int .i64 0 :: Z : List Value).length = 138 := by rw [hZ]; simp [stR, Z128]
  have hth : Hid ((w.alloc (.cells (.int .i64 0 :: Z : List Value).toArray 46)).there w.heap.size 0 S.toArray.size) := hA.out.there 0 _ (by rw [hZl, List.size_toArray, hSl]; omega)
  have hI2 : Hid ((Tryd.prog.info? 46).map (·.size) = some S.toArray.size) := HI
  have hc0 : Hid (Sta ((w.alloc (.cells (.int .i64 0 :: Z : List Value).toArray 46)).setCells w.heap.size 0 S) w.heap.size 1 m) := by
    have hc := Cl.cells S 0 _ _ hA.out (by rw [hZl, hSl]; omega)
    have e : spl (.int .i64 0 :: Z) 0 S = S := by
      unfold spl
      rw [List.take_zero, List.nil_append, List.drop_of_length_le (by rw [hZl, hSl]; omega), List.append_nil]
    rw [e] at hc
    show Cl _ _ _
    rw [← hS]
    exact hc
  have hB0 : Hid (Below w.heap.size w ((w.alloc (.cells (.int .i64 0 :: Z : List Value).toArray 46)).setCells w.heap.size 0 S)) := hB.out.trans ((But.cells S 0 _ _ (But.refl _ _)).below hB.out.size (Nat.le_refl _))
  clear H T hZ hS hSl hZl hu hd
  go_enter Tryd.func14, Tryd.ntmps14
  go_wp2_with (first | refine wpList_load_mid rfl 46 _ rfl b 0 rfl S d HR.out Hu.out Hd.out HI.out ?_ | refine wpList_store_mid rfl 46 _ _ rfl w.heap.size 0 S.toArray rfl rfl hth.out hI2.out HO.out ?_ | fail)
  generalize (w.alloc (.cells (.int .i64 0 :: Z : List Value).toArray 46)).setCells w.heap.size 0 S = wa at hc0 hB0 ⊢
  refine (finish_any w.heap.size 1 m wa hc0.out hh (HT.out.below hB0.out) hg7 hm).mono ?_
  rintro e w1 ⟨rfl, hc1, hb1⟩
  have HC1 : Hid (Cl w1 w.heap.size (stV 1 (finF 1 m) m.length Z128)) := hc1
  have HB1 : Hid (Below w.heap.size w w1) := hB0.out.trans (hb1.below hB0.out.size (Nat.le_refl _))
  clear hc1 hb1 hc0 hB0 hA hB hth HO HR HI hI2 Hu Hd hz
  have g1 : w1.cell? ⟨b, 0, none⟩ = some (.int .i64 1) := stV_hash (Cl.below HH.out HB1.out hbs)
  clear g0
  go_wp2_with fail
  have CB : Calls Tryd.prog 19 #[.int .i64 1] w1 fun e w' => e = .returned (.int .i64 64) ∧ w' = w1 := block_any 1 w1
  refine CB.mono ?_
  rintro e w2 ⟨rfl, rfl⟩
  clear CB
  rename World => w1
  have CS : Calls Tryd.prog 23 #[.int .i64 1] w1 fun e w' => e = .returned (.int .i64 32) ∧ w' = w1 := size_any 1 w1
  go_wp2_with fail
  refine CS.mono ?_
  rintro e w2 ⟨rfl, rfl⟩
  clear CS g1
  rename World => w1
  obtain ⟨wm, hmk0, hcm, hbm⟩ := made w1 32 (by omega)
  have hmk : (Instr.makeSlice 29 (.int .i64 32) (.int .i64 32)).run Tryd.prog w1 = .ok (.slice (some ⟨w1.heap.size, 0, none⟩) 32 32) wm := hmk0
  clear hmk0
  have HC2 : Hid (Cl wm w.heap.size (stV 1 (finF 1 m) m.length Z128)) := HC1.out.below hbm HC1.out.lt
  have HB2 : Hid (Below w.heap.size w wm) := HB1.out.trans (hbm.mono HB1.out.size)
  have HCm : Hid (Bl 5 wm w1.heap.size ((outF 4 0 (finF 1 m) ++ List.replicate (32 - 4 * 0) 0).map B)) := hcm
  have hlt1 : w.heap.size < w1.heap.size := HC1.out.lt
  have hF := finF_length 1 m
  have HF : Hid (∀ k, 0 ≤ (finF 1 m).getD k 0 ∧ (finF 1 m).getD k 0 < 18446744073709551616) := finF_bd 1 m
  have Hs : Hid (True → sumF 1 m = outF 4 8 (finF 1 m)) := fun _ => rfl
  generalize finF 1 m = F at *
  clear hcm hbm HC1 HB1
  go_wp2
  clear hmk
  generalize w1.heap.size = g at *
  go_loopw [27] (fun s ws => ∃ k : Nat, s = .int .i64 (k : Int) ∧ k ≤ 8 ∧ Hid (Bl 5 ws g ((outF 4 k F ++ List.replicate (32 - 4 * k) 0).map B)) ∧ Hid (Cl ws w.heap.size (stV 1 F m.length Z128)) ∧ Hid (Below w.heap.size w ws)) (fun s _ => 8 - (intOf s).toNat)
  case atStart => exact ⟨0, rfl, by omega, HCm, HC2, HB2⟩
  case round =>
    clear HCm HC2 HB2
    obtain ⟨k, rfl, hk, hcg, hcs, hbel⟩ := hrel
    by_cases hlt : k < 8
    · have gk := stV_chain hcs.out k (by omega)
      have hF1 : F[k]'(by omega) = F.getD k 0 := by rw [List.getD_eq_getElem?_getD, List.getElem?_eq_getElem (by omega)]; rfl
      rw [hF1] at gk
      obtain ⟨N, hN⟩ : ∃ N : Nat, F.getD k 0 = (N : Int) := ⟨(F.getD k 0).toNat, by have := (HF.out k).1; omega⟩
      have hN2 : N < 18446744073709551616 := by have := (HF.out k).2; omega
      have HN : Hid (True → outF 4 (k + 1) F = outF 4 k F ++ tobe 4 N) := fun _ => by rw [outF_succ, hN]; rfl
      rw [hN] at gk
      clear hF1 hN
      unfold V at gk
      have hlen : ((outF 4 k F ++ List.replicate (32 - 4 * k) 0).map B).length = 32 := by rw [List.length_map, List.length_append, outF_length, List.length_replicate]; omega
      have P := put_bl 5 g (4 * k) 4 (32 - 4 * k) N _ (wr.drewN 1) (hcg.out.drewN 1) (by rw [hlen]; omega) (by rw [hlen]; omega) (by omega) hN2
      have hs3 : ∀ W, (Instr.sliceAt 29 (.slice (some ⟨g, 0, none⟩) 32 32) (some (.int .i64 ((k : Int) * 4))) (some (.int .i64 (((k : Int) + 1) * 4))) none).run Tryd.prog W = .ok (.slice (some ⟨g, 4 * k, none⟩) 4 (32 - 4 * k)) W := fun W => slice_mid g 32 (4 * k) (4 * k + 4) 4 W _ _ (by omega) (by omega) (by omega) (by omega) (by omega)
      go_wp2
      refine wp_region_tail 13 (by kernel_rfl) (by kernel_rfl) ?_
      simp only [List.take_succ_cons, List.take_zero, List.drop_succ_cons, List.drop_zero]
      repeat (first | go_big_quiet_skip | (go_big_quiet_want; go_big_quiet_op; go_big_quiet_on))
      refine wpQuiet_nil ?_
      go_wp2_with fail
      refine P.mono ?_
      rintro e w4 ⟨rfl, hc4, hb4, _⟩
      rw [spl_out 4 32 k N F (by omega), ← HN.out trivial] at hc4
      have HC4 : Hid (Bl 5 w4 g ((outF 4 (k + 1) F ++ List.replicate (32 - 4 * (k + 1)) 0).map B)) := hc4
      have HS4 : Hid (Cl w4 w.heap.size (stV 1 F m.length Z128)) := hb4.other hcs.out (by omega)
      have HB4 : Hid (Below w.heap.size w w4) := (below_drewN hbel.out 1).trans (hb4.below hbel.out.size (by omega))
      clear P hc4 hb4 hs3
      go_wp2
      exact ⟨⟨k + 1, by go_num, by omega, HC4, HS4, HB4⟩, by simp [intOf]; omega⟩
    · obtain rfl : k = 8 := by omega
      go_wp2
      go_ret
      refine ⟨g, rfl, by omega, ?_, hbel.out⟩
      rw [Hs.out trivial]
      simpa using hcg.out

set_option maxRecDepth 100000 in
set_option maxHeartbeats 2000000 in
theorem sum_2 (b : Nat) (m : List UInt8) (w : World) (H : Sta w b 2 m) (T : Tb w) (hm : m.length < 2305843009213693952) :
    Calls Tryd.prog 14 #[.pointer (some ⟨b, 0, none⟩)] w fun e w' => ∃ g, e = .returned (.slice (some ⟨g, 0, none⟩) 48 48) ∧ w.heap.size ≤ g ∧ Bl 5 w' g ((sumF 2 m).map B) ∧ Below w.heap.size w w' := by
  have hh : isH 2 := by unfold isH; omega
  have g0 := stV_hash H
  have HH : Hid (Sta w b 2 m) := H
  have HT : Hid (Tb w) := T
  have hbs : b < w.heap.size := Cl.lt H
  have hg7 : 7 ≤ w.heap.size := by
    rcases Nat.lt_or_ge 6 w.heap.size with h1 | h1
    · exact h1
    · exfalso
      have := T.k 0 (by omega)
      unfold World.cell? at this
      simp [Array.getElem?_eq_none h1] at this
  obtain ⟨Z, hZ, hz⟩ := zero138
  obtain ⟨S, hS⟩ : ∃ S, S = stV 2 (cF 2 m) m.length (tF 2 m) := ⟨_, rfl⟩
  have hSl : S.length = 138 := by rw [hS, stV_length, cF_length, tF_length hh]
  have HR : Hid (w.rangeAt b 0 S) := fun j v hj => by
    obtain ⟨hj1, hj2⟩ := List.getElem?_eq_some_iff.1 hj
    have := HH.out
    unfold Sta at this
    rw [← hS] at this
    rw [Nat.zero_add, this.cell j hj1, hj2]
  have HI : Hid ((Tryd.prog.info? 46).map (·.size) = some S.length) := by
    show _ = _
    rw [hSl]; kernel_rfl
  obtain ⟨d, hu, hd⟩ := descState
  have Hu : Hid (Tryd.prog.underlying 46 = some d) := hu
  have Hd : Hid (d.isRow = true) := hd
  have HO : Hid (S.toArray.all (·.oneCell') = true) := by
    show _ = _
    rw [hS]
    exact all_oneCell_toArray (oneS _ _ _ _)
  have hA : Hid (Cl (w.alloc (.cells (.int .i64 0 :: Z : List Value).toArray 46)) w.heap.size (.int .i64 0 :: Z)) := alloc_cl _ _ _
  have hB : Hid (Below w.heap.size w (w.alloc (.cells (.int .i64 0 :: Z : List Value).toArray 46))) := alloc_below _ _
  have hZl : (.int .i64 0 :: Z : List Value).length = 138 := by rw [hZ]; simp [stR, Z128]
  have hth : Hid ((w.alloc (.cells (.int .i64 0 :: Z : List Value).toArray 46)).there w.heap.size 0 S.toArray.size) := hA.out.there 0 _ (by rw [hZl, List.size_toArray, hSl]; omega)
  have hI2 : Hid ((Tryd.prog.info? 46).map (·.size) = some S.toArray.size) := HI
  have hc0 : Hid (Sta ((w.alloc (.cells (.int .i64 0 :: Z : List Value).toArray 46)).setCells w.heap.size 0 S) w.heap.size 2 m) := by
    have hc := Cl.cells S 0 _ _ hA.out (by rw [hZl, hSl]; omega)
    have e : spl (.int .i64 0 :: Z) 0 S = S := by
      unfold spl
      rw [List.take_zero, List.nil_append, List.drop_of_length_le (by rw [hZl, hSl]; omega), List.append_nil]
    rw [e] at hc
    show Cl _ _ _
    rw [← hS]
    exact hc
  have hB0 : Hid (Below w.heap.size w ((w.alloc (.cells (.int .i64 0 :: Z : List Value).toArray 46)).setCells w.heap.size 0 S)) := hB.out.trans ((But.cells S 0 _ _ (But.refl _ _)).below hB.out.size (Nat.le_refl _))
  clear H T hZ hS hSl hZl hu hd
  go_enter Tryd.func14, Tryd.ntmps14
  go_wp2_with (first | refine wpList_load_mid rfl 46 _ rfl b 0 rfl S d HR.out Hu.out Hd.out HI.out ?_ | refine wpList_store_mid rfl 46 _ _ rfl w.heap.size 0 S.toArray rfl rfl hth.out hI2.out HO.out ?_ | fail)
  generalize (w.alloc (.cells (.int .i64 0 :: Z : List Value).toArray 46)).setCells w.heap.size 0 S = wa at hc0 hB0 ⊢
  refine (finish_any w.heap.size 2 m wa hc0.out hh (HT.out.below hB0.out) hg7 hm).mono ?_
  rintro e w1 ⟨rfl, hc1, hb1⟩
  have HC1 : Hid (Cl w1 w.heap.size (stV 2 (finF 2 m) m.length Z128)) := hc1
  have HB1 : Hid (Below w.heap.size w w1) := hB0.out.trans (hb1.below hB0.out.size (Nat.le_refl _))
  clear hc1 hb1 hc0 hB0 hA hB hth HO HR HI hI2 Hu Hd hz
  have g1 : w1.cell? ⟨b, 0, none⟩ = some (.int .i64 2) := stV_hash (Cl.below HH.out HB1.out hbs)
  clear g0
  go_wp2_with fail
  have CB : Calls Tryd.prog 19 #[.int .i64 2] w1 fun e w' => e = .returned (.int .i64 128) ∧ w' = w1 := block_any 2 w1
  refine CB.mono ?_
  rintro e w2 ⟨rfl, rfl⟩
  clear CB
  rename World => w1
  have CS : Calls Tryd.prog 23 #[.int .i64 2] w1 fun e w' => e = .returned (.int .i64 48) ∧ w' = w1 := size_any 2 w1
  go_wp2_with fail
  refine CS.mono ?_
  rintro e w2 ⟨rfl, rfl⟩
  clear CS g1
  rename World => w1
  obtain ⟨wm, hmk0, hcm, hbm⟩ := made w1 48 (by omega)
  have hmk : (Instr.makeSlice 29 (.int .i64 48) (.int .i64 48)).run Tryd.prog w1 = .ok (.slice (some ⟨w1.heap.size, 0, none⟩) 48 48) wm := hmk0
  clear hmk0
  have HC2 : Hid (Cl wm w.heap.size (stV 2 (finF 2 m) m.length Z128)) := HC1.out.below hbm HC1.out.lt
  have HB2 : Hid (Below w.heap.size w wm) := HB1.out.trans (hbm.mono HB1.out.size)
  have HCm : Hid (Bl 5 wm w1.heap.size ((outF 8 0 (finF 2 m) ++ List.replicate (48 - 8 * 0) 0).map B)) := hcm
  have hlt1 : w.heap.size < w1.heap.size := HC1.out.lt
  have hF := finF_length 2 m
  have HF : Hid (∀ k, 0 ≤ (finF 2 m).getD k 0 ∧ (finF 2 m).getD k 0 < 18446744073709551616) := finF_bd 2 m
  have Hs : Hid (True → sumF 2 m = outF 8 6 (finF 2 m)) := fun _ => rfl
  generalize finF 2 m = F at *
  clear hcm hbm HC1 HB1
  go_wp2
  clear hmk
  generalize w1.heap.size = g at *
  go_loopw [27] (fun s ws => ∃ k : Nat, s = .int .i64 (k : Int) ∧ k ≤ 6 ∧ Hid (Bl 5 ws g ((outF 8 k F ++ List.replicate (48 - 8 * k) 0).map B)) ∧ Hid (Cl ws w.heap.size (stV 2 F m.length Z128)) ∧ Hid (Below w.heap.size w ws)) (fun s _ => 6 - (intOf s).toNat)
  case atStart => exact ⟨0, rfl, by omega, HCm, HC2, HB2⟩
  case round =>
    clear HCm HC2 HB2
    obtain ⟨k, rfl, hk, hcg, hcs, hbel⟩ := hrel
    by_cases hlt : k < 6
    · have gk := stV_chain hcs.out k (by omega)
      have hF1 : F[k]'(by omega) = F.getD k 0 := by rw [List.getD_eq_getElem?_getD, List.getElem?_eq_getElem (by omega)]; rfl
      rw [hF1] at gk
      obtain ⟨N, hN⟩ : ∃ N : Nat, F.getD k 0 = (N : Int) := ⟨(F.getD k 0).toNat, by have := (HF.out k).1; omega⟩
      have hN2 : N < 18446744073709551616 := by have := (HF.out k).2; omega
      have HN : Hid (True → outF 8 (k + 1) F = outF 8 k F ++ tobe 8 N) := fun _ => by rw [outF_succ, hN]; rfl
      rw [hN] at gk
      clear hF1 hN
      unfold V at gk
      have hlen : ((outF 8 k F ++ List.replicate (48 - 8 * k) 0).map B).length = 48 := by rw [List.length_map, List.length_append, outF_length, List.length_replicate]; omega
      have P := put_bl 5 g (8 * k) 8 (48 - 8 * k) N _ (wr.drewN 1) (hcg.out.drewN 1) (by rw [hlen]; omega) (by rw [hlen]; omega) (by omega) hN2
      have hs3 : ∀ W, (Instr.sliceAt 29 (.slice (some ⟨g, 0, none⟩) 48 48) (some (.int .i64 ((k : Int) * 8))) (some (.int .i64 (((k : Int) + 1) * 8))) none).run Tryd.prog W = .ok (.slice (some ⟨g, 8 * k, none⟩) 8 (48 - 8 * k)) W := fun W => slice_mid g 48 (8 * k) (8 * k + 8) 8 W _ _ (by omega) (by omega) (by omega) (by omega) (by omega)
      go_wp2
      refine wp_region_tail 13 (by kernel_rfl) (by kernel_rfl) ?_
      simp only [List.take_succ_cons, List.take_zero, List.drop_succ_cons, List.drop_zero]
      repeat (first | go_big_quiet_skip | (go_big_quiet_want; go_big_quiet_op; go_big_quiet_on))
      refine wpQuiet_nil ?_
      go_wp2_with fail
      refine P.mono ?_
      rintro e w4 ⟨rfl, hc4, hb4, _⟩
      rw [spl_out 8 48 k N F (by omega), ← HN.out trivial] at hc4
      have HC4 : Hid (Bl 5 w4 g ((outF 8 (k + 1) F ++ List.replicate (48 - 8 * (k + 1)) 0).map B)) := hc4
      have HS4 : Hid (Cl w4 w.heap.size (stV 2 F m.length Z128)) := hb4.other hcs.out (by omega)
      have HB4 : Hid (Below w.heap.size w w4) := (below_drewN hbel.out 1).trans (hb4.below hbel.out.size (by omega))
      clear P hc4 hb4 hs3
      go_wp2
      exact ⟨⟨k + 1, by go_num, by omega, HC4, HS4, HB4⟩, by simp [intOf]; omega⟩
    · obtain rfl : k = 6 := by omega
      go_wp2
      go_ret
      refine ⟨g, rfl, by omega, ?_, hbel.out⟩
      rw [Hs.out trivial]
      simpa using hcg.out

set_option maxRecDepth 100000 in
set_option maxHeartbeats 2000000 in
theorem sum_3 (b : Nat) (m : List UInt8) (w : World) (H : Sta w b 3 m) (T : Tb w) (hm : m.length < 2305843009213693952) :
    Calls Tryd.prog 14 #[.pointer (some ⟨b, 0, none⟩)] w fun e w' => ∃ g, e = .returned (.slice (some ⟨g, 0, none⟩) 64 64) ∧ w.heap.size ≤ g ∧ Bl 5 w' g ((sumF 3 m).map B) ∧ Below w.heap.size w w' := by
  have hh : isH 3 := by unfold isH; omega
  have g0 := stV_hash H
  have HH : Hid (Sta w b 3 m) := H
  have HT : Hid (Tb w) := T
  have hbs : b < w.heap.size := Cl.lt H
  have hg7 : 7 ≤ w.heap.size := by
    rcases Nat.lt_or_ge 6 w.heap.size with h1 | h1
    · exact h1
    · exfalso
      have := T.k 0 (by omega)
      unfold World.cell? at this
      simp [Array.getElem?_eq_none h1] at this
  obtain ⟨Z, hZ, hz⟩ := zero138
  obtain ⟨S, hS⟩ : ∃ S, S = stV 3 (cF 3 m) m.length (tF 3 m) := ⟨_, rfl⟩
  have hSl : S.length = 138 := by rw [hS, stV_length, cF_length, tF_length hh]
  have HR : Hid (w.rangeAt b 0 S) := fun j v hj => by
    obtain ⟨hj1, hj2⟩ := List.getElem?_eq_some_iff.1 hj
    have := HH.out
    unfold Sta at this
    rw [← hS] at this
    rw [Nat.zero_add, this.cell j hj1, hj2]
  have HI : Hid ((Tryd.prog.info? 46).map (·.size) = some S.length) := by
    show _ = _
    rw [hSl]; kernel_rfl
  obtain ⟨d, hu, hd⟩ := descState
  have Hu : Hid (Tryd.prog.underlying 46 = some d) := hu
  have Hd : Hid (d.isRow = true) := hd
  have HO : Hid (S.toArray.all (·.oneCell') = true) := by
    show _ = _
    rw [hS]
    exact all_oneCell_toArray (oneS _ _ _ _)
  have hA : Hid (Cl (w.alloc (.cells (.int .i64 0 :: Z : List Value).toArray 46)) w.heap.size (.int .i64 0 :: Z)) := alloc_cl _ _ _
  have hB : Hid (Below w.heap.size w (w.alloc (.cells (.int .i64 0 :: Z : List Value).toArray 46))) := alloc_below _ _
  have hZl : (.int .i64 0 :: Z : List Value).length = 138 := by rw [hZ]; simp [stR, Z128]
  have hth : Hid ((w.alloc (.cells (.int .i64 0 :: Z : List Value).toArray 46)).there w.heap.size 0 S.toArray.size) := hA.out.there 0 _ (by rw [hZl, List.size_toArray, hSl]; omega)
  have hI2 : Hid ((Tryd.prog.info? 46).map (·.size) = some S.toArray.size) := HI
  have hc0 : Hid (Sta ((w.alloc (.cells (.int .i64 0 :: Z : List Value).toArray 46)).setCells w.heap.size 0 S) w.heap.size 3 m) := by
    have hc := Cl.cells S 0 _ _ hA.out (by rw [hZl, hSl]; omega)
    have e : spl (.int .i64 0 :: Z) 0 S = S := by
      unfold spl
      rw [List.take_zero, List.nil_append, List.drop_of_length_le (by rw [hZl, hSl]; omega), List.append_nil]
    rw [e] at hc
    show Cl _ _ _
    rw [← hS]
    exact hc
  have hB0 : Hid (Below w.heap.size w ((w.alloc (.cells (.int .i64 0 :: Z : List Value).toArray 46)).setCells w.heap.size 0 S)) := hB.out.trans ((But.cells S 0 _ _ (But.refl _ _)).below hB.out.size (Nat.le_refl _))
  clear H T hZ hS hSl hZl hu hd
  go_enter Tryd.func14, Tryd.ntmps14
  go_wp2_with (first | refine wpList_load_mid rfl 46 _ rfl b 0 rfl S d HR.out Hu.out Hd.out HI.out ?_ | refine wpList_store_mid rfl 46 _ _ rfl w.heap.size 0 S.toArray rfl rfl hth.out hI2.out HO.out ?_ | fail)
  generalize (w.alloc (.cells (.int .i64 0 :: Z : List Value).toArray 46)).setCells w.heap.size 0 S = wa at hc0 hB0 ⊢
  refine (finish_any w.heap.size 3 m wa hc0.out hh (HT.out.below hB0.out) hg7 hm).mono ?_
  rintro e w1 ⟨rfl, hc1, hb1⟩
  have HC1 : Hid (Cl w1 w.heap.size (stV 3 (finF 3 m) m.length Z128)) := hc1
  have HB1 : Hid (Below w.heap.size w w1) := hB0.out.trans (hb1.below hB0.out.size (Nat.le_refl _))
  clear hc1 hb1 hc0 hB0 hA hB hth HO HR HI hI2 Hu Hd hz
  have g1 : w1.cell? ⟨b, 0, none⟩ = some (.int .i64 3) := stV_hash (Cl.below HH.out HB1.out hbs)
  clear g0
  go_wp2_with fail
  have CB : Calls Tryd.prog 19 #[.int .i64 3] w1 fun e w' => e = .returned (.int .i64 128) ∧ w' = w1 := block_any 3 w1
  refine CB.mono ?_
  rintro e w2 ⟨rfl, rfl⟩
  clear CB
  rename World => w1
  have CS : Calls Tryd.prog 23 #[.int .i64 3] w1 fun e w' => e = .returned (.int .i64 64) ∧ w' = w1 := size_any 3 w1
  go_wp2_with fail
  refine CS.mono ?_
  rintro e w2 ⟨rfl, rfl⟩
  clear CS g1
  rename World => w1
  obtain ⟨wm, hmk0, hcm, hbm⟩ := made w1 64 (by omega)
  have hmk : (Instr.makeSlice 29 (.int .i64 64) (.int .i64 64)).run Tryd.prog w1 = .ok (.slice (some ⟨w1.heap.size, 0, none⟩) 64 64) wm := hmk0
  clear hmk0
  have HC2 : Hid (Cl wm w.heap.size (stV 3 (finF 3 m) m.length Z128)) := HC1.out.below hbm HC1.out.lt
  have HB2 : Hid (Below w.heap.size w wm) := HB1.out.trans (hbm.mono HB1.out.size)
  have HCm : Hid (Bl 5 wm w1.heap.size ((outF 8 0 (finF 3 m) ++ List.replicate (64 - 8 * 0) 0).map B)) := hcm
  have hlt1 : w.heap.size < w1.heap.size := HC1.out.lt
  have hF := finF_length 3 m
  have HF : Hid (∀ k, 0 ≤ (finF 3 m).getD k 0 ∧ (finF 3 m).getD k 0 < 18446744073709551616) := finF_bd 3 m
  have Hs : Hid (True → sumF 3 m = outF 8 8 (finF 3 m)) := fun _ => rfl
  generalize finF 3 m = F at *
  clear hcm hbm HC1 HB1
  go_wp2
  clear hmk
  generalize w1.heap.size = g at *
  go_loopw [27] (fun s ws => ∃ k : Nat, s = .int .i64 (k : Int) ∧ k ≤ 8 ∧ Hid (Bl 5 ws g ((outF 8 k F ++ List.replicate (64 - 8 * k) 0).map B)) ∧ Hid (Cl ws w.heap.size (stV 3 F m.length Z128)) ∧ Hid (Below w.heap.size w ws)) (fun s _ => 8 - (intOf s).toNat)
  case atStart => exact ⟨0, rfl, by omega, HCm, HC2, HB2⟩
  case round =>
    clear HCm HC2 HB2
    obtain ⟨k, rfl, hk, hcg, hcs, hbel⟩ := hrel
    by_cases hlt : k < 8
    · have gk := stV_chain hcs.out k (by omega)
      have hF1 : F[k]'(by omega) = F.getD k 0 := by rw [List.getD_eq_getElem?_getD, List.getElem?_eq_getElem (by omega)]; rfl
      rw [hF1] at gk
      obtain ⟨N, hN⟩ : ∃ N : Nat, F.getD k 0 = (N : Int) := ⟨(F.getD k 0).toNat, by have := (HF.out k).1; omega⟩
      have hN2 : N < 18446744073709551616 := by have := (HF.out k).2; omega
      have HN : Hid (True → outF 8 (k + 1) F = outF 8 k F ++ tobe 8 N) := fun _ => by rw [outF_succ, hN]; rfl
      rw [hN] at gk
      clear hF1 hN
      unfold V at gk
      have hlen : ((outF 8 k F ++ List.replicate (64 - 8 * k) 0).map B).length = 64 := by rw [List.length_map, List.length_append, outF_length, List.length_replicate]; omega
      have P := put_bl 5 g (8 * k) 8 (64 - 8 * k) N _ (wr.drewN 1) (hcg.out.drewN 1) (by rw [hlen]; omega) (by rw [hlen]; omega) (by omega) hN2
      have hs3 : ∀ W, (Instr.sliceAt 29 (.slice (some ⟨g, 0, none⟩) 64 64) (some (.int .i64 ((k : Int) * 8))) (some (.int .i64 (((k : Int) + 1) * 8))) none).run Tryd.prog W = .ok (.slice (some ⟨g, 8 * k, none⟩) 8 (64 - 8 * k)) W := fun W => slice_mid g 64 (8 * k) (8 * k + 8) 8 W _ _ (by omega) (by omega) (by omega) (by omega) (by omega)
      go_wp2
      refine wp_region_tail 13 (by kernel_rfl) (by kernel_rfl) ?_
      simp only [List.take_succ_cons, List.take_zero, List.drop_succ_cons, List.drop_zero]
      repeat (first | go_big_quiet_skip | (go_big_quiet_want; go_big_quiet_op; go_big_quiet_on))
      refine wpQuiet_nil ?_
      go_wp2_with fail
      refine P.mono ?_
      rintro e w4 ⟨rfl, hc4, hb4, _⟩
      rw [spl_out 8 64 k N F (by omega), ← HN.out trivial] at hc4
      have HC4 : Hid (Bl 5 w4 g ((outF 8 (k + 1) F ++ List.replicate (64 - 8 * (k + 1)) 0).map B)) := hc4
      have HS4 : Hid (Cl w4 w.heap.size (stV 3 F m.length Z128)) := hb4.other hcs.out (by omega)
      have HB4 : Hid (Below w.heap.size w w4) := (below_drewN hbel.out 1).trans (hb4.below hbel.out.size (by omega))
      clear P hc4 hb4 hs3
      go_wp2
      exact ⟨⟨k + 1, by go_num, by omega, HC4, HS4, HB4⟩, by simp [intOf]; omega⟩
    · obtain rfl : k = 8 := by omega
      go_wp2
      go_ret
      refine ⟨g, rfl, by omega, ?_, hbel.out⟩
      rw [Hs.out trivial]
      simpa using hcg.out

/-- A sum in memory of its own. -/
theorem sum_any (b : Nat) (h : Int) (m : List UInt8) (w : World) (H : Sta w b h m) (hh : isH h) (T : Tb w) (hm : m.length < 2305843009213693952) :
    Calls Tryd.prog 14 #[.pointer (some ⟨b, 0, none⟩)] w fun e w' => ∃ g, e = .returned (.slice (some ⟨g, 0, none⟩) (siz h) (siz h)) ∧ w.heap.size ≤ g ∧ Bl 5 w' g ((sumF h m).map B) ∧ Below w.heap.size w w' := by
  rcases hh with rfl | rfl | rfl
  · exact sum_1 b m w H T hm
  · exact sum_2 b m w H T hm
  · exact sum_3 b m w H T hm

end Go.Proofs.YtpfdaclmchcbiaaDoor.Sha