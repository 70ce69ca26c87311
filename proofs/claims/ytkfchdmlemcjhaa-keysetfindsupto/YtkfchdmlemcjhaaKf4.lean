import Derived.Test.YtkfchdmlemcjhaaKf3
namespace Go.Proofs.Ytkfchdmlemcjhaa
open Go.RowKit Go.Shelf
set_option maxRecDepth 100000

set_option maxHeartbeats 16000000 in
/-- The program's Find. -/
theorem find_any (ao : Option Addr) (cap : Nat) (l : List Ex) (k : List UInt8) (w : World) (h : LR w ao cap l) (hl : l.length ≤ 100000000) (hb : ∀ x ∈ l, x.e.val.length ≤ 1000000000 ∧ x.e.ops.length ≤ 1000000000) :
    Calls Try.prog 5 #[.slice ao l.length cap, .string ⟨k.toArray⟩] w fun r w' => (∃ y : Ex, r = .returned (.tuple #[.agg (xC y).toArray, .int .i64 (ansE k (es l)).2]) ∧ y.e = (ansE k (es l)).1 ∧ (∃ B, NO B w' (.slice y.va y.e.val.length y.vc) y.e.val) ∧ ∃ B, OT B w' (.slice y.aa y.e.ops.length y.ac) y.e.ops) ∧ Below w.heap.size w w' := by
  obtain ⟨W, hW⟩ : ∃ x, w.alloc (.cells #[.slice none 0 0, .int .i64 0, .string ⟨#[]⟩, .bool false, .string ⟨#[]⟩, .bool false, .string ⟨#[]⟩, .bool false, .slice none 0 0, .bool false] 28) = x := ⟨_, rfl⟩
  have g1 := alloc_below w (.cells #[.slice none 0 0, .int .i64 0, .string ⟨#[]⟩, .bool false, .string ⟨#[]⟩, .bool false, .string ⟨#[]⟩, .bool false, .slice none 0 0, .bool false] 28)
  have g3 : Bl 28 _ w.heap.size [.slice none 0 0, .int .i64 0, .string ⟨#[]⟩, .bool false, .string ⟨#[]⟩, .bool false, .string ⟨#[]⟩, .bool false, .slice none 0 0, .bool false] := alloc_bl w [.slice none 0 0, .int .i64 0, .string ⟨#[]⟩, .bool false, .string ⟨#[]⟩, .bool false, .string ⟨#[]⟩, .bool false, .slice none 0 0, .bool false] 28
  rw [hW] at g1 g3
  have HG0 : Hid (Bl 28 W w.heap.size [.slice none 0 0, .int .i64 0, .string ⟨#[]⟩, .bool false, .string ⟨#[]⟩, .bool false, .string ⟨#[]⟩, .bool false, .slice none 0 0, .bool false] ∧ Below w.heap.size w W) := ⟨g3, g1⟩
  have HW : Hid (w.alloc (.cells #[.slice none 0 0, .int .i64 0, .string ⟨#[]⟩, .bool false, .string ⟨#[]⟩, .bool false, .string ⟨#[]⟩, .bool false, .slice none 0 0, .bool false] 28) = W) := hW
  have H : Hid (∀ wq, Below w.heap.size w wq → LR wq ao cap l) := fun wq hq => h.below hq
  have HBd : Hid (∀ x ∈ l, x.e.val.length ≤ 1000000000 ∧ x.e.ops.length ≤ 1000000000) := hb
  have hgi : (Try.prog.info? 28).map (·.size) = some 10 := by kernel_rfl
  clear h hW g1 g3 hb
  go_enter Try.func5, Try.ntmps5
  go_upto_region 1 with fail
  rw [HW.out]
  clear HW
  go_wp2
  go_loopw [6, 11] (fun s6 s11 wx => ∃ i : Nat, s11 = .int .i64 i ∧ i ≤ l.length ∧ (∃ F : List Int, Hid (Own1 w.heap.size wx s6 F) ∧ Hid (F.length = cnt k ((es l).take (i)) ∧ ∀ j : Int, F = [j] → ∃ (n : Nat) (x : Ex), j = (n : Int) ∧ l[n]? = some x ∧ x.e = lastE k ((es l).take (i)))) ∧ Hid (Bl 28 wx w.heap.size [.slice none 0 0, .int .i64 0, .string ⟨#[]⟩, .bool false, .string ⟨#[]⟩, .bool false, .string ⟨#[]⟩, .bool false, .slice none 0 0, .bool false] ∧ Below w.heap.size w wx)) (fun _ s _ => l.length - (intOf s).toNat)
  case atStart => exact ⟨0, rfl, Nat.zero_le _, ⟨[], World.ownsRow_nil _ _ _ _, rfl, fun j hj => by cases hj⟩, HG0⟩
  case round =>
    clear HG0
    obtain ⟨i, rfl, hi, ⟨F, HF, HFL⟩, HG⟩ := hrel
    obtain ⟨a6, c6, e6, _, hg6⟩ := own_slice HF.out
    subst e6
    by_cases hlt : i < l.length
    · have q0 : decide ((i : Int) < (l.length : Int)) = true := decide_eq_true (by omega)
      have q1 : (i : Int) < (l.length : Int) := by omega
      have qc : cnt k ((es l).take i) ≤ 100000000 := Nat.le_trans (cnt_le _ _) (by rw [List.length_take]; omega)
      obtain ⟨x, hx⟩ : ∃ x, l[i]? = some x := ⟨_, List.getElem?_eq_getElem hlt⟩
      have R1 := H.out wr HG.out.2
      obtain ⟨g1, o1, rfl, p0, p1, p2, p3, p4, p5, p6, p7, p8, p9⟩ := R1.at hx
      have HT : Hid ((es l).take (i + 1) = (es l).take i ++ [x.e]) := es_take hx
      have HXI : Hid (l[i]? = some x) := hx
      clear R1 hx
      by_cases hh : hit k x.e = true
      · have HFN : Hid ((F ++ [(i : Int)]).length = cnt k ((es l).take (i + 1)) ∧ ∀ j : Int, F ++ [(i : Int)] = [j] → ∃ (n : Nat) (x : Ex), j = (n : Int) ∧ l[n]? = some x ∧ x.e = lastE k ((es l).take (i + 1))) := by
          refine ⟨by rw [HT.out, cnt_snoc, if_pos hh, List.length_append, HFL.out.1]; rfl, fun j hj => ⟨i, x, ?_, HXI.out, by rw [HT.out, lastE_snoc, if_pos hh]⟩⟩
          have e := congrArg List.length hj
          rw [List.length_append] at e
          have : F = [] := by cases F; rfl; simp at e
          rw [this] at hj
          exact (List.cons.inj hj).1.symm
        obtain ⟨⟨val, kty, kid, hKid, use, hUse, alg, hAlg, ops, hOps⟩, xva, xvc, xaa, xac⟩ := x
        have h12 : hKid = true ∧ k = kid := by
          have h3 := hh
          simp only [hit, Bool.and_eq_true, beq_iff_eq] at h3
          exact ⟨h3.1, h3.2.symm⟩
        obtain ⟨rfl, rfl⟩ := h12
        dsimp only at p0 p1 p2 p3 p4 p5 p6 p7 p8 p9
        clear HT HXI hh
        obtain ⟨w2, hw2⟩ : ∃ x, wr.alloc (.cells #[.slice xva val.length xvc, .int .i64 kty, .string ⟨k.toArray⟩, .bool true, .string ⟨use.toArray⟩, .bool hUse, .string ⟨alg.toArray⟩, .bool hAlg, .slice xaa ops.length xac, .bool hOps] 28) = x := ⟨_, rfl⟩
        have hA2 : Below wr.heap.size wr w2 := by rw [← hw2]; exact alloc_below _ _
        have hb2 : Bl 28 w2 wr.heap.size [.slice xva val.length xvc, .int .i64 kty, .string ⟨k.toArray⟩, .bool true, .string ⟨use.toArray⟩, .bool hUse, .string ⟨alg.toArray⟩, .bool hAlg, .slice xaa ops.length xac, .bool hOps] := by rw [← hw2]; exact alloc_bl _ _ _
        have c2 := hb2.cell 2 (by simp)
        have c3 := hb2.cell 3 (by simp)
        dsimp only [List.getElem_cons_zero, List.getElem_cons_succ] at c2 c3
        have HG2 : Hid (Bl 28 w2 w.heap.size [.slice none 0 0, .int .i64 0, .string ⟨#[]⟩, .bool false, .string ⟨#[]⟩, .bool false, .string ⟨#[]⟩, .bool false, .slice none 0 0, .bool false] ∧ Below w.heap.size w w2) := ⟨HG.out.1.below hA2 HG.out.1.lt, HG.out.2.trans (hA2.mono HG.out.2.size)⟩
        have HF2 : Hid (Own1 w.heap.size w2 (.slice a6 F.length c6) F) := own_below HF.out hA2 (Nat.le_refl _)
        clear hA2 hb2 HF HG
        go_wp2_with (at_builtin; refine append_1 rfl (.tmp 24) (.tmp 26) rfl w.heap.size (.slice a6 F.length c6) F (i : Int) rfl HF2.out _ rfl rfl (by have := HFL.out.1; omega) HG2.out.2.size ?_; intro g cap w3 ho3 hg3 hor)
        have HF3 : Hid (Own1 w.heap.size w3 (.slice (some ⟨g, 0, none⟩) (F.length + 1) cap) (F ++ [(i : Int)])) := ho3
        have hAq := alloc_below w2 (.cells #[.int .i64 (i : Int)] 3)
        have hoq : Own1 w.heap.size (w2.alloc (.cells #[.int .i64 (i : Int)] 3)) (.slice a6 F.length c6) F := own_below HF2.out hAq (Nat.le_refl _)
        have HG3 : Hid (Bl 28 w3 w.heap.size [.slice none 0 0, .int .i64 0, .string ⟨#[]⟩, .bool false, .string ⟨#[]⟩, .bool false, .string ⟨#[]⟩, .bool false, .slice none 0 0, .bool false] ∧ Below w.heap.size w w3) := ⟨bl_grown' (HG2.out.1.below hAq HG2.out.1.lt) hg3 (block_apart hoq (HG2.out.1.below hAq HG2.out.1.lt) (by decide)), (HG2.out.2.trans (hAq.mono HG2.out.2.size)).grown hg3 (Nat.le_trans HG2.out.2.size hAq.size) (own_block hoq)⟩
        clear ho3 hg3 hor hAq hoq HF2 HG2
        go_wp2
        go_roundw
        case rel => exact ⟨i + 1, by go_num, by omega, ⟨F ++ [(i : Int)], HF3, HFN⟩, HG3⟩
        case measure => simp [intOf]; omega
      · have HFN : Hid (F.length = cnt k ((es l).take (i + 1)) ∧ ∀ j : Int, F = [j] → ∃ (n : Nat) (x : Ex), j = (n : Int) ∧ l[n]? = some x ∧ x.e = lastE k ((es l).take (i + 1))) := by
          refine ⟨by rw [HT.out, cnt_snoc, if_neg hh]; exact HFL.out.1, fun j hj => ?_⟩
          obtain ⟨n, y, e1, e2, e3⟩ := HFL.out.2 j hj
          exact ⟨n, y, e1, e2, by rw [HT.out, lastE_snoc, if_neg hh]; exact e3⟩
        obtain ⟨⟨val, kty, kid, hKid, use, hUse, alg, hAlg, ops, hOps⟩, xva, xvc, xaa, xac⟩ := x
        dsimp only at p0 p1 p2 p3 p4 p5 p6 p7 p8 p9
        clear HT HXI
        cases hKid with
        | true =>
          have h2 : (kid == k) = false := by simpa [hit] using hh
          clear hh
          obtain ⟨w2, hw2⟩ : ∃ x, wr.alloc (.cells #[.slice xva val.length xvc, .int .i64 kty, .string ⟨kid.toArray⟩, .bool true, .string ⟨use.toArray⟩, .bool hUse, .string ⟨alg.toArray⟩, .bool hAlg, .slice xaa ops.length xac, .bool hOps] 28) = x := ⟨_, rfl⟩
          have hA2 : Below wr.heap.size wr w2 := by rw [← hw2]; exact alloc_below _ _
          have hb2 : Bl 28 w2 wr.heap.size [.slice xva val.length xvc, .int .i64 kty, .string ⟨kid.toArray⟩, .bool true, .string ⟨use.toArray⟩, .bool hUse, .string ⟨alg.toArray⟩, .bool hAlg, .slice xaa ops.length xac, .bool hOps] := by rw [← hw2]; exact alloc_bl _ _ _
          have c2 := hb2.cell 2 (by simp)
          have c3 := hb2.cell 3 (by simp)
          dsimp only [List.getElem_cons_zero, List.getElem_cons_succ] at c2 c3
          have HG2 : Hid (Bl 28 w2 w.heap.size [.slice none 0 0, .int .i64 0, .string ⟨#[]⟩, .bool false, .string ⟨#[]⟩, .bool false, .string ⟨#[]⟩, .bool false, .slice none 0 0, .bool false] ∧ Below w.heap.size w w2) := ⟨HG.out.1.below hA2 HG.out.1.lt, HG.out.2.trans (hA2.mono HG.out.2.size)⟩
          have HF2 : Hid (Own1 w.heap.size w2 (.slice a6 F.length c6) F) := own_below HF.out hA2 (Nat.le_refl _)
          clear hA2 hb2 HF HG
          go_wp2
          go_roundw
          case rel => exact ⟨i + 1, by go_num, by omega, ⟨F, HF2, HFN⟩, HG2⟩
          case measure => simp [intOf]; omega
        | false =>
          clear hh
          obtain ⟨w2, hw2⟩ : ∃ x, wr.alloc (.cells #[.slice xva val.length xvc, .int .i64 kty, .string ⟨kid.toArray⟩, .bool false, .string ⟨use.toArray⟩, .bool hUse, .string ⟨alg.toArray⟩, .bool hAlg, .slice xaa ops.length xac, .bool hOps] 28) = x := ⟨_, rfl⟩
          have hA2 : Below wr.heap.size wr w2 := by rw [← hw2]; exact alloc_below _ _
          have hb2 : Bl 28 w2 wr.heap.size [.slice xva val.length xvc, .int .i64 kty, .string ⟨kid.toArray⟩, .bool false, .string ⟨use.toArray⟩, .bool hUse, .string ⟨alg.toArray⟩, .bool hAlg, .slice xaa ops.length xac, .bool hOps] := by rw [← hw2]; exact alloc_bl _ _ _
          have c2 := hb2.cell 2 (by simp)
          have c3 := hb2.cell 3 (by simp)
          dsimp only [List.getElem_cons_zero, List.getElem_cons_succ] at c2 c3
          have HG2 : Hid (Bl 28 w2 w.heap.size [.slice none 0 0, .int .i64 0, .string ⟨#[]⟩, .bool false, .string ⟨#[]⟩, .bool false, .string ⟨#[]⟩, .bool false, .slice none 0 0, .bool false] ∧ Below w.heap.size w w2) := ⟨HG.out.1.below hA2 HG.out.1.lt, HG.out.2.trans (hA2.mono HG.out.2.size)⟩
          have HF2 : Hid (Own1 w.heap.size w2 (.slice a6 F.length c6) F) := own_below HF.out hA2 (Nat.le_refl _)
          clear hA2 hb2 HF HG
          go_wp2
          go_roundw
          case rel => exact ⟨i + 1, by go_num, by omega, ⟨F, HF2, HFN⟩, HG2⟩
          case measure => simp [intOf]; omega
    · have q0 : decide ((i : Int) < (l.length : Int)) = false := decide_eq_false (by omega)
      obtain rfl : i = l.length := by omega
      rw [es_all] at HFL
      have hFL := HFL.out.1
      have qc : cnt k (es l) ≤ 100000000 := Nat.le_trans (cnt_le _ _) (by unfold es; rw [List.length_map]; omega)
      by_cases hc0 : F.length = 0
      · have q1 : ((F.length : Int) == 0) = true := by rw [hc0]; rfl
        have HA2 : Hid (ansE k (es l) = (zeroE, 103)) := by show _ = _; unfold ansE; rw [if_pos (by omega)]
        obtain ⟨wz, hwz⟩ : ∃ wz, wr.setRow w.heap.size (xC zeroX).toArray = wz := ⟨_, rfl⟩
        have HBz : Hid (Bl 28 wz w.heap.size (xC zeroX)) := by rw [← hwz]; exact set_bl2 HG.out.1
        have HB2 : Hid (Below w.heap.size w wz) := by rw [← hwz]; exact setRow_below2 _ HG.out.2 (Nat.le_refl _)
        have HWz : Hid (wr.setRow w.heap.size (xC zeroX).toArray = wz) := hwz
        have HBX : Hid (Bl 28 wr w.heap.size [.slice none 0 0, .int .i64 0, .string ⟨#[]⟩, .bool false, .string ⟨#[]⟩, .bool false, .string ⟨#[]⟩, .bool false, .slice none 0 0, .bool false]) := HG.out.1
        clear hwz HG
        go_wp2_with (refine wpList_store_row rfl 28 (.tmp 4) (.tmp 33) rfl w.heap.size (xC zeroX).toArray rfl rfl 28 ([.slice none 0 0, .int .i64 0, .string ⟨#[]⟩, .bool false, .string ⟨#[]⟩, .bool false, .string ⟨#[]⟩, .bool false, .slice none 0 0, .bool false] : List Value).toArray HBX.out hgi rfl (by simp [xC, zeroX, Value.oneCell']) ?_; rw [HWz.out]; clear HWz HBX)
        (try simp only [Exit.inBlock, Exit.then])
        refine bodyPost_ret (v := .tuple #[.agg (xC zeroX).toArray, .int .i64 103]) (results_en2 rfl _ _ w.heap.size zeroX _ rfl rfl HBz.out) rfl ⟨⟨zeroX, ?_, ?_, ⟨0, World.ownsRow_nil _ _ _ _⟩, 0, World.ownsRow_nil _ _ _ _⟩, HB2.out⟩
        · rw [HA2.out]
        · rw [HA2.out]; rfl
      · have q1 : ((F.length : Int) == 0) = false := beq_eq_false_iff_ne.2 (by omega)
        by_cases hc1 : F.length = 1
        · have q2 : ((F.length : Int) == 1) = true := by rw [hc1]; rfl
          have hc2 : cnt k (es l) = 1 := by rw [← hFL]; exact hc1
          clear hFL
          obtain ⟨j, rfl⟩ : ∃ j, F = [j] := List.length_eq_one_iff.1 hc1
          obtain ⟨n, x, rfl, hx, hxe⟩ := HFL.out.2 j rfl
          obtain ⟨g6, rfl⟩ := hg6 (by simp)
          have k6 : wr.cell? ⟨g6, 0, none⟩ = some (.int .i64 (n : Int)) := (own_cell HF.out 0 _ rfl).1
          have hnl : n < l.length := (List.getElem?_eq_some_iff.1 hx).1
          have qn : (n : Int) < (l.length : Int) := by omega
          have R1 := H.out wr HG.out.2
          obtain ⟨g1, o1, rfl, p0, p1, p2, p3, p4, p5, p6, p7, p8, p9⟩ := R1.at hx
          have hxb := HBd.out _ (List.mem_of_getElem? hx)
          have C := apart_any x wr (R1.rd _ (List.mem_of_getElem? hx)) hxb.1 hxb.2
          have HA2 : Hid (ansE k (es l) = (x.e, 0)) := by show _ = _; unfold ansE; rw [if_neg (by omega), if_neg (by omega), hxe]
          clear hx hxe R1 hxb HFL HF
          go_wp2_with fail
          refine C.mono ?_
          clear C
          rintro r w3 ⟨⟨y, rfl, hye, hyr⟩, hb3⟩
          have hbx := HG.out.1.below hb3 HG.out.1.lt
          have hbw := HG.out.2.trans (hb3.mono HG.out.2.size)
          obtain ⟨B1, hyn⟩ : ∃ B, NO B w3 (.slice y.va y.e.val.length y.vc) y.e.val := hyr.2.1
          obtain ⟨B2, hyt⟩ : ∃ B, OT B w3 (.slice y.aa y.e.ops.length y.ac) y.e.ops := hyr.2.2
          obtain ⟨wz, hwz⟩ : ∃ wz, w3.setRow w.heap.size (xC y).toArray = wz := ⟨_, rfl⟩
          have HBz : Hid (Bl 28 wz w.heap.size (xC y)) := by rw [← hwz]; exact set_bl2 hbx
          have HB2 : Hid (Below w.heap.size w wz) := by rw [← hwz]; exact setRow_below2 _ hbw (Nat.le_refl _)
          have HNZ : Hid (NO B1 wz (.slice y.va y.e.val.length y.vc) y.e.val) := by rw [← hwz]; exact own_setr hyn hbx (by decide)
          have HTZ : Hid (OT B2 wz (.slice y.aa y.e.ops.length y.ac) y.e.ops) := by rw [← hwz]; exact own_setr hyt hbx (by decide)
          have HWz : Hid (w3.setRow w.heap.size (xC y).toArray = wz) := hwz
          have HBX : Hid (Bl 28 w3 w.heap.size [.slice none 0 0, .int .i64 0, .string ⟨#[]⟩, .bool false, .string ⟨#[]⟩, .bool false, .string ⟨#[]⟩, .bool false, .slice none 0 0, .bool false]) := hbx
          have HYE : Hid (y.e = x.e) := hye
          clear hwz hbx hbw hyn hyt hyr hb3 HG hye
          go_wp2_with (refine wpList_store_row rfl 28 (.tmp 4) (.tmp 42) rfl w.heap.size (xC y).toArray rfl rfl 28 ([.slice none 0 0, .int .i64 0, .string ⟨#[]⟩, .bool false, .string ⟨#[]⟩, .bool false, .string ⟨#[]⟩, .bool false, .slice none 0 0, .bool false] : List Value).toArray HBX.out hgi rfl (by simp [xC, Value.oneCell']) ?_; rw [HWz.out]; clear HWz HBX)
          (try simp only [Exit.inBlock, Exit.then])
          refine bodyPost_ret (v := .tuple #[.agg (xC y).toArray, .int .i64 0]) (results_en2 rfl _ _ w.heap.size y _ rfl rfl HBz.out) rfl ⟨⟨y, ?_, ?_, ⟨B1, HNZ.out⟩, B2, HTZ.out⟩, HB2.out⟩
          · rw [HA2.out]
          · rw [HA2.out]; exact HYE.out
        · have q2 : ((F.length : Int) == 1) = false := beq_eq_false_iff_ne.2 (by omega)
          have HA2 : Hid (ansE k (es l) = (zeroE, 104)) := by show _ = _; unfold ansE; rw [if_neg (by omega), if_pos (by omega)]
          obtain ⟨wz, hwz⟩ : ∃ wz, wr.setRow w.heap.size (xC zeroX).toArray = wz := ⟨_, rfl⟩
          have HBz : Hid (Bl 28 wz w.heap.size (xC zeroX)) := by rw [← hwz]; exact set_bl2 HG.out.1
          have HB2 : Hid (Below w.heap.size w wz) := by rw [← hwz]; exact setRow_below2 _ HG.out.2 (Nat.le_refl _)
          have HWz : Hid (wr.setRow w.heap.size (xC zeroX).toArray = wz) := hwz
          have HBX : Hid (Bl 28 wr w.heap.size [.slice none 0 0, .int .i64 0, .string ⟨#[]⟩, .bool false, .string ⟨#[]⟩, .bool false, .string ⟨#[]⟩, .bool false, .slice none 0 0, .bool false]) := HG.out.1
          clear hwz HG
          go_wp2_with (refine wpList_store_row rfl 28 (.tmp 4) (.tmp 43) rfl w.heap.size (xC zeroX).toArray rfl rfl 28 ([.slice none 0 0, .int .i64 0, .string ⟨#[]⟩, .bool false, .string ⟨#[]⟩, .bool false, .string ⟨#[]⟩, .bool false, .slice none 0 0, .bool false] : List Value).toArray HBX.out hgi rfl (by simp [xC, zeroX, Value.oneCell']) ?_; rw [HWz.out]; clear HWz HBX)
          (try simp only [Exit.inBlock, Exit.then])
          refine bodyPost_ret (v := .tuple #[.agg (xC zeroX).toArray, .int .i64 104]) (results_en2 rfl _ _ w.heap.size zeroX _ rfl rfl HBz.out) rfl ⟨⟨zeroX, ?_, ?_, ⟨0, World.ownsRow_nil _ _ _ _⟩, 0, World.ownsRow_nil _ _ _ _⟩, HB2.out⟩
          · rw [HA2.out]
          · rw [HA2.out]; rfl

end Go.Proofs.Ytkfchdmlemcjhaa
