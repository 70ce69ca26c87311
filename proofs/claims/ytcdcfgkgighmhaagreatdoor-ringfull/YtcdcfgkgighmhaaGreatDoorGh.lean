import Derived.Test.YtcdcfgkgighmhaaGreatDoorGg
namespace Go.Proofs.YtcdcfgkgighmhaaGreatDoor
open Go.RowKit Go.MuLone
set_option maxRecDepth 100000

theorem sCs_drop : ∀ (L : List Ks) (i : Nat), (sCs L).drop (i * 4) = sCs (L.drop i)
  | _, 0 => rfl
  | [], i + 1 => by simp [sCs]
  | p :: r, i + 1 => by
    have ih := sCs_drop r i
    rw [show sCs (p :: r) = sC p ++ sCs r from rfl, show (i + 1) * 4 = (sC p).length + i * 4 by show _ = 4 + i * 4; omega, List.drop_append, Nat.add_sub_cancel_left, ih, List.drop_eq_nil_of_le (by omega)]
    rfl
theorem sCs_app (A B : List Ks) : sCs (A ++ B) = sCs A ++ sCs B := List.flatMap_append
theorem sCs_take (L : List Ks) (i : Nat) : (sCs L).take (i * 4) = sCs (L.take i) := by
  have e : sCs L = sCs (L.take i) ++ sCs (L.drop i) := by rw [← sCs_app, List.take_append_drop]
  by_cases h : i ≤ L.length
  · rw [e, List.take_append_of_le_length (by rw [sCs_length, List.length_take]; omega), List.take_of_length_le (by rw [sCs_length, List.length_take]; omega)]
  · rw [List.take_of_length_le (by rw [sCs_length]; omega), List.take_of_length_le (by omega)]
theorem wpList_clear_run {P : Program} {w : World} {ops : Array Oper} {rest : List Oper} {o : Oper} {a : Act} {Q : Exit → Act → World → Prop} (hgd : o.guard = none) (s : Operand) (t : TypeId)
    (ho : o.op = .call { callee := .builtin .clear, args := #[s], argTypes := #[t] }) (vs : Value) (hs : a.eval s = vs) (w' : World) (hr : (Builtin.clear_ #[t] o.type #[vs]).run P w = .ok (.tuple #[]) w')
    (h : wpList P ops Q rest (a.put o.dst (.tuple #[])) w') : wpList P ops Q (o :: rest) a w :=
  wpList_plain hgd fun _ hK => by
    unfold Oper.wp execOp
    simp only [ho, resolve, invoke, builtin, Sem.run_bind, Sem.run_pure, Result.andThen_ok, List.map_toArray, List.map_cons, List.map_nil, hs, hr]
    exact hK _ _ h

set_option maxHeartbeats 8000000 in
theorem delete_any (g cap B0 : Nat) (L : List Ks) (i : Nat) (w : World) (h0 : Os w B0 (.slice (some ⟨g, 0, none⟩) L.length cap) L) (hi : i < L.length) (hL : L.length ≤ 1000) (hce : cap ≠ i + 1) :
    Calls Tryz.prog 19 #[.slice (some ⟨g, 0, none⟩) L.length cap, .int .i64 (i : Int), .int .i64 ((i : Int) + 1)] w fun e w' => e = .returned (.slice (some ⟨g, 0, none⟩) (L.length - 1) cap) ∧ Os w' B0 (.slice (some ⟨g, 0, none⟩) (L.length - 1) cap) (L.eraseIdx i) ∧ Chf (fun k => k = g) w w' := by
  obtain ⟨cur, hb, hcl, htk, hg, hnc, hcm⟩ := own_cells h0
  have q1 : (((i : Int)) == ((i : Int) + 1)) = false := by simp; omega
  obtain ⟨n, hn⟩ : ∃ n, L.length = n := ⟨_, rfl⟩
  rw [hn] at hi hL htk hnc ⊢
  have hnh : Hid (L.length = n) := hn
  have hbh : Hid (Bl 49 w g cur) := hb
  clear h0 hn hb
  obtain ⟨n1, hn1⟩ : ∃ n1, n - 1 = n1 := ⟨_, rfl⟩
  have hn1h : Hid (n - 1 = n1) := hn1
  rw [hn1]
  clear hn1
  go_enter Tryz.func19, Tryz.ntmps19
  go_wp2_with fail
  refine wp_region_tail 6 (by kernel_rfl) (by kernel_rfl) ?_
  simp only [List.take_succ_cons, List.take_zero, List.drop_succ_cons, List.drop_zero]
  repeat (first | go_big_quiet_skip | (go_big_quiet_want; go_big_quiet_op; go_big_quiet_on))
  refine wpQuiet_nil ?_
  obtain ⟨wA, hwA⟩ : ∃ wA, (w.drewN 1).setCells g (i * 4) (sCs (L.drop (i + 1))) = wA := ⟨_, rfl⟩
  have hrun : ∀ ty, (Builtin.append_ #[38, 38] ty #[.slice (some ⟨g, 0, none⟩) i cap, .slice (some ⟨g, (i + 1) * 4, none⟩) (n - (i + 1)) (cap - (i + 1))]).run Tryz.prog (w.drewN 1) = .ok (.slice (some ⟨g, 0, none⟩) (n - 1) cap) wA := fun ty => by
    obtain ⟨ii, hii, hz, hsize, hby⟩ := info_parts infoK
    have hbd := hbh.out.drewN 1
    have h := run_append_room_cells (P := Tryz.prog) (w := w.drewN 1) 38 ty 49 ii Tryz.underlying38 hii g 0 i cap ⟨g, (i + 1) * 4, none⟩ (n - (i + 1)) (cap - (i + 1)) (sCs (L.drop (i + 1))) (by rw [sCs_length, List.length_drop, hnh.out, hsize]) (fun j u hu => by
        have hj : j < (sCs (L.drop (i + 1))).length := (List.getElem?_eq_some_iff.1 hu).1
        have hjl : (i + 1) * 4 + j < cur.length := by rw [sCs_length, List.length_drop, hnh.out] at hj; omega
        have e : (⟨g, (i + 1) * 4, none⟩ : Addr).add j = ⟨g, (i + 1) * 4 + j, none⟩ := Addr.add_mid _ _ _
        rw [e, hbd.cell _ hjl, ← hu]
        have h1 : (cur.take (n * 4))[(i + 1) * 4 + j]? = some cur[(i + 1) * 4 + j] := by
          rw [List.getElem?_take_of_lt (by rw [sCs_length, List.length_drop, hnh.out] at hj; omega), List.getElem?_eq_getElem hjl]
        rw [htk] at h1
        rw [← h1, ← List.getElem?_drop]
        congr 1
        exact sCs_drop L (i + 1)) (fun u hu => by
        simp only [sCs, List.mem_flatMap] at hu
        obtain ⟨p, _, hp⟩ := hu
        simp [sC] at hp
        rcases hp with rfl | rfl | rfl | rfl <;> rfl) (by omega) (fun j hj => by
        rw [sCs_length, List.length_drop, hnh.out] at hj
        rw [hsize, hbd.cell (0 + i * 4 + j) (by omega)]
        rfl) (fun j hj => by rw [hsize]; exact hbd.frozen _)
    rw [hsize, Nat.zero_add, show i + (n - (i + 1)) = n - 1 by omega] at h
    rw [← hwA]
    exact h
  obtain ⟨nw, hnw⟩ : ∃ nw, sCs (L.drop (i + 1)) = nw := ⟨_, rfl⟩
  have hnwl : nw.length = (n - (i + 1)) * 4 := by rw [← hnw, sCs_length, List.length_drop, hnh.out]
  rw [hnw] at hwA
  have hbA0 : Bl 49 wA g (setL cur (i * 4) nw) := hwA ▸ (hbh.out.drewN 1).cells_set nw cur (i * 4)
  have htki : cur.take (i * 4) = sCs (L.take i) := by
    rw [← sCs_take, ← htk, List.take_take, Nat.min_eq_left (by omega)]
  have hA : setL cur (i * 4) nw = (sCs (L.take i) ++ nw) ++ cur.drop ((n - 1) * 4) := by
    have e : cur = cur.take (i * 4) ++ ((cur.drop (i * 4)).take nw.length ++ cur.drop ((n - 1) * 4)) := by
      rw [show (n - 1) * 4 = i * 4 + nw.length by omega, ← List.drop_drop, List.take_append_drop, List.take_append_drop]
    have hl4 : (cur.take (i * 4)).length = i * 4 := by rw [List.length_take]; omega
    have h := setL_mid nw (cur.take (i * 4)) ((cur.drop (i * 4)).take nw.length) (cur.drop ((n - 1) * 4)) (by rw [List.length_take, List.length_drop]; omega)
    rw [← e, hl4] at h
    rw [h, htki, List.append_assoc]
  rw [hA] at hbA0
  have hbA : Hid (Bl 49 wA g ((sCs (L.take i) ++ nw) ++ cur.drop ((n - 1) * 4))) := hbA0
  have hPl : (sCs (L.take i) ++ nw).length = (n - 1) * 4 := by rw [List.length_append, sCs_length, List.length_take, hnwl, hnh.out]; omega
  have hCA : Hid (Chf (fun k => k = g) w wA) := hwA ▸ chf_cells nw (i * 4) _ ⟨rfl, rfl, rfl, Nat.le_refl _, fun _ _ _ => rfl⟩
  obtain ⟨wB, hwB⟩ : ∃ wB, wA.setCells g ((n - 1) * 4) (sC ks0) = wB := ⟨_, rfl⟩
  have hdl : (cur.drop ((n - 1) * 4)).length = cap * 4 - (n - 1) * 4 := by rw [List.length_drop, hcl]
  have hclr : ∀ ty, (Builtin.clear_ #[38] ty #[.slice (some ⟨g, (n - 1) * 4, none⟩) 1 (cap - (n - 1))]).run Tryz.prog wA = .ok (.tuple #[]) wB := fun ty => by
    rw [← hwB]
    exact run_clear_one wA ty g ((n - 1) * 4) _ (fun j hj => by rw [hbA.out.cell ((n - 1) * 4 + j) (by rw [List.length_append, hPl, hdl]; omega)]; rfl) (fun j hj => hbA.out.frozen _)
  have hbB0 : Bl 49 wB g (setL ((sCs (L.take i) ++ nw) ++ cur.drop ((n - 1) * 4)) ((n - 1) * 4) (sC ks0)) := hwB ▸ hbA.out.cells_set (sC ks0) _ _
  have hB : setL ((sCs (L.take i) ++ nw) ++ cur.drop ((n - 1) * 4)) ((n - 1) * 4) (sC ks0) = (sCs (L.take i) ++ nw) ++ (sC ks0 ++ (cur.drop ((n - 1) * 4)).drop 4) := by
    have h := setL_mid (sC ks0) (sCs (L.take i) ++ nw) ((cur.drop ((n - 1) * 4)).take 4) ((cur.drop ((n - 1) * 4)).drop 4) (by rw [List.length_take, hdl]; show _ = 4; omega)
    rw [List.take_append_drop, hPl] at h
    exact h
  rw [hB] at hbB0
  have hsC : (sC ks0).length = 4 := rfl
  have hfin : Hid (Os wB B0 (.slice (some ⟨g, 0, none⟩) (n - 1) cap) (L.eraseIdx i)) := by
    have hlen : (L.eraseIdx i).length = n - 1 := by rw [List.length_eraseIdx, if_pos (by rw [hnh.out]; exact hi), hnh.out]
    unfold Hid Os
    rw [hlen]
    refine cells_own hbB0 (by have h1 := hPl; simp only [List.length_append] at h1 ⊢; rw [List.length_drop, hdl, hsC]; omega) ?_ (by rw [sCs_length, hlen]) hg (by omega) hcm
    rw [List.take_append_of_le_length (by omega), List.take_of_length_le (by omega), ← hnw, ← sCs_erase]
  have hCB : Hid (Chf (fun k => k = g) w wB) := hwB ▸ chf_cells (sC ks0) ((n - 1) * 4) _ hCA.out
  have hn1 := hn1h.out
  rw [hn1] at hrun hclr hfin
  have hnn1 : n = n1 + 1 := by omega
  have hc1 : cap ≠ n1 := by omega
  have hn1c : n1 < cap := by omega
  have hsub : n - n1 = 1 := by omega
  clear hn1 hbB0 hB hwB hA hbA hbA0 hwA htki hnwl hnw hPl hdl hCA htk hcl hbh
  go_wp2_with (first | refine Go.Lib.wpList_append_run _ rfl (.tmp 22) (.tmp 25) 38 38 rfl _ _ rfl rfl _ _ (hrun _) ?_ | refine wpList_clear_run rfl (.tmp 31) 38 rfl _ rfl _ (hclr _) ?_)
  go_ret
  exact ⟨rfl, hfin.out, hCB.out⟩

end Go.Proofs.YtcdcfgkgighmhaaGreatDoor
