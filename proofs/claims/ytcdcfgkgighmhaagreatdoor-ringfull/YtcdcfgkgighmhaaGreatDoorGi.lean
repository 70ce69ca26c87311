import Derived.Test.YtcdcfgkgighmhaaGreatDoorGh
namespace Go.Proofs.YtcdcfgkgighmhaaGreatDoor
open Go.RowKit Go.MuLone
set_option maxRecDepth 100000

set_option maxHeartbeats 8000000 in
theorem delete_last (g B0 : Nat) (L : List Ks) (i : Nat) (w : World) (h0 : Os w B0 (.slice (some ⟨g, 0, none⟩) (i + 1) (i + 1)) L) (hn : L.length = i + 1) (hL : L.length ≤ 1000) :
    Calls Tryz.prog 19 #[.slice (some ⟨g, 0, none⟩) (i + 1) (i + 1), .int .i64 (i : Int), .int .i64 ((i : Int) + 1)] w fun e w' => e = .returned (.slice (some ⟨g, 0, none⟩) i (i + 1)) ∧ Os w' B0 (.slice (some ⟨g, 0, none⟩) i (i + 1)) (L.eraseIdx i) ∧ Chf (fun k => k = g) w w' := by
  have h0' := h0
  unfold Os at h0
  rw [hn] at h0
  obtain ⟨cur, hb, hcl, htk, hg, hnc, hcm⟩ := own_cells h0
  have q1 : (((i : Int)) == ((i : Int) + 1)) = false := by simp; omega
  have hi : i ≤ 1000 := by omega
  have hbh : Hid (Bl 49 w g cur) := hb
  obtain ⟨wB, hwB⟩ : ∃ wB, (w.drewN 1).setCells g (i * 4) (sC ks0) = wB := ⟨_, rfl⟩
  have hrun : ∀ ty, (Builtin.append_ #[38, 38] ty #[.slice (some ⟨g, 0, none⟩) i (i + 1), .slice (some ⟨g, 0, none⟩) 0 0]).run Tryz.prog (w.drewN 1) = .ok (.slice (some ⟨g, 0, none⟩) i (i + 1)) (w.drewN 1) := fun ty => by
    obtain ⟨ii, hii, hz, hsize, hby⟩ := info_parts infoK
    have h := run_append_room_cells (P := Tryz.prog) (w := w.drewN 1) 38 ty 49 ii Tryz.underlying38 hii g 0 i (i + 1) ⟨g, 0, none⟩ 0 0 [] (by simp) (fun j u hu => by simp at hu) (fun u hu => by simp at hu) (by omega) (fun j hj => by simp at hj) (fun j hj => by simp at hj)
    rw [Nat.add_zero] at h
    exact h
  have hcl4 : cur.length = i * 4 + 4 := by omega
  have hclr : ∀ ty, (Builtin.clear_ #[38] ty #[.slice (some ⟨g, i * 4, none⟩) 1 1]).run Tryz.prog (w.drewN 1) = .ok (.tuple #[]) wB := fun ty => by
    rw [← hwB]
    exact run_clear_one (w.drewN 1) ty g (i * 4) 1 (fun j hj => by rw [(hbh.out.drewN 1).cell (i * 4 + j) (by omega)]; rfl) (fun j hj => (hbh.out.drewN 1).frozen _)
  have hbB0 : Bl 49 wB g (setL cur (i * 4) (sC ks0)) := hwB ▸ (hbh.out.drewN 1).cells_set (sC ks0) _ _
  have hB : setL cur (i * 4) (sC ks0) = cur.take (i * 4) ++ (sC ks0 ++ []) := by
    have h := setL_mid (sC ks0) (cur.take (i * 4)) (cur.drop (i * 4)) [] (by rw [List.length_drop]; show _ = 4; omega)
    rw [List.append_nil, List.take_append_drop, List.length_take, Nat.min_eq_left (by omega)] at h
    exact h
  have hfin : Hid (Os wB B0 (.slice (some ⟨g, 0, none⟩) i (i + 1)) (L.eraseIdx i)) := by
    have hlen : (L.eraseIdx i).length = i := by rw [List.length_eraseIdx, if_pos (by omega), hn]; rfl
    have e1 : L.eraseIdx i = L.take i := by rw [List.eraseIdx_eq_take_drop_succ, List.drop_eq_nil_of_le (by omega), List.append_nil]
    unfold Hid Os
    rw [hlen]
    rw [hB] at hbB0
    have hx : (cur.take (i * 4)).length = i * 4 := by rw [List.length_take]; omega
    refine cells_own hbB0 (by rw [List.length_append, List.length_append, hx]; show i * 4 + (4 + 0) = _; omega) ?_ (by rw [sCs_length, hlen]) hg (by omega) hcm
    rw [List.take_append_of_le_length (by omega), List.take_of_length_le (by omega), e1, ← sCs_take, ← htk, List.take_take, Nat.min_eq_left (by omega)]
  have hCB : Hid (Chf (fun k => k = g) w wB) := hwB ▸ chf_cells (sC ks0) (i * 4) _ ⟨rfl, rfl, rfl, Nat.le_refl _, fun _ _ _ => rfl⟩
  clear h0 h0' hn hb hbB0 hB hcl hcl4 htk hcm hwB hbh
  go_enter Tryz.func19, Tryz.ntmps19
  go_wp2_with fail
  refine wp_region_tail 6 (by kernel_rfl) (by kernel_rfl) ?_
  simp only [List.take_succ_cons, List.take_zero, List.drop_succ_cons, List.drop_zero]
  repeat (first | go_big_quiet_skip | (go_big_quiet_want; go_big_quiet_op; go_big_quiet_on))
  refine wpQuiet_nil ?_
  go_wp2_with (first | refine Go.Lib.wpList_append_run _ rfl (.tmp 22) (.tmp 25) 38 38 rfl _ _ rfl rfl _ _ (hrun _) ?_ | refine wpList_clear_run rfl (.tmp 31) 38 rfl _ rfl _ (hclr _) ?_)
  go_ret
  exact ⟨rfl, hfin.out, hCB.out⟩

end Go.Proofs.YtcdcfgkgighmhaaGreatDoor
