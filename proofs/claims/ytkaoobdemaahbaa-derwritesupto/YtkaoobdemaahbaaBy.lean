import Derived.Test.YtkaoobdemaahbaaOneLaw
namespace Go.Proofs.Ytkaoobdemaahbaa
open Go.RowKit

def Z (z : Int) : Value := .int .i64 z
/-- A row of ints of one's own. -/
structure Zs (w wr : World) (v : Value) (zs : List Int) : Prop where
  own : wr.ownsRow w.heap.size 3 1 v zs.length (zs.map Z)
  bel : Below w.heap.size w wr
  fit : ∀ z ∈ zs, -9223372036854775808 ≤ z ∧ z ≤ 9223372036854775807

theorem Zs.top {w wr : World} {g m c : Nat} {zs : List Int} (h : Zs w wr (.slice (some ⟨g, 0, none⟩) (m + 1) c) zs) (hm : zs.length = m + 1) : wr.cell? ⟨g, m, none⟩ = some (.int .i64 (zs.getD m 0)) := by
  have ho := h.own
  rw [hm] at ho
  rw [World.ownsRow.cellAt ho m (by omega), List.getElem?_map, List.getElem?_eq_getElem (by omega), getD_eq _ _ (by omega)]
  rfl
theorem Zs.pop {w wr : World} {a : Option Addr} {m c : Nat} {zs : List Int} (h : Zs w wr (.slice a (m + 1) c) zs) (hm : zs.length = m + 1) : Zs w wr (.slice a m c) (zs.take m) := by
  refine ⟨?_, h.bel, fun z hz => h.fit z (List.mem_of_mem_take hz)⟩
  have ho := h.own
  rw [hm] at ho
  have := own_take ho m (by omega)
  rw [← List.map_take] at this
  rw [List.length_take, Nat.min_eq_left (by omega)]
  exact this
theorem Zs.put {w wr : World} {g m c : Nat} {zs : List Int} (h : Zs w wr (.slice (some ⟨g, 0, none⟩) (m + 1) c) zs) (hm : zs.length = m + 1) (z : Int) (hz : -9223372036854775808 ≤ z ∧ z ≤ 9223372036854775807) : Zs w (wr.setCell ⟨g, m, none⟩ (.int .i64 z)) (.slice (some ⟨g, 0, none⟩) (m + 1) c) (zs.set m z) := by
  have ho := h.own
  rw [hm] at ho
  have hs := ho.stored m (.int .i64 z)
  refine ⟨?_, h.bel.grown hs.2 h.bel.size (fun k e => own_block ho k e), fun y hy => ?_⟩
  · rw [List.length_set, hm, List.map_set]
    exact hs.1
  · rcases List.mem_or_eq_of_mem_set hy with h1 | h1
    · exact h.fit y h1
    · rw [h1]; exact hz
theorem Zs.row {w wr : World} {v : Value} {zs : List Int} (h : Zs w wr v zs) : ∃ a n c, v = .slice a n c ∧ n = zs.length ∧ n ≤ c ∧ c ≤ 9223372036854775807 ∧ (0 < n → ∃ g, a = some ⟨g, 0, none⟩) := by
  rcases h.own.2 with ⟨h', h0⟩ | ⟨g, cap, cur, h', _, _, h1, h2, _⟩
  · exact ⟨none, 0, 0, h', h0.symm, Nat.le_refl _, by omega, fun h => by omega⟩
  · exact ⟨_, _, _, h', rfl, h1, by unfold maxLen at h2; omega, fun _ => ⟨g, rfl⟩⟩

set_option maxRecDepth 100000 in
set_option maxHeartbeats 4000000 in
theorem beyond_any (ao : Option Addr) (cap : Nat) (xs : List X) (w : World) (hR : Row w ao xs) (hlen : xs.length ≤ 2000000) :
    Calls Try.prog 4 #[.slice ao xs.length cap] w fun e w' => ∃ b, e = .returned (.bool b) ∧ Below w.heap.size w w' := by
  have HR : Hid (Row w ao xs) := hR
  obtain ⟨i0, hi, hzz0, hz1, hz2⟩ := info_parts infoI
  have H0 : Hid (Zs w w (.slice none 0 0) []) := ⟨World.ownsRow_nil _ _ _ _, Below.refl _ _, fun z hz => by cases hz⟩
  clear hR
  go_enter Try.func4, Try.ntmps4
  go_wp2
  go_loopw [3, 4] (fun s3 s4 wr => ∃ (i : Nat) (zs : List Int), s4 = .int .i64 (i : Int) ∧ i ≤ xs.length ∧ Hid (zs.length ≤ 65536) ∧ Hid (Zs w wr s3 zs)) (fun _ s _ => xs.length - (intOf s).toNat)
  case atStart => exact ⟨0, [], rfl, Nat.zero_le _, Nat.zero_le _, H0⟩
  case round =>
    obtain ⟨i, zs, rfl, hil, Hzl, HZ⟩ := hrel
    obtain ⟨va, vn, vc, hv, hvn, hvc1, hvc2, hvs⟩ := HZ.out.row
    subst hv
    by_cases hlt : i < xs.length
    · go_wp2
      go_loopw [3] (fun s3 w2 => ∃ (zs : List Int), Hid (zs.length ≤ 65536) ∧ Hid (Zs w w2 s3 zs)) (fun s _ => match s with | .slice _ n _ => n | _ => 0)
      case atStart => exact ⟨zs, Hzl, HZ⟩
      case round =>
        obtain ⟨ys, Hyl, HY⟩ := hrel
        clear HZ Hzl hvn hvc1 hvc2 hvs
        obtain ⟨ya, yn, yc, hy, hyn, hyc1, hyc2, hys⟩ := HY.out.row
        subst hy
        have Hyn : Hid (yn = ys.length) := hyn
        have hyb : yn ≤ 65536 := by rw [hyn]; exact Hyl.out
        clear hyn
        cases yn with
        | zero =>
          clear hys
          have HRr : Hid (Row wr ao xs) := HR.out.below HY.out.bel (Nat.le_refl _)
          rcases HRr.out.at' with h0 | ⟨g, off, hao, hg, hc⟩
          · rw [h0] at hlt; simp at hlt
          have cK := (hc i hlt).2.2
          have hK := HRr.out.ok _ (List.getElem_mem hlt)
          obtain ⟨k, hk⟩ : ∃ k, k = xs[i].e.kids := ⟨_, rfl⟩
          have hk1 := hK.lo
          have hk2 := hK.hi
          rw [← hk] at cK hk1 hk2
          subst hao
          clear hc hK hk HRr
          have HA : Hid ((wr.alloc (Obj.cells #[.int .i64 k] 3)).ownsRow w.heap.size 3 1 (.slice ya 0 yc) 0 ((ys).map Z)) := by
            have := World.ownsRow.alloc HY.out.own (Obj.cells #[.int .i64 k] 3)
            rw [← Hyn.out] at this
            exact this
          have HAs : Hid (w.heap.size ≤ (wr.alloc (Obj.cells #[.int .i64 k] 3)).heap.size) := by show _ ≤ _; rw [alloc_size]; have := HY.out.bel.size; omega
          have HAb : Hid (Below w.heap.size w (wr.alloc (Obj.cells #[.int .i64 k] 3))) := HY.out.bel.trans ((alloc_below wr _).mono HY.out.bel.size)
          have HAc : Hid ((wr.alloc (Obj.cells #[.int .i64 k] 3)).cell? ⟨wr.heap.size, 0, none⟩ = some (.int .i64 k)) := (alloc_bl wr [.int .i64 k] 3).cell 0 (by simp)
          have Hfit : Hid (∀ q ∈ (ys) ++ [k], -9223372036854775808 ≤ q ∧ q ≤ 9223372036854775807) := fun q hq => by
            rcases List.mem_append.1 hq with h | h
            · exact HY.out.fit q h
            · rw [List.mem_singleton.1 h]; exact ⟨hk1, hk2⟩
          go_wp2_with (at_builtin; refine wpList_append_own_wide _ rfl (.tmp 43) (.tmp 49) 33 rfl w.heap.size 3 i0 (.int .i64 0) 1 8 Try.underlying33 hi hzz0 hz1 hz2 rfl (by decide) _ 0 ((ys).map Z) rfl HA.out ⟨wr.heap.size, 0, none⟩ 1 1 [.int .i64 k] rfl rfl (fun j u hu => by match j, hu with | 0, hu => exact HAc.out.trans hu) (by intro u hu; simp at hu; subst hu; rfl) (by unfold maxLen; omega) (by omega) HAs.out ?_; intro v5 w5 hown5 hgrow5 hnil5; have HZ5 : Hid (Zs w w5 v5 ((ys) ++ [k])) := ⟨(by rw [List.map_append, List.length_append, ← Hyn.out]; exact hown5), HAb.out.grown hgrow5 HAs.out (own_block HA.out), Hfit.out⟩; have HZl5 : Hid (((ys) ++ [k]).length = 1) := (by show _ = _; rw [List.length_append, ← Hyn.out]; rfl); clear hown5 hgrow5 hnil5; obtain ⟨a5, n5, c5, hv5, hn5, _⟩ := HZ5.out.row; subst hv5; rw [HZl5.out] at hn5; subst hn5)
          go_wp2
          go_roundw
          case rel => exact ⟨i + 1, ys ++ [k], by go_num, by omega, (by show _ ≤ _; rw [HZl5.out]; omega), HZ5⟩
          case measure => simp [intOf]; omega
        | succ m =>
          obtain ⟨gy, hgy⟩ := hys (by omega)
          subst hgy
          clear hys
          have ct := HY.out.top Hyn.out.symm
          have hfit := HY.out.fit (ys.getD m 0) (by rw [getD_eq _ _ (by have := Hyn.out; omega)]; exact List.getElem_mem _)
          obtain ⟨z, hz⟩ : ∃ z, z = ys.getD m 0 := ⟨_, rfl⟩
          rw [← hz] at ct hfit
          clear hz
          by_cases hz0 : z ≤ 0
          · have HP : Hid (Zs w wr (.slice (some ⟨gy, 0, none⟩) m yc) (ys.take m)) := HY.out.pop Hyn.out.symm
            have HPl : Hid ((ys.take m).length ≤ 65536) := by show _ ≤ _; rw [List.length_take]; omega
            clear HY
            go_wp2
            go_roundw
            case rel => exact ⟨_, HPl, HP⟩
            case measure => simp
          · have HS : Hid (Zs w (wr.setCell ⟨gy, m, none⟩ (.int .i64 (z - 1))) (.slice (some ⟨gy, 0, none⟩) (m + 1) yc) (ys.set m (z - 1))) := HY.out.put Hyn.out.symm (z - 1) (by omega)
            have HSl : Hid ((ys.set m (z - 1)).length = m + 1) := by show _ = _; rw [List.length_set]; exact Hyn.out.symm
            have fK : wr.frozen? ⟨gy, m, none⟩ = false := by
              have ho := HY.out.own
              rw [← Hyn.out] at ho
              exact World.ownsRow.frozenAt ho m
            have Hsz : Hid (True → (wr.setCell ⟨gy, m, none⟩ (.int .i64 (z - 1))).heap.size = wr.heap.size) := fun _ => by simp
            have HRr : Hid (Row (wr.setCell ⟨gy, m, none⟩ (.int .i64 (z - 1))) ao xs) := HR.out.below HS.out.bel (Nat.le_refl _)
            rcases HRr.out.at' with h0 | ⟨g, off, hao, hg, hc⟩
            · rw [h0] at hlt; simp at hlt
            have cK := (hc i hlt).2.2
            have hK := HRr.out.ok _ (List.getElem_mem hlt)
            obtain ⟨k, hk⟩ : ∃ k, k = xs[i].e.kids := ⟨_, rfl⟩
            have hk1 := hK.lo
            have hk2 := hK.hi
            rw [← hk] at cK hk1 hk2
            subst hao
            clear hc hK hk HRr
            have HA : Hid (((wr.setCell ⟨gy, m, none⟩ (.int .i64 (z - 1))).alloc (Obj.cells #[.int .i64 k] 3)).ownsRow w.heap.size 3 1 (.slice (some ⟨gy, 0, none⟩) (m + 1) yc) (m + 1) ((ys.set m (z - 1)).map Z)) := by
              have := World.ownsRow.alloc HS.out.own (Obj.cells #[.int .i64 k] 3)
              rw [HSl.out] at this
              exact this
            have HAs : Hid (w.heap.size ≤ ((wr.setCell ⟨gy, m, none⟩ (.int .i64 (z - 1))).alloc (Obj.cells #[.int .i64 k] 3)).heap.size) := by show _ ≤ _; rw [alloc_size]; have := HS.out.bel.size; omega
            have HAb : Hid (Below w.heap.size w ((wr.setCell ⟨gy, m, none⟩ (.int .i64 (z - 1))).alloc (Obj.cells #[.int .i64 k] 3))) := HS.out.bel.trans ((alloc_below (wr.setCell ⟨gy, m, none⟩ (.int .i64 (z - 1))) _).mono HS.out.bel.size)
            have HAc : Hid (((wr.setCell ⟨gy, m, none⟩ (.int .i64 (z - 1))).alloc (Obj.cells #[.int .i64 k] 3)).cell? ⟨wr.heap.size, 0, none⟩ = some (.int .i64 k)) := by rw [← Hsz.out trivial]; exact (alloc_bl (wr.setCell ⟨gy, m, none⟩ (.int .i64 (z - 1))) [.int .i64 k] 3).cell 0 (by simp)
            have Hfit : Hid (∀ q ∈ (ys.set m (z - 1)) ++ [k], -9223372036854775808 ≤ q ∧ q ≤ 9223372036854775807) := fun q hq => by
              rcases List.mem_append.1 hq with h | h
              · exact HS.out.fit q h
              · rw [List.mem_singleton.1 h]; exact ⟨hk1, hk2⟩
            by_cases hbig : 65536 < m + 1 + 1
            · have hbg : (65536 : Int) < (m : Int) + 1 + 1 := by omega
              go_wp2_with (at_builtin; refine wpList_append_own_wide _ rfl (.tmp 43) (.tmp 49) 33 rfl w.heap.size 3 i0 (.int .i64 0) 1 8 Try.underlying33 hi hzz0 hz1 hz2 rfl (by decide) _ (m + 1) ((ys.set m (z - 1)).map Z) rfl HA.out ⟨wr.heap.size, 0, none⟩ 1 1 [.int .i64 k] rfl rfl (fun j u hu => by match j, hu with | 0, hu => exact HAc.out.trans hu) (by intro u hu; simp at hu; subst hu; rfl) (by unfold maxLen; omega) (by omega) HAs.out ?_; intro v5 w5 hown5 hgrow5 hnil5; have HZ5 : Hid (Zs w w5 v5 ((ys.set m (z - 1)) ++ [k])) := ⟨(by rw [List.map_append, List.length_append, HSl.out]; exact hown5), HAb.out.grown hgrow5 HAs.out (own_block HA.out), Hfit.out⟩; have HZl5 : Hid (((ys.set m (z - 1)) ++ [k]).length = m + 1 + 1) := (by show _ = _; rw [List.length_append, HSl.out]; rfl); clear hown5 hgrow5 hnil5; obtain ⟨a5, n5, c5, hv5, hn5, _⟩ := HZ5.out.row; subst hv5; rw [HZl5.out] at hn5; subst hn5)
              go_wp2
              go_ret
              first | exact ⟨_, rfl, HZ5.out.bel⟩ | exact ⟨.inr rfl, HZ5.out.bel⟩
            · have hbg : ¬ (65536 : Int) < (m : Int) + 1 + 1 := by omega
              go_wp2_with (at_builtin; refine wpList_append_own_wide _ rfl (.tmp 43) (.tmp 49) 33 rfl w.heap.size 3 i0 (.int .i64 0) 1 8 Try.underlying33 hi hzz0 hz1 hz2 rfl (by decide) _ (m + 1) ((ys.set m (z - 1)).map Z) rfl HA.out ⟨wr.heap.size, 0, none⟩ 1 1 [.int .i64 k] rfl rfl (fun j u hu => by match j, hu with | 0, hu => exact HAc.out.trans hu) (by intro u hu; simp at hu; subst hu; rfl) (by unfold maxLen; omega) (by omega) HAs.out ?_; intro v5 w5 hown5 hgrow5 hnil5; have HZ5 : Hid (Zs w w5 v5 ((ys.set m (z - 1)) ++ [k])) := ⟨(by rw [List.map_append, List.length_append, HSl.out]; exact hown5), HAb.out.grown hgrow5 HAs.out (own_block HA.out), Hfit.out⟩; have HZl5 : Hid (((ys.set m (z - 1)) ++ [k]).length = m + 1 + 1) := (by show _ = _; rw [List.length_append, HSl.out]; rfl); clear hown5 hgrow5 hnil5; obtain ⟨a5, n5, c5, hv5, hn5, _⟩ := HZ5.out.row; subst hv5; rw [HZl5.out] at hn5; subst hn5)
              go_wp2
              go_roundw
              case rel => exact ⟨i + 1, (ys.set m (z - 1)) ++ [k], by go_num, by omega, (by show _ ≤ _; rw [HZl5.out]; omega), HZ5⟩
              case measure => simp [intOf]; omega
    · go_wp2
      go_ret
      exact ⟨_, rfl, HZ.out.bel⟩

end Go.Proofs.Ytkaoobdemaahbaa
