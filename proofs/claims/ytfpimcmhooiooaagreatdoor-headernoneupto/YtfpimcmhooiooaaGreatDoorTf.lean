import Derived.Test.YtfpimcmhooiooaaGreatDoorTe
namespace Go.Proofs.YtfpimcmhooiooaaGreatDoor
open Go.RowKit Go.Shelf

theorem NR.but {w w' : World} {v : Value} {l : List Nd} {ao : Option Addr} {cap mb : Nat} {m : List (Nat × List UInt8)} (h : NR w v l ao cap) (hm : Mp w mb m) (hb : But w w' mb) : NR w' v l ao cap := by
  refine ⟨h.val, h.cap, ?_⟩
  rcases h.cell with h0 | ⟨g, off, e, hg, hc⟩
  · exact .inl h0
  · refine .inr ⟨g, off, e, Nat.lt_of_lt_of_le hg hb.size, fun j u hu => cell_but (hc j u hu) fun hlt => hb.block g hlt fun e2 => ?_⟩
    subst e2
    obtain ⟨es, clk, hw, _⟩ := hm
    have := hc j u hu
    unfold World.cell? at this
    simp only [hw] at this
    cases this

/-- What the nodes' texts are bound by. -/
def TB (l : List Nd) : Prop := ∀ n ∈ l, n.text.length ≤ 1073741824 ∧ n.key.length ≤ 1073741824
theorem TB.at {l : List Nd} (h : TB l) {i : Nat} (hi : i < l.length) : (l.getD i (nd0 0)).text.length ≤ 1073741824 ∧ (l.getD i (nd0 0)).key.length ≤ 1073741824 := by
  refine h _ ?_
  rw [List.getD_eq_getElem?_getD, List.getElem?_eq_getElem hi]
  exact List.getElem_mem hi

set_option maxRecDepth 100000 in
set_option maxHeartbeats 8000000 in
theorem named_any {B : Nat} (v : Value) (l : List Nd) (ao : Option Addr) (cap : Nat) (i : Nat) (around : Int) (mb : Nat) (met : List (Nat × List UInt8)) (w : World) (h : NR w v l ao cap) (hM : Mp w mb met) (hG : GL B w) (_hBw : B ≤ w.heap.size) (ht : TB l) (hi : i < l.length) (ha : around = -1 ∨ (0 ≤ around ∧ around < l.length)) (_hl : l.length ≤ 1000000000) :
    Calls Tryz.prog 63 #[.agg #[v, .map (some mb)], .int .i64 (i : Int), .int .i64 around] w fun e w' => But w w' mb ∧
      (∀ m, nmF l i around met = some m → e = .returned (.bool true) ∧ Mp w' mb m) ∧ (nmF l i around met = none → e = .returned (.bool false)) := by
  obtain ⟨rfl, hc, _⟩ := id h
  obtain ⟨R, hR⟩ : ∃ R, nmF l i around met = R := ⟨_, rfl⟩
  rw [hR]
  have HE : Hid (nmF l i around met = R) := hR
  have htk := (ht.at hi).2
  obtain ⟨g, off, rfl, hcell⟩ := h.at hi
  obtain ⟨Y, hY⟩ : ∃ Y, (l.getD i (nd0 0)).key = Y := ⟨_, rfl⟩
  obtain ⟨W, hW⟩ : ∃ W : World, W = w.alloc (.cells #[.slice (some ⟨g, off, none⟩) l.length cap, .map (some mb)] 92) := ⟨_, rfl⟩
  have hB1 : Below w.heap.size w W := by rw [hW]; exact alloc_below _ _
  have HB1 : Hid (But w W mb) := But.of_below hB1
  have cY : W.cell? ⟨g, off + i * 6 + 1, none⟩ = some (.string ⟨Y.toArray⟩) := cell_but (hcell 1 _ (by omega) (by rw [← hY]; rfl)) fun hg => hB1.block g hg
  have hbx : Bl 92 W w.heap.size [.slice (some ⟨g, off, none⟩) l.length cap, .map (some mb)] := by rw [hW]; exact alloc_bl _ _ _
  have HBX : Hid (Bl 92 W w.heap.size [.slice (some ⟨g, off, none⟩) l.length cap, .map (some mb)]) := hbx
  have x0 : W.cell? ⟨w.heap.size, 0, none⟩ = some (.slice (some ⟨g, off, none⟩) l.length cap) := hbx.cell 0 (by simp)
  have x1 : W.cell? ⟨w.heap.size, 1, none⟩ = some (.map (some mb)) := hbx.cell 1 (by simp)
  have HM1 : Hid (Mp W mb met) := hM.keep (hB1.block mb hM.lt)
  have HN1 : Hid (NR W (.slice (some ⟨g, off, none⟩) l.length cap) l (some ⟨g, off, none⟩) cap) := h.below hB1 (Nat.le_refl _)
  have HU1 : Hid (U8 W) := hG.u8.below hB1
  rw [hY] at htk
  have hdec : (around = -1 ∨ (l.getD around.toNat (nd0 0)).kind = 6) ∨ ¬ (around = -1 ∨ (l.getD around.toNat (nd0 0)).kind = 6) := Classical.em _
  have hkind : around ≠ -1 → ∃ K, (l.getD around.toNat (nd0 0)).kind = K ∧ W.cell? ⟨g, off + around.toNat * 6, none⟩ = some (.int .i64 K) := fun hne => by
    obtain ⟨g', off', e', hc2⟩ := HN1.out.at (i := around.toNat) (by omega)
    cases e'
    have := hc2 0 (.int .i64 (l.getD around.toNat (nd0 0)).kind) (by omega) rfl
    rw [Nat.add_zero] at this
    exact ⟨_, rfl, this⟩
  have HEn : Hid (∀ c : Prop, True) := fun _ => trivial
  clear hcell h hM hG hbx hR HEn
  rcases hdec with hin | hin
  · have HZ : Hid ((if Y = [] then some met else none) = R) := by show _ = _; rw [← HE.out]; unfold nmF; rw [if_pos hin, hY]
    clear HE hY
    by_cases hm1 : around = -1
    · subst hm1
      by_cases hy0 : Y = []
      · subst hy0
        have HZ2 : Hid (R = some met) := HZ.out.symm
        clear HZ hkind hin
        subst hW
        go_enter Tryz.func63, Tryz.ntmps63
        go_wp2
        go_ret
        exact ⟨HB1.out, fun m e => by rw [HZ2.out] at e; cases e; exact ⟨rfl, HM1.out⟩, fun e => by rw [HZ2.out] at e; cases e⟩
      · have HZ2 : Hid (R = none) := by show _ = _; rw [← HZ.out, if_neg hy0]
        have hyb : (Y == []) = false := by simpa using hy0
        clear HZ hkind hin
        subst hW
        go_enter Tryz.func63, Tryz.ntmps63
        go_wp2
        go_ret
        refine ⟨HB1.out, ?_, ?_⟩
        · intro m e; rw [HZ2.out] at e; cases e
        · intro _; first | rfl | simp [hy0]
    · obtain ⟨K, hK, cK⟩ := hkind hm1
      have hK6 : K = 6 := by rw [← hK]; exact hin.resolve_left hm1
      have hz0 : 0 ≤ around ∧ around < l.length := ha.resolve_left hm1
      obtain ⟨z, rfl⟩ : ∃ z : Nat, around = (z : Int) := ⟨around.toNat, by omega⟩
      have hzl : z < l.length := by omega
      clear hz0
      rw [Int.toNat_natCast] at cK
      subst hK6
      by_cases hy0 : Y = []
      · subst hy0
        have HZ2 : Hid (R = some met) := HZ.out.symm
        clear HZ hkind hin hK hm1
        subst hW
        go_enter Tryz.func63, Tryz.ntmps63
        go_wp2
        go_ret
        exact ⟨HB1.out, fun m e => by rw [HZ2.out] at e; cases e; exact ⟨rfl, HM1.out⟩, fun e => by rw [HZ2.out] at e; cases e⟩
      · have HZ2 : Hid (R = none) := by show _ = _; rw [← HZ.out, if_neg hy0]
        have hyb : (Y == []) = false := by simpa using hy0
        clear HZ hkind hin hK hm1
        subst hW
        go_enter Tryz.func63, Tryz.ntmps63
        go_wp2
        go_ret
        refine ⟨HB1.out, ?_, ?_⟩
        · intro m e; rw [HZ2.out] at e; cases e
        · intro _; first | rfl | simp [hy0]
  · have hm1 : around ≠ -1 := fun e => hin (.inl e)
    obtain ⟨K, hK, cK⟩ := hkind hm1
    have hK6 : (K == 6) = false := by
      have : K ≠ 6 := fun e => hin (.inr (by rw [hK]; exact e))
      simpa using this
    have hz0 : 0 ≤ around ∧ around < l.length := ha.resolve_left hm1
    obtain ⟨z, rfl⟩ : ∃ z : Nat, around = (z : Int) := ⟨around.toNat, by omega⟩
    have hzl : z < l.length := by omega
    clear hz0
    rw [Int.toNat_natCast] at cK
    have HZ : Hid ((if Lib.validD Y = true ∧ (z, Y) ∉ met then some (met ++ [(z, Y)]) else none) = R) := by show _ = _; rw [← HE.out]; unfold nmF; rw [if_neg hin, hY, Int.toNat_natCast]
    have CV := validString_any Y W htk HU1.out
    clear HE hY hkind hin hK hm1
    cases hv : Lib.validD Y
    · rw [hv] at CV
      have HZ2 : Hid (R = none) := by show _ = _; rw [← HZ.out, if_neg (by rw [hv]; simp)]
      clear HZ hv
      subst hW
      go_enter Tryz.func63, Tryz.ntmps63
      go_wp2_with fail
      refine CV.mono ?_
      rintro e w2 ⟨rfl, hB2⟩
      go_wp2
      go_ret
      refine ⟨HB1.out.trans (But.of_below hB2), ?_, ?_⟩
      · intro m e; rw [HZ2.out] at e; cases e
      · intro _; rfl
    · rw [hv] at CV
      have HZ3 : Hid ((if (z, Y) ∉ met then some (met ++ [(z, Y)]) else none) = R) := by show _ = _; rw [← HZ.out, hv]; simp
      clear HZ hv
      subst hW
      by_cases hin : (z, Y) ∈ met
      · have HZ2 : Hid (R = none) := by show _ = _; rw [← HZ3.out, if_neg (by simpa using hin)]
        have Hin : Hid ((z, Y) ∈ met) := hin
        clear HZ3 hin
        go_enter Tryz.func63, Tryz.ntmps63
        go_wp2_with fail
        refine CV.mono ?_
        rintro e w2 ⟨rfl, hB2⟩
        have C3 := first_old w2 mb z Y met (HM1.out.keep (hB2.block mb HM1.out.lt)) Hin.out
        have HB2 : Hid (But w w2 mb) := HB1.out.trans (But.of_below hB2)
        have y1 : w2.cell? ⟨w.heap.size, 1, none⟩ = some (.map (some mb)) := (HBX.out.below hB2 HBX.out.lt).cell 1 (by simp)
        clear hB2 x0 x1
        go_wp2_with fail
        refine C3.mono ?_
        rintro e w3 ⟨rfl, hB3⟩
        go_wp2
        go_ret
        refine ⟨HB2.out.trans hB3, ?_, ?_⟩
        · intro m e; rw [HZ2.out] at e; cases e
        · intro _; rfl
      · have HZ2 : Hid (R = some (met ++ [(z, Y)])) := by show _ = _; rw [← HZ3.out, if_pos hin]
        have Hin : Hid ((z, Y) ∉ met) := hin
        clear HZ3 hin
        go_enter Tryz.func63, Tryz.ntmps63
        go_wp2_with fail
        refine CV.mono ?_
        rintro e w2 ⟨rfl, hB2⟩
        have C3 := first_new w2 mb z Y met (HM1.out.keep (hB2.block mb HM1.out.lt)) Hin.out
        have HB2 : Hid (But w w2 mb) := HB1.out.trans (But.of_below hB2)
        have y1 : w2.cell? ⟨w.heap.size, 1, none⟩ = some (.map (some mb)) := (HBX.out.below hB2 HBX.out.lt).cell 1 (by simp)
        clear hB2 x0 x1
        go_wp2_with fail
        refine C3.mono ?_
        rintro e w3 ⟨rfl, hB3, hM3⟩
        go_wp2
        go_ret
        exact ⟨HB2.out.trans hB3, fun m e => by rw [HZ2.out] at e; cases e; exact ⟨rfl, hM3⟩, fun e => by rw [HZ2.out] at e; cases e⟩

end Go.Proofs.YtfpimcmhooiooaaGreatDoor
