import Derived.Test.YtmngdaolgdhgmaaGreatDoorCSk
namespace Go.Proofs.YtmngdaolgdhgmaaGreatDoor
open Go.RowKit

set_option maxRecDepth 100000

set_option maxHeartbeats 8000000 in
theorem spoil_v (x y : Value) (EA EC : List Nat) (inf : Bool) (w : World) (hx : Ow w 0 x EA) (hy : Ow w 0 y EC) (ap : Apt x y) (l1 : EA.length ≤ 5000000) (l2 : EC.length ≤ 5000000) :
    Calls Tryz.prog 21 #[.agg #[x, y, .bool inf]] w fun e w' => e = .returned (.bool true) ∧ Chf (fun k => x.ownBlock = some k ∨ y.ownBlock = some k) w w' := by
  obtain ⟨aa, ca, rfl⟩ : ∃ a c, x = .slice a EA.length c := (show OB 0 w w x EA from ⟨hx, Below.refl _ _⟩).shape
  obtain ⟨ac, cc, rfl⟩ : ∃ a c, y = .slice a EC.length c := (show OB 0 w w y EC from ⟨hy, Below.refl _ _⟩).shape
  have HO : Hid (w.ownsRow 0 51 1 (.slice aa EA.length ca) EA.length ((EA).map U) ∧ w.ownsRow 0 51 1 (.slice ac EC.length cc) EC.length ((EC).map U)) := ⟨hx, hy⟩
  have HAp : Hid (Apt (.slice aa EA.length ca) (.slice ac EC.length cc)) := ap
  clear hx hy ap
  obtain ⟨na, Hna⟩ : ∃ n, Hid (EA.length = n) := ⟨_, rfl⟩
  obtain ⟨nc, Hnc⟩ : ∃ n, Hid (EC.length = n) := ⟨_, rfl⟩
  rw [Hna.out] at HO HAp l1
  rw [Hnc.out] at HO HAp l2
  rw [Hna.out, Hnc.out]
  obtain ⟨f, Hf⟩ : ∃ f : Nat → Prop, Hid (f = fun k => (Value.slice aa na ca).ownBlock = some k ∨ (Value.slice ac nc cc).ownBlock = some k) := ⟨_, rfl⟩
  have Hina : Hid ((∀ g, (Value.slice aa na ca).ownBlock = some g → g < w.heap.size) ∧ ∀ g, (Value.slice ac nc cc).ownBlock = some g → g < w.heap.size) := ⟨fun g hg => (World.ownsRow.lt HO.out.1 g hg).2, fun g hg => (World.ownsRow.lt HO.out.2 g hg).2⟩
  have Hnf : Hid (¬ f w.heap.size) := (fun h => by rw [Hf.out] at h; rcases h with h | h; exact absurd (Hina.out.1 _ h) (Nat.lt_irrefl _); exact absurd (Hina.out.2 _ h) (Nat.lt_irrefl _) : ¬ f w.heap.size)
  have HBx : Hid (Bl 26 (w.alloc (.cells #[.slice aa na ca, .slice ac nc cc, .bool inf] 26)) w.heap.size [.slice aa na ca, .slice ac nc cc, .bool inf]) := alloc_bl w [.slice aa na ca, .slice ac nc cc, .bool inf] 26
  have Hsz : Hid ((w.alloc (.cells #[.slice aa na ca, .slice ac nc cc, .bool inf] 26)).heap.size = w.heap.size + 1) := World.size_alloc _ _
  have HF0 : Hid ((w.alloc (.cells #[.slice aa na ca, .slice ac nc cc, .bool inf] 26)).ownsRow 0 51 1 (.slice aa na ca) na ((List.replicate 0 11 ++ EA.drop 0).map U) ∧ (w.alloc (.cells #[.slice aa na ca, .slice ac nc cc, .bool inf] 26)).ownsRow 0 51 1 (.slice ac nc cc) nc ((EC).map U) ∧ Chf f (w.alloc (.cells #[.slice aa na ca, .slice ac nc cc, .bool inf] 26)) (w.alloc (.cells #[.slice aa na ca, .slice ac nc cc, .bool inf] 26))) := ⟨HO.out.1.alloc _, HO.out.2.alloc _, Chf.refl _ _⟩
  have Hend : Hid (∀ wr, Chf f (w.alloc (.cells #[.slice aa na ca, .slice ac nc cc, .bool inf] 26)) wr → Chf f w wr) := fun wr h => h.of_alloc
  go_enter Tryz.func21, Tryz.ntmps21
  go_wp2_with fail
  generalize (w.alloc (.cells #[.slice aa na ca, .slice ac nc cc, .bool inf] 26)) = w0 at *
  go_loopw [3] (fun s wr => ∃ i : Nat, s = .int .i64 (i : Int) ∧ i ≤ na ∧ Hid (wr.ownsRow 0 51 1 (.slice aa na ca) na ((List.replicate i 11 ++ EA.drop i).map U) ∧ wr.ownsRow 0 51 1 (.slice ac nc cc) nc ((EC).map U) ∧ Chf f w0 wr)) (fun s _ => na - (intOf s).toNat)
  case atStart => exact ⟨0, rfl, Nat.zero_le _, HF0⟩
  case round =>
    clear HF0
    obtain ⟨i, rfl, hi, HF⟩ := hrel
    have kb0 : wr.cell? ⟨w.heap.size, 0, none⟩ = some (.slice aa na ca) := (HBx.out.chf HF.out.2.2 Hnf.out).cell 0 (by simp)
    have kb1 : wr.cell? ⟨w.heap.size, 1, none⟩ = some (.slice ac nc cc) := (HBx.out.chf HF.out.2.2 Hnf.out).cell 1 (by simp)
    by_cases hlt : i < na
    · obtain ⟨ga, ega⟩ : ∃ ga, aa = some ⟨ga, 0, none⟩ := by
        rcases HF.out.1.2 with ⟨_, h0⟩ | ⟨g, cap, cur, e, _⟩
        · omega
        · injection e with e1; exact ⟨g, e1⟩
      subst ega
      have gc := HF.out.1.cellAt i (by omega)
      have gf := HF.out.1.frozenAt i
      obtain ⟨old, hold⟩ : ∃ v, wr.cell? ⟨ga, i, none⟩ = some v := by
        rw [gc, List.getElem?_eq_getElem (by rw [List.length_map]; simp [Hna.out]; omega)]
        exact ⟨_, rfl⟩
      have hst := HF.out.1.stored i (U 11)
      have HF2 : Hid ((wr.setCell ⟨ga, i, none⟩ (.int .u32 11)).ownsRow 0 51 1 (.slice (some ⟨ga, 0, none⟩) na ca) na ((List.replicate (i + 1) 11 ++ EA.drop (i + 1)).map U) ∧ (wr.setCell ⟨ga, i, none⟩ (.int .u32 11)).ownsRow 0 51 1 (.slice ac nc cc) nc ((EC).map U) ∧ Chf f w0 (wr.setCell ⟨ga, i, none⟩ (.int .u32 11))) := by
        refine ⟨?_, HF.out.2.1.kept hst.2 ?_, HF.out.2.2.grown hst.2 (fun g e => .inl ?_)⟩
        · have := hst.1
          rw [fill_setN 11 na i EA Hna.out hlt] at this
          exact this
        · cases hb : (Value.slice ac nc cc).ownBlock with
          | none => exact .inl rfl
          | some g => exact .inr (fun e => by injection e with e; subst e; exact HAp.out g rfl hb)
        · injection e with e; subst e; rw [Hf.out]; exact .inl rfl
      clear gc hst
      go_wp2
      exact ⟨⟨i + 1, by go_num, by omega, HF2⟩, by simp [intOf]; omega⟩
    · obtain rfl : na = i := by omega
      have HG0 : Hid (wr.ownsRow 0 51 1 (.slice aa na ca) na ((List.replicate na 11).map U) ∧ wr.ownsRow 0 51 1 (.slice ac nc cc) nc ((List.replicate 0 12 ++ EC.drop 0).map U) ∧ Chf f w0 wr) := by
        refine ⟨?_, HF.out.2.1, HF.out.2.2⟩
        have := HF.out.1
        rw [List.drop_of_length_le (by rw [Hna.out]; exact Nat.le_refl _), List.append_nil] at this
        exact this
      clear HF hlt hi
      go_wp2
      clear kb0 kb1
      go_loopw [4] (fun s wr => ∃ k : Nat, s = .int .i64 (k : Int) ∧ k ≤ nc ∧ Hid (wr.ownsRow 0 51 1 (.slice aa na ca) na ((List.replicate na 11).map U) ∧ wr.ownsRow 0 51 1 (.slice ac nc cc) nc ((List.replicate k 12 ++ EC.drop k).map U) ∧ Chf f w0 wr)) (fun s _ => nc - (intOf s).toNat)
      case atStart => exact ⟨0, rfl, Nat.zero_le _, HG0⟩
      case round =>
        clear HG0
        obtain ⟨k, rfl, hi, HF⟩ := hrel
        have kb0 : wr.cell? ⟨w.heap.size, 0, none⟩ = some (.slice aa na ca) := (HBx.out.chf HF.out.2.2 Hnf.out).cell 0 (by simp)
        have kb1 : wr.cell? ⟨w.heap.size, 1, none⟩ = some (.slice ac nc cc) := (HBx.out.chf HF.out.2.2 Hnf.out).cell 1 (by simp)
        by_cases hlt : k < nc
        · obtain ⟨ga, ega⟩ : ∃ ga, ac = some ⟨ga, 0, none⟩ := by
            rcases HF.out.2.1.2 with ⟨_, h0⟩ | ⟨g, cap, cur, e, _⟩
            · omega
            · injection e with e1; exact ⟨g, e1⟩
          subst ega
          have gc := HF.out.2.1.cellAt k (by omega)
          have gf := HF.out.2.1.frozenAt k
          obtain ⟨old, hold⟩ : ∃ v, wr.cell? ⟨ga, k, none⟩ = some v := by
            rw [gc, List.getElem?_eq_getElem (by rw [List.length_map]; simp [Hnc.out]; omega)]
            exact ⟨_, rfl⟩
          have hst := HF.out.2.1.stored k (U 12)
          have HF2 : Hid ((wr.setCell ⟨ga, k, none⟩ (.int .u32 12)).ownsRow 0 51 1 (.slice aa na ca) na ((List.replicate na 11).map U) ∧ (wr.setCell ⟨ga, k, none⟩ (.int .u32 12)).ownsRow 0 51 1 (.slice (some ⟨ga, 0, none⟩) nc cc) nc ((List.replicate (k + 1) 12 ++ EC.drop (k + 1)).map U) ∧ Chf f w0 (wr.setCell ⟨ga, k, none⟩ (.int .u32 12))) := by
            refine ⟨HF.out.1.kept hst.2 ?_, ?_, HF.out.2.2.grown hst.2 (fun g e => .inl ?_)⟩
            · cases hb : (Value.slice aa na ca).ownBlock with
              | none => exact .inl rfl
              | some g => exact .inr (fun e => by injection e with e; subst e; exact HAp.out g hb rfl)
            · have := hst.1
              rw [fill_setN 12 nc k EC Hnc.out hlt] at this
              exact this
            · injection e with e; subst e; rw [Hf.out]; exact .inr rfl
          clear gc hst
          go_wp2
          exact ⟨⟨k + 1, by go_num, by omega, HF2⟩, by simp [intOf]; omega⟩
        · obtain rfl : nc = k := by omega
          have HS0 : Hid (S2 w0 wr (.slice aa na ca) (.slice aa na ca) (.slice ac nc cc) (.slice ac nc cc) na nc 0 0) := by
            have h1 := HF.out.1
            have h2 := HF.out.2.1
            rw [List.drop_of_length_le (by rw [Hnc.out]; exact Nat.le_refl _), List.append_nil] at h2
            have h3 := HF.out.2.2
            rw [Hf.out] at h3
            have hs := Hsz.out
            refine ⟨⟨by rw [List.replicate_zero, List.append_nil]; exact h1, h1, .inl rfl, fun g hg => by have := Hina.out.1 g hg; omega⟩, ⟨by rw [List.replicate_zero, List.append_nil]; exact h2, h2, .inl rfl, fun g hg => by have := Hina.out.2 g hg; omega⟩, HAp.out, HAp.out, h3⟩
          clear HF hlt hi
          go_wp2
          clear kb0 kb1
          go_loopw [5, 6, 7] (fun s5 s6 s7 wr => ∃ (j : Nat) (ax ay : Option Addr) (cx cy : Nat), s7 = .int .i64 (j : Int) ∧ j ≤ 70 ∧ s5 = .slice ax (na + j) cx ∧ s6 = .slice ay (nc + j) cy ∧ Hid (S2 w0 wr (.slice aa na ca) s5 (.slice ac nc cc) s6 na nc j j)) (fun _ _ s7 _ => 70 - (intOf s7).toNat)
          case atStart => exact ⟨0, _, _, _, _, rfl, by omega, rfl, rfl, HS0⟩
          case round =>
            clear HS0
            obtain ⟨j, ax, ay, cx, cy, rfl, hj, rfl, rfl, HS⟩ := hrel
            by_cases hlt : j < 70
            · obtain ⟨v', w', hrun, hS'⟩ := HS.out.stepX (by omega)
              obtain ⟨am', cm', ev⟩ : ∃ a c, v' = .slice a (na + (j + 1)) c := by
                rcases hS'.A.own.2 with ⟨_, h0⟩ | ⟨g, cap, cur, e, _⟩
                · omega
                · exact ⟨_, _, e⟩
              subst ev
              obtain ⟨v2, w2', hrun2, hS2⟩ := hS'.stepY (by omega)
              obtain ⟨an', cn', ev2⟩ : ∃ a c, v2 = .slice a (nc + (j + 1)) c := by
                rcases hS2.C.own.2 with ⟨_, h0⟩ | ⟨g, cap, cur, e, _⟩
                · omega
                · exact ⟨_, _, e⟩
              subst ev2
              have HS2 : Hid (S2 w0 w2' (.slice aa na ca) (.slice am' (na + (j + 1)) cm') (.slice ac nc cc) (.slice an' (nc + (j + 1)) cn') na nc (j + 1) (j + 1)) := hS2
              clear hS' hS2 HS
              go_wp2_with (first | (at_builtin; refine Lib.wpList_append_run _ rfl _ _ 24 24 rfl _ _ rfl rfl _ _ hrun ?_) | (at_builtin; refine Lib.wpList_append_run _ rfl _ _ 24 24 rfl _ _ rfl rfl _ _ hrun2 ?_) | fail)
              go_roundw
              case rel => exact ⟨j + 1, am', an', cm', cn', by go_num, by omega, rfl, rfl, HS2⟩
              case measure => simp [intOf]; omega
            · obtain rfl : j = 70 := by omega
              clear hlt hj
              obtain ⟨gx, egx⟩ : ∃ g, ax = some ⟨g, 0, none⟩ := by
                rcases HS.out.A.own.2 with ⟨_, h0⟩ | ⟨g, cap, cur, e, _⟩
                · omega
                · injection e with e1; exact ⟨g, e1⟩
              subst egx
              obtain ⟨gy, egy⟩ : ∃ g, ay = some ⟨g, 0, none⟩ := by
                rcases HS.out.C.own.2 with ⟨_, h0⟩ | ⟨g, cap, cur, e, _⟩
                · omega
                · injection e with e1; exact ⟨g, e1⟩
              subst egy
              have kb0 : wr.cell? ⟨w.heap.size, 0, none⟩ = some (.slice aa na ca) := (HBx.out.chf (by rw [Hf.out]; exact HS.out.chg) Hnf.out).cell 0 (by simp)
              have kb1 : wr.cell? ⟨w.heap.size, 1, none⟩ = some (.slice ac nc cc) := (HBx.out.chf (by rw [Hf.out]; exact HS.out.chg) Hnf.out).cell 1 (by simp)
              have HcX : Hid (∀ m, m < 70 → wr.cell? ⟨gx, na + m, none⟩ = some (.int .u32 13)) := fun m hm => HS.out.A.cellX (na + m) (by omega) (by omega)
              have HcY : Hid (∀ m, m < 70 → wr.cell? ⟨gy, nc + m, none⟩ = some (.int .u32 14)) := fun m hm => HS.out.C.cellX (nc + m) (by omega) (by omega)
              have HcA : Hid (∀ m, m < na → ∃ g, aa = some ⟨g, 0, none⟩ ∧ wr.cell? ⟨g, m, none⟩ = some (.int .u32 11)) := fun m hm => by
                obtain ⟨ga, ega⟩ : ∃ g, aa = some ⟨g, 0, none⟩ := by
                  rcases HS.out.A.ownA.2 with ⟨_, h0⟩ | ⟨g, cap, cur, e, _⟩
                  · omega
                  · injection e with e1; exact ⟨g, e1⟩
                subst ega
                exact ⟨ga, rfl, HS.out.A.cellA m hm⟩
              have HcC : Hid (∀ m, m < nc → ∃ g, ac = some ⟨g, 0, none⟩ ∧ wr.cell? ⟨g, m, none⟩ = some (.int .u32 12)) := fun m hm => by
                obtain ⟨ga, ega⟩ : ∃ g, ac = some ⟨g, 0, none⟩ := by
                  rcases HS.out.C.ownA.2 with ⟨_, h0⟩ | ⟨g, cap, cur, e, _⟩
                  · omega
                  · injection e with e1; exact ⟨g, e1⟩
                subst ega
                exact ⟨ga, rfl, HS.out.C.cellA m hm⟩
              have HC9 : Hid (Chf f w wr) := Hend.out wr (by rw [Hf.out]; exact HS.out.chg)
              go_wp2
              go_loop [8] (fun s => ∃ m : Nat, s = .int .i64 (m : Int) ∧ m ≤ na) (fun s => na - (intOf s).toNat)
              case atStart => exact ⟨0, rfl, by omega⟩
              case round =>
                obtain ⟨m, rfl, hm⟩ := hrel
                by_cases hlt : m < na
                · obtain ⟨ga, rfl, y1⟩ := HcA.out m hlt
                  have d1 : decide ((m : Int) < (na : Int)) = true := decide_eq_true (by omega)
                  go_wp2
                  go_round
                  case rel => exact ⟨m + 1, by go_num, by omega⟩
                  case measure => simp [intOf]; omega
                · obtain rfl : na = m := by omega
                  go_wp2
                  go_loop [9] (fun s => ∃ m : Nat, s = .int .i64 (m : Int) ∧ m ≤ nc) (fun s => nc - (intOf s).toNat)
                  case atStart => exact ⟨0, rfl, by omega⟩
                  case round =>
                    obtain ⟨m, rfl, hm⟩ := hrel
                    by_cases hlt : m < nc
                    · obtain ⟨ga, rfl, y1⟩ := HcC.out m hlt
                      have d1 : decide ((m : Int) < (nc : Int)) = true := decide_eq_true (by omega)
                      go_wp2
                      go_round
                      case rel => exact ⟨m + 1, by go_num, by omega⟩
                      case measure => simp [intOf]; omega
                    · obtain rfl : nc = m := by omega
                      go_wp2
                      go_loop [10] (fun s => ∃ q : Nat, s = .int .i64 (q : Int) ∧ q ≤ 70) (fun s => 70 - (intOf s).toNat)
                      case atStart => exact ⟨0, rfl, by omega⟩
                      case round =>
                        obtain ⟨q, rfl, hq⟩ := hrel
                        by_cases hlt : q < 70
                        · have y1 := HcX.out q hlt
                          have y2 := HcY.out q hlt
                          go_wp2
                          go_round
                          case rel => exact ⟨q + 1, by go_num, by omega⟩
                          case measure => simp [intOf]; omega
                        · obtain rfl : q = 70 := by omega
                          go_wp2
                          go_ret
                          refine ⟨rfl, ?_⟩
                          have h := HC9.out
                          rw [Hf.out] at h
                          exact h
end Go.Proofs.YtmngdaolgdhgmaaGreatDoor
