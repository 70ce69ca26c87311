import Derived.Test.YtfpimcmhooiooaaDoorPa
namespace Go.Proofs.YtfpimcmhooiooaaDoor
open Go.RowKit

set_option maxRecDepth 100000 in
set_option maxHeartbeats 16000000 in
theorem rallow_any (ao : Option Addr) (cap : Nat) (l : List (List UInt8)) (iss : ByteArray) (hi : Bool) (aud : ByteArray) (ha : Bool) (ty : List UInt8) (wt : Bool) (lee : Int) (need : Value) (h : Hd) (w : World)
    (hR : TR w (.slice ao l.length cap) l ao cap) (hl : l.length ≤ 10000000) :
    Calls Tryd.prog 7 #[plV (.slice ao l.length cap) iss hi aud ha ty wt lee need, hdV h] w fun e w' => e = .returned (.int .i64 (allowF l wt ty h : Nat)) ∧ Below w.heap.size w w' := by
  unfold plV hdV
  obtain ⟨alg, kid, typ, has⟩ := h
  dsimp only
  obtain ⟨W, hW⟩ : ∃ W : World, W = (w.alloc (.cells (([.slice ao l.length cap, .string iss, .bool hi, .string aud, .bool ha, .string ⟨ty.toArray⟩, .bool wt, .int .i64 lee, need] : List Value).toArray) 24)).alloc (.cells (([.int .i64 alg, .string ⟨kid.toArray⟩, .string ⟨typ.toArray⟩, .bool has] : List Value).toArray) 27) := ⟨_, rfl⟩
  have hB : Below w.heap.size w W := by rw [hW]; exact ((alloc_below _ _).mono (Nat.le_refl _)).trans ((alloc_below _ _).mono (by simp))
  have b1 : Bl 24 W w.heap.size [.slice ao l.length cap, .string iss, .bool hi, .string aud, .bool ha, .string ⟨ty.toArray⟩, .bool wt, .int .i64 lee, need] := by
    rw [hW]
    exact (alloc_bl w _ _).below (alloc_below _ _) (by simp)
  have b2 : Bl 27 W (w.heap.size + 1) [.int .i64 alg, .string ⟨kid.toArray⟩, .string ⟨typ.toArray⟩, .bool has] := by
    have := alloc_bl (w.alloc (.cells (([.slice ao l.length cap, .string iss, .bool hi, .string aud, .bool ha, .string ⟨ty.toArray⟩, .bool wt, .int .i64 lee, need] : List Value).toArray) 24)) [.int .i64 alg, .string ⟨kid.toArray⟩, .string ⟨typ.toArray⟩, .bool has] 27
    rw [hW]
    simpa using this
  have hs1 : w.heap.size < W.heap.size := b1.lt
  have hs2 : w.heap.size + 1 < W.heap.size := b2.lt
  have HP : Hid (∀ wq, Below W.heap.size W wq → Bl 24 wq w.heap.size [.slice ao l.length cap, .string iss, .bool hi, .string aud, .bool ha, .string ⟨ty.toArray⟩, .bool wt, .int .i64 lee, need]) := fun wq hq => b1.below hq hs1
  have HH : Hid (∀ wq, Below W.heap.size W wq → Bl 27 wq (w.heap.size + 1) [.int .i64 alg, .string ⟨kid.toArray⟩, .string ⟨typ.toArray⟩, .bool has]) := fun wq hq => b2.below hq hs2
  have HB : Hid (∀ wq, Below W.heap.size W wq → Below w.heap.size w wq) := fun wq hq => hB.trans (hq.mono (Nat.le_of_lt hs1))
  have HTR : Hid (∀ wq, Below w.heap.size w wq → TR wq (.slice ao l.length cap) l ao cap) := fun wq hq => hR.below hq (Nat.le_refl _)
  obtain ⟨nm, hnm⟩ : ∃ nm, nameF' alg = nm := ⟨_, rfl⟩
  have HNM : Hid (nameF' alg = nm) := hnm
  have HF : Hid (allowF l wt ty ⟨alg, kid, typ, has⟩ = if nm = [] ∨ nm ∉ l then 112 else if wt = true ∧ (has = false ∨ typ ≠ ty) then 113 else 0) := by show _ = _; unfold allowF; rw [hnm]
  generalize allowF l wt ty ⟨alg, kid, typ, has⟩ = E at HF ⊢
  clear hB b1 b2 hs1 hs2 hR hnm
  go_enter Tryd.func7, Tryd.ntmps7
  go_wp2_with fail
  rw [← hW]
  clear hW
  go_loopw [5, 6] (fun s5 s6 wx => ∃ k : Nat, s6 = .int .i64 k ∧ k ≤ l.length ∧ s5 = .bool (decide (nm ≠ [] ∧ nm ∈ l.take k)) ∧ Below W.heap.size W wx) (fun _ x _ => l.length - (intOf x).toNat)
  case atStart => exact ⟨0, rfl, Nat.zero_le _, by simp, Below.refl _ _⟩
  case round =>
    obtain ⟨k, rfl, hk, rfl, hBr⟩ := hrel
    have c0 : wr.cell? ⟨w.heap.size, 0, none⟩ = some (.slice ao l.length cap) := (HP.out wr hBr).cell 0 (by simp)
    have HBr : Hid (Below W.heap.size W wr) := hBr
    by_cases hlt : k < l.length
    · have q0 : decide ((k : Int) < (l.length : Int)) = true := decide_eq_true (by omega)
      obtain ⟨g, off, e', kc⟩ := (HTR.out wr (HB.out wr hBr)).at hlt
      subst e'
      obtain ⟨x, hx⟩ : ∃ x, l.getD k [] = x := ⟨_, rfl⟩
      rw [hx] at kc
      have hi2 : (0 : Int) ≤ (k : Int) ∧ (k : Int) < (l.length : Int) := ⟨by omega, by omega⟩
      have htk : l.take (k + 1) = l.take k ++ [x] := by rw [List.take_add_one, List.getElem?_eq_getElem hlt, ← hx, List.getD_eq_getElem?_getD, List.getElem?_eq_getElem hlt]; rfl
      have HSS : Hid (∀ wq, Below W.heap.size W wq → (fun (w' : World) => w'.cell? ⟨w.heap.size, 0, none⟩ = some (.slice (some ⟨g, off, none⟩) l.length cap) ∧ w'.cell? ⟨g, off + k, none⟩ = some (.string ⟨x.toArray⟩) ∧ w'.cell? ⟨w.heap.size + 1, 0, none⟩ = some (.int .i64 alg)) wq) := fun wq hq => ⟨(HP.out wq hq).cell 0 (by simp), by
        obtain ⟨g', off', e', hc⟩ := (HTR.out wq (HB.out wq hq)).at hlt
        cases e'
        rw [hx] at hc
        exact hc, (HH.out wq hq).cell 0 (by simp)⟩
      by_cases he : x = nm
      · have qe : (x == nm) = true := by simpa using he
        by_cases h0 : x = []
        · have HM : Hid (decide (nm ≠ [] ∧ nm ∈ l.take (k + 1)) = decide (nm ≠ [] ∧ nm ∈ l.take k)) := by show _ = _; rw [← he]; simp [h0]
          have qx : (x != ([] : List UInt8)) = false := by simpa using h0
          have qx2 : (x == ([] : List UInt8)) = true := by simpa using h0
          generalize decide (nm ≠ [] ∧ nm ∈ l.take k) = bb at *
          clear hx htk hBr he h0
          go_wp2
          refine wp_region_K 16 (fun (w' : World) => w'.cell? ⟨w.heap.size, 0, none⟩ = some (.slice (some ⟨g, off, none⟩) l.length cap) ∧ w'.cell? ⟨g, off + k, none⟩ = some (.string ⟨x.toArray⟩) ∧ w'.cell? ⟨w.heap.size + 1, 0, none⟩ = some (.int .i64 alg)) (by kernel_rfl) ?_
          have hHeld : ((fun (w' : World) => w'.cell? ⟨w.heap.size, 0, none⟩ = some (.slice (some ⟨g, off, none⟩) l.length cap) ∧ w'.cell? ⟨g, off + k, none⟩ = some (.string ⟨x.toArray⟩) ∧ w'.cell? ⟨w.heap.size + 1, 0, none⟩ = some (.int .i64 alg))) (World.drew _) := HSS.out _ (below_drewN HBr.out 1)
          refine wpAnyK_take0 0 (v := ?v1) rfl (by kernel_rfl) (fun _ _ _ h => h) (Or.inl ⟨by rfl, ?hy1⟩) (fun _ => hHeld) ?_
          case hy1 => (intro w hSw; go_simp; try with_reducible rfl)
          try simp only [Act.put, List.setIfInBounds_toArray, List.set_cons_zero, List.set_cons_succ]
          refine wpAnyK_take 1 [3, 4, 8, 9, 16] (v := ?v2) rfl (by kernel_rfl) (fun _ _ _ h => h) (Or.inl ⟨by rfl, ?hy2⟩) hHeld ?_
          case hy2 => (intro w hSw; (try dsimp only at hSw); go_simp; try with_reducible rfl)
          try simp only [Act.put, List.setIfInBounds_toArray, List.set_cons_zero, List.set_cons_succ]
          refine wpAnyK_take0 2 (v := ?v3) rfl (by kernel_rfl) (fun _ _ _ h => h) (Or.inl ⟨by rfl, ?hy3⟩) (fun _ => hHeld) ?_
          case hy3 => (intro w hSw; go_simp; try with_reducible rfl)
          try simp only [Act.put, List.setIfInBounds_toArray, List.set_cons_zero, List.set_cons_succ]
          refine wpAnyK_take0 3 (v := ?v4) rfl (by kernel_rfl) (fun _ _ _ h => h) (Or.inl ⟨by rfl, ?hy4⟩) (fun _ => hHeld) ?_
          case hy4 => (intro w hSw; go_simp; (try rw [if_pos hi2]); try with_reducible rfl)
          try simp only [Act.put, List.setIfInBounds_toArray, List.set_cons_zero, List.set_cons_succ]
          refine wpAnyK_take 4 [8, 9, 16] (v := ?v5) rfl (by kernel_rfl) (fun _ _ _ h => h) (Or.inl ⟨by rfl, ?hy5⟩) hHeld ?_
          case hy5 => (intro w hSw; (try dsimp only at hSw); go_simp; try with_reducible rfl)
          try simp only [Act.put, List.setIfInBounds_toArray, List.set_cons_zero, List.set_cons_succ]
          refine wpAnyK_take0 5 (v := ?v6) rfl (by kernel_rfl) (fun _ _ _ h => h) (Or.inl ⟨by rfl, ?hy6⟩) (fun _ => hHeld) ?_
          case hy6 => (intro w hSw; go_simp; try with_reducible rfl)
          try simp only [Act.put, List.setIfInBounds_toArray, List.set_cons_zero, List.set_cons_succ]
          refine wpAnyK_take 6 [7, 8, 9, 16] (v := ?v7) rfl (by kernel_rfl) (fun _ _ _ h => h) (Or.inl ⟨by rfl, ?hy7⟩) hHeld ?_
          case hy7 => (intro w hSw; (try dsimp only at hSw); go_simp; try with_reducible rfl)
          try simp only [Act.put, List.setIfInBounds_toArray, List.set_cons_zero, List.set_cons_succ]
          refine wpAnyK_step 7 rfl (by kernel_rfl) (fun K hK => ?_)
          go_simp
          refine (rname_any alg _).mono ?_
          rintro e w3 ⟨rfl, hB3⟩
          have HB3 : Hid (Below W.heap.size W w3) := (below_drewN HBr.out 1).trans (hB3.mono (below_drewN HBr.out 1).size)
          clear hB3
          rw [HNM.out]
          dsimp only
          refine hK.out _ _ ?hk8 ?_
          case hk8 => exact fun _ => HSS.out _ HB3.out
          have hHeld : ((fun (w' : World) => w'.cell? ⟨w.heap.size, 0, none⟩ = some (.slice (some ⟨g, off, none⟩) l.length cap) ∧ w'.cell? ⟨g, off + k, none⟩ = some (.string ⟨x.toArray⟩) ∧ w'.cell? ⟨w.heap.size + 1, 0, none⟩ = some (.int .i64 alg))) _ := HSS.out _ HB3.out
          clear hK K
          try simp only [Act.put, List.setIfInBounds_toArray, List.set_cons_zero, List.set_cons_succ]
          refine wpAnyK_take0 8 (v := ?v9) rfl (by kernel_rfl) (fun _ _ _ h => h) (Or.inl ⟨by rfl, ?hy9⟩) (fun _ => hHeld) ?_
          case hy9 => (intro w hSw; go_simp; (try rw [qe]); try with_reducible rfl)
          try simp only [Act.put, List.setIfInBounds_toArray, List.set_cons_zero, List.set_cons_succ]
          refine wpAnyK_take0 9 (v := ?v10) rfl (by kernel_rfl) (fun _ _ _ h => h) (Or.inl ⟨by rfl, ?hy10⟩) (fun _ => hHeld) ?_
          case hy10 => (intro w hSw; go_simp; try with_reducible rfl)
          try simp only [Act.put, List.setIfInBounds_toArray, List.set_cons_zero, List.set_cons_succ]
          refine wpAnyK_take0 10 (v := ?v11) rfl (by kernel_rfl) (fun _ _ _ h => h) (Or.inl ⟨by rfl, ?hy11⟩) (fun _ => hHeld) ?_
          case hy11 => (intro w hSw; go_simp; try with_reducible rfl)
          try simp only [Act.put, List.setIfInBounds_toArray, List.set_cons_zero, List.set_cons_succ]
          refine wpAnyK_take 11 [13, 14, 15, 16] (v := ?v12) rfl (by kernel_rfl) (fun _ _ _ h => h) (Or.inl ⟨by rfl, ?hy12⟩) hHeld ?_
          case hy12 => (intro w hSw; (try dsimp only at hSw); go_simp; try with_reducible rfl)
          try simp only [Act.put, List.setIfInBounds_toArray, List.set_cons_zero, List.set_cons_succ]
          refine wpAnyK_take0 12 (v := ?v13) rfl (by kernel_rfl) (fun _ _ _ h => h) (Or.inl ⟨by rfl, ?hy13⟩) (fun _ => hHeld) ?_
          case hy13 => (intro w hSw; go_simp; try with_reducible rfl)
          try simp only [Act.put, List.setIfInBounds_toArray, List.set_cons_zero, List.set_cons_succ]
          refine wpAnyK_take0 13 (v := ?v14) rfl (by kernel_rfl) (fun _ _ _ h => h) (Or.inl ⟨by rfl, ?hy14⟩) (fun _ => hHeld) ?_
          case hy14 => (intro w hSw; go_simp; (try rw [if_pos hi2]); try with_reducible rfl)
          try simp only [Act.put, List.setIfInBounds_toArray, List.set_cons_zero, List.set_cons_succ]
          refine wpAnyK_take 14 [15, 16] (v := ?v15) rfl (by kernel_rfl) (fun _ _ _ h => h) (Or.inl ⟨by rfl, ?hy15⟩) hHeld ?_
          case hy15 => (intro w hSw; (try dsimp only at hSw); go_simp; try with_reducible rfl)
          try simp only [Act.put, List.setIfInBounds_toArray, List.set_cons_zero, List.set_cons_succ]
          refine wpAnyK_take0 15 (v := ?v16) rfl (by kernel_rfl) (fun _ _ _ h => h) (Or.inl ⟨by rfl, ?hy16⟩) (fun _ => hHeld) ?_
          case hy16 => (intro w hSw; go_simp; (try rw [qx]); try with_reducible rfl)
          try simp only [Act.put, List.setIfInBounds_toArray, List.set_cons_zero, List.set_cons_succ]
          refine wpAnyK_step 16 rfl (by kernel_rfl) (fun K hK => ?_)
          go_simp
          refine hK.out _ _ ?hk17 ?_
          case hk17 => exact (fun h => nomatch (h.symm.trans (show _ = true by kernel_rfl)))
          clear hK K
          try simp only [Act.put, List.setIfInBounds_toArray, List.set_cons_zero, List.set_cons_succ]
          refine wpAnyK_done (by kernel_rfl) ?_ _
          go_wp2
          go_roundw
          case rel => exact ⟨k + 1, by go_num, by omega, by rw [HM.out], HB3.out⟩
          case measure => simp [intOf]; omega
        · have HM : Hid (decide (nm ≠ [] ∧ nm ∈ l.take (k + 1)) = true) := decide_eq_true (by rw [htk, ← he]; exact ⟨h0, by simp⟩)
          have qx : (x != ([] : List UInt8)) = true := by simpa using h0
          have qx2 : (x == ([] : List UInt8)) = false := by simpa using h0
          generalize decide (nm ≠ [] ∧ nm ∈ l.take k) = bb at *
          clear hx htk hBr he h0
          go_wp2
          refine wp_region_K 16 (fun (w' : World) => w'.cell? ⟨w.heap.size, 0, none⟩ = some (.slice (some ⟨g, off, none⟩) l.length cap) ∧ w'.cell? ⟨g, off + k, none⟩ = some (.string ⟨x.toArray⟩) ∧ w'.cell? ⟨w.heap.size + 1, 0, none⟩ = some (.int .i64 alg)) (by kernel_rfl) ?_
          have hHeld : ((fun (w' : World) => w'.cell? ⟨w.heap.size, 0, none⟩ = some (.slice (some ⟨g, off, none⟩) l.length cap) ∧ w'.cell? ⟨g, off + k, none⟩ = some (.string ⟨x.toArray⟩) ∧ w'.cell? ⟨w.heap.size + 1, 0, none⟩ = some (.int .i64 alg))) (World.drew _) := HSS.out _ (below_drewN HBr.out 1)
          refine wpAnyK_take0 0 (v := ?v18) rfl (by kernel_rfl) (fun _ _ _ h => h) (Or.inl ⟨by rfl, ?hy18⟩) (fun _ => hHeld) ?_
          case hy18 => (intro w hSw; go_simp; try with_reducible rfl)
          try simp only [Act.put, List.setIfInBounds_toArray, List.set_cons_zero, List.set_cons_succ]
          refine wpAnyK_take 1 [3, 4, 8, 9, 16] (v := ?v19) rfl (by kernel_rfl) (fun _ _ _ h => h) (Or.inl ⟨by rfl, ?hy19⟩) hHeld ?_
          case hy19 => (intro w hSw; (try dsimp only at hSw); go_simp; try with_reducible rfl)
          try simp only [Act.put, List.setIfInBounds_toArray, List.set_cons_zero, List.set_cons_succ]
          refine wpAnyK_take0 2 (v := ?v20) rfl (by kernel_rfl) (fun _ _ _ h => h) (Or.inl ⟨by rfl, ?hy20⟩) (fun _ => hHeld) ?_
          case hy20 => (intro w hSw; go_simp; try with_reducible rfl)
          try simp only [Act.put, List.setIfInBounds_toArray, List.set_cons_zero, List.set_cons_succ]
          refine wpAnyK_take0 3 (v := ?v21) rfl (by kernel_rfl) (fun _ _ _ h => h) (Or.inl ⟨by rfl, ?hy21⟩) (fun _ => hHeld) ?_
          case hy21 => (intro w hSw; go_simp; (try rw [if_pos hi2]); try with_reducible rfl)
          try simp only [Act.put, List.setIfInBounds_toArray, List.set_cons_zero, List.set_cons_succ]
          refine wpAnyK_take 4 [8, 9, 16] (v := ?v22) rfl (by kernel_rfl) (fun _ _ _ h => h) (Or.inl ⟨by rfl, ?hy22⟩) hHeld ?_
          case hy22 => (intro w hSw; (try dsimp only at hSw); go_simp; try with_reducible rfl)
          try simp only [Act.put, List.setIfInBounds_toArray, List.set_cons_zero, List.set_cons_succ]
          refine wpAnyK_take0 5 (v := ?v23) rfl (by kernel_rfl) (fun _ _ _ h => h) (Or.inl ⟨by rfl, ?hy23⟩) (fun _ => hHeld) ?_
          case hy23 => (intro w hSw; go_simp; try with_reducible rfl)
          try simp only [Act.put, List.setIfInBounds_toArray, List.set_cons_zero, List.set_cons_succ]
          refine wpAnyK_take 6 [7, 8, 9, 16] (v := ?v24) rfl (by kernel_rfl) (fun _ _ _ h => h) (Or.inl ⟨by rfl, ?hy24⟩) hHeld ?_
          case hy24 => (intro w hSw; (try dsimp only at hSw); go_simp; try with_reducible rfl)
          try simp only [Act.put, List.setIfInBounds_toArray, List.set_cons_zero, List.set_cons_succ]
          refine wpAnyK_step 7 rfl (by kernel_rfl) (fun K hK => ?_)
          go_simp
          refine (rname_any alg _).mono ?_
          rintro e w3 ⟨rfl, hB3⟩
          have HB3 : Hid (Below W.heap.size W w3) := (below_drewN HBr.out 1).trans (hB3.mono (below_drewN HBr.out 1).size)
          clear hB3
          rw [HNM.out]
          dsimp only
          refine hK.out _ _ ?hk25 ?_
          case hk25 => exact fun _ => HSS.out _ HB3.out
          have hHeld : ((fun (w' : World) => w'.cell? ⟨w.heap.size, 0, none⟩ = some (.slice (some ⟨g, off, none⟩) l.length cap) ∧ w'.cell? ⟨g, off + k, none⟩ = some (.string ⟨x.toArray⟩) ∧ w'.cell? ⟨w.heap.size + 1, 0, none⟩ = some (.int .i64 alg))) _ := HSS.out _ HB3.out
          clear hK K
          try simp only [Act.put, List.setIfInBounds_toArray, List.set_cons_zero, List.set_cons_succ]
          refine wpAnyK_take0 8 (v := ?v26) rfl (by kernel_rfl) (fun _ _ _ h => h) (Or.inl ⟨by rfl, ?hy26⟩) (fun _ => hHeld) ?_
          case hy26 => (intro w hSw; go_simp; (try rw [qe]); try with_reducible rfl)
          try simp only [Act.put, List.setIfInBounds_toArray, List.set_cons_zero, List.set_cons_succ]
          refine wpAnyK_take0 9 (v := ?v27) rfl (by kernel_rfl) (fun _ _ _ h => h) (Or.inl ⟨by rfl, ?hy27⟩) (fun _ => hHeld) ?_
          case hy27 => (intro w hSw; go_simp; try with_reducible rfl)
          try simp only [Act.put, List.setIfInBounds_toArray, List.set_cons_zero, List.set_cons_succ]
          refine wpAnyK_take0 10 (v := ?v28) rfl (by kernel_rfl) (fun _ _ _ h => h) (Or.inl ⟨by rfl, ?hy28⟩) (fun _ => hHeld) ?_
          case hy28 => (intro w hSw; go_simp; try with_reducible rfl)
          try simp only [Act.put, List.setIfInBounds_toArray, List.set_cons_zero, List.set_cons_succ]
          refine wpAnyK_take 11 [13, 14, 15, 16] (v := ?v29) rfl (by kernel_rfl) (fun _ _ _ h => h) (Or.inl ⟨by rfl, ?hy29⟩) hHeld ?_
          case hy29 => (intro w hSw; (try dsimp only at hSw); go_simp; try with_reducible rfl)
          try simp only [Act.put, List.setIfInBounds_toArray, List.set_cons_zero, List.set_cons_succ]
          refine wpAnyK_take0 12 (v := ?v30) rfl (by kernel_rfl) (fun _ _ _ h => h) (Or.inl ⟨by rfl, ?hy30⟩) (fun _ => hHeld) ?_
          case hy30 => (intro w hSw; go_simp; try with_reducible rfl)
          try simp only [Act.put, List.setIfInBounds_toArray, List.set_cons_zero, List.set_cons_succ]
          refine wpAnyK_take0 13 (v := ?v31) rfl (by kernel_rfl) (fun _ _ _ h => h) (Or.inl ⟨by rfl, ?hy31⟩) (fun _ => hHeld) ?_
          case hy31 => (intro w hSw; go_simp; (try rw [if_pos hi2]); try with_reducible rfl)
          try simp only [Act.put, List.setIfInBounds_toArray, List.set_cons_zero, List.set_cons_succ]
          refine wpAnyK_take 14 [15, 16] (v := ?v32) rfl (by kernel_rfl) (fun _ _ _ h => h) (Or.inl ⟨by rfl, ?hy32⟩) hHeld ?_
          case hy32 => (intro w hSw; (try dsimp only at hSw); go_simp; try with_reducible rfl)
          try simp only [Act.put, List.setIfInBounds_toArray, List.set_cons_zero, List.set_cons_succ]
          refine wpAnyK_take0 15 (v := ?v33) rfl (by kernel_rfl) (fun _ _ _ h => h) (Or.inl ⟨by rfl, ?hy33⟩) (fun _ => hHeld) ?_
          case hy33 => (intro w hSw; go_simp; (try rw [qx]); try with_reducible rfl)
          try simp only [Act.put, List.setIfInBounds_toArray, List.set_cons_zero, List.set_cons_succ]
          refine wpAnyK_step 16 rfl (by kernel_rfl) (fun K hK => ?_)
          go_simp
          refine hK.out _ _ ?hk34 ?_
          case hk34 => exact (fun h => nomatch (h.symm.trans (show _ = true by kernel_rfl)))
          clear hK K
          try simp only [Act.put, List.setIfInBounds_toArray, List.set_cons_zero, List.set_cons_succ]
          refine wpAnyK_done (by kernel_rfl) ?_ _
          go_wp2
          go_roundw
          case rel => exact ⟨k + 1, by go_num, by omega, by rw [HM.out], HB3.out⟩
          case measure => simp [intOf]; omega
      · have HM : Hid (decide (nm ≠ [] ∧ nm ∈ l.take (k + 1)) = decide (nm ≠ [] ∧ nm ∈ l.take k)) := by show _ = _; rw [htk]; exact decide_eq_decide.2 (by simp [show nm ≠ x from fun h => he h.symm])
        have qe : (x == nm) = false := by simpa using he
        generalize decide (nm ≠ [] ∧ nm ∈ l.take k) = bb at *
        clear hx htk hBr he
        go_wp2
        refine wp_region_K 16 (fun (w' : World) => w'.cell? ⟨w.heap.size, 0, none⟩ = some (.slice (some ⟨g, off, none⟩) l.length cap) ∧ w'.cell? ⟨g, off + k, none⟩ = some (.string ⟨x.toArray⟩) ∧ w'.cell? ⟨w.heap.size + 1, 0, none⟩ = some (.int .i64 alg)) (by kernel_rfl) ?_
        have hHeld : ((fun (w' : World) => w'.cell? ⟨w.heap.size, 0, none⟩ = some (.slice (some ⟨g, off, none⟩) l.length cap) ∧ w'.cell? ⟨g, off + k, none⟩ = some (.string ⟨x.toArray⟩) ∧ w'.cell? ⟨w.heap.size + 1, 0, none⟩ = some (.int .i64 alg))) (World.drew _) := HSS.out _ (below_drewN HBr.out 1)
        refine wpAnyK_take0 0 (v := ?v35) rfl (by kernel_rfl) (fun _ _ _ h => h) (Or.inl ⟨by rfl, ?hy35⟩) (fun _ => hHeld) ?_
        case hy35 => (intro w hSw; go_simp; try with_reducible rfl)
        try simp only [Act.put, List.setIfInBounds_toArray, List.set_cons_zero, List.set_cons_succ]
        refine wpAnyK_take 1 [3, 4, 8, 9, 16] (v := ?v36) rfl (by kernel_rfl) (fun _ _ _ h => h) (Or.inl ⟨by rfl, ?hy36⟩) hHeld ?_
        case hy36 => (intro w hSw; (try dsimp only at hSw); go_simp; try with_reducible rfl)
        try simp only [Act.put, List.setIfInBounds_toArray, List.set_cons_zero, List.set_cons_succ]
        refine wpAnyK_take0 2 (v := ?v37) rfl (by kernel_rfl) (fun _ _ _ h => h) (Or.inl ⟨by rfl, ?hy37⟩) (fun _ => hHeld) ?_
        case hy37 => (intro w hSw; go_simp; try with_reducible rfl)
        try simp only [Act.put, List.setIfInBounds_toArray, List.set_cons_zero, List.set_cons_succ]
        refine wpAnyK_take0 3 (v := ?v38) rfl (by kernel_rfl) (fun _ _ _ h => h) (Or.inl ⟨by rfl, ?hy38⟩) (fun _ => hHeld) ?_
        case hy38 => (intro w hSw; go_simp; (try rw [if_pos hi2]); try with_reducible rfl)
        try simp only [Act.put, List.setIfInBounds_toArray, List.set_cons_zero, List.set_cons_succ]
        refine wpAnyK_take 4 [8, 9, 16] (v := ?v39) rfl (by kernel_rfl) (fun _ _ _ h => h) (Or.inl ⟨by rfl, ?hy39⟩) hHeld ?_
        case hy39 => (intro w hSw; (try dsimp only at hSw); go_simp; try with_reducible rfl)
        try simp only [Act.put, List.setIfInBounds_toArray, List.set_cons_zero, List.set_cons_succ]
        refine wpAnyK_take0 5 (v := ?v40) rfl (by kernel_rfl) (fun _ _ _ h => h) (Or.inl ⟨by rfl, ?hy40⟩) (fun _ => hHeld) ?_
        case hy40 => (intro w hSw; go_simp; try with_reducible rfl)
        try simp only [Act.put, List.setIfInBounds_toArray, List.set_cons_zero, List.set_cons_succ]
        refine wpAnyK_take 6 [7, 8, 9, 16] (v := ?v41) rfl (by kernel_rfl) (fun _ _ _ h => h) (Or.inl ⟨by rfl, ?hy41⟩) hHeld ?_
        case hy41 => (intro w hSw; (try dsimp only at hSw); go_simp; try with_reducible rfl)
        try simp only [Act.put, List.setIfInBounds_toArray, List.set_cons_zero, List.set_cons_succ]
        refine wpAnyK_step 7 rfl (by kernel_rfl) (fun K hK => ?_)
        go_simp
        refine (rname_any alg _).mono ?_
        rintro e w3 ⟨rfl, hB3⟩
        have HB3 : Hid (Below W.heap.size W w3) := (below_drewN HBr.out 1).trans (hB3.mono (below_drewN HBr.out 1).size)
        clear hB3
        rw [HNM.out]
        dsimp only
        refine hK.out _ _ ?hk42 ?_
        case hk42 => exact fun _ => HSS.out _ HB3.out
        have hHeld : ((fun (w' : World) => w'.cell? ⟨w.heap.size, 0, none⟩ = some (.slice (some ⟨g, off, none⟩) l.length cap) ∧ w'.cell? ⟨g, off + k, none⟩ = some (.string ⟨x.toArray⟩) ∧ w'.cell? ⟨w.heap.size + 1, 0, none⟩ = some (.int .i64 alg))) _ := HSS.out _ HB3.out
        clear hK K
        try simp only [Act.put, List.setIfInBounds_toArray, List.set_cons_zero, List.set_cons_succ]
        refine wpAnyK_take0 8 (v := ?v43) rfl (by kernel_rfl) (fun _ _ _ h => h) (Or.inl ⟨by rfl, ?hy43⟩) (fun _ => hHeld) ?_
        case hy43 => (intro w hSw; go_simp; (try rw [qe]); try with_reducible rfl)
        try simp only [Act.put, List.setIfInBounds_toArray, List.set_cons_zero, List.set_cons_succ]
        refine wpAnyK_take0 9 (v := ?v44) rfl (by kernel_rfl) (fun _ _ _ h => h) (Or.inl ⟨by rfl, ?hy44⟩) (fun _ => hHeld) ?_
        case hy44 => (intro w hSw; go_simp; try with_reducible rfl)
        try simp only [Act.put, List.setIfInBounds_toArray, List.set_cons_zero, List.set_cons_succ]
        refine wpAnyK_take0 10 (v := undef) rfl (by kernel_rfl) (fun _ _ _ h => h) (Or.inr ⟨by rfl, rfl⟩) (fun _ => hHeld) ?_
        try simp only [Act.put, List.setIfInBounds_toArray, List.set_cons_zero, List.set_cons_succ]
        refine wpAnyK_take0 11 (v := undef) rfl (by kernel_rfl) (fun _ _ _ h => h) (Or.inr ⟨by rfl, rfl⟩) (fun _ => hHeld) ?_
        try simp only [Act.put, List.setIfInBounds_toArray, List.set_cons_zero, List.set_cons_succ]
        refine wpAnyK_take0 12 (v := undef) rfl (by kernel_rfl) (fun _ _ _ h => h) (Or.inr ⟨by rfl, rfl⟩) (fun _ => hHeld) ?_
        try simp only [Act.put, List.setIfInBounds_toArray, List.set_cons_zero, List.set_cons_succ]
        refine wpAnyK_take0 13 (v := undef) rfl (by kernel_rfl) (fun _ _ _ h => h) (Or.inr ⟨by rfl, rfl⟩) (fun _ => hHeld) ?_
        try simp only [Act.put, List.setIfInBounds_toArray, List.set_cons_zero, List.set_cons_succ]
        refine wpAnyK_take0 14 (v := undef) rfl (by kernel_rfl) (fun _ _ _ h => h) (Or.inr ⟨by rfl, rfl⟩) (fun _ => hHeld) ?_
        try simp only [Act.put, List.setIfInBounds_toArray, List.set_cons_zero, List.set_cons_succ]
        refine wpAnyK_take0 15 (v := undef) rfl (by kernel_rfl) (fun _ _ _ h => h) (Or.inr ⟨by rfl, rfl⟩) (fun _ => hHeld) ?_
        try simp only [Act.put, List.setIfInBounds_toArray, List.set_cons_zero, List.set_cons_succ]
        refine wpAnyK_step 16 rfl (by kernel_rfl) (fun K hK => ?_)
        go_simp
        refine hK.out _ _ ?hk46 ?_
        case hk46 => exact (fun h => nomatch (h.symm.trans (show _ = true by kernel_rfl)))
        clear hK K
        try simp only [Act.put, List.setIfInBounds_toArray, List.set_cons_zero, List.set_cons_succ]
        refine wpAnyK_done (by kernel_rfl) ?_ _
        go_wp2
        go_roundw
        case rel => exact ⟨k + 1, by go_num, by omega, by rw [HM.out], HB3.out⟩
        case measure => simp [intOf]; omega
    · have q0 : decide ((k : Int) < (l.length : Int)) = false := decide_eq_false (by omega)
      have htk : l.take k = l := List.take_of_length_le (by omega)
      have c5 : wr.cell? ⟨w.heap.size, 5, none⟩ = some (.string ⟨ty.toArray⟩) := (HP.out wr hBr).cell 5 (by simp)
      have c6 : wr.cell? ⟨w.heap.size, 6, none⟩ = some (.bool wt) := (HP.out wr hBr).cell 6 (by simp)
      have d2 : wr.cell? ⟨w.heap.size + 1, 2, none⟩ = some (.string ⟨typ.toArray⟩) := (HH.out wr hBr).cell 2 (by simp)
      have d3 : wr.cell? ⟨w.heap.size + 1, 3, none⟩ = some (.bool has) := (HH.out wr hBr).cell 3 (by simp)
      have HBF : Hid (Below w.heap.size w wr) := HB.out wr hBr
      rw [htk]
      clear htk hBr HP HH HB HBr HTR
      by_cases hm : nm = [] ∨ nm ∉ l
      · rw [decide_eq_false (fun h => hm.elim h.1 fun h2 => h2 h.2)]
        have HE : Hid (E = 112) := by show _ = _; rw [HF.out, if_pos hm]
        clear HF hm
        go_wp2
        go_ret
        rw [HE.out]
        exact ⟨rfl, HBF.out⟩
      · rw [decide_eq_true (show nm ≠ [] ∧ nm ∈ l from ⟨fun h => hm (Or.inl h), Decidable.byContradiction fun h => hm (Or.inr h)⟩)]
        have HX : Hid (E = if wt = true ∧ (has = false ∨ typ ≠ ty) then 113 else 0) := by show _ = _; rw [HF.out, if_neg hm]
        clear HF hm
        cases wt
        · go_wp2
          go_ret
          rw [HX.out]
          exact ⟨rfl, HBF.out⟩
        · cases has
          · go_wp2
            go_ret
            rw [HX.out]
            exact ⟨rfl, HBF.out⟩
          · by_cases ht : typ = ty
            · subst ht
              have qt : (typ == typ) = true := by simp
              have HE : Hid (E = 0) := by show _ = _; rw [HX.out, if_neg]; simp
              clear HX
              go_wp2
              go_ret
              rw [HE.out]
              exact ⟨rfl, HBF.out⟩
            · have qt : (typ == ty) = false := by simpa using ht
              have qt2 : (typ != ty) = true := by simpa using ht
              have HE : Hid (E = 113) := by show _ = _; rw [HX.out, if_pos]; exact ⟨rfl, Or.inr ht⟩
              clear HX ht
              go_wp2
              go_ret
              rw [HE.out]
              exact ⟨rfl, HBF.out⟩

end Go.Proofs.YtfpimcmhooiooaaDoor
