import Derived.Test.YtmngdaolgdhgmaaGreatDoorCSz
namespace Go.Proofs.YtmngdaolgdhgmaaGreatDoor
open Go.RowKit

set_option maxRecDepth 100000

/-- A row written over, as far as another one goes. -/
def ov (n : Nat) (us : List Nat) : List Nat := (List.range n).map fun i => us.getD i 0
theorem ov_len (n : Nat) (us : List Nat) : (ov n us).length = n := by simp [ov]
def ovR (n : Nat) (xs us : List Nat) (i : Nat) : List Nat := (ov n us).take i ++ (xs ++ mkL 40).drop i
theorem ovR_zero (n : Nat) (xs us : List Nat) : ovR n xs us 0 = xs ++ mkL 40 := by simp [ovR]
theorem ovR_last (n : Nat) (xs us : List Nat) (h : xs.length = n) : ovR n xs us n = ov n us ++ mkL 40 := by
  unfold ovR
  rw [List.take_of_length_le (by rw [ov_len]; exact Nat.le_refl _), List.drop_append_of_le_length (by omega), List.drop_of_length_le (by omega), List.nil_append]
theorem ovR_len (n : Nat) (xs us : List Nat) (i : Nat) (h : xs.length = n) (hi : i ≤ n) : (ovR n xs us i).length = n + 40 := by
  unfold ovR
  rw [List.length_append, List.length_take, ov_len, List.length_drop, List.length_append, mkL_length]
  omega
theorem ovR_set (n : Nat) (xs us : List Nat) (i : Nat) (h : xs.length = n) (hi : i < n) : ((ovR n xs us i).map U).set i (U (us.getD i 0)) = (ovR n xs us (i + 1)).map U := by
  rw [← List.map_set]
  congr 1
  unfold ovR
  have hl : ((ov n us).take i).length = i := by rw [List.length_take, ov_len]; omega
  rw [List.set_append_right _ _ (by omega), hl, Nat.sub_self, List.drop_eq_getElem_cons (by rw [List.length_append, mkL_length]; omega), List.set_cons_zero, List.take_succ_eq_append_getElem (by rw [ov_len]; exact hi), List.append_assoc]
  simp [ov]
theorem chf_old {f : Nat → Prop} {w w0 wr : World} (hb : Below w.heap.size w w0) (h : Chf f w0 wr) : Chf f w wr :=
  ⟨h.os.trans hb.os, h.tape.trans hb.tape, h.output.trans hb.output, Nat.le_trans hb.size h.size, fun k hk hc => (h.block k (Nat.lt_of_lt_of_le hk hb.size) hc).trans (hb.block k hk)⟩
set_option maxHeartbeats 8000000 in
theorem over_v (g1 d1 g2 d2 b1 b2 uc vc : Nat) (u0 v0 : Option Addr) (xs ys us vs : List Nat) (inf jnf : Bool) (w : World) (k1 : Lk w b1 g1 d1 xs) (k2 : Lk w b2 g2 d2 ys) (hg : g1 ≠ g2) (hu : Rn w u0 us) (hv : Rn w v0 vs) (fu : us ≠ [] → ∀ a, u0 = some a → a.block ≠ g1 ∧ a.block ≠ g2) (fv : vs ≠ [] → ∀ a, v0 = some a → a.block ≠ g1 ∧ a.block ≠ g2) (l1 : xs.length ≤ 3000000) (l2 : ys.length ≤ 3000000) :
    Calls Tryz.prog 26 #[.agg #[.slice (some ⟨g1, 0, none⟩) xs.length d1, .slice (some ⟨g2, 0, none⟩) ys.length d2, .bool inf], .agg #[.slice u0 us.length uc, .slice v0 vs.length vc, .bool jnf]] w fun e w' => e = .returned (.tuple #[]) ∧ Lk w' b1 g1 d1 (ov xs.length us) ∧ Lk w' b2 g2 d2 (ov ys.length vs) ∧ Chf (fun k => k = g1 ∨ k = g2) w w' := by
  obtain ⟨f, Hf⟩ : ∃ f : Nat → Prop, Hid (f = fun k => k = g1 ∨ k = g2) := ⟨_, rfl⟩
  have HFg : Hid (f g1 ∧ f g2) := (by rw [Hf.out]; exact ⟨.inl rfl, .inr rfl⟩ : f g1 ∧ f g2)
  have Hlt : Hid (g1 < w.heap.size ∧ g2 < w.heap.size) := ⟨k1.lt.2, k2.lt.2⟩
  have HFn : Hid (∀ k, w.heap.size ≤ k → ¬ f k) := (fun k hk hf => by rw [Hf.out] at hf; have := Hlt.out; omega : ∀ k, w.heap.size ≤ k → ¬ f k)
  have HRu : Hid (Rn w u0 us ∧ Rn w v0 vs) := ⟨hu, hv⟩
  have HFu : Hid ((us ≠ [] → ∀ a, u0 = some a → ¬ f a.block) ∧ (vs ≠ [] → ∀ a, v0 = some a → ¬ f a.block)) := ⟨fun hn a ha hf => by rw [Hf.out] at hf; have := fu hn a ha; omega, fun hn a ha hf => by rw [Hf.out] at hf; have := fv hn a ha; omega⟩
  have Hg : Hid (g1 ≠ g2) := hg
  have HK : Hid (Lk w b1 g1 d1 xs ∧ Lk w b2 g2 d2 ys) := ⟨k1, k2⟩
  clear k1 k2 hg hu hv fu fv
  obtain ⟨n1, Hn1⟩ : ∃ n, Hid (xs.length = n) := ⟨_, rfl⟩
  obtain ⟨n2, Hn2⟩ : ∃ n, Hid (ys.length = n) := ⟨_, rfl⟩
  obtain ⟨m1, Hm1⟩ : ∃ n, Hid (us.length = n) := ⟨_, rfl⟩
  obtain ⟨m2, Hm2⟩ : ∃ n, Hid (vs.length = n) := ⟨_, rfl⟩
  unfold Lk at HK
  rw [Hn1.out, Hn2.out] at HK
  rw [Hn1.out] at l1
  rw [Hn2.out] at l2
  rw [Hn1.out, Hn2.out, Hm1.out, Hm2.out]
  have hfm : Fm w ((w.alloc (.cells #[.slice (some ⟨g1, 0, none⟩) n1 d1, .slice (some ⟨g2, 0, none⟩) n2 d2, .bool inf] 26)).alloc (.cells #[.slice u0 m1 uc, .slice v0 m2 vc, .bool jnf] 26)) [(26, [.slice (some ⟨g1, 0, none⟩) n1 d1, .slice (some ⟨g2, 0, none⟩) n2 d2, .bool inf]), (26, [.slice u0 m1 uc, .slice v0 m2 vc, .bool jnf])] [] [] := ((Fm.nil (w := w) (A := []) ar_nil).push (by simp) 26 [.slice (some ⟨g1, 0, none⟩) n1 d1, .slice (some ⟨g2, 0, none⟩) n2 d2, .bool inf]).push (by simp) 26 [.slice u0 m1 uc, .slice v0 m2 vc, .bool jnf]
  have HBa : Hid (Bl 26 ((w.alloc (.cells #[.slice (some ⟨g1, 0, none⟩) n1 d1, .slice (some ⟨g2, 0, none⟩) n2 d2, .bool inf] 26)).alloc (.cells #[.slice u0 m1 uc, .slice v0 m2 vc, .bool jnf] 26)) w.heap.size [.slice (some ⟨g1, 0, none⟩) n1 d1, .slice (some ⟨g2, 0, none⟩) n2 d2, .bool inf]) := hfm.bx 0 (by simp)
  have HBb : Hid (Bl 26 ((w.alloc (.cells #[.slice (some ⟨g1, 0, none⟩) n1 d1, .slice (some ⟨g2, 0, none⟩) n2 d2, .bool inf] 26)).alloc (.cells #[.slice u0 m1 uc, .slice v0 m2 vc, .bool jnf] 26)) (w.heap.size + 1) [.slice u0 m1 uc, .slice v0 m2 vc, .bool jnf]) := hfm.bx 1 (by simp)
  have HBel : Hid (Below w.heap.size w ((w.alloc (.cells #[.slice (some ⟨g1, 0, none⟩) n1 d1, .slice (some ⟨g2, 0, none⟩) n2 d2, .bool inf] 26)).alloc (.cells #[.slice u0 m1 uc, .slice v0 m2 vc, .bool jnf] 26))) := hfm.bel
  have HF0 : Hid (((w.alloc (.cells #[.slice (some ⟨g1, 0, none⟩) n1 d1, .slice (some ⟨g2, 0, none⟩) n2 d2, .bool inf] 26)).alloc (.cells #[.slice u0 m1 uc, .slice v0 m2 vc, .bool jnf] 26)).ownsRow b1 51 1 (.slice (some ⟨g1, 0, none⟩) (n1 + 40) d1) (n1 + 40) ((ovR n1 xs us 0).map U) ∧ ((w.alloc (.cells #[.slice (some ⟨g1, 0, none⟩) n1 d1, .slice (some ⟨g2, 0, none⟩) n2 d2, .bool inf] 26)).alloc (.cells #[.slice u0 m1 uc, .slice v0 m2 vc, .bool jnf] 26)).ownsRow b2 51 1 (.slice (some ⟨g2, 0, none⟩) (n2 + 40) d2) (n2 + 40) ((ys ++ mkL 40).map U) ∧ Chf f ((w.alloc (.cells #[.slice (some ⟨g1, 0, none⟩) n1 d1, .slice (some ⟨g2, 0, none⟩) n2 d2, .bool inf] 26)).alloc (.cells #[.slice u0 m1 uc, .slice v0 m2 vc, .bool jnf] 26)) ((w.alloc (.cells #[.slice (some ⟨g1, 0, none⟩) n1 d1, .slice (some ⟨g2, 0, none⟩) n2 d2, .bool inf] 26)).alloc (.cells #[.slice u0 m1 uc, .slice v0 m2 vc, .bool jnf] 26))) := ⟨by rw [ovR_zero]; exact row_below' HK.out.1 hfm.bel (Nat.le_refl _), row_below' HK.out.2 hfm.bel (Nat.le_refl _), Chf.refl _ _⟩
  have HRw : Hid (Rn ((w.alloc (.cells #[.slice (some ⟨g1, 0, none⟩) n1 d1, .slice (some ⟨g2, 0, none⟩) n2 d2, .bool inf] 26)).alloc (.cells #[.slice u0 m1 uc, .slice v0 m2 vc, .bool jnf] 26)) u0 us ∧ Rn ((w.alloc (.cells #[.slice (some ⟨g1, 0, none⟩) n1 d1, .slice (some ⟨g2, 0, none⟩) n2 d2, .bool inf] 26)).alloc (.cells #[.slice u0 m1 uc, .slice v0 m2 vc, .bool jnf] 26)) v0 vs) := ⟨HRu.out.1.below hfm.bel (Nat.le_refl _), HRu.out.2.below hfm.bel (Nat.le_refl _)⟩
  clear hfm HK HRu
  go_enter Tryz.func26, Tryz.ntmps26
  go_wp2_with fail
  generalize hw0 : ((w.alloc (.cells #[.slice (some ⟨g1, 0, none⟩) n1 d1, .slice (some ⟨g2, 0, none⟩) n2 d2, .bool inf] 26)).alloc (.cells #[.slice u0 m1 uc, .slice v0 m2 vc, .bool jnf] 26)) = w0 at *
  clear hw0
  go_loopw [4] (fun s wr => ∃ i : Nat, s = .int .i64 (i : Int) ∧ i ≤ n1 ∧ Hid (wr.ownsRow b1 51 1 (.slice (some ⟨g1, 0, none⟩) (n1 + 40) d1) (n1 + 40) ((ovR n1 xs us i).map U) ∧ wr.ownsRow b2 51 1 (.slice (some ⟨g2, 0, none⟩) (n2 + 40) d2) (n2 + 40) ((ys ++ mkL 40).map U) ∧ Chf f w0 wr)) (fun s _ => n1 - (intOf s).toNat)
  case atStart => exact ⟨0, rfl, Nat.zero_le _, HF0⟩
  case round =>
    clear HF0
    obtain ⟨i, rfl, hi, HF⟩ := hrel
    have ka0 : wr.cell? ⟨w.heap.size, 0, none⟩ = some (.slice (some ⟨g1, 0, none⟩) n1 d1) := (HBa.out.chf HF.out.2.2 (HFn.out _ (Nat.le_refl _))).cell 0 (by simp)
    have kb0 : wr.cell? ⟨w.heap.size + 1, 0, none⟩ = some (.slice u0 m1 uc) := (HBb.out.chf HF.out.2.2 (HFn.out _ (Nat.le_succ _))).cell 0 (by simp)
    have ka1 : wr.cell? ⟨w.heap.size, 1, none⟩ = some (.slice (some ⟨g2, 0, none⟩) n2 d2) := (HBa.out.chf HF.out.2.2 (HFn.out _ (Nat.le_refl _))).cell 1 (by simp)
    have kb1 : wr.cell? ⟨w.heap.size + 1, 1, none⟩ = some (.slice v0 m2 vc) := (HBb.out.chf HF.out.2.2 (HFn.out _ (Nat.le_succ _))).cell 1 (by simp)
    by_cases hlt : i < n1
    · have gc := HF.out.1.cellAt i (by omega)
      have gf := HF.out.1.frozenAt i
      obtain ⟨old, hold⟩ : ∃ v, wr.cell? ⟨g1, i, none⟩ = some v := by
        rw [gc, List.getElem?_eq_getElem (by rw [List.length_map, ovR_len n1 xs us i Hn1.out hi]; omega)]
        exact ⟨_, rfl⟩
      have hsta := HF.out.1.stored i (U (0))
      have HS1 : Hid ((wr.setCell ⟨g1, i, none⟩ (.int .u32 0)).ownsRow b1 51 1 (.slice (some ⟨g1, 0, none⟩) (n1 + 40) d1) (n1 + 40) (((ovR n1 xs us i).map U).set i (U 0)) ∧ (wr.setCell ⟨g1, i, none⟩ (.int .u32 0)).ownsRow b2 51 1 (.slice (some ⟨g2, 0, none⟩) (n2 + 40) d2) (n2 + 40) ((ys ++ mkL 40).map U) ∧ Chf f w0 (wr.setCell ⟨g1, i, none⟩ (.int .u32 0))) := ⟨hsta.1, HF.out.2.1.kept hsta.2 (.inr (fun e => by injection e with e; exact Hg.out e.symm)), HF.out.2.2.grown hsta.2 (fun g e => .inl (by injection e with e; subst e; exact HFg.out.1))⟩
      clear gc hsta
      by_cases hm : i < m1
      · obtain ⟨gu, ou, eu, _, hcu⟩ := (HRw.out.1.chf HS1.out.2.2 (HFu.out.1 (fun hn => by have h := Hm1.out; rw [hn] at h; simp at h; omega))).cell (by have := Hm1.out; omega)
        subst eu
        have gu_ := hcu i (by have := Hm1.out; omega)
        obtain ⟨y, Hy⟩ : ∃ y, Hid (us.getD i 0 = y) := ⟨_, rfl⟩
        rw [Hy.out] at gu_
        clear hcu
        have gd := HS1.out.1.frozenAt i
        obtain ⟨old2, hold2⟩ : ∃ v, (wr.setCell ⟨g1, i, none⟩ (.int .u32 0)).cell? ⟨g1, i, none⟩ = some v := by
          rw [HS1.out.1.cellAt i (by omega), List.getElem?_eq_getElem (by rw [List.length_set, List.length_map, ovR_len n1 xs us i Hn1.out hi]; omega)]
          exact ⟨_, rfl⟩
        have HS1d : Hid ((wr.setCell ⟨g1, i, none⟩ (.int .u32 0)).drew.ownsRow b1 51 1 (.slice (some ⟨g1, 0, none⟩) (n1 + 40) d1) (n1 + 40) (((ovR n1 xs us i).map U).set i (U 0)) ∧ (wr.setCell ⟨g1, i, none⟩ (.int .u32 0)).drew.ownsRow b2 51 1 (.slice (some ⟨g2, 0, none⟩) (n2 + 40) d2) (n2 + 40) ((ys ++ mkL 40).map U) ∧ Chf f w0 (wr.setCell ⟨g1, i, none⟩ (.int .u32 0)).drew) := ⟨HS1.out.1, HS1.out.2.1, HS1.out.2.2.drewN 1⟩
        have hstb := HS1d.out.1.stored i (U y)
        have hle : (((ovR n1 xs us i).map U).set i (U 0)).set i (U y) = (ovR n1 xs us (i + 1)).map U := by rw [List.set_set, ← Hy.out, ovR_set n1 xs us i Hn1.out hlt]
        have HS3 : Hid (((wr.setCell ⟨g1, i, none⟩ (.int .u32 0)).drew.setCell ⟨g1, i, none⟩ (.int .u32 (y : Int))).ownsRow b1 51 1 (.slice (some ⟨g1, 0, none⟩) (n1 + 40) d1) (n1 + 40) ((ovR n1 xs us (i + 1)).map U) ∧ ((wr.setCell ⟨g1, i, none⟩ (.int .u32 0)).drew.setCell ⟨g1, i, none⟩ (.int .u32 (y : Int))).ownsRow b2 51 1 (.slice (some ⟨g2, 0, none⟩) (n2 + 40) d2) (n2 + 40) ((ys ++ mkL 40).map U) ∧ Chf f w0 ((wr.setCell ⟨g1, i, none⟩ (.int .u32 0)).drew.setCell ⟨g1, i, none⟩ (.int .u32 (y : Int)))) := ⟨(by have h := hstb.1; rw [hle] at h; exact h), HS1d.out.2.1.kept hstb.2 (.inr (fun e => by injection e with e; exact Hg.out e.symm)), HS1d.out.2.2.grown hstb.2 (fun g e => .inl (by injection e with e; subst e; exact HFg.out.1))⟩
        clear hstb hle HS1d
        have hmi : decide ((i : Int) < (m1 : Int)) = true := decide_eq_true (by omega)
        have hni : decide ((i : Int) < (n1 : Int)) = true := decide_eq_true (by omega)
        have la0 : (wr.setCell ⟨g1, i, none⟩ (.int .u32 0)).cell? ⟨w.heap.size, 0, none⟩ = some (.slice (some ⟨g1, 0, none⟩) n1 d1) := (HBa.out.chf HS1.out.2.2 (HFn.out _ (Nat.le_refl _))).cell 0 (by simp)
        have lb0 : (wr.setCell ⟨g1, i, none⟩ (.int .u32 0)).cell? ⟨w.heap.size + 1, 0, none⟩ = some (.slice (some ⟨gu, ou, none⟩) m1 uc) := (HBb.out.chf HS1.out.2.2 (HFn.out _ (Nat.le_succ _))).cell 0 (by simp)
        have la1 : (wr.setCell ⟨g1, i, none⟩ (.int .u32 0)).cell? ⟨w.heap.size, 1, none⟩ = some (.slice (some ⟨g2, 0, none⟩) n2 d2) := (HBa.out.chf HS1.out.2.2 (HFn.out _ (Nat.le_refl _))).cell 1 (by simp)
        have lb1 : (wr.setCell ⟨g1, i, none⟩ (.int .u32 0)).cell? ⟨w.heap.size + 1, 1, none⟩ = some (.slice v0 m2 vc) := (HBb.out.chf HS1.out.2.2 (HFn.out _ (Nat.le_succ _))).cell 1 (by simp)
        have dla : (wr.setCell ⟨g1, i, none⟩ (.int .u32 0)).drew.cell? ⟨w.heap.size, 0, none⟩ = some (.slice (some ⟨g1, 0, none⟩) n1 d1) := la0
        have dlb : (wr.setCell ⟨g1, i, none⟩ (.int .u32 0)).drew.cell? ⟨w.heap.size + 1, 0, none⟩ = some (.slice (some ⟨gu, ou, none⟩) m1 uc) := lb0
        have dgu : (wr.setCell ⟨g1, i, none⟩ (.int .u32 0)).drew.cell? ⟨gu, ou + i, none⟩ = some (.int .u32 (y : Int)) := gu_
        have dho : (wr.setCell ⟨g1, i, none⟩ (.int .u32 0)).drew.cell? ⟨g1, i, none⟩ = some old2 := hold2
        have dgd : (wr.setCell ⟨g1, i, none⟩ (.int .u32 0)).drew.frozen? ⟨g1, i, none⟩ = false := gd
        go_wp2_with fail
        refine wp_region_K 9 (fun (w' : World) => w'.cell? ⟨w.heap.size, 0, none⟩ = some (.slice (some ⟨g1, 0, none⟩) n1 d1) ∧ w'.cell? ⟨w.heap.size + 1, 0, none⟩ = some (.slice (some ⟨gu, ou, none⟩) m1 uc) ∧ w'.cell? ⟨gu, ou + i, none⟩ = some (.int .u32 (y : Int)) ∧ w'.cell? ⟨g1, i, none⟩ = some old2 ∧ w'.frozen? ⟨g1, i, none⟩ = false) (by kernel_rfl) ?_
        have hHeld : ((fun (w' : World) => w'.cell? ⟨w.heap.size, 0, none⟩ = some (.slice (some ⟨g1, 0, none⟩) n1 d1) ∧ w'.cell? ⟨w.heap.size + 1, 0, none⟩ = some (.slice (some ⟨gu, ou, none⟩) m1 uc) ∧ w'.cell? ⟨gu, ou + i, none⟩ = some (.int .u32 (y : Int)) ∧ w'.cell? ⟨g1, i, none⟩ = some old2 ∧ w'.frozen? ⟨g1, i, none⟩ = false)) (World.drew _) := ⟨dla, dlb, dgu, dho, dgd⟩
        refine wpAnyK_take0 0 (v := ?v1) rfl (by kernel_rfl) (fun _ _ _ h => h) (Or.inl ⟨by rfl, ?hy1⟩) (fun _ => hHeld) ?_
        case hy1 => (intro w hSw; go_simp; try with_reducible rfl)
        try simp only [Act.put, List.setIfInBounds_toArray, List.set_cons_zero, List.set_cons_succ]
        refine wpAnyK_take 1 [8, 9] (v := ?v2) rfl (by kernel_rfl) (fun _ _ _ h => h) (Or.inl ⟨by rfl, ?hy2⟩) hHeld ?_
        case hy2 => (intro w hSw; (try dsimp only at hSw); go_simp; try with_reducible rfl)
        try simp only [Act.put, List.setIfInBounds_toArray, List.set_cons_zero, List.set_cons_succ]
        refine wpAnyK_take0 2 (v := ?v3) rfl (by kernel_rfl) (fun _ _ _ h => h) (Or.inl ⟨by rfl, ?hy3⟩) (fun _ => hHeld) ?_
        case hy3 => (intro w hSw; go_simp; try with_reducible rfl)
        try simp only [Act.put, List.setIfInBounds_toArray, List.set_cons_zero, List.set_cons_succ]
        refine wpAnyK_take0 3 (v := ?v4) rfl (by kernel_rfl) (fun _ _ _ h => h) (Or.inl ⟨by rfl, ?hy4⟩) (fun _ => hHeld) ?_
        case hy4 => (intro w hSw; go_simp; try with_reducible rfl)
        try simp only [Act.put, List.setIfInBounds_toArray, List.set_cons_zero, List.set_cons_succ]
        refine wpAnyK_take 4 [6, 7, 9] (v := ?v5) rfl (by kernel_rfl) (fun _ _ _ h => h) (Or.inl ⟨by rfl, ?hy5⟩) hHeld ?_
        case hy5 => (intro w hSw; (try dsimp only at hSw); go_simp; try with_reducible rfl)
        try simp only [Act.put, List.setIfInBounds_toArray, List.set_cons_zero, List.set_cons_succ]
        refine wpAnyK_take0 5 (v := ?v6) rfl (by kernel_rfl) (fun _ _ _ h => h) (Or.inl ⟨by rfl, ?hy6⟩) (fun _ => hHeld) ?_
        case hy6 => (intro w hSw; go_simp; try with_reducible rfl)
        try simp only [Act.put, List.setIfInBounds_toArray, List.set_cons_zero, List.set_cons_succ]
        refine wpAnyK_take0 6 (v := ?v7) rfl (by kernel_rfl) (fun _ _ _ h => h) (Or.inl ⟨by rfl, ?hy7⟩) (fun _ => hHeld) ?_
        case hy7 => (intro w hSw; go_simp; try with_reducible rfl)
        try simp only [Act.put, List.setIfInBounds_toArray, List.set_cons_zero, List.set_cons_succ]
        refine wpAnyK_take 7 [9] (v := ?v8) rfl (by kernel_rfl) (fun _ _ _ h => h) (Or.inl ⟨by rfl, ?hy8⟩) hHeld ?_
        case hy8 => (intro w hSw; (try dsimp only at hSw); go_simp; try with_reducible rfl)
        try simp only [Act.put, List.setIfInBounds_toArray, List.set_cons_zero, List.set_cons_succ]
        refine wpAnyK_take0 8 (v := ?v9) rfl (by kernel_rfl) (fun _ _ _ h => h) (Or.inl ⟨by rfl, ?hy9⟩) (fun _ => hHeld) ?_
        case hy9 => (intro w hSw; go_simp; try with_reducible rfl)
        try simp only [Act.put, List.setIfInBounds_toArray, List.set_cons_zero, List.set_cons_succ]
        refine wpAnyK_step 9 rfl (by kernel_rfl) (fun K hK => ?_)
        go_simp
        refine hK.out _ _ ?hk10 ?_
        case hk10 => exact (fun h => nomatch (h.symm.trans (show _ = true by kernel_rfl)))
        clear hK K
        try simp only [Act.put, List.setIfInBounds_toArray, List.set_cons_zero, List.set_cons_succ]
        refine wpAnyK_done (by kernel_rfl) ?_ _
        go_wp2
        go_roundw
        case rel => exact ⟨i + 1, by go_num, by omega, HS3⟩
        case measure => simp [intOf]; omega
      · have HS3 : Hid ((wr.setCell ⟨g1, i, none⟩ (.int .u32 0)).ownsRow b1 51 1 (.slice (some ⟨g1, 0, none⟩) (n1 + 40) d1) (n1 + 40) ((ovR n1 xs us (i + 1)).map U) ∧ (wr.setCell ⟨g1, i, none⟩ (.int .u32 0)).ownsRow b2 51 1 (.slice (some ⟨g2, 0, none⟩) (n2 + 40) d2) (n2 + 40) ((ys ++ mkL 40).map U) ∧ Chf f w0 (wr.setCell ⟨g1, i, none⟩ (.int .u32 0))) := (by have h := HS1.out; have hle : ((ovR n1 xs us i).map U).set i (U 0) = (ovR n1 xs us (i + 1)).map U := (by have h2 := ovR_set n1 xs us i Hn1.out hlt; rw [getD_none _ _ (by have := Hm1.out; omega)] at h2; exact h2); rw [hle] at h; exact h : (wr.setCell ⟨g1, i, none⟩ (.int .u32 0)).ownsRow b1 51 1 (.slice (some ⟨g1, 0, none⟩) (n1 + 40) d1) (n1 + 40) ((ovR n1 xs us (i + 1)).map U) ∧ (wr.setCell ⟨g1, i, none⟩ (.int .u32 0)).ownsRow b2 51 1 (.slice (some ⟨g2, 0, none⟩) (n2 + 40) d2) (n2 + 40) ((ys ++ mkL 40).map U) ∧ Chf f w0 (wr.setCell ⟨g1, i, none⟩ (.int .u32 0)))
        have hmi : decide ((i : Int) < (m1 : Int)) = false := decide_eq_false (by omega)
        have la0 : (wr.setCell ⟨g1, i, none⟩ (.int .u32 0)).cell? ⟨w.heap.size, 0, none⟩ = some (.slice (some ⟨g1, 0, none⟩) n1 d1) := (HBa.out.chf HS1.out.2.2 (HFn.out _ (Nat.le_refl _))).cell 0 (by simp)
        have lb0 : (wr.setCell ⟨g1, i, none⟩ (.int .u32 0)).cell? ⟨w.heap.size + 1, 0, none⟩ = some (.slice u0 m1 uc) := (HBb.out.chf HS1.out.2.2 (HFn.out _ (Nat.le_succ _))).cell 0 (by simp)
        have la1 : (wr.setCell ⟨g1, i, none⟩ (.int .u32 0)).cell? ⟨w.heap.size, 1, none⟩ = some (.slice (some ⟨g2, 0, none⟩) n2 d2) := (HBa.out.chf HS1.out.2.2 (HFn.out _ (Nat.le_refl _))).cell 1 (by simp)
        have lb1 : (wr.setCell ⟨g1, i, none⟩ (.int .u32 0)).cell? ⟨w.heap.size + 1, 1, none⟩ = some (.slice v0 m2 vc) := (HBb.out.chf HS1.out.2.2 (HFn.out _ (Nat.le_succ _))).cell 1 (by simp)
        go_wp2
        exact ⟨⟨i + 1, by go_num, by omega, HS3⟩, by simp [intOf]; omega⟩
    · obtain rfl : n1 = i := by omega
      have HG0 : Hid (wr.ownsRow b1 51 1 (.slice (some ⟨g1, 0, none⟩) (n1 + 40) d1) (n1 + 40) ((ov n1 us ++ mkL 40).map U) ∧ wr.ownsRow b2 51 1 (.slice (some ⟨g2, 0, none⟩) (n2 + 40) d2) (n2 + 40) ((ovR n2 ys vs 0).map U) ∧ Chf f w0 wr) := ⟨by have h := HF.out.1; rw [ovR_last n1 xs us Hn1.out] at h; exact h, by rw [ovR_zero]; exact HF.out.2.1, HF.out.2.2⟩
      clear HF hlt hi
      go_wp2
      clear ka0 ka1 kb0 kb1
      go_loopw [5] (fun s wr => ∃ i : Nat, s = .int .i64 (i : Int) ∧ i ≤ n2 ∧ Hid (wr.ownsRow b1 51 1 (.slice (some ⟨g1, 0, none⟩) (n1 + 40) d1) (n1 + 40) ((ov n1 us ++ mkL 40).map U) ∧ wr.ownsRow b2 51 1 (.slice (some ⟨g2, 0, none⟩) (n2 + 40) d2) (n2 + 40) ((ovR n2 ys vs i).map U) ∧ Chf f w0 wr)) (fun s _ => n2 - (intOf s).toNat)
      case atStart => exact ⟨0, rfl, Nat.zero_le _, HG0⟩
      case round =>
        clear HG0
        obtain ⟨i, rfl, hi, HF⟩ := hrel
        have ka0 : wr.cell? ⟨w.heap.size, 0, none⟩ = some (.slice (some ⟨g1, 0, none⟩) n1 d1) := (HBa.out.chf HF.out.2.2 (HFn.out _ (Nat.le_refl _))).cell 0 (by simp)
        have kb0 : wr.cell? ⟨w.heap.size + 1, 0, none⟩ = some (.slice u0 m1 uc) := (HBb.out.chf HF.out.2.2 (HFn.out _ (Nat.le_succ _))).cell 0 (by simp)
        have ka1 : wr.cell? ⟨w.heap.size, 1, none⟩ = some (.slice (some ⟨g2, 0, none⟩) n2 d2) := (HBa.out.chf HF.out.2.2 (HFn.out _ (Nat.le_refl _))).cell 1 (by simp)
        have kb1 : wr.cell? ⟨w.heap.size + 1, 1, none⟩ = some (.slice v0 m2 vc) := (HBb.out.chf HF.out.2.2 (HFn.out _ (Nat.le_succ _))).cell 1 (by simp)
        by_cases hlt : i < n2
        · have gc := HF.out.2.1.cellAt i (by omega)
          have gf := HF.out.2.1.frozenAt i
          obtain ⟨old, hold⟩ : ∃ v, wr.cell? ⟨g2, i, none⟩ = some v := by
            rw [gc, List.getElem?_eq_getElem (by rw [List.length_map, ovR_len n2 ys vs i Hn2.out hi]; omega)]
            exact ⟨_, rfl⟩
          have hsta := HF.out.2.1.stored i (U (0))
          have HS1 : Hid ((wr.setCell ⟨g2, i, none⟩ (.int .u32 0)).ownsRow b1 51 1 (.slice (some ⟨g1, 0, none⟩) (n1 + 40) d1) (n1 + 40) ((ov n1 us ++ mkL 40).map U) ∧ (wr.setCell ⟨g2, i, none⟩ (.int .u32 0)).ownsRow b2 51 1 (.slice (some ⟨g2, 0, none⟩) (n2 + 40) d2) (n2 + 40) (((ovR n2 ys vs i).map U).set i (U 0)) ∧ Chf f w0 (wr.setCell ⟨g2, i, none⟩ (.int .u32 0))) := ⟨HF.out.1.kept hsta.2 (.inr (fun e => by injection e with e; exact Hg.out e)), hsta.1, HF.out.2.2.grown hsta.2 (fun g e => .inl (by injection e with e; subst e; exact HFg.out.2))⟩
          clear gc hsta
          by_cases hm : i < m2
          · obtain ⟨gu, ou, eu, _, hcu⟩ := (HRw.out.2.chf HS1.out.2.2 (HFu.out.2 (fun hn => by have h := Hm2.out; rw [hn] at h; simp at h; omega))).cell (by have := Hm2.out; omega)
            subst eu
            have gu_ := hcu i (by have := Hm2.out; omega)
            obtain ⟨y, Hy⟩ : ∃ y, Hid (vs.getD i 0 = y) := ⟨_, rfl⟩
            rw [Hy.out] at gu_
            clear hcu
            have gd := HS1.out.2.1.frozenAt i
            obtain ⟨old2, hold2⟩ : ∃ v, (wr.setCell ⟨g2, i, none⟩ (.int .u32 0)).cell? ⟨g2, i, none⟩ = some v := by
              rw [HS1.out.2.1.cellAt i (by omega), List.getElem?_eq_getElem (by rw [List.length_set, List.length_map, ovR_len n2 ys vs i Hn2.out hi]; omega)]
              exact ⟨_, rfl⟩
            have HS1d : Hid ((wr.setCell ⟨g2, i, none⟩ (.int .u32 0)).drew.ownsRow b1 51 1 (.slice (some ⟨g1, 0, none⟩) (n1 + 40) d1) (n1 + 40) ((ov n1 us ++ mkL 40).map U) ∧ (wr.setCell ⟨g2, i, none⟩ (.int .u32 0)).drew.ownsRow b2 51 1 (.slice (some ⟨g2, 0, none⟩) (n2 + 40) d2) (n2 + 40) (((ovR n2 ys vs i).map U).set i (U 0)) ∧ Chf f w0 (wr.setCell ⟨g2, i, none⟩ (.int .u32 0)).drew) := ⟨HS1.out.1, HS1.out.2.1, HS1.out.2.2.drewN 1⟩
            have hstb := HS1d.out.2.1.stored i (U y)
            have hle : (((ovR n2 ys vs i).map U).set i (U 0)).set i (U y) = (ovR n2 ys vs (i + 1)).map U := by rw [List.set_set, ← Hy.out, ovR_set n2 ys vs i Hn2.out hlt]
            have HS3 : Hid (((wr.setCell ⟨g2, i, none⟩ (.int .u32 0)).drew.setCell ⟨g2, i, none⟩ (.int .u32 (y : Int))).ownsRow b1 51 1 (.slice (some ⟨g1, 0, none⟩) (n1 + 40) d1) (n1 + 40) ((ov n1 us ++ mkL 40).map U) ∧ ((wr.setCell ⟨g2, i, none⟩ (.int .u32 0)).drew.setCell ⟨g2, i, none⟩ (.int .u32 (y : Int))).ownsRow b2 51 1 (.slice (some ⟨g2, 0, none⟩) (n2 + 40) d2) (n2 + 40) ((ovR n2 ys vs (i + 1)).map U) ∧ Chf f w0 ((wr.setCell ⟨g2, i, none⟩ (.int .u32 0)).drew.setCell ⟨g2, i, none⟩ (.int .u32 (y : Int)))) := ⟨HS1d.out.1.kept hstb.2 (.inr (fun e => by injection e with e; exact Hg.out e)), (by have h := hstb.1; rw [hle] at h; exact h), HS1d.out.2.2.grown hstb.2 (fun g e => .inl (by injection e with e; subst e; exact HFg.out.2))⟩
            clear hstb hle HS1d
            have hmi : decide ((i : Int) < (m2 : Int)) = true := decide_eq_true (by omega)
            have hni : decide ((i : Int) < (n2 : Int)) = true := decide_eq_true (by omega)
            have la0 : (wr.setCell ⟨g2, i, none⟩ (.int .u32 0)).cell? ⟨w.heap.size, 0, none⟩ = some (.slice (some ⟨g1, 0, none⟩) n1 d1) := (HBa.out.chf HS1.out.2.2 (HFn.out _ (Nat.le_refl _))).cell 0 (by simp)
            have lb0 : (wr.setCell ⟨g2, i, none⟩ (.int .u32 0)).cell? ⟨w.heap.size + 1, 0, none⟩ = some (.slice u0 m1 uc) := (HBb.out.chf HS1.out.2.2 (HFn.out _ (Nat.le_succ _))).cell 0 (by simp)
            have la1 : (wr.setCell ⟨g2, i, none⟩ (.int .u32 0)).cell? ⟨w.heap.size, 1, none⟩ = some (.slice (some ⟨g2, 0, none⟩) n2 d2) := (HBa.out.chf HS1.out.2.2 (HFn.out _ (Nat.le_refl _))).cell 1 (by simp)
            have lb1 : (wr.setCell ⟨g2, i, none⟩ (.int .u32 0)).cell? ⟨w.heap.size + 1, 1, none⟩ = some (.slice (some ⟨gu, ou, none⟩) m2 vc) := (HBb.out.chf HS1.out.2.2 (HFn.out _ (Nat.le_succ _))).cell 1 (by simp)
            have dla : (wr.setCell ⟨g2, i, none⟩ (.int .u32 0)).drew.cell? ⟨w.heap.size, 1, none⟩ = some (.slice (some ⟨g2, 0, none⟩) n2 d2) := la1
            have dlb : (wr.setCell ⟨g2, i, none⟩ (.int .u32 0)).drew.cell? ⟨w.heap.size + 1, 1, none⟩ = some (.slice (some ⟨gu, ou, none⟩) m2 vc) := lb1
            have dgu : (wr.setCell ⟨g2, i, none⟩ (.int .u32 0)).drew.cell? ⟨gu, ou + i, none⟩ = some (.int .u32 (y : Int)) := gu_
            have dho : (wr.setCell ⟨g2, i, none⟩ (.int .u32 0)).drew.cell? ⟨g2, i, none⟩ = some old2 := hold2
            have dgd : (wr.setCell ⟨g2, i, none⟩ (.int .u32 0)).drew.frozen? ⟨g2, i, none⟩ = false := gd
            go_wp2_with fail
            refine wp_region_K 9 (fun (w' : World) => w'.cell? ⟨w.heap.size, 1, none⟩ = some (.slice (some ⟨g2, 0, none⟩) n2 d2) ∧ w'.cell? ⟨w.heap.size + 1, 1, none⟩ = some (.slice (some ⟨gu, ou, none⟩) m2 vc) ∧ w'.cell? ⟨gu, ou + i, none⟩ = some (.int .u32 (y : Int)) ∧ w'.cell? ⟨g2, i, none⟩ = some old2 ∧ w'.frozen? ⟨g2, i, none⟩ = false) (by kernel_rfl) ?_
            have hHeld : ((fun (w' : World) => w'.cell? ⟨w.heap.size, 1, none⟩ = some (.slice (some ⟨g2, 0, none⟩) n2 d2) ∧ w'.cell? ⟨w.heap.size + 1, 1, none⟩ = some (.slice (some ⟨gu, ou, none⟩) m2 vc) ∧ w'.cell? ⟨gu, ou + i, none⟩ = some (.int .u32 (y : Int)) ∧ w'.cell? ⟨g2, i, none⟩ = some old2 ∧ w'.frozen? ⟨g2, i, none⟩ = false)) (World.drew _) := ⟨dla, dlb, dgu, dho, dgd⟩
            refine wpAnyK_take0 0 (v := ?v11) rfl (by kernel_rfl) (fun _ _ _ h => h) (Or.inl ⟨by rfl, ?hy11⟩) (fun _ => hHeld) ?_
            case hy11 => (intro w hSw; go_simp; try with_reducible rfl)
            try simp only [Act.put, List.setIfInBounds_toArray, List.set_cons_zero, List.set_cons_succ]
            refine wpAnyK_take 1 [8, 9] (v := ?v12) rfl (by kernel_rfl) (fun _ _ _ h => h) (Or.inl ⟨by rfl, ?hy12⟩) hHeld ?_
            case hy12 => (intro w hSw; (try dsimp only at hSw); go_simp; try with_reducible rfl)
            try simp only [Act.put, List.setIfInBounds_toArray, List.set_cons_zero, List.set_cons_succ]
            refine wpAnyK_take0 2 (v := ?v13) rfl (by kernel_rfl) (fun _ _ _ h => h) (Or.inl ⟨by rfl, ?hy13⟩) (fun _ => hHeld) ?_
            case hy13 => (intro w hSw; go_simp; try with_reducible rfl)
            try simp only [Act.put, List.setIfInBounds_toArray, List.set_cons_zero, List.set_cons_succ]
            refine wpAnyK_take0 3 (v := ?v14) rfl (by kernel_rfl) (fun _ _ _ h => h) (Or.inl ⟨by rfl, ?hy14⟩) (fun _ => hHeld) ?_
            case hy14 => (intro w hSw; go_simp; try with_reducible rfl)
            try simp only [Act.put, List.setIfInBounds_toArray, List.set_cons_zero, List.set_cons_succ]
            refine wpAnyK_take 4 [6, 7, 9] (v := ?v15) rfl (by kernel_rfl) (fun _ _ _ h => h) (Or.inl ⟨by rfl, ?hy15⟩) hHeld ?_
            case hy15 => (intro w hSw; (try dsimp only at hSw); go_simp; try with_reducible rfl)
            try simp only [Act.put, List.setIfInBounds_toArray, List.set_cons_zero, List.set_cons_succ]
            refine wpAnyK_take0 5 (v := ?v16) rfl (by kernel_rfl) (fun _ _ _ h => h) (Or.inl ⟨by rfl, ?hy16⟩) (fun _ => hHeld) ?_
            case hy16 => (intro w hSw; go_simp; try with_reducible rfl)
            try simp only [Act.put, List.setIfInBounds_toArray, List.set_cons_zero, List.set_cons_succ]
            refine wpAnyK_take0 6 (v := ?v17) rfl (by kernel_rfl) (fun _ _ _ h => h) (Or.inl ⟨by rfl, ?hy17⟩) (fun _ => hHeld) ?_
            case hy17 => (intro w hSw; go_simp; try with_reducible rfl)
            try simp only [Act.put, List.setIfInBounds_toArray, List.set_cons_zero, List.set_cons_succ]
            refine wpAnyK_take 7 [9] (v := ?v18) rfl (by kernel_rfl) (fun _ _ _ h => h) (Or.inl ⟨by rfl, ?hy18⟩) hHeld ?_
            case hy18 => (intro w hSw; (try dsimp only at hSw); go_simp; try with_reducible rfl)
            try simp only [Act.put, List.setIfInBounds_toArray, List.set_cons_zero, List.set_cons_succ]
            refine wpAnyK_take0 8 (v := ?v19) rfl (by kernel_rfl) (fun _ _ _ h => h) (Or.inl ⟨by rfl, ?hy19⟩) (fun _ => hHeld) ?_
            case hy19 => (intro w hSw; go_simp; try with_reducible rfl)
            try simp only [Act.put, List.setIfInBounds_toArray, List.set_cons_zero, List.set_cons_succ]
            refine wpAnyK_step 9 rfl (by kernel_rfl) (fun K hK => ?_)
            go_simp
            refine hK.out _ _ ?hk20 ?_
            case hk20 => exact (fun h => nomatch (h.symm.trans (show _ = true by kernel_rfl)))
            clear hK K
            try simp only [Act.put, List.setIfInBounds_toArray, List.set_cons_zero, List.set_cons_succ]
            refine wpAnyK_done (by kernel_rfl) ?_ _
            go_wp2
            go_roundw
            case rel => exact ⟨i + 1, by go_num, by omega, HS3⟩
            case measure => simp [intOf]; omega
          · have HS3 : Hid ((wr.setCell ⟨g2, i, none⟩ (.int .u32 0)).ownsRow b1 51 1 (.slice (some ⟨g1, 0, none⟩) (n1 + 40) d1) (n1 + 40) ((ov n1 us ++ mkL 40).map U) ∧ (wr.setCell ⟨g2, i, none⟩ (.int .u32 0)).ownsRow b2 51 1 (.slice (some ⟨g2, 0, none⟩) (n2 + 40) d2) (n2 + 40) ((ovR n2 ys vs (i + 1)).map U) ∧ Chf f w0 (wr.setCell ⟨g2, i, none⟩ (.int .u32 0))) := (by have h := HS1.out; have hle : ((ovR n2 ys vs i).map U).set i (U 0) = (ovR n2 ys vs (i + 1)).map U := (by have h2 := ovR_set n2 ys vs i Hn2.out hlt; rw [getD_none _ _ (by have := Hm2.out; omega)] at h2; exact h2); rw [hle] at h; exact h : (wr.setCell ⟨g2, i, none⟩ (.int .u32 0)).ownsRow b1 51 1 (.slice (some ⟨g1, 0, none⟩) (n1 + 40) d1) (n1 + 40) ((ov n1 us ++ mkL 40).map U) ∧ (wr.setCell ⟨g2, i, none⟩ (.int .u32 0)).ownsRow b2 51 1 (.slice (some ⟨g2, 0, none⟩) (n2 + 40) d2) (n2 + 40) ((ovR n2 ys vs (i + 1)).map U) ∧ Chf f w0 (wr.setCell ⟨g2, i, none⟩ (.int .u32 0)))
            have hmi : decide ((i : Int) < (m2 : Int)) = false := decide_eq_false (by omega)
            have la0 : (wr.setCell ⟨g2, i, none⟩ (.int .u32 0)).cell? ⟨w.heap.size, 0, none⟩ = some (.slice (some ⟨g1, 0, none⟩) n1 d1) := (HBa.out.chf HS1.out.2.2 (HFn.out _ (Nat.le_refl _))).cell 0 (by simp)
            have lb0 : (wr.setCell ⟨g2, i, none⟩ (.int .u32 0)).cell? ⟨w.heap.size + 1, 0, none⟩ = some (.slice u0 m1 uc) := (HBb.out.chf HS1.out.2.2 (HFn.out _ (Nat.le_succ _))).cell 0 (by simp)
            have la1 : (wr.setCell ⟨g2, i, none⟩ (.int .u32 0)).cell? ⟨w.heap.size, 1, none⟩ = some (.slice (some ⟨g2, 0, none⟩) n2 d2) := (HBa.out.chf HS1.out.2.2 (HFn.out _ (Nat.le_refl _))).cell 1 (by simp)
            have lb1 : (wr.setCell ⟨g2, i, none⟩ (.int .u32 0)).cell? ⟨w.heap.size + 1, 1, none⟩ = some (.slice v0 m2 vc) := (HBb.out.chf HS1.out.2.2 (HFn.out _ (Nat.le_succ _))).cell 1 (by simp)
            go_wp2
            exact ⟨⟨i + 1, by go_num, by omega, HS3⟩, by simp [intOf]; omega⟩
        · obtain rfl : n2 = i := by omega
          have HE : Hid (wr.ownsRow b1 51 1 (.slice (some ⟨g1, 0, none⟩) (n1 + 40) d1) (n1 + 40) ((ov n1 us ++ mkL 40).map U) ∧ wr.ownsRow b2 51 1 (.slice (some ⟨g2, 0, none⟩) (n2 + 40) d2) (n2 + 40) ((ov n2 vs ++ mkL 40).map U) ∧ Chf f w0 wr) := ⟨HF.out.1, by have h := HF.out.2.1; rw [ovR_last n2 ys vs Hn2.out] at h; exact h, HF.out.2.2⟩
          go_wp2
          go_end0
          refine ⟨rfl, ?_, ?_, ?_⟩
          · unfold Lk; rw [ov_len]; exact HE.out.1
          · unfold Lk; rw [ov_len]; exact HE.out.2.1
          · have h := HE.out.2.2
            rw [Hf.out] at h
            exact chf_old HBel.out h
end Go.Proofs.YtmngdaolgdhgmaaGreatDoor
