import Derived.Test.YtjpjepfmphlneaaGreatDoorDZ
import Derived.Deep.CutRange
import Derived.Laws.Rows
namespace Go.Proofs.YtjpjepfmphlneaaGreatDoor
open Go.RowKit

set_option maxRecDepth 100000

theorem But.setRow (w : World) (g : Nat) (cs : Array Value) : But w (w.setRow g cs) g := ⟨rfl, rfl, rfl, by simp, fun k _ hk => setRow_other w g k cs hk⟩
theorem Vl.shape {w : World} {v : Value} {V k : Nat} (h : Vl w v V k) : Sl3 v := by
  obtain ⟨xs, ⟨ao, c, e, _⟩, _⟩ := h
  exact ⟨_, _, _, e⟩
theorem Fm.row (w : World) (t : TypeId) (zs vs : List Value) (_h : zs.length = vs.length) : Fm w ((w.alloc (.cells zs.toArray t)).setRow w.heap.size vs.toArray) [(t, vs)] [] [] := by
  have hb := But.setRow (w.alloc (.cells zs.toArray t)) w.heap.size vs.toArray
  have ha := alloc_below w (.cells zs.toArray t)
  refine ⟨fun i hi => ?_, fun q hq => (by cases hq), fun q hq => (by cases hq), .nil, ?_, ha.trans (hb.below ha.size (Nat.le_refl _))⟩
  · obtain rfl : i = 0 := by simpa using hi
    exact setRow_heap _ _ _ _ _ _ (alloc_bl w zs t)
  · have := hb.size
    rw [World.size_alloc] at this
    simp only [List.length_singleton]
    omega
/-- A number in a row of one's own, other than the block x. -/
def Mq (w : World) (base x : Nat) (v : Value) (V : Nat) : Prop := Ow w base v (dg Bs V) ∧ (dg Bs V).length ≤ 3000000 ∧ V < pw 256 ∧ v.ownBlock ≠ some x
theorem Mq.mk {w : World} {base x : Nat} {v : Value} {V : Nat} (h : Mq w base x v V) : Mk w base v V 256 := ⟨h.1, h.2.1, h.2.2.1⟩
theorem Mq.nk {w : World} {base x : Nat} {v : Value} {V : Nat} (h : Mq w base x v V) : Nk w v V 256 := h.mk.nk
theorem Mq.below {w w' : World} {base x : Nat} {v : Value} {V : Nat} (h : Mq w base x v V) (hb : Below w.heap.size w w') : Mq w' base x v V := ⟨h.1.below hb (Nat.le_refl _), h.2⟩
theorem Mq.but {w w' : World} {base x : Nat} {v : Value} {V : Nat} (h : Mq w base x v V) (hb : But w w' x) : Mq w' base x v V := ⟨h.1.but' hb h.2.2.2, h.2⟩
section
variable {P : Program} {ops : Array Oper} {Q : Exit → Act → World → Prop} {md : Region.Mode} {S : World → Prop} {k : Nat}
/-- Where two may come up next: either. -/
theorem wpAnyK_two (i j : Nat) {oi oj : Oper} {ri rj : List Oper} {fuel : Nat} {listed : Array Bool} {a : Act} {w : World} (hi : ops.toList.drop i = oi :: ri) (hj : ops.toList.drop j = oj :: rj) (hr : Region.ready md ops listed = [i, j])
    (h1 : ∀ K' : Act → World → Prop, Shut (∀ a w, ((listed.setIfInBounds i true).getD k true = false → S w) → wpAnyK P md ops Q k S fuel (listed.setIfInBounds i true) a w → K' a w) → if Region.wanted oi (yielded ops a.tmps) = true then Oper.wp P oi a w K' Q else K' (a.put oi.dst undef) w)
    (h2 : ∀ K' : Act → World → Prop, Shut (∀ a w, ((listed.setIfInBounds j true).getD k true = false → S w) → wpAnyK P md ops Q k S fuel (listed.setIfInBounds j true) a w → K' a w) → if Region.wanted oj (yielded ops a.tmps) = true then Oper.wp P oj a w K' Q else K' (a.put oj.dst undef) w) :
    wpAnyK P md ops Q k S (fuel + 1) listed a w := by
  refine ⟨fun h0 => (by rw [hr] at h0; cases h0), fun l hl => ?_⟩
  rw [hr] at hl
  rcases List.mem_cons.1 hl with rfl | hl
  · exact wpOp_step (op_at hi) (fun K' hK => h1 K' (fun a w hS hW => hK a w ⟨hS, hW⟩))
  · obtain rfl : l = j := by simpa using hl
    exact wpOp_step (op_at hj) (fun K' hK => h2 K' (fun a w hS hW => hK a w ⟨hS, hW⟩))
end
theorem pw_pos (k : Nat) : 0 < pw k := Nat.pow_pos (by decide)
theorem Mq.none (w : World) (base x : Nat) : Mq w base x (.slice none 0 0) 0 := ⟨by rw [dg_zero]; exact Ow.nil w base, by rw [dg_zero]; exact Nat.zero_le _, pw_pos 256, fun e => by cases e⟩
theorem bl_div {V D : Nat} (h : bl V ≤ D) : V / 2 ^ D = 0 := by
  apply Nat.div_eq_of_lt
  rcases Nat.eq_zero_or_pos V with h0 | h0
  · subst h0; exact Nat.pow_pos (by decide)
  · exact Nat.lt_of_lt_of_le (bl_lt V) (Nat.pow_le_pow_right (by decide) h)
theorem edigit_1 (v : Value) (A j : Nat) (w : World) (hv : Nu w v A) (h : A / 2 ^ j % 2 = 1) (hj : j ≤ 1000000) : Calls Tryz.prog 90 #[v, .int .i64 (j : Int)] w fun e w' => e = .returned (.int .i64 1) ∧ w' = w := by
  obtain ⟨xs, n1, rfl, k1⟩ := hv
  have C := bit_pos j v xs w n1 (by omega)
  rw [decide_eq_true h] at C
  clear n1 h
  go_enter Tryz.func90, Tryz.ntmps90
  go_wp2_with fail
  refine C.mono ?_
  rintro e w1 ⟨rfl, rfl⟩
  clear C
  go_wp2
  go_ret
  exact ⟨rfl, rfl⟩
theorem edigit_0 (v : Value) (A j : Nat) (w : World) (hv : Nu w v A) (h : ¬ A / 2 ^ j % 2 = 1) (hj : j ≤ 1000000) : Calls Tryz.prog 90 #[v, .int .i64 (j : Int)] w fun e w' => e = .returned (.int .i64 0) ∧ w' = w := by
  obtain ⟨xs, n1, rfl, k1⟩ := hv
  have C := bit_pos j v xs w n1 (by omega)
  rw [decide_eq_false h] at C
  clear n1 h
  go_enter Tryz.func90, Tryz.ntmps90
  go_wp2_with fail
  refine C.mono ?_
  rintro e w1 ⟨rfl, rfl⟩
  clear C
  go_wp2
  go_ret
  exact ⟨rfl, rfl⟩
/-- Four numbers in rows of one's own, other than the block x. -/
def Qq (w : World) (base x : Nat) (a b c d : Value) (r : R4) : Prop := Mq w base x a r.x ∧ Mq w base x b r.y ∧ Mq w base x c r.z ∧ Mq w base x d r.t
theorem Qq.below {w w' : World} {base x : Nat} {a b c d : Value} {r : R4} (h : Qq w base x a b c d r) (hb : Below w.heap.size w w') : Qq w' base x a b c d r := ⟨h.1.below hb, h.2.1.below hb, h.2.2.1.below hb, h.2.2.2.below hb⟩
theorem Qq.but {w w' : World} {base x : Nat} {a b c d : Value} {r : R4} (h : Qq w base x a b c d r) (hb : But w w' x) : Qq w' base x a b c d r := ⟨h.1.but hb, h.2.1.but hb, h.2.2.1.but hb, h.2.2.2.but hb⟩
theorem Qq.q4 {w : World} {base x : Nat} {a b c d : Value} {r : R4} (h : Qq w base x a b c d r) : Q4 w (.agg #[a, b, c, d]) r := ⟨_, _, _, _, rfl, h.1.nk, h.2.1.nk, h.2.2.1.nk, h.2.2.2.nk⟩
theorem Mk.mq {w : World} {base b x : Nat} {v : Value} {V : Nat} (h : Mk w b v V 256) (hb : base ≤ b) (hx : x < b ∨ w.heap.size ≤ x) : Mq w base x v V := ⟨h.1.base hb, h.2.1, h.2.2, fun e => by have := h.1.block e; omega⟩
theorem Mq.other {w w' : World} {base x y : Nat} {v : Value} {V : Nat} (h : Mq w base x v V) (hb : But w w' y) (hy : y < base) : Mq w' base x v V := ⟨h.1.but' hb (fun e => by have := (h.1.block e).1; omega), h.2⟩
/-- A box of four cells written anew. -/
theorem Fm.put4 {w wN w' : World} {t : TypeId} {a b c d : Value} (h : Fm w wN [(t, [a, b, c, d])] [] []) (x y z u : Value) (hw : w' = (((wN.setCell ⟨w.heap.size, 0, none⟩ x).setCell ⟨w.heap.size, 1, none⟩ y).setCell ⟨w.heap.size, 2, none⟩ z).setCell ⟨w.heap.size, 3, none⟩ u) : Fm w w' [(t, [x, y, z, u])] [] [] := by
  subst hw
  have hb := ((((But.refl wN w.heap.size).set 0 x).set 1 y).set 2 z).set 3 u
  refine ⟨fun i hi => ?_, fun q hq => (by cases hq), fun q hq => (by cases hq), .nil, Nat.le_trans h.sz hb.size, h.bel.trans (hb.below h.bel.size (Nat.le_refl _))⟩
  obtain rfl : i = 0 := by simpa using hi
  exact ((((h.bx 0 (by simp)).set 0 x).set 1 y).set 2 z).set 3 u
/-- The ladder's sum behind i of D digits. -/
def lsum (r s : R4) (D A B i : Nat) : R4 := ldq eP eD r s (pq eP eD r s) i (A / 2 ^ (D - i)) (B / 2 ^ (D - i))
theorem lsum_step (r s : R4) {D A B i j : Nat} (h : D = i + j + 1) (da db : Nat) (ha : A / 2 ^ j % 2 = da) (hb : B / 2 ^ j % 2 = db) : lsum r s D A B (i + 1) = stq eP eD r s (pq eP eD r s) (pq eP eD (lsum r s D A B i) (lsum r s D A B i)) (da + 2 * db) := by
  have h1 : D - (i + 1) = j := by omega
  have h2 : D - i = j + 1 := by omega
  unfold lsum
  rw [h1, h2, ldq, ha, hb, Nat.pow_succ, Nat.div_div_eq_div_mul, Nat.div_div_eq_div_mul]
theorem bl_pw {V k : Nat} (h : V < pw k) (hk : 1 ≤ k) : bl V ≤ k := by
  rcases Nat.eq_zero_or_pos V with h0 | h0
  · subst h0
    have : bl 0 = 0 := by decide
    omega
  · have h1 := bl_le V (by omega)
    rcases Nat.lt_or_ge k (bl V) with h2 | h2
    · exfalso
      have h3 : pw k ≤ 2 ^ (bl V - 1) := pw_mono (m := bl V - 1) (by omega)
      omega
    · exact h2
theorem mod2 (x : Nat) (h : ¬ x % 2 = 1) : x % 2 = 0 := by omega
set_option maxHeartbeats 40000000 in
theorem ladder_v (av cv v1 v2 : Value) (A B : Nat) (r s : R4) (w : World) (T : Te w) (ha : Nk w av A 1024) (hc : Nk w cv B 1024) (h1 : Q4 w v1 r) (h2 : Q4 w v2 s) :
    Calls Tryz.prog 43 #[av, cv, v1, v2] w fun e w' => ∃ v, e = .returned v ∧ Qm w' w.heap.size v (ldq eP eD r s (pq eP eD r s) (max (bl A) (bl B)) A B) ∧ Below w.heap.size w w' := by
  obtain ⟨a0, a1, a2, rfl⟩ := ha.sl
  obtain ⟨c0, c1, c2, rfl⟩ := hc.sl
  have HR : Hid (Q4 w v1 r ∧ Q4 w v2 s) := ⟨h1, h2⟩
  obtain ⟨D, HD⟩ : ∃ D, Hid (D = max (bl A) (bl B)) := ⟨_, rfl⟩
  rw [← HD.out]
  obtain ⟨xa0, xa1, xa2, ya0, ya1, ya2, za0, za1, za2, ta0, ta1, ta2, rfl⟩ := h1.shape
  obtain ⟨xb0, xb1, xb2, yb0, yb1, yb2, zb0, zb1, zb2, tb0, tb1, tb2, rfl⟩ := h2.shape
  have HF0 : Hid (Fm w (((w.alloc (.cells #[.slice xa0 xa1 xa2, .slice ya0 ya1 ya2, .slice za0 za1 za2, .slice ta0 ta1 ta2] 68)).alloc (.cells #[.slice xb0 xb1 xb2, .slice yb0 yb1 yb2, .slice zb0 zb1 zb2, .slice tb0 tb1 tb2] 68)).alloc (.cells #[.slice none 0 0, .slice none 0 0, .slice none 0 0, .slice none 0 0] 68)) [(68, [.slice xa0 xa1 xa2, .slice ya0 ya1 ya2, .slice za0 za1 za2, .slice ta0 ta1 ta2]), (68, [.slice xb0 xb1 xb2, .slice yb0 yb1 yb2, .slice zb0 zb1 zb2, .slice tb0 tb1 tb2]), (68, [.slice none 0 0, .slice none 0 0, .slice none 0 0, .slice none 0 0])] [(.slice a0 a1 a2, A, 1024), (.slice c0 c1 c2, B, 1024)] []) := ((((Fm.nil (w := w) (A := [(.slice a0 a1 a2, A, 1024), (.slice c0 c1 c2, B, 1024)]) (ar_cons ha (ar_cons hc ar_nil))).push (by simp) 68 [.slice xa0 xa1 xa2, .slice ya0 ya1 ya2, .slice za0 za1 za2, .slice ta0 ta1 ta2]).push (by simp) 68 [.slice xb0 xb1 xb2, .slice yb0 yb1 yb2, .slice zb0 zb1 zb2, .slice tb0 tb1 tb2]).push (by simp) 68 [.slice none 0 0, .slice none 0 0, .slice none 0 0, .slice none 0 0])
  have HT : Hid (Te w) := T
  have HA : Hid (A < pw 1024 ∧ B < pw 1024) := ⟨ha.2, hc.2⟩
  clear ha hc h1 h2 T
  go_enter Tryz.func43, Tryz.ntmps43
  go_wp2_with fail
  generalize (((w.alloc (.cells #[.slice xa0 xa1 xa2, .slice ya0 ya1 ya2, .slice za0 za1 za2, .slice ta0 ta1 ta2] 68)).alloc (.cells #[.slice xb0 xb1 xb2, .slice yb0 yb1 yb2, .slice zb0 zb1 zb2, .slice tb0 tb1 tb2] 68)).alloc (.cells #[.slice none 0 0, .slice none 0 0, .slice none 0 0, .slice none 0 0] 68)) = w0 at *
  refine (neutral_v w0).mono ?_
  rintro e w3 ⟨q, rfl, hm, hB⟩
  have HF3 : Hid (Fm w w3 [(68, [.slice xa0 xa1 xa2, .slice ya0 ya1 ya2, .slice za0 za1 za2, .slice ta0 ta1 ta2]), (68, [.slice xb0 xb1 xb2, .slice yb0 yb1 yb2, .slice zb0 zb1 zb2, .slice tb0 tb1 tb2]), (68, [.slice none 0 0, .slice none 0 0, .slice none 0 0, .slice none 0 0])] [(.slice a0 a1 a2, A, 1024), (.slice c0 c1 c2, B, 1024)] []) := HF0.out.below hB
  obtain ⟨i1, i2, i3, i4, rfl, m1, m2, m3, m4⟩ := hm
  have HMi : Hid (Qq w3 (w.heap.size + 3) w3.heap.size i1 i2 i3 i4 q0) := ⟨m1.mq HF0.out.sz (Or.inr (Nat.le_refl _)), m2.mq HF0.out.sz (Or.inr (Nat.le_refl _)), m3.mq HF0.out.sz (Or.inr (Nat.le_refl _)), m4.mq HF0.out.sz (Or.inr (Nat.le_refl _))⟩
  obtain ⟨i10, i11, i12, rfl⟩ := m1.nk.sl
  obtain ⟨i20, i21, i22, rfl⟩ := m2.nk.sl
  obtain ⟨i30, i31, i32, rfl⟩ := m3.nk.sl
  obtain ⟨i40, i41, i42, rfl⟩ := m4.nk.sl
  clear m1 m2 m3 m4 hB
  go_wp2_with fail
  have HS4 : Hid (Fm w3 (w3.alloc (.cells #[.slice i10 i11 i12, .slice i20 i21 i22, .slice i30 i31 i32, .slice i40 i41 i42] 68)) [(68, [.slice i10 i11 i12, .slice i20 i21 i22, .slice i30 i31 i32, .slice i40 i41 i42])] [] []) := (Fm.nil (w := w3) (A := []) ar_nil).push (by simp) 68 [.slice i10 i11 i12, .slice i20 i21 i22, .slice i30 i31 i32, .slice i40 i41 i42]
  have HF4 : Hid (Fm w (w3.alloc (.cells #[.slice i10 i11 i12, .slice i20 i21 i22, .slice i30 i31 i32, .slice i40 i41 i42] 68)) [(68, [.slice xa0 xa1 xa2, .slice ya0 ya1 ya2, .slice za0 za1 za2, .slice ta0 ta1 ta2]), (68, [.slice xb0 xb1 xb2, .slice yb0 yb1 yb2, .slice zb0 zb1 zb2, .slice tb0 tb1 tb2]), (68, [.slice none 0 0, .slice none 0 0, .slice none 0 0, .slice none 0 0])] [(.slice a0 a1 a2, A, 1024), (.slice c0 c1 c2, B, 1024)] []) := HF3.out.below HS4.out.bel
  generalize (w3.alloc (.cells #[.slice i10 i11 i12, .slice i20 i21 i22, .slice i30 i31 i32, .slice i40 i41 i42] 68)) = w4 at *
  have hs3 : w.heap.size + 3 ≤ w3.heap.size := HF3.out.sz
  have hs4 : w3.heap.size + 1 ≤ w4.heap.size := HS4.out.sz
  go_cut [10] from 16 to 22 (fun sl wx => ∃ (w' : World) (g : Nat) (f10 f20 f30 f40 : Option Addr) (f11 f12 f21 f22 f31 f32 f41 f42 : Nat), w' = wx ∧ sl = .pointer (some ⟨g, 0, none⟩) ∧ w3.heap.size < g ∧ Hid ((Fm w3 w' [(68, [.slice i10 i11 i12, .slice i20 i21 i22, .slice i30 i31 i32, .slice i40 i41 i42])] [] []) ∧ Bl 98 w' g [.slice i10 i11 i12, .slice i20 i21 i22, .slice i30 i31 i32, .slice i40 i41 i42, .slice xa0 xa1 xa2, .slice ya0 ya1 ya2, .slice za0 za1 za2, .slice ta0 ta1 ta2, .slice xb0 xb1 xb2, .slice yb0 yb1 yb2, .slice zb0 zb1 zb2, .slice tb0 tb1 tb2, .slice f10 f11 f12, .slice f20 f21 f22, .slice f30 f31 f32, .slice f40 f41 f42] ∧ Qq w' (w.heap.size + 3) w3.heap.size (.slice f10 f11 f12) (.slice f20 f21 f22) (.slice f30 f31 f32) (.slice f40 f41 f42) (pq eP eD r s)))
  case first =>
    have HF4d : Hid (Fm w w4.drew [(68, [.slice xa0 xa1 xa2, .slice ya0 ya1 ya2, .slice za0 za1 za2, .slice ta0 ta1 ta2]), (68, [.slice xb0 xb1 xb2, .slice yb0 yb1 yb2, .slice zb0 zb1 zb2, .slice tb0 tb1 tb2]), (68, [.slice none 0 0, .slice none 0 0, .slice none 0 0, .slice none 0 0])] [(.slice a0 a1 a2, A, 1024), (.slice c0 c1 c2, B, 1024)] []) := HF4.out.drew
    have HS4d : Hid (Fm w3 w4.drew [(68, [.slice i10 i11 i12, .slice i20 i21 i22, .slice i30 i31 i32, .slice i40 i41 i42])] [] []) := HS4.out.drew
    refine wp_region_K 8 (fun (w' : World) => w'.cell? ⟨w3.heap.size, 0, none⟩ = some (.slice i10 i11 i12) ∧ w'.cell? ⟨w3.heap.size, 1, none⟩ = some (.slice i20 i21 i22) ∧ w'.cell? ⟨w3.heap.size, 2, none⟩ = some (.slice i30 i31 i32) ∧ w'.cell? ⟨w3.heap.size, 3, none⟩ = some (.slice i40 i41 i42) ∧ w'.cell? ⟨w.heap.size, 0, none⟩ = some (.slice xa0 xa1 xa2) ∧ w'.cell? ⟨w.heap.size, 1, none⟩ = some (.slice ya0 ya1 ya2) ∧ w'.cell? ⟨w.heap.size, 2, none⟩ = some (.slice za0 za1 za2) ∧ w'.cell? ⟨w.heap.size, 3, none⟩ = some (.slice ta0 ta1 ta2) ∧ w'.cell? ⟨w.heap.size + 1, 0, none⟩ = some (.slice xb0 xb1 xb2) ∧ w'.cell? ⟨w.heap.size + 1, 1, none⟩ = some (.slice yb0 yb1 yb2) ∧ w'.cell? ⟨w.heap.size + 1, 2, none⟩ = some (.slice zb0 zb1 zb2) ∧ w'.cell? ⟨w.heap.size + 1, 3, none⟩ = some (.slice tb0 tb1 tb2)) (by kernel_rfl) ?_
    have hHeld : ((fun (w' : World) => w'.cell? ⟨w3.heap.size, 0, none⟩ = some (.slice i10 i11 i12) ∧ w'.cell? ⟨w3.heap.size, 1, none⟩ = some (.slice i20 i21 i22) ∧ w'.cell? ⟨w3.heap.size, 2, none⟩ = some (.slice i30 i31 i32) ∧ w'.cell? ⟨w3.heap.size, 3, none⟩ = some (.slice i40 i41 i42) ∧ w'.cell? ⟨w.heap.size, 0, none⟩ = some (.slice xa0 xa1 xa2) ∧ w'.cell? ⟨w.heap.size, 1, none⟩ = some (.slice ya0 ya1 ya2) ∧ w'.cell? ⟨w.heap.size, 2, none⟩ = some (.slice za0 za1 za2) ∧ w'.cell? ⟨w.heap.size, 3, none⟩ = some (.slice ta0 ta1 ta2) ∧ w'.cell? ⟨w.heap.size + 1, 0, none⟩ = some (.slice xb0 xb1 xb2) ∧ w'.cell? ⟨w.heap.size + 1, 1, none⟩ = some (.slice yb0 yb1 yb2) ∧ w'.cell? ⟨w.heap.size + 1, 2, none⟩ = some (.slice zb0 zb1 zb2) ∧ w'.cell? ⟨w.heap.size + 1, 3, none⟩ = some (.slice tb0 tb1 tb2))) (World.drew _) := ⟨HS4d.out.cell 0 0 (okb rfl) (okb rfl), HS4d.out.cell 0 1 (okb rfl) (okb rfl), HS4d.out.cell 0 2 (okb rfl) (okb rfl), HS4d.out.cell 0 3 (okb rfl) (okb rfl), HF4d.out.cell 0 0 (okb rfl) (okb rfl), HF4d.out.cell 0 1 (okb rfl) (okb rfl), HF4d.out.cell 0 2 (okb rfl) (okb rfl), HF4d.out.cell 0 3 (okb rfl) (okb rfl), HF4d.out.cell 1 0 (okb rfl) (okb rfl), HF4d.out.cell 1 1 (okb rfl) (okb rfl), HF4d.out.cell 1 2 (okb rfl) (okb rfl), HF4d.out.cell 1 3 (okb rfl) (okb rfl)⟩
    refine wpAnyK_take 0 [6, 8] (v := ?v1) rfl (by kernel_rfl) (fun _ _ _ h => h) (Or.inl ⟨by rfl, ?hy1⟩) hHeld ?_
    case hy1 => (intro w hSw; (try dsimp only at hSw); go_simp; try with_reducible rfl)
    try simp only [Act.put, List.setIfInBounds_toArray, List.set_cons_zero, List.set_cons_succ]
    refine wpAnyK_take 1 [6, 8] (v := ?v2) rfl (by kernel_rfl) (fun _ _ _ h => h) (Or.inl ⟨by rfl, ?hy2⟩) hHeld ?_
    case hy2 => (intro w hSw; (try dsimp only at hSw); go_simp; try with_reducible rfl)
    try simp only [Act.put, List.setIfInBounds_toArray, List.set_cons_zero, List.set_cons_succ]
    refine wpAnyK_take 2 [6, 8] (v := ?v3) rfl (by kernel_rfl) (fun _ _ _ h => h) (Or.inl ⟨by rfl, ?hy3⟩) hHeld ?_
    case hy3 => (intro w hSw; (try dsimp only at hSw); go_simp; try with_reducible rfl)
    try simp only [Act.put, List.setIfInBounds_toArray, List.set_cons_zero, List.set_cons_succ]
    refine wpAnyK_take 3 [5, 6, 8] (v := ?v4) rfl (by kernel_rfl) (fun _ _ _ h => h) (Or.inl ⟨by rfl, ?hy4⟩) hHeld ?_
    case hy4 => (intro w hSw; (try dsimp only at hSw); go_simp; try with_reducible rfl)
    try simp only [Act.put, List.setIfInBounds_toArray, List.set_cons_zero, List.set_cons_succ]
    refine wpAnyK_take 4 [5, 6, 8] (v := ?v5) rfl (by kernel_rfl) (fun _ _ _ h => h) (Or.inl ⟨by rfl, ?hy5⟩) hHeld ?_
    case hy5 => (intro w hSw; (try dsimp only at hSw); go_simp; try with_reducible rfl)
    try simp only [Act.put, List.setIfInBounds_toArray, List.set_cons_zero, List.set_cons_succ]
    refine wpAnyK_two 5 7 rfl rfl (by kernel_rfl) (fun K hK => ?_) (fun K hK => ?_)
    · go_simp
      refine (plus_v _ _ r s _ (HT.out.below HF4d.out.bel (Nat.le_refl _)) (HR.out.1.below HF4d.out.bel (Nat.le_refl _)) (HR.out.2.below HF4d.out.bel (Nat.le_refl _))).mono ?_
      rintro e w5 ⟨q3, rfl, hm3, hB⟩
      have HF5 : Hid (Fm w w5 [(68, [.slice xa0 xa1 xa2, .slice ya0 ya1 ya2, .slice za0 za1 za2, .slice ta0 ta1 ta2]), (68, [.slice xb0 xb1 xb2, .slice yb0 yb1 yb2, .slice zb0 zb1 zb2, .slice tb0 tb1 tb2]), (68, [.slice none 0 0, .slice none 0 0, .slice none 0 0, .slice none 0 0])] [(.slice a0 a1 a2, A, 1024), (.slice c0 c1 c2, B, 1024)] []) := HF4d.out.below hB
      have HS5 : Hid (Fm w3 w5 [(68, [.slice i10 i11 i12, .slice i20 i21 i22, .slice i30 i31 i32, .slice i40 i41 i42])] [] []) := HS4d.out.below hB
      have hB5 := hB
      obtain ⟨f1, f2, f3, f4, rfl, m1, m2, m3, m4⟩ := hm3
      obtain ⟨f10, f11, f12, rfl⟩ := m1.nk.sl
      obtain ⟨f20, f21, f22, rfl⟩ := m2.nk.sl
      obtain ⟨f30, f31, f32, rfl⟩ := m3.nk.sl
      obtain ⟨f40, f41, f42, rfl⟩ := m4.nk.sl
      clear hB
      try dsimp only
      refine hK.out _ _ ?hk6 ?_
      case hk6 => exact fun _ => ⟨HS5.out.cell 0 0 (okb rfl) (okb rfl), HS5.out.cell 0 1 (okb rfl) (okb rfl), HS5.out.cell 0 2 (okb rfl) (okb rfl), HS5.out.cell 0 3 (okb rfl) (okb rfl), HF5.out.cell 0 0 (okb rfl) (okb rfl), HF5.out.cell 0 1 (okb rfl) (okb rfl), HF5.out.cell 0 2 (okb rfl) (okb rfl), HF5.out.cell 0 3 (okb rfl) (okb rfl), HF5.out.cell 1 0 (okb rfl) (okb rfl), HF5.out.cell 1 1 (okb rfl) (okb rfl), HF5.out.cell 1 2 (okb rfl) (okb rfl), HF5.out.cell 1 3 (okb rfl) (okb rfl)⟩
      have hHeld : ((fun (w' : World) => w'.cell? ⟨w3.heap.size, 0, none⟩ = some (.slice i10 i11 i12) ∧ w'.cell? ⟨w3.heap.size, 1, none⟩ = some (.slice i20 i21 i22) ∧ w'.cell? ⟨w3.heap.size, 2, none⟩ = some (.slice i30 i31 i32) ∧ w'.cell? ⟨w3.heap.size, 3, none⟩ = some (.slice i40 i41 i42) ∧ w'.cell? ⟨w.heap.size, 0, none⟩ = some (.slice xa0 xa1 xa2) ∧ w'.cell? ⟨w.heap.size, 1, none⟩ = some (.slice ya0 ya1 ya2) ∧ w'.cell? ⟨w.heap.size, 2, none⟩ = some (.slice za0 za1 za2) ∧ w'.cell? ⟨w.heap.size, 3, none⟩ = some (.slice ta0 ta1 ta2) ∧ w'.cell? ⟨w.heap.size + 1, 0, none⟩ = some (.slice xb0 xb1 xb2) ∧ w'.cell? ⟨w.heap.size + 1, 1, none⟩ = some (.slice yb0 yb1 yb2) ∧ w'.cell? ⟨w.heap.size + 1, 2, none⟩ = some (.slice zb0 zb1 zb2) ∧ w'.cell? ⟨w.heap.size + 1, 3, none⟩ = some (.slice tb0 tb1 tb2))) _ := ⟨HS5.out.cell 0 0 (okb rfl) (okb rfl), HS5.out.cell 0 1 (okb rfl) (okb rfl), HS5.out.cell 0 2 (okb rfl) (okb rfl), HS5.out.cell 0 3 (okb rfl) (okb rfl), HF5.out.cell 0 0 (okb rfl) (okb rfl), HF5.out.cell 0 1 (okb rfl) (okb rfl), HF5.out.cell 0 2 (okb rfl) (okb rfl), HF5.out.cell 0 3 (okb rfl) (okb rfl), HF5.out.cell 1 0 (okb rfl) (okb rfl), HF5.out.cell 1 1 (okb rfl) (okb rfl), HF5.out.cell 1 2 (okb rfl) (okb rfl), HF5.out.cell 1 3 (okb rfl) (okb rfl)⟩
      clear hK K
      try simp only [Act.put, List.setIfInBounds_toArray, List.set_cons_zero, List.set_cons_succ]
      refine wpAnyK_take0 6 (v := ?v7) rfl (by kernel_rfl) (fun _ _ _ h => h) (Or.inl ⟨by rfl, ?hy7⟩) (fun _ => hHeld) ?_
      case hy7 => (intro w hSw; go_simp; try with_reducible rfl)
      try simp only [Act.put, List.setIfInBounds_toArray, List.set_cons_zero, List.set_cons_succ]
      refine wpAnyK_step 7 rfl (by kernel_rfl) (fun K hK => ?_)
      go_simp
      have HF6 : Hid (Fm w (w5.alloc (.cells #[.slice none 0 0, .slice none 0 0, .slice none 0 0, .slice none 0 0, .slice none 0 0, .slice none 0 0, .slice none 0 0, .slice none 0 0, .slice none 0 0, .slice none 0 0, .slice none 0 0, .slice none 0 0, .slice none 0 0, .slice none 0 0, .slice none 0 0, .slice none 0 0] 98)) [(68, [.slice xa0 xa1 xa2, .slice ya0 ya1 ya2, .slice za0 za1 za2, .slice ta0 ta1 ta2]), (68, [.slice xb0 xb1 xb2, .slice yb0 yb1 yb2, .slice zb0 zb1 zb2, .slice tb0 tb1 tb2]), (68, [.slice none 0 0, .slice none 0 0, .slice none 0 0, .slice none 0 0])] [(.slice a0 a1 a2, A, 1024), (.slice c0 c1 c2, B, 1024)] []) := HF5.out.below (alloc_below _ _)
      have HS6 : Hid (Fm w3 (w5.alloc (.cells #[.slice none 0 0, .slice none 0 0, .slice none 0 0, .slice none 0 0, .slice none 0 0, .slice none 0 0, .slice none 0 0, .slice none 0 0, .slice none 0 0, .slice none 0 0, .slice none 0 0, .slice none 0 0, .slice none 0 0, .slice none 0 0, .slice none 0 0, .slice none 0 0] 98)) [(68, [.slice i10 i11 i12, .slice i20 i21 i22, .slice i30 i31 i32, .slice i40 i41 i42])] [] []) := HS5.out.below (alloc_below _ _)
      try dsimp only
      refine hK.out _ _ ?hk8 ?_
      case hk8 => exact fun _ => ⟨HS6.out.cell 0 0 (okb rfl) (okb rfl), HS6.out.cell 0 1 (okb rfl) (okb rfl), HS6.out.cell 0 2 (okb rfl) (okb rfl), HS6.out.cell 0 3 (okb rfl) (okb rfl), HF6.out.cell 0 0 (okb rfl) (okb rfl), HF6.out.cell 0 1 (okb rfl) (okb rfl), HF6.out.cell 0 2 (okb rfl) (okb rfl), HF6.out.cell 0 3 (okb rfl) (okb rfl), HF6.out.cell 1 0 (okb rfl) (okb rfl), HF6.out.cell 1 1 (okb rfl) (okb rfl), HF6.out.cell 1 2 (okb rfl) (okb rfl), HF6.out.cell 1 3 (okb rfl) (okb rfl)⟩
      have hHeld : ((fun (w' : World) => w'.cell? ⟨w3.heap.size, 0, none⟩ = some (.slice i10 i11 i12) ∧ w'.cell? ⟨w3.heap.size, 1, none⟩ = some (.slice i20 i21 i22) ∧ w'.cell? ⟨w3.heap.size, 2, none⟩ = some (.slice i30 i31 i32) ∧ w'.cell? ⟨w3.heap.size, 3, none⟩ = some (.slice i40 i41 i42) ∧ w'.cell? ⟨w.heap.size, 0, none⟩ = some (.slice xa0 xa1 xa2) ∧ w'.cell? ⟨w.heap.size, 1, none⟩ = some (.slice ya0 ya1 ya2) ∧ w'.cell? ⟨w.heap.size, 2, none⟩ = some (.slice za0 za1 za2) ∧ w'.cell? ⟨w.heap.size, 3, none⟩ = some (.slice ta0 ta1 ta2) ∧ w'.cell? ⟨w.heap.size + 1, 0, none⟩ = some (.slice xb0 xb1 xb2) ∧ w'.cell? ⟨w.heap.size + 1, 1, none⟩ = some (.slice yb0 yb1 yb2) ∧ w'.cell? ⟨w.heap.size + 1, 2, none⟩ = some (.slice zb0 zb1 zb2) ∧ w'.cell? ⟨w.heap.size + 1, 3, none⟩ = some (.slice tb0 tb1 tb2))) _ := ⟨HS6.out.cell 0 0 (okb rfl) (okb rfl), HS6.out.cell 0 1 (okb rfl) (okb rfl), HS6.out.cell 0 2 (okb rfl) (okb rfl), HS6.out.cell 0 3 (okb rfl) (okb rfl), HF6.out.cell 0 0 (okb rfl) (okb rfl), HF6.out.cell 0 1 (okb rfl) (okb rfl), HF6.out.cell 0 2 (okb rfl) (okb rfl), HF6.out.cell 0 3 (okb rfl) (okb rfl), HF6.out.cell 1 0 (okb rfl) (okb rfl), HF6.out.cell 1 1 (okb rfl) (okb rfl), HF6.out.cell 1 2 (okb rfl) (okb rfl), HF6.out.cell 1 3 (okb rfl) (okb rfl)⟩
      clear hK K
      try simp only [Act.put, List.setIfInBounds_toArray, List.set_cons_zero, List.set_cons_succ]
      refine wpAnyK_step 8 rfl (by kernel_rfl) (fun K hK => ?_)
      rw [if_pos (by kernel_rfl)]
      refine wp_store_row 98 _ _ rfl w5.heap.size #[.slice i10 i11 i12, .slice i20 i21 i22, .slice i30 i31 i32, .slice i40 i41 i42, .slice xa0 xa1 xa2, .slice ya0 ya1 ya2, .slice za0 za1 za2, .slice ta0 ta1 ta2, .slice xb0 xb1 xb2, .slice yb0 yb1 yb2, .slice zb0 zb1 zb2, .slice tb0 tb1 tb2, .slice f10 f11 f12, .slice f20 f21 f22, .slice f30 f31 f32, .slice f40 f41 f42] rfl rfl 98 #[.slice none 0 0, .slice none 0 0, .slice none 0 0, .slice none 0 0, .slice none 0 0, .slice none 0 0, .slice none 0 0, .slice none 0 0, .slice none 0 0, .slice none 0 0, .slice none 0 0, .slice none 0 0, .slice none 0 0, .slice none 0 0, .slice none 0 0, .slice none 0 0] (alloc_bl w5 [.slice none 0 0, .slice none 0 0, .slice none 0 0, .slice none 0 0, .slice none 0 0, .slice none 0 0, .slice none 0 0, .slice none 0 0, .slice none 0 0, .slice none 0 0, .slice none 0 0, .slice none 0 0, .slice none 0 0, .slice none 0 0, .slice none 0 0, .slice none 0 0] 98) (by kernel_rfl) rfl (by simp [Value.oneCell']) ?_
      refine hK.out _ _ ?hk9 ?_
      case hk9 => exact (fun h => nomatch (h.symm.trans (show _ = true by kernel_rfl)))
      clear hK K
      try simp only [Act.put]
      refine wpAnyK_done (by kernel_rfl) ?_ _
      have HA7 := Fm.row w5 98 [.slice none 0 0, .slice none 0 0, .slice none 0 0, .slice none 0 0, .slice none 0 0, .slice none 0 0, .slice none 0 0, .slice none 0 0, .slice none 0 0, .slice none 0 0, .slice none 0 0, .slice none 0 0, .slice none 0 0, .slice none 0 0, .slice none 0 0, .slice none 0 0] [.slice i10 i11 i12, .slice i20 i21 i22, .slice i30 i31 i32, .slice i40 i41 i42, .slice xa0 xa1 xa2, .slice ya0 ya1 ya2, .slice za0 za1 za2, .slice ta0 ta1 ta2, .slice xb0 xb1 xb2, .slice yb0 yb1 yb2, .slice zb0 zb1 zb2, .slice tb0 tb1 tb2, .slice f10 f11 f12, .slice f20 f21 f22, .slice f30 f31 f32, .slice f40 f41 f42] rfl
      go_wp2_with fail
      go_meet
      have e4 : w4.heap.size ≤ w5.heap.size := hB5.size
      exact ⟨_, w5.heap.size, f10, f20, f30, f40, f11, f12, f21, f22, f31, f32, f41, f42, rfl, rfl, by omega, HS5.out.below HA7.bel, HA7.bx 0 (by simp), (m1.mq (show w.heap.size + 3 ≤ w4.heap.size by omega) (Or.inl (show w3.heap.size < w4.heap.size by omega))).below HA7.bel, (m2.mq (show w.heap.size + 3 ≤ w4.heap.size by omega) (Or.inl (show w3.heap.size < w4.heap.size by omega))).below HA7.bel, (m3.mq (show w.heap.size + 3 ≤ w4.heap.size by omega) (Or.inl (show w3.heap.size < w4.heap.size by omega))).below HA7.bel, (m4.mq (show w.heap.size + 3 ≤ w4.heap.size by omega) (Or.inl (show w3.heap.size < w4.heap.size by omega))).below HA7.bel⟩
    · go_simp
      have HA4 : Hid (Bl 98 ((w4.alloc (.cells #[.slice none 0 0, .slice none 0 0, .slice none 0 0, .slice none 0 0, .slice none 0 0, .slice none 0 0, .slice none 0 0, .slice none 0 0, .slice none 0 0, .slice none 0 0, .slice none 0 0, .slice none 0 0, .slice none 0 0, .slice none 0 0, .slice none 0 0, .slice none 0 0] 98)).drew) w4.heap.size [.slice none 0 0, .slice none 0 0, .slice none 0 0, .slice none 0 0, .slice none 0 0, .slice none 0 0, .slice none 0 0, .slice none 0 0, .slice none 0 0, .slice none 0 0, .slice none 0 0, .slice none 0 0, .slice none 0 0, .slice none 0 0, .slice none 0 0, .slice none 0 0]) := alloc_bl w4 [.slice none 0 0, .slice none 0 0, .slice none 0 0, .slice none 0 0, .slice none 0 0, .slice none 0 0, .slice none 0 0, .slice none 0 0, .slice none 0 0, .slice none 0 0, .slice none 0 0, .slice none 0 0, .slice none 0 0, .slice none 0 0, .slice none 0 0, .slice none 0 0] 98
      have HF4e : Hid (Fm w ((w4.alloc (.cells #[.slice none 0 0, .slice none 0 0, .slice none 0 0, .slice none 0 0, .slice none 0 0, .slice none 0 0, .slice none 0 0, .slice none 0 0, .slice none 0 0, .slice none 0 0, .slice none 0 0, .slice none 0 0, .slice none 0 0, .slice none 0 0, .slice none 0 0, .slice none 0 0] 98)).drew) [(68, [.slice xa0 xa1 xa2, .slice ya0 ya1 ya2, .slice za0 za1 za2, .slice ta0 ta1 ta2]), (68, [.slice xb0 xb1 xb2, .slice yb0 yb1 yb2, .slice zb0 zb1 zb2, .slice tb0 tb1 tb2]), (68, [.slice none 0 0, .slice none 0 0, .slice none 0 0, .slice none 0 0])] [(.slice a0 a1 a2, A, 1024), (.slice c0 c1 c2, B, 1024)] []) := (HF4.out.below (alloc_below _ _)).drew
      have HS4e : Hid (Fm w3 ((w4.alloc (.cells #[.slice none 0 0, .slice none 0 0, .slice none 0 0, .slice none 0 0, .slice none 0 0, .slice none 0 0, .slice none 0 0, .slice none 0 0, .slice none 0 0, .slice none 0 0, .slice none 0 0, .slice none 0 0, .slice none 0 0, .slice none 0 0, .slice none 0 0, .slice none 0 0] 98)).drew) [(68, [.slice i10 i11 i12, .slice i20 i21 i22, .slice i30 i31 i32, .slice i40 i41 i42])] [] []) := (HS4.out.below (alloc_below _ _)).drew
      have hsA : ((w4.alloc (.cells #[.slice none 0 0, .slice none 0 0, .slice none 0 0, .slice none 0 0, .slice none 0 0, .slice none 0 0, .slice none 0 0, .slice none 0 0, .slice none 0 0, .slice none 0 0, .slice none 0 0, .slice none 0 0, .slice none 0 0, .slice none 0 0, .slice none 0 0, .slice none 0 0] 98)).drew).heap.size = w4.heap.size + 1 := World.size_alloc _ _
      have HbA : Hid (Below w4.heap.size w4 ((w4.alloc (.cells #[.slice none 0 0, .slice none 0 0, .slice none 0 0, .slice none 0 0, .slice none 0 0, .slice none 0 0, .slice none 0 0, .slice none 0 0, .slice none 0 0, .slice none 0 0, .slice none 0 0, .slice none 0 0, .slice none 0 0, .slice none 0 0, .slice none 0 0, .slice none 0 0] 98)).drew)) := below_drewN (alloc_below _ _) 1
      generalize ((w4.alloc (.cells #[.slice none 0 0, .slice none 0 0, .slice none 0 0, .slice none 0 0, .slice none 0 0, .slice none 0 0, .slice none 0 0, .slice none 0 0, .slice none 0 0, .slice none 0 0, .slice none 0 0, .slice none 0 0, .slice none 0 0, .slice none 0 0, .slice none 0 0, .slice none 0 0] 98)).drew) = w4e at *
      try dsimp only
      refine hK.out _ _ ?hk10 ?_
      case hk10 => exact fun _ => ⟨HS4e.out.cell 0 0 (okb rfl) (okb rfl), HS4e.out.cell 0 1 (okb rfl) (okb rfl), HS4e.out.cell 0 2 (okb rfl) (okb rfl), HS4e.out.cell 0 3 (okb rfl) (okb rfl), HF4e.out.cell 0 0 (okb rfl) (okb rfl), HF4e.out.cell 0 1 (okb rfl) (okb rfl), HF4e.out.cell 0 2 (okb rfl) (okb rfl), HF4e.out.cell 0 3 (okb rfl) (okb rfl), HF4e.out.cell 1 0 (okb rfl) (okb rfl), HF4e.out.cell 1 1 (okb rfl) (okb rfl), HF4e.out.cell 1 2 (okb rfl) (okb rfl), HF4e.out.cell 1 3 (okb rfl) (okb rfl)⟩
      have hHeld : ((fun (w' : World) => w'.cell? ⟨w3.heap.size, 0, none⟩ = some (.slice i10 i11 i12) ∧ w'.cell? ⟨w3.heap.size, 1, none⟩ = some (.slice i20 i21 i22) ∧ w'.cell? ⟨w3.heap.size, 2, none⟩ = some (.slice i30 i31 i32) ∧ w'.cell? ⟨w3.heap.size, 3, none⟩ = some (.slice i40 i41 i42) ∧ w'.cell? ⟨w.heap.size, 0, none⟩ = some (.slice xa0 xa1 xa2) ∧ w'.cell? ⟨w.heap.size, 1, none⟩ = some (.slice ya0 ya1 ya2) ∧ w'.cell? ⟨w.heap.size, 2, none⟩ = some (.slice za0 za1 za2) ∧ w'.cell? ⟨w.heap.size, 3, none⟩ = some (.slice ta0 ta1 ta2) ∧ w'.cell? ⟨w.heap.size + 1, 0, none⟩ = some (.slice xb0 xb1 xb2) ∧ w'.cell? ⟨w.heap.size + 1, 1, none⟩ = some (.slice yb0 yb1 yb2) ∧ w'.cell? ⟨w.heap.size + 1, 2, none⟩ = some (.slice zb0 zb1 zb2) ∧ w'.cell? ⟨w.heap.size + 1, 3, none⟩ = some (.slice tb0 tb1 tb2))) _ := ⟨HS4e.out.cell 0 0 (okb rfl) (okb rfl), HS4e.out.cell 0 1 (okb rfl) (okb rfl), HS4e.out.cell 0 2 (okb rfl) (okb rfl), HS4e.out.cell 0 3 (okb rfl) (okb rfl), HF4e.out.cell 0 0 (okb rfl) (okb rfl), HF4e.out.cell 0 1 (okb rfl) (okb rfl), HF4e.out.cell 0 2 (okb rfl) (okb rfl), HF4e.out.cell 0 3 (okb rfl) (okb rfl), HF4e.out.cell 1 0 (okb rfl) (okb rfl), HF4e.out.cell 1 1 (okb rfl) (okb rfl), HF4e.out.cell 1 2 (okb rfl) (okb rfl), HF4e.out.cell 1 3 (okb rfl) (okb rfl)⟩
      clear hK K
      try simp only [Act.put, List.setIfInBounds_toArray, List.set_cons_zero, List.set_cons_succ]
      refine wpAnyK_step 5 rfl (by kernel_rfl) (fun K hK => ?_)
      go_simp
      refine (plus_v _ _ r s _ (HT.out.below HF4e.out.bel (Nat.le_refl _)) (HR.out.1.below HF4e.out.bel (Nat.le_refl _)) (HR.out.2.below HF4e.out.bel (Nat.le_refl _))).mono ?_
      rintro e w5 ⟨q3, rfl, hm3, hB⟩
      have HF5 : Hid (Fm w w5 [(68, [.slice xa0 xa1 xa2, .slice ya0 ya1 ya2, .slice za0 za1 za2, .slice ta0 ta1 ta2]), (68, [.slice xb0 xb1 xb2, .slice yb0 yb1 yb2, .slice zb0 zb1 zb2, .slice tb0 tb1 tb2]), (68, [.slice none 0 0, .slice none 0 0, .slice none 0 0, .slice none 0 0])] [(.slice a0 a1 a2, A, 1024), (.slice c0 c1 c2, B, 1024)] []) := HF4e.out.below hB
      have HS5 : Hid (Fm w3 w5 [(68, [.slice i10 i11 i12, .slice i20 i21 i22, .slice i30 i31 i32, .slice i40 i41 i42])] [] []) := HS4e.out.below hB
      have hB5 := hB
      obtain ⟨f1, f2, f3, f4, rfl, m1, m2, m3, m4⟩ := hm3
      obtain ⟨f10, f11, f12, rfl⟩ := m1.nk.sl
      obtain ⟨f20, f21, f22, rfl⟩ := m2.nk.sl
      obtain ⟨f30, f31, f32, rfl⟩ := m3.nk.sl
      obtain ⟨f40, f41, f42, rfl⟩ := m4.nk.sl
      clear hB
      have HA5 : Hid (Bl 98 w5 w4.heap.size [.slice none 0 0, .slice none 0 0, .slice none 0 0, .slice none 0 0, .slice none 0 0, .slice none 0 0, .slice none 0 0, .slice none 0 0, .slice none 0 0, .slice none 0 0, .slice none 0 0, .slice none 0 0, .slice none 0 0, .slice none 0 0, .slice none 0 0, .slice none 0 0]) := HA4.out.below hB5 (by omega)
      try dsimp only
      refine hK.out _ _ ?hk11 ?_
      case hk11 => exact fun _ => ⟨HS5.out.cell 0 0 (okb rfl) (okb rfl), HS5.out.cell 0 1 (okb rfl) (okb rfl), HS5.out.cell 0 2 (okb rfl) (okb rfl), HS5.out.cell 0 3 (okb rfl) (okb rfl), HF5.out.cell 0 0 (okb rfl) (okb rfl), HF5.out.cell 0 1 (okb rfl) (okb rfl), HF5.out.cell 0 2 (okb rfl) (okb rfl), HF5.out.cell 0 3 (okb rfl) (okb rfl), HF5.out.cell 1 0 (okb rfl) (okb rfl), HF5.out.cell 1 1 (okb rfl) (okb rfl), HF5.out.cell 1 2 (okb rfl) (okb rfl), HF5.out.cell 1 3 (okb rfl) (okb rfl)⟩
      have hHeld : ((fun (w' : World) => w'.cell? ⟨w3.heap.size, 0, none⟩ = some (.slice i10 i11 i12) ∧ w'.cell? ⟨w3.heap.size, 1, none⟩ = some (.slice i20 i21 i22) ∧ w'.cell? ⟨w3.heap.size, 2, none⟩ = some (.slice i30 i31 i32) ∧ w'.cell? ⟨w3.heap.size, 3, none⟩ = some (.slice i40 i41 i42) ∧ w'.cell? ⟨w.heap.size, 0, none⟩ = some (.slice xa0 xa1 xa2) ∧ w'.cell? ⟨w.heap.size, 1, none⟩ = some (.slice ya0 ya1 ya2) ∧ w'.cell? ⟨w.heap.size, 2, none⟩ = some (.slice za0 za1 za2) ∧ w'.cell? ⟨w.heap.size, 3, none⟩ = some (.slice ta0 ta1 ta2) ∧ w'.cell? ⟨w.heap.size + 1, 0, none⟩ = some (.slice xb0 xb1 xb2) ∧ w'.cell? ⟨w.heap.size + 1, 1, none⟩ = some (.slice yb0 yb1 yb2) ∧ w'.cell? ⟨w.heap.size + 1, 2, none⟩ = some (.slice zb0 zb1 zb2) ∧ w'.cell? ⟨w.heap.size + 1, 3, none⟩ = some (.slice tb0 tb1 tb2))) _ := ⟨HS5.out.cell 0 0 (okb rfl) (okb rfl), HS5.out.cell 0 1 (okb rfl) (okb rfl), HS5.out.cell 0 2 (okb rfl) (okb rfl), HS5.out.cell 0 3 (okb rfl) (okb rfl), HF5.out.cell 0 0 (okb rfl) (okb rfl), HF5.out.cell 0 1 (okb rfl) (okb rfl), HF5.out.cell 0 2 (okb rfl) (okb rfl), HF5.out.cell 0 3 (okb rfl) (okb rfl), HF5.out.cell 1 0 (okb rfl) (okb rfl), HF5.out.cell 1 1 (okb rfl) (okb rfl), HF5.out.cell 1 2 (okb rfl) (okb rfl), HF5.out.cell 1 3 (okb rfl) (okb rfl)⟩
      clear hK K
      try simp only [Act.put, List.setIfInBounds_toArray, List.set_cons_zero, List.set_cons_succ]
      refine wpAnyK_take0 6 (v := ?v12) rfl (by kernel_rfl) (fun _ _ _ h => h) (Or.inl ⟨by rfl, ?hy12⟩) (fun _ => hHeld) ?_
      case hy12 => (intro w hSw; go_simp; try with_reducible rfl)
      try simp only [Act.put, List.setIfInBounds_toArray, List.set_cons_zero, List.set_cons_succ]
      refine wpAnyK_step 8 rfl (by kernel_rfl) (fun K hK => ?_)
      rw [if_pos (by kernel_rfl)]
      refine wp_store_row 98 _ _ rfl w4.heap.size #[.slice i10 i11 i12, .slice i20 i21 i22, .slice i30 i31 i32, .slice i40 i41 i42, .slice xa0 xa1 xa2, .slice ya0 ya1 ya2, .slice za0 za1 za2, .slice ta0 ta1 ta2, .slice xb0 xb1 xb2, .slice yb0 yb1 yb2, .slice zb0 zb1 zb2, .slice tb0 tb1 tb2, .slice f10 f11 f12, .slice f20 f21 f22, .slice f30 f31 f32, .slice f40 f41 f42] rfl rfl 98 #[.slice none 0 0, .slice none 0 0, .slice none 0 0, .slice none 0 0, .slice none 0 0, .slice none 0 0, .slice none 0 0, .slice none 0 0, .slice none 0 0, .slice none 0 0, .slice none 0 0, .slice none 0 0, .slice none 0 0, .slice none 0 0, .slice none 0 0, .slice none 0 0] (HA5.out) (by kernel_rfl) rfl (by simp [Value.oneCell']) ?_
      refine hK.out _ _ ?hk13 ?_
      case hk13 => exact (fun h => nomatch (h.symm.trans (show _ = true by kernel_rfl)))
      clear hK K
      try simp only [Act.put]
      refine wpAnyK_done (by kernel_rfl) ?_ _
      have hbt := But.setRow w5 w4.heap.size #[.slice i10 i11 i12, .slice i20 i21 i22, .slice i30 i31 i32, .slice i40 i41 i42, .slice xa0 xa1 xa2, .slice ya0 ya1 ya2, .slice za0 za1 za2, .slice ta0 ta1 ta2, .slice xb0 xb1 xb2, .slice yb0 yb1 yb2, .slice zb0 zb1 zb2, .slice tb0 tb1 tb2, .slice f10 f11 f12, .slice f20 f21 f22, .slice f30 f31 f32, .slice f40 f41 f42]
      have hbw : Below w4.heap.size w4 (w5.setRow w4.heap.size #[.slice i10 i11 i12, .slice i20 i21 i22, .slice i30 i31 i32, .slice i40 i41 i42, .slice xa0 xa1 xa2, .slice ya0 ya1 ya2, .slice za0 za1 za2, .slice ta0 ta1 ta2, .slice xb0 xb1 xb2, .slice yb0 yb1 yb2, .slice zb0 zb1 zb2, .slice tb0 tb1 tb2, .slice f10 f11 f12, .slice f20 f21 f22, .slice f30 f31 f32, .slice f40 f41 f42]) := (HbA.out.trans (hB5.mono (by show w4.heap.size ≤ _; omega))).trans (hbt.below (by show w4.heap.size ≤ _; have := hB5.size; omega) (Nat.le_refl _))
      go_wp2_with fail
      go_meet
      exact ⟨_, w4.heap.size, f10, f20, f30, f40, f11, f12, f21, f22, f31, f32, f41, f42, rfl, rfl, by omega, HS4.out.below hbw, setRow_heap _ _ _ _ _ _ HA5.out, (m1.but hbt (by omega)).mq (by omega) (Or.inl (by omega)), (m2.but hbt (by omega)).mq (by omega) (Or.inl (by omega)), (m3.but hbt (by omega)).mq (by omega) (Or.inl (by omega)), (m4.but hbt (by omega)).mq (by omega) (Or.inl (by omega))⟩
  case rest =>
    obtain ⟨w', g, f10, f20, f30, f40, f11, f12, f21, f22, f31, f32, f41, f42, rfl, rfl, hg, HX⟩ := hcut
    have HF7 : Hid (Fm w w' [(68, [.slice xa0 xa1 xa2, .slice ya0 ya1 ya2, .slice za0 za1 za2, .slice ta0 ta1 ta2]), (68, [.slice xb0 xb1 xb2, .slice yb0 yb1 yb2, .slice zb0 zb1 zb2, .slice tb0 tb1 tb2]), (68, [.slice none 0 0, .slice none 0 0, .slice none 0 0, .slice none 0 0])] [(.slice a0 a1 a2, A, 1024), (.slice c0 c1 c2, B, 1024)] []) := HF3.out.below HX.out.1.bel
    have C1 := vbits _ A _ _ (HF7.out.arg 0 (okb rfl)).1 (by decide)
    have C2 := vbits _ B _ _ (HF7.out.arg 1 (okb rfl)).1 (by decide)
    obtain ⟨ba, Hba⟩ : ∃ z, Hid (z = ((bl A : Nat) : Int)) := ⟨_, rfl⟩
    obtain ⟨bb, Hbb⟩ : ∃ z, Hid (z = ((bl B : Nat) : Int)) := ⟨_, rfl⟩
    rw [← Hba.out] at C1
    rw [← Hbb.out] at C2
    go_upto_region 3 with fail
    go_cut [11] from 23 to 27 (fun sl wx => sl = .int .i64 (D : Int) ∧ wx = w')
    case first =>
      go_wp2_with fail
      refine C1.mono ?_
      rintro e w8 ⟨rfl, rfl⟩
      go_wp2_with fail
      refine C2.mono ?_
      rintro e w8 ⟨rfl, rfl⟩
      clear C1 C2
      go_wp2_with fail
      all_goals (go_meet; refine ⟨?_, rfl⟩; congr 1; have q1 := Hba.out; have q2 := Hbb.out; have q3 := HD.out; omega)
    case rest =>
      obtain ⟨rfl, rfl⟩ := hcut
      clear C1 C2
      have hDb : D ≤ 1024 := by
        have e1 := bl_pw HA.out.1 (by decide)
        have e2 := bl_pw HA.out.2 (by decide)
        rw [HD.out]; omega
      have HZA : Hid (A / 2 ^ D = 0 ∧ B / 2 ^ D = 0) := ⟨bl_div (by rw [HD.out]; omega), bl_div (by rw [HD.out]; omega)⟩
      go_wp2
      go_loopw [29] (fun sl wr => ∃ (w' : World) (i : Nat) (s10 s20 s30 s40 : Option Addr) (s11 s12 s21 s22 s31 s32 s41 s42 : Nat), w' = wr ∧ sl = .int .i64 (i : Int) ∧ i ≤ D ∧ Hid ((Fm w3 w' [(68, [.slice s10 s11 s12, .slice s20 s21 s22, .slice s30 s31 s32, .slice s40 s41 s42])] [] []) ∧ Bl 98 w' g [.slice i10 i11 i12, .slice i20 i21 i22, .slice i30 i31 i32, .slice i40 i41 i42, .slice xa0 xa1 xa2, .slice ya0 ya1 ya2, .slice za0 za1 za2, .slice ta0 ta1 ta2, .slice xb0 xb1 xb2, .slice yb0 yb1 yb2, .slice zb0 zb1 zb2, .slice tb0 tb1 tb2, .slice f10 f11 f12, .slice f20 f21 f22, .slice f30 f31 f32, .slice f40 f41 f42] ∧ (Qq w' (w.heap.size + 3) w3.heap.size (.slice f10 f11 f12) (.slice f20 f21 f22) (.slice f30 f31 f32) (.slice f40 f41 f42) (pq eP eD r s)) ∧ (Qq w' (w.heap.size + 3) w3.heap.size (.slice s10 s11 s12) (.slice s20 s21 s22) (.slice s30 s31 s32) (.slice s40 s41 s42) (lsum r s D A B i)))) (fun sl _ => D - (intOf sl).toNat)
      case atStart =>
        exact ⟨_, 0, i10, i20, i30, i40, i11, i12, i21, i22, i31, i32, i41, i42, rfl, rfl, Nat.zero_le _, HX.out.1, HX.out.2.1, HX.out.2.2, HMi.out.below HX.out.1.bel⟩
      case round =>
        clear HX
        obtain ⟨w', i, s10, s20, s30, s40, s11, s12, s21, s22, s31, s32, s41, s42, rfl, rfl, hi, HI⟩ := hrel
        by_cases hlt : i < D
        · obtain ⟨j, Hj⟩ : ∃ j, Hid (D = i + j + 1) := ⟨D - i - 1, (by omega : D = i + (D - i - 1) + 1)⟩
          have hat : (D : Int) - 1 - (i : Int) = (j : Int) := by have := Hj.out; omega
          have hHF : Hid (Fm w w' [(68, [.slice xa0 xa1 xa2, .slice ya0 ya1 ya2, .slice za0 za1 za2, .slice ta0 ta1 ta2]), (68, [.slice xb0 xb1 xb2, .slice yb0 yb1 yb2, .slice zb0 zb1 zb2, .slice tb0 tb1 tb2]), (68, [.slice none 0 0, .slice none 0 0, .slice none 0 0, .slice none 0 0])] [(.slice a0 a1 a2, A, 1024), (.slice c0 c1 c2, B, 1024)] []) := HF3.out.below HI.out.1.bel
          have hsx := HI.out.1.sz
          rw [List.length_singleton] at hsx
          have k0 : w'.cell? ⟨w3.heap.size, 0, none⟩ = some (.slice s10 s11 s12) := HI.out.1.cell 0 0 (okb rfl) (okb rfl)
          have k1 : w'.cell? ⟨w3.heap.size, 1, none⟩ = some (.slice s20 s21 s22) := HI.out.1.cell 0 1 (okb rfl) (okb rfl)
          have k2 : w'.cell? ⟨w3.heap.size, 2, none⟩ = some (.slice s30 s31 s32) := HI.out.1.cell 0 2 (okb rfl) (okb rfl)
          have k3 : w'.cell? ⟨w3.heap.size, 3, none⟩ = some (.slice s40 s41 s42) := HI.out.1.cell 0 3 (okb rfl) (okb rfl)
          go_wp2_with fail
          clear k0 k1 k2 k3
          refine (plus_v _ _ (lsum r s D A B i) (lsum r s D A B i) _ (HT.out.below hHF.out.bel (Nat.le_refl _)) HI.out.2.2.2.q4 HI.out.2.2.2.q4).mono ?_
          rintro e w9 ⟨q9, rfl, hm9, hB9⟩
          have HF9 : Hid (Fm w w9 [(68, [.slice xa0 xa1 xa2, .slice ya0 ya1 ya2, .slice za0 za1 za2, .slice ta0 ta1 ta2]), (68, [.slice xb0 xb1 xb2, .slice yb0 yb1 yb2, .slice zb0 zb1 zb2, .slice tb0 tb1 tb2]), (68, [.slice none 0 0, .slice none 0 0, .slice none 0 0, .slice none 0 0])] [(.slice a0 a1 a2, A, 1024), (.slice c0 c1 c2, B, 1024)] []) := hHF.out.below hB9
          have HS9 : Hid (Fm w3 w9 [(68, [.slice s10 s11 s12, .slice s20 s21 s22, .slice s30 s31 s32, .slice s40 s41 s42])] [] []) := HI.out.1.below hB9
          have HA9 : Hid (Bl 98 w9 g [.slice i10 i11 i12, .slice i20 i21 i22, .slice i30 i31 i32, .slice i40 i41 i42, .slice xa0 xa1 xa2, .slice ya0 ya1 ya2, .slice za0 za1 za2, .slice ta0 ta1 ta2, .slice xb0 xb1 xb2, .slice yb0 yb1 yb2, .slice zb0 zb1 zb2, .slice tb0 tb1 tb2, .slice f10 f11 f12, .slice f20 f21 f22, .slice f30 f31 f32, .slice f40 f41 f42]) := HI.out.2.1.below hB9 HI.out.2.1.lt
          have HQ9 : Hid (Qq w9 (w.heap.size + 3) w3.heap.size (.slice f10 f11 f12) (.slice f20 f21 f22) (.slice f30 f31 f32) (.slice f40 f41 f42) (pq eP eD r s)) := HI.out.2.2.1.below hB9
          obtain ⟨y1, y2, y3, y4, rfl, m1, m2, m3, m4⟩ := hm9
          obtain ⟨r10, r11, r12, rfl⟩ := m1.nk.sl
          obtain ⟨r20, r21, r22, rfl⟩ := m2.nk.sl
          obtain ⟨r30, r31, r32, rfl⟩ := m3.nk.sl
          obtain ⟨r40, r41, r42, rfl⟩ := m4.nk.sl
          have k0 : w9.cell? ⟨w3.heap.size, 0, none⟩ = some (.slice s10 s11 s12) := HS9.out.cell 0 0 (okb rfl) (okb rfl)
          have k1 : w9.cell? ⟨w3.heap.size, 1, none⟩ = some (.slice s20 s21 s22) := HS9.out.cell 0 1 (okb rfl) (okb rfl)
          have k2 : w9.cell? ⟨w3.heap.size, 2, none⟩ = some (.slice s30 s31 s32) := HS9.out.cell 0 2 (okb rfl) (okb rfl)
          have k3 : w9.cell? ⟨w3.heap.size, 3, none⟩ = some (.slice s40 s41 s42) := HS9.out.cell 0 3 (okb rfl) (okb rfl)
          have l0 : w9.frozen? ⟨w3.heap.size, 0, none⟩ = false := HS9.out.frozen 0 0 (okb rfl)
          have l1 : w9.frozen? ⟨w3.heap.size, 1, none⟩ = false := HS9.out.frozen 0 1 (okb rfl)
          have l2 : w9.frozen? ⟨w3.heap.size, 2, none⟩ = false := HS9.out.frozen 0 2 (okb rfl)
          have l3 : w9.frozen? ⟨w3.heap.size, 3, none⟩ = false := HS9.out.frozen 0 3 (okb rfl)
          have hbx : But w9 ((((w9.setCell ⟨w3.heap.size, 0, none⟩ (.slice r10 r11 r12)).setCell ⟨w3.heap.size, 1, none⟩ (.slice r20 r21 r22)).setCell ⟨w3.heap.size, 2, none⟩ (.slice r30 r31 r32)).setCell ⟨w3.heap.size, 3, none⟩ (.slice r40 r41 r42)) w3.heap.size := ((((But.refl w9 w3.heap.size).set 0 (.slice r10 r11 r12)).set 1 (.slice r20 r21 r22)).set 2 (.slice r30 r31 r32)).set 3 (.slice r40 r41 r42)
          have HSx : Hid (Fm w3 ((((w9.setCell ⟨w3.heap.size, 0, none⟩ (.slice r10 r11 r12)).setCell ⟨w3.heap.size, 1, none⟩ (.slice r20 r21 r22)).setCell ⟨w3.heap.size, 2, none⟩ (.slice r30 r31 r32)).setCell ⟨w3.heap.size, 3, none⟩ (.slice r40 r41 r42)) [(68, [.slice r10 r11 r12, .slice r20 r21 r22, .slice r30 r31 r32, .slice r40 r41 r42])] [] []) := HS9.out.put4 (.slice r10 r11 r12) (.slice r20 r21 r22) (.slice r30 r31 r32) (.slice r40 r41 r42) rfl
          have HFx : Hid (Fm w ((((w9.setCell ⟨w3.heap.size, 0, none⟩ (.slice r10 r11 r12)).setCell ⟨w3.heap.size, 1, none⟩ (.slice r20 r21 r22)).setCell ⟨w3.heap.size, 2, none⟩ (.slice r30 r31 r32)).setCell ⟨w3.heap.size, 3, none⟩ (.slice r40 r41 r42)) [(68, [.slice xa0 xa1 xa2, .slice ya0 ya1 ya2, .slice za0 za1 za2, .slice ta0 ta1 ta2]), (68, [.slice xb0 xb1 xb2, .slice yb0 yb1 yb2, .slice zb0 zb1 zb2, .slice tb0 tb1 tb2]), (68, [.slice none 0 0, .slice none 0 0, .slice none 0 0, .slice none 0 0])] [(.slice a0 a1 a2, A, 1024), (.slice c0 c1 c2, B, 1024)] []) := HF3.out.below HSx.out.bel
          have HAx : Hid (Bl 98 ((((w9.setCell ⟨w3.heap.size, 0, none⟩ (.slice r10 r11 r12)).setCell ⟨w3.heap.size, 1, none⟩ (.slice r20 r21 r22)).setCell ⟨w3.heap.size, 2, none⟩ (.slice r30 r31 r32)).setCell ⟨w3.heap.size, 3, none⟩ (.slice r40 r41 r42)) g [.slice i10 i11 i12, .slice i20 i21 i22, .slice i30 i31 i32, .slice i40 i41 i42, .slice xa0 xa1 xa2, .slice ya0 ya1 ya2, .slice za0 za1 za2, .slice ta0 ta1 ta2, .slice xb0 xb1 xb2, .slice yb0 yb1 yb2, .slice zb0 zb1 zb2, .slice tb0 tb1 tb2, .slice f10 f11 f12, .slice f20 f21 f22, .slice f30 f31 f32, .slice f40 f41 f42]) := HA9.out.but hbx (by omega)
          have HQx : Hid (Qq ((((w9.setCell ⟨w3.heap.size, 0, none⟩ (.slice r10 r11 r12)).setCell ⟨w3.heap.size, 1, none⟩ (.slice r20 r21 r22)).setCell ⟨w3.heap.size, 2, none⟩ (.slice r30 r31 r32)).setCell ⟨w3.heap.size, 3, none⟩ (.slice r40 r41 r42)) (w.heap.size + 3) w3.heap.size (.slice f10 f11 f12) (.slice f20 f21 f22) (.slice f30 f31 f32) (.slice f40 f41 f42) (pq eP eD r s)) := HQ9.out.but hbx
          have HNx : Hid (Qq ((((w9.setCell ⟨w3.heap.size, 0, none⟩ (.slice r10 r11 r12)).setCell ⟨w3.heap.size, 1, none⟩ (.slice r20 r21 r22)).setCell ⟨w3.heap.size, 2, none⟩ (.slice r30 r31 r32)).setCell ⟨w3.heap.size, 3, none⟩ (.slice r40 r41 r42)) (w.heap.size + 3) w3.heap.size (.slice r10 r11 r12) (.slice r20 r21 r22) (.slice r30 r31 r32) (.slice r40 r41 r42) (pq eP eD (lsum r s D A B i) (lsum r s D A B i))) := ⟨(m1.mq (by skip; omega) (Or.inl (by skip; omega))).but hbx, (m2.mq (by skip; omega) (Or.inl (by skip; omega))).but hbx, (m3.mq (by skip; omega) (Or.inl (by skip; omega))).but hbx, (m4.mq (by skip; omega) (Or.inl (by skip; omega))).but hbx⟩
          clear m1 m2 m3 m4 hbx HF9 HS9 HA9 HQ9 hB9
          have hw0 : IntKind.i64.wrap 0 = 0 := by first | rfl | decide | (rw [IntKind.wrap_i64]; decide)
          have hw1 : IntKind.i64.wrap 1 = 1 := by first | rfl | decide | (rw [IntKind.wrap_i64]; decide)
          have hw2 : IntKind.i64.wrap 2 = 2 := by first | rfl | decide | (rw [IntKind.wrap_i64]; decide)
          have hw3 : IntKind.i64.wrap 3 = 3 := by first | rfl | decide | (rw [IntKind.wrap_i64]; decide)
          have hjb : j ≤ 1000000 := by have := Hj.out; omega
          by_cases hda : A / 2 ^ j % 2 = 1
          · by_cases hdb : B / 2 ^ j % 2 = 1
            · go_wp2_with fail
              clear k0 k1 k2 k3 l0 l1 l2 l3
              generalize ((((w9.setCell ⟨w3.heap.size, 0, none⟩ (.slice r10 r11 r12)).setCell ⟨w3.heap.size, 1, none⟩ (.slice r20 r21 r22)).setCell ⟨w3.heap.size, 2, none⟩ (.slice r30 r31 r32)).setCell ⟨w3.heap.size, 3, none⟩ (.slice r40 r41 r42)) = wx at *
              refine (edigit_1 _ A j _ (HFx.out.arg 0 (okb rfl)).1 hda hjb).mono ?_
              rintro e wx ⟨rfl, rfl⟩
              go_wp2_with fail
              refine (edigit_1 _ B j _ (HFx.out.arg 1 (okb rfl)).1 hdb hjb).mono ?_
              rintro e wx ⟨rfl, rfl⟩
              go_wp2_with fail
              have hszx : w3.heap.size < wx.heap.size := by have := HSx.out.sz; rw [List.length_singleton] at this; omega
              refine wp_region_K 5 (fun (w9 : World) => w9.cell? ⟨w3.heap.size, 0, none⟩ = some (.slice r10 r11 r12) ∧ w9.cell? ⟨w3.heap.size, 1, none⟩ = some (.slice r20 r21 r22) ∧ w9.cell? ⟨w3.heap.size, 2, none⟩ = some (.slice r30 r31 r32) ∧ w9.cell? ⟨w3.heap.size, 3, none⟩ = some (.slice r40 r41 r42) ∧ w9.cell? ⟨g, 12, none⟩ = some (.slice f10 f11 f12) ∧ w9.cell? ⟨g, 13, none⟩ = some (.slice f20 f21 f22) ∧ w9.cell? ⟨g, 14, none⟩ = some (.slice f30 f31 f32) ∧ w9.cell? ⟨g, 15, none⟩ = some (.slice f40 f41 f42)) (by kernel_rfl) ?_
              have hHeld : ((fun (w9 : World) => w9.cell? ⟨w3.heap.size, 0, none⟩ = some (.slice r10 r11 r12) ∧ w9.cell? ⟨w3.heap.size, 1, none⟩ = some (.slice r20 r21 r22) ∧ w9.cell? ⟨w3.heap.size, 2, none⟩ = some (.slice r30 r31 r32) ∧ w9.cell? ⟨w3.heap.size, 3, none⟩ = some (.slice r40 r41 r42) ∧ w9.cell? ⟨g, 12, none⟩ = some (.slice f10 f11 f12) ∧ w9.cell? ⟨g, 13, none⟩ = some (.slice f20 f21 f22) ∧ w9.cell? ⟨g, 14, none⟩ = some (.slice f30 f31 f32) ∧ w9.cell? ⟨g, 15, none⟩ = some (.slice f40 f41 f42))) (World.drew _) := ⟨HSx.out.cell 0 0 (okb rfl) (okb rfl), HSx.out.cell 0 1 (okb rfl) (okb rfl), HSx.out.cell 0 2 (okb rfl) (okb rfl), HSx.out.cell 0 3 (okb rfl) (okb rfl), HAx.out.cell 12 (by simp), HAx.out.cell 13 (by simp), HAx.out.cell 14 (by simp), HAx.out.cell 15 (by simp)⟩
              refine wpAnyK_take 0 [4, 5] (v := ?v14) rfl (by kernel_rfl) (fun _ _ _ h => h) (Or.inl ⟨by rfl, ?hy14⟩) hHeld ?_
              case hy14 => (intro w hSw; (try dsimp only at hSw); go_simp; try with_reducible rfl)
              try simp only [Act.put, List.setIfInBounds_toArray, List.set_cons_zero, List.set_cons_succ]
              refine wpAnyK_take0 1 (v := ?v15) rfl (by kernel_rfl) (fun _ _ _ h => h) (Or.inl ⟨by rfl, ?hy15⟩) (fun _ => hHeld) ?_
              case hy15 => (intro w hSw; go_simp; try with_reducible rfl)
              try simp only [Act.put, List.setIfInBounds_toArray, List.set_cons_zero, List.set_cons_succ]
              refine wpAnyK_take0 2 (v := ?v16) rfl (by kernel_rfl) (fun _ _ _ h => h) (Or.inl ⟨by rfl, ?hy16⟩) (fun _ => hHeld) ?_
              case hy16 => (intro w hSw; go_simp; try with_reducible rfl)
              try simp only [Act.put, List.setIfInBounds_toArray, List.set_cons_zero, List.set_cons_succ]
              refine wpAnyK_take 3 [4, 5] (v := ?v17) rfl (by kernel_rfl) (fun _ _ _ h => h) (Or.inl ⟨by rfl, ?hy17⟩) hHeld ?_
              case hy17 => (intro w hSw; (try dsimp only at hSw); go_simp; try with_reducible rfl)
              try simp only [Act.put, List.setIfInBounds_toArray, List.set_cons_zero, List.set_cons_succ]
              refine wpAnyK_step 4 rfl (by kernel_rfl) (fun K hK => ?_)
              go_simp
              have hF := HFx.out.drew
              have hS := HSx.out.drew
              refine (plus_v _ _ (pq eP eD (lsum r s D A B i) (lsum r s D A B i)) (pq eP eD r s) _ (HT.out.below hF.bel (Nat.le_refl _)) (show Q4 (World.drew _) _ _ from HNx.out.q4) (show Q4 (World.drew _) _ _ from HQx.out.q4)).mono ?_
              rintro e w11 ⟨q11, rfl, hm11, hB⟩
              have HF11 : Hid (Fm w w11 [(68, [.slice xa0 xa1 xa2, .slice ya0 ya1 ya2, .slice za0 za1 za2, .slice ta0 ta1 ta2]), (68, [.slice xb0 xb1 xb2, .slice yb0 yb1 yb2, .slice zb0 zb1 zb2, .slice tb0 tb1 tb2]), (68, [.slice none 0 0, .slice none 0 0, .slice none 0 0, .slice none 0 0])] [(.slice a0 a1 a2, A, 1024), (.slice c0 c1 c2, B, 1024)] []) := hF.below hB
              have HS11 : Hid (Fm w3 w11 [(68, [.slice r10 r11 r12, .slice r20 r21 r22, .slice r30 r31 r32, .slice r40 r41 r42])] [] []) := hS.below hB
              have HA11 : Hid (Bl 98 w11 g [.slice i10 i11 i12, .slice i20 i21 i22, .slice i30 i31 i32, .slice i40 i41 i42, .slice xa0 xa1 xa2, .slice ya0 ya1 ya2, .slice za0 za1 za2, .slice ta0 ta1 ta2, .slice xb0 xb1 xb2, .slice yb0 yb1 yb2, .slice zb0 zb1 zb2, .slice tb0 tb1 tb2, .slice f10 f11 f12, .slice f20 f21 f22, .slice f30 f31 f32, .slice f40 f41 f42]) := (HAx.out.drewN 1).below hB HAx.out.lt
              have HQ11 : Hid (Qq w11 (w.heap.size + 3) w3.heap.size (.slice f10 f11 f12) (.slice f20 f21 f22) (.slice f30 f31 f32) (.slice f40 f41 f42) (pq eP eD r s)) := (show Qq (World.drew _) (w.heap.size + 3) w3.heap.size (.slice f10 f11 f12) (.slice f20 f21 f22) (.slice f30 f31 f32) (.slice f40 f41 f42) (pq eP eD r s) from HQx.out).below hB
              have HT11 : Hid (Qm w11 _ q11 _) := hm11
              have hsz : wx.heap.size ≤ w11.heap.size := hB.size
              clear hB hm11 hF hS
              try dsimp only
              refine hK.out _ _ ?hk18 ?_
              case hk18 => exact fun _ => ⟨HS11.out.cell 0 0 (okb rfl) (okb rfl), HS11.out.cell 0 1 (okb rfl) (okb rfl), HS11.out.cell 0 2 (okb rfl) (okb rfl), HS11.out.cell 0 3 (okb rfl) (okb rfl), HA11.out.cell 12 (by simp), HA11.out.cell 13 (by simp), HA11.out.cell 14 (by simp), HA11.out.cell 15 (by simp)⟩
              have hHeld : ((fun (w9 : World) => w9.cell? ⟨w3.heap.size, 0, none⟩ = some (.slice r10 r11 r12) ∧ w9.cell? ⟨w3.heap.size, 1, none⟩ = some (.slice r20 r21 r22) ∧ w9.cell? ⟨w3.heap.size, 2, none⟩ = some (.slice r30 r31 r32) ∧ w9.cell? ⟨w3.heap.size, 3, none⟩ = some (.slice r40 r41 r42) ∧ w9.cell? ⟨g, 12, none⟩ = some (.slice f10 f11 f12) ∧ w9.cell? ⟨g, 13, none⟩ = some (.slice f20 f21 f22) ∧ w9.cell? ⟨g, 14, none⟩ = some (.slice f30 f31 f32) ∧ w9.cell? ⟨g, 15, none⟩ = some (.slice f40 f41 f42))) _ := ⟨HS11.out.cell 0 0 (okb rfl) (okb rfl), HS11.out.cell 0 1 (okb rfl) (okb rfl), HS11.out.cell 0 2 (okb rfl) (okb rfl), HS11.out.cell 0 3 (okb rfl) (okb rfl), HA11.out.cell 12 (by simp), HA11.out.cell 13 (by simp), HA11.out.cell 14 (by simp), HA11.out.cell 15 (by simp)⟩
              clear hK K
              try simp only [Act.put, List.setIfInBounds_toArray, List.set_cons_zero, List.set_cons_succ]
              obtain ⟨y1, y2, y3, y4, rfl, m1, m2, m3, m4⟩ := HT11.out
              obtain ⟨u10, u11, u12, rfl⟩ := m1.nk.sl
              obtain ⟨u20, u21, u22, rfl⟩ := m2.nk.sl
              obtain ⟨u30, u31, u32, rfl⟩ := m3.nk.sl
              obtain ⟨u40, u41, u42, rfl⟩ := m4.nk.sl
              have k0 : w11.cell? ⟨w3.heap.size, 0, none⟩ = some (.slice r10 r11 r12) := HS11.out.cell 0 0 (okb rfl) (okb rfl)
              have k1 : w11.cell? ⟨w3.heap.size, 1, none⟩ = some (.slice r20 r21 r22) := HS11.out.cell 0 1 (okb rfl) (okb rfl)
              have k2 : w11.cell? ⟨w3.heap.size, 2, none⟩ = some (.slice r30 r31 r32) := HS11.out.cell 0 2 (okb rfl) (okb rfl)
              have k3 : w11.cell? ⟨w3.heap.size, 3, none⟩ = some (.slice r40 r41 r42) := HS11.out.cell 0 3 (okb rfl) (okb rfl)
              have l0 : w11.frozen? ⟨w3.heap.size, 0, none⟩ = false := HS11.out.frozen 0 0 (okb rfl)
              have l1 : w11.frozen? ⟨w3.heap.size, 1, none⟩ = false := HS11.out.frozen 0 1 (okb rfl)
              have l2 : w11.frozen? ⟨w3.heap.size, 2, none⟩ = false := HS11.out.frozen 0 2 (okb rfl)
              have l3 : w11.frozen? ⟨w3.heap.size, 3, none⟩ = false := HS11.out.frozen 0 3 (okb rfl)
              refine wpAnyK_step 5 rfl (by kernel_rfl) (fun K hK => ?_)
              go_simp
              refine hK.out _ _ ?hk20 ?_
              case hk20 => exact (fun h => nomatch (h.symm.trans (show _ = true by kernel_rfl)))
              clear hK K
              try simp only [Act.put, List.setIfInBounds_toArray, List.set_cons_zero, List.set_cons_succ]
              refine wpAnyK_done (by kernel_rfl) ?_ _
              have hby : But w11 ((((w11.setCell ⟨w3.heap.size, 0, none⟩ (.slice u10 u11 u12)).setCell ⟨w3.heap.size, 1, none⟩ (.slice u20 u21 u22)).setCell ⟨w3.heap.size, 2, none⟩ (.slice u30 u31 u32)).setCell ⟨w3.heap.size, 3, none⟩ (.slice u40 u41 u42)) w3.heap.size := ((((But.refl w11 w3.heap.size).set 0 (.slice u10 u11 u12)).set 1 (.slice u20 u21 u22)).set 2 (.slice u30 u31 u32)).set 3 (.slice u40 u41 u42)
              have HSy : Hid (Fm w3 ((((w11.setCell ⟨w3.heap.size, 0, none⟩ (.slice u10 u11 u12)).setCell ⟨w3.heap.size, 1, none⟩ (.slice u20 u21 u22)).setCell ⟨w3.heap.size, 2, none⟩ (.slice u30 u31 u32)).setCell ⟨w3.heap.size, 3, none⟩ (.slice u40 u41 u42)) [(68, [.slice u10 u11 u12, .slice u20 u21 u22, .slice u30 u31 u32, .slice u40 u41 u42])] [] []) := HS11.out.put4 (.slice u10 u11 u12) (.slice u20 u21 u22) (.slice u30 u31 u32) (.slice u40 u41 u42) rfl
              have HFy : Hid (Fm w ((((w11.setCell ⟨w3.heap.size, 0, none⟩ (.slice u10 u11 u12)).setCell ⟨w3.heap.size, 1, none⟩ (.slice u20 u21 u22)).setCell ⟨w3.heap.size, 2, none⟩ (.slice u30 u31 u32)).setCell ⟨w3.heap.size, 3, none⟩ (.slice u40 u41 u42)) [(68, [.slice xa0 xa1 xa2, .slice ya0 ya1 ya2, .slice za0 za1 za2, .slice ta0 ta1 ta2]), (68, [.slice xb0 xb1 xb2, .slice yb0 yb1 yb2, .slice zb0 zb1 zb2, .slice tb0 tb1 tb2]), (68, [.slice none 0 0, .slice none 0 0, .slice none 0 0, .slice none 0 0])] [(.slice a0 a1 a2, A, 1024), (.slice c0 c1 c2, B, 1024)] []) := HF3.out.below HSy.out.bel
              have HAy : Hid (Bl 98 ((((w11.setCell ⟨w3.heap.size, 0, none⟩ (.slice u10 u11 u12)).setCell ⟨w3.heap.size, 1, none⟩ (.slice u20 u21 u22)).setCell ⟨w3.heap.size, 2, none⟩ (.slice u30 u31 u32)).setCell ⟨w3.heap.size, 3, none⟩ (.slice u40 u41 u42)) g [.slice i10 i11 i12, .slice i20 i21 i22, .slice i30 i31 i32, .slice i40 i41 i42, .slice xa0 xa1 xa2, .slice ya0 ya1 ya2, .slice za0 za1 za2, .slice ta0 ta1 ta2, .slice xb0 xb1 xb2, .slice yb0 yb1 yb2, .slice zb0 zb1 zb2, .slice tb0 tb1 tb2, .slice f10 f11 f12, .slice f20 f21 f22, .slice f30 f31 f32, .slice f40 f41 f42]) := HA11.out.but hby (by omega)
              have HQy : Hid (Qq ((((w11.setCell ⟨w3.heap.size, 0, none⟩ (.slice u10 u11 u12)).setCell ⟨w3.heap.size, 1, none⟩ (.slice u20 u21 u22)).setCell ⟨w3.heap.size, 2, none⟩ (.slice u30 u31 u32)).setCell ⟨w3.heap.size, 3, none⟩ (.slice u40 u41 u42)) (w.heap.size + 3) w3.heap.size (.slice f10 f11 f12) (.slice f20 f21 f22) (.slice f30 f31 f32) (.slice f40 f41 f42) (pq eP eD r s)) := HQ11.out.but hby
              have HNy : Hid (Qq ((((w11.setCell ⟨w3.heap.size, 0, none⟩ (.slice u10 u11 u12)).setCell ⟨w3.heap.size, 1, none⟩ (.slice u20 u21 u22)).setCell ⟨w3.heap.size, 2, none⟩ (.slice u30 u31 u32)).setCell ⟨w3.heap.size, 3, none⟩ (.slice u40 u41 u42)) (w.heap.size + 3) w3.heap.size (.slice u10 u11 u12) (.slice u20 u21 u22) (.slice u30 u31 u32) (.slice u40 u41 u42) (pq eP eD (pq eP eD (lsum r s D A B i) (lsum r s D A B i)) (pq eP eD r s))) := ⟨(m1.mq (by show _ ≤ wx.heap.size; omega) (Or.inl (by show _ < wx.heap.size; omega))).but hby, (m2.mq (by show _ ≤ wx.heap.size; omega) (Or.inl (by show _ < wx.heap.size; omega))).but hby, (m3.mq (by show _ ≤ wx.heap.size; omega) (Or.inl (by show _ < wx.heap.size; omega))).but hby, (m4.mq (by show _ ≤ wx.heap.size; omega) (Or.inl (by show _ < wx.heap.size; omega))).but hby⟩
              clear m1 m2 m3 m4 HT11
              go_wp2
              refine ⟨⟨_, i + 1, u10, u20, u30, u40, u11, u12, u21, u22, u31, u32, u41, u42, rfl, by go_num, by omega, HSy.out, HAy.out, HQy.out, ?_⟩, by simp [intOf]; omega⟩
              rw [lsum_step r s Hj.out 1 1 hda hdb]
              exact HNy.out
            · go_wp2_with fail
              clear k0 k1 k2 k3 l0 l1 l2 l3
              generalize ((((w9.setCell ⟨w3.heap.size, 0, none⟩ (.slice r10 r11 r12)).setCell ⟨w3.heap.size, 1, none⟩ (.slice r20 r21 r22)).setCell ⟨w3.heap.size, 2, none⟩ (.slice r30 r31 r32)).setCell ⟨w3.heap.size, 3, none⟩ (.slice r40 r41 r42)) = wx at *
              refine (edigit_1 _ A j _ (HFx.out.arg 0 (okb rfl)).1 hda hjb).mono ?_
              rintro e wx ⟨rfl, rfl⟩
              go_wp2_with fail
              refine (edigit_0 _ B j _ (HFx.out.arg 1 (okb rfl)).1 hdb hjb).mono ?_
              rintro e wx ⟨rfl, rfl⟩
              go_wp2_with fail
              have hszx : w3.heap.size < wx.heap.size := by have := HSx.out.sz; rw [List.length_singleton] at this; omega
              refine wp_region_K 5 (fun (w9 : World) => w9.cell? ⟨w3.heap.size, 0, none⟩ = some (.slice r10 r11 r12) ∧ w9.cell? ⟨w3.heap.size, 1, none⟩ = some (.slice r20 r21 r22) ∧ w9.cell? ⟨w3.heap.size, 2, none⟩ = some (.slice r30 r31 r32) ∧ w9.cell? ⟨w3.heap.size, 3, none⟩ = some (.slice r40 r41 r42) ∧ w9.cell? ⟨g, 4, none⟩ = some (.slice xa0 xa1 xa2) ∧ w9.cell? ⟨g, 5, none⟩ = some (.slice ya0 ya1 ya2) ∧ w9.cell? ⟨g, 6, none⟩ = some (.slice za0 za1 za2) ∧ w9.cell? ⟨g, 7, none⟩ = some (.slice ta0 ta1 ta2)) (by kernel_rfl) ?_
              have hHeld : ((fun (w9 : World) => w9.cell? ⟨w3.heap.size, 0, none⟩ = some (.slice r10 r11 r12) ∧ w9.cell? ⟨w3.heap.size, 1, none⟩ = some (.slice r20 r21 r22) ∧ w9.cell? ⟨w3.heap.size, 2, none⟩ = some (.slice r30 r31 r32) ∧ w9.cell? ⟨w3.heap.size, 3, none⟩ = some (.slice r40 r41 r42) ∧ w9.cell? ⟨g, 4, none⟩ = some (.slice xa0 xa1 xa2) ∧ w9.cell? ⟨g, 5, none⟩ = some (.slice ya0 ya1 ya2) ∧ w9.cell? ⟨g, 6, none⟩ = some (.slice za0 za1 za2) ∧ w9.cell? ⟨g, 7, none⟩ = some (.slice ta0 ta1 ta2))) (World.drew _) := ⟨HSx.out.cell 0 0 (okb rfl) (okb rfl), HSx.out.cell 0 1 (okb rfl) (okb rfl), HSx.out.cell 0 2 (okb rfl) (okb rfl), HSx.out.cell 0 3 (okb rfl) (okb rfl), HAx.out.cell 4 (by simp), HAx.out.cell 5 (by simp), HAx.out.cell 6 (by simp), HAx.out.cell 7 (by simp)⟩
              refine wpAnyK_take 0 [4, 5] (v := ?v21) rfl (by kernel_rfl) (fun _ _ _ h => h) (Or.inl ⟨by rfl, ?hy21⟩) hHeld ?_
              case hy21 => (intro w hSw; (try dsimp only at hSw); go_simp; try with_reducible rfl)
              try simp only [Act.put, List.setIfInBounds_toArray, List.set_cons_zero, List.set_cons_succ]
              refine wpAnyK_take0 1 (v := ?v22) rfl (by kernel_rfl) (fun _ _ _ h => h) (Or.inl ⟨by rfl, ?hy22⟩) (fun _ => hHeld) ?_
              case hy22 => (intro w hSw; go_simp; try with_reducible rfl)
              try simp only [Act.put, List.setIfInBounds_toArray, List.set_cons_zero, List.set_cons_succ]
              refine wpAnyK_take0 2 (v := ?v23) rfl (by kernel_rfl) (fun _ _ _ h => h) (Or.inl ⟨by rfl, ?hy23⟩) (fun _ => hHeld) ?_
              case hy23 => (intro w hSw; go_simp; try with_reducible rfl)
              try simp only [Act.put, List.setIfInBounds_toArray, List.set_cons_zero, List.set_cons_succ]
              refine wpAnyK_take 3 [4, 5] (v := ?v24) rfl (by kernel_rfl) (fun _ _ _ h => h) (Or.inl ⟨by rfl, ?hy24⟩) hHeld ?_
              case hy24 => (intro w hSw; (try dsimp only at hSw); go_simp; try with_reducible rfl)
              try simp only [Act.put, List.setIfInBounds_toArray, List.set_cons_zero, List.set_cons_succ]
              refine wpAnyK_step 4 rfl (by kernel_rfl) (fun K hK => ?_)
              go_simp
              have hF := HFx.out.drew
              have hS := HSx.out.drew
              refine (plus_v _ _ (pq eP eD (lsum r s D A B i) (lsum r s D A B i)) r _ (HT.out.below hF.bel (Nat.le_refl _)) (show Q4 (World.drew _) _ _ from HNx.out.q4) (HR.out.1.below hF.bel (Nat.le_refl _))).mono ?_
              rintro e w11 ⟨q11, rfl, hm11, hB⟩
              have HF11 : Hid (Fm w w11 [(68, [.slice xa0 xa1 xa2, .slice ya0 ya1 ya2, .slice za0 za1 za2, .slice ta0 ta1 ta2]), (68, [.slice xb0 xb1 xb2, .slice yb0 yb1 yb2, .slice zb0 zb1 zb2, .slice tb0 tb1 tb2]), (68, [.slice none 0 0, .slice none 0 0, .slice none 0 0, .slice none 0 0])] [(.slice a0 a1 a2, A, 1024), (.slice c0 c1 c2, B, 1024)] []) := hF.below hB
              have HS11 : Hid (Fm w3 w11 [(68, [.slice r10 r11 r12, .slice r20 r21 r22, .slice r30 r31 r32, .slice r40 r41 r42])] [] []) := hS.below hB
              have HA11 : Hid (Bl 98 w11 g [.slice i10 i11 i12, .slice i20 i21 i22, .slice i30 i31 i32, .slice i40 i41 i42, .slice xa0 xa1 xa2, .slice ya0 ya1 ya2, .slice za0 za1 za2, .slice ta0 ta1 ta2, .slice xb0 xb1 xb2, .slice yb0 yb1 yb2, .slice zb0 zb1 zb2, .slice tb0 tb1 tb2, .slice f10 f11 f12, .slice f20 f21 f22, .slice f30 f31 f32, .slice f40 f41 f42]) := (HAx.out.drewN 1).below hB HAx.out.lt
              have HQ11 : Hid (Qq w11 (w.heap.size + 3) w3.heap.size (.slice f10 f11 f12) (.slice f20 f21 f22) (.slice f30 f31 f32) (.slice f40 f41 f42) (pq eP eD r s)) := (show Qq (World.drew _) (w.heap.size + 3) w3.heap.size (.slice f10 f11 f12) (.slice f20 f21 f22) (.slice f30 f31 f32) (.slice f40 f41 f42) (pq eP eD r s) from HQx.out).below hB
              have HT11 : Hid (Qm w11 _ q11 _) := hm11
              have hsz : wx.heap.size ≤ w11.heap.size := hB.size
              clear hB hm11 hF hS
              try dsimp only
              refine hK.out _ _ ?hk25 ?_
              case hk25 => exact fun _ => ⟨HS11.out.cell 0 0 (okb rfl) (okb rfl), HS11.out.cell 0 1 (okb rfl) (okb rfl), HS11.out.cell 0 2 (okb rfl) (okb rfl), HS11.out.cell 0 3 (okb rfl) (okb rfl), HA11.out.cell 4 (by simp), HA11.out.cell 5 (by simp), HA11.out.cell 6 (by simp), HA11.out.cell 7 (by simp)⟩
              have hHeld : ((fun (w9 : World) => w9.cell? ⟨w3.heap.size, 0, none⟩ = some (.slice r10 r11 r12) ∧ w9.cell? ⟨w3.heap.size, 1, none⟩ = some (.slice r20 r21 r22) ∧ w9.cell? ⟨w3.heap.size, 2, none⟩ = some (.slice r30 r31 r32) ∧ w9.cell? ⟨w3.heap.size, 3, none⟩ = some (.slice r40 r41 r42) ∧ w9.cell? ⟨g, 4, none⟩ = some (.slice xa0 xa1 xa2) ∧ w9.cell? ⟨g, 5, none⟩ = some (.slice ya0 ya1 ya2) ∧ w9.cell? ⟨g, 6, none⟩ = some (.slice za0 za1 za2) ∧ w9.cell? ⟨g, 7, none⟩ = some (.slice ta0 ta1 ta2))) _ := ⟨HS11.out.cell 0 0 (okb rfl) (okb rfl), HS11.out.cell 0 1 (okb rfl) (okb rfl), HS11.out.cell 0 2 (okb rfl) (okb rfl), HS11.out.cell 0 3 (okb rfl) (okb rfl), HA11.out.cell 4 (by simp), HA11.out.cell 5 (by simp), HA11.out.cell 6 (by simp), HA11.out.cell 7 (by simp)⟩
              clear hK K
              try simp only [Act.put, List.setIfInBounds_toArray, List.set_cons_zero, List.set_cons_succ]
              obtain ⟨y1, y2, y3, y4, rfl, m1, m2, m3, m4⟩ := HT11.out
              obtain ⟨u10, u11, u12, rfl⟩ := m1.nk.sl
              obtain ⟨u20, u21, u22, rfl⟩ := m2.nk.sl
              obtain ⟨u30, u31, u32, rfl⟩ := m3.nk.sl
              obtain ⟨u40, u41, u42, rfl⟩ := m4.nk.sl
              have k0 : w11.cell? ⟨w3.heap.size, 0, none⟩ = some (.slice r10 r11 r12) := HS11.out.cell 0 0 (okb rfl) (okb rfl)
              have k1 : w11.cell? ⟨w3.heap.size, 1, none⟩ = some (.slice r20 r21 r22) := HS11.out.cell 0 1 (okb rfl) (okb rfl)
              have k2 : w11.cell? ⟨w3.heap.size, 2, none⟩ = some (.slice r30 r31 r32) := HS11.out.cell 0 2 (okb rfl) (okb rfl)
              have k3 : w11.cell? ⟨w3.heap.size, 3, none⟩ = some (.slice r40 r41 r42) := HS11.out.cell 0 3 (okb rfl) (okb rfl)
              have l0 : w11.frozen? ⟨w3.heap.size, 0, none⟩ = false := HS11.out.frozen 0 0 (okb rfl)
              have l1 : w11.frozen? ⟨w3.heap.size, 1, none⟩ = false := HS11.out.frozen 0 1 (okb rfl)
              have l2 : w11.frozen? ⟨w3.heap.size, 2, none⟩ = false := HS11.out.frozen 0 2 (okb rfl)
              have l3 : w11.frozen? ⟨w3.heap.size, 3, none⟩ = false := HS11.out.frozen 0 3 (okb rfl)
              refine wpAnyK_step 5 rfl (by kernel_rfl) (fun K hK => ?_)
              go_simp
              refine hK.out _ _ ?hk27 ?_
              case hk27 => exact (fun h => nomatch (h.symm.trans (show _ = true by kernel_rfl)))
              clear hK K
              try simp only [Act.put, List.setIfInBounds_toArray, List.set_cons_zero, List.set_cons_succ]
              refine wpAnyK_done (by kernel_rfl) ?_ _
              have hby : But w11 ((((w11.setCell ⟨w3.heap.size, 0, none⟩ (.slice u10 u11 u12)).setCell ⟨w3.heap.size, 1, none⟩ (.slice u20 u21 u22)).setCell ⟨w3.heap.size, 2, none⟩ (.slice u30 u31 u32)).setCell ⟨w3.heap.size, 3, none⟩ (.slice u40 u41 u42)) w3.heap.size := ((((But.refl w11 w3.heap.size).set 0 (.slice u10 u11 u12)).set 1 (.slice u20 u21 u22)).set 2 (.slice u30 u31 u32)).set 3 (.slice u40 u41 u42)
              have HSy : Hid (Fm w3 ((((w11.setCell ⟨w3.heap.size, 0, none⟩ (.slice u10 u11 u12)).setCell ⟨w3.heap.size, 1, none⟩ (.slice u20 u21 u22)).setCell ⟨w3.heap.size, 2, none⟩ (.slice u30 u31 u32)).setCell ⟨w3.heap.size, 3, none⟩ (.slice u40 u41 u42)) [(68, [.slice u10 u11 u12, .slice u20 u21 u22, .slice u30 u31 u32, .slice u40 u41 u42])] [] []) := HS11.out.put4 (.slice u10 u11 u12) (.slice u20 u21 u22) (.slice u30 u31 u32) (.slice u40 u41 u42) rfl
              have HFy : Hid (Fm w ((((w11.setCell ⟨w3.heap.size, 0, none⟩ (.slice u10 u11 u12)).setCell ⟨w3.heap.size, 1, none⟩ (.slice u20 u21 u22)).setCell ⟨w3.heap.size, 2, none⟩ (.slice u30 u31 u32)).setCell ⟨w3.heap.size, 3, none⟩ (.slice u40 u41 u42)) [(68, [.slice xa0 xa1 xa2, .slice ya0 ya1 ya2, .slice za0 za1 za2, .slice ta0 ta1 ta2]), (68, [.slice xb0 xb1 xb2, .slice yb0 yb1 yb2, .slice zb0 zb1 zb2, .slice tb0 tb1 tb2]), (68, [.slice none 0 0, .slice none 0 0, .slice none 0 0, .slice none 0 0])] [(.slice a0 a1 a2, A, 1024), (.slice c0 c1 c2, B, 1024)] []) := HF3.out.below HSy.out.bel
              have HAy : Hid (Bl 98 ((((w11.setCell ⟨w3.heap.size, 0, none⟩ (.slice u10 u11 u12)).setCell ⟨w3.heap.size, 1, none⟩ (.slice u20 u21 u22)).setCell ⟨w3.heap.size, 2, none⟩ (.slice u30 u31 u32)).setCell ⟨w3.heap.size, 3, none⟩ (.slice u40 u41 u42)) g [.slice i10 i11 i12, .slice i20 i21 i22, .slice i30 i31 i32, .slice i40 i41 i42, .slice xa0 xa1 xa2, .slice ya0 ya1 ya2, .slice za0 za1 za2, .slice ta0 ta1 ta2, .slice xb0 xb1 xb2, .slice yb0 yb1 yb2, .slice zb0 zb1 zb2, .slice tb0 tb1 tb2, .slice f10 f11 f12, .slice f20 f21 f22, .slice f30 f31 f32, .slice f40 f41 f42]) := HA11.out.but hby (by omega)
              have HQy : Hid (Qq ((((w11.setCell ⟨w3.heap.size, 0, none⟩ (.slice u10 u11 u12)).setCell ⟨w3.heap.size, 1, none⟩ (.slice u20 u21 u22)).setCell ⟨w3.heap.size, 2, none⟩ (.slice u30 u31 u32)).setCell ⟨w3.heap.size, 3, none⟩ (.slice u40 u41 u42)) (w.heap.size + 3) w3.heap.size (.slice f10 f11 f12) (.slice f20 f21 f22) (.slice f30 f31 f32) (.slice f40 f41 f42) (pq eP eD r s)) := HQ11.out.but hby
              have HNy : Hid (Qq ((((w11.setCell ⟨w3.heap.size, 0, none⟩ (.slice u10 u11 u12)).setCell ⟨w3.heap.size, 1, none⟩ (.slice u20 u21 u22)).setCell ⟨w3.heap.size, 2, none⟩ (.slice u30 u31 u32)).setCell ⟨w3.heap.size, 3, none⟩ (.slice u40 u41 u42)) (w.heap.size + 3) w3.heap.size (.slice u10 u11 u12) (.slice u20 u21 u22) (.slice u30 u31 u32) (.slice u40 u41 u42) (pq eP eD (pq eP eD (lsum r s D A B i) (lsum r s D A B i)) r)) := ⟨(m1.mq (by show _ ≤ wx.heap.size; omega) (Or.inl (by show _ < wx.heap.size; omega))).but hby, (m2.mq (by show _ ≤ wx.heap.size; omega) (Or.inl (by show _ < wx.heap.size; omega))).but hby, (m3.mq (by show _ ≤ wx.heap.size; omega) (Or.inl (by show _ < wx.heap.size; omega))).but hby, (m4.mq (by show _ ≤ wx.heap.size; omega) (Or.inl (by show _ < wx.heap.size; omega))).but hby⟩
              clear m1 m2 m3 m4 HT11
              go_wp2
              refine ⟨⟨_, i + 1, u10, u20, u30, u40, u11, u12, u21, u22, u31, u32, u41, u42, rfl, by go_num, by omega, HSy.out, HAy.out, HQy.out, ?_⟩, by simp [intOf]; omega⟩
              rw [lsum_step r s Hj.out 1 0 hda (mod2 _ hdb)]
              exact HNy.out
          · by_cases hdb : B / 2 ^ j % 2 = 1
            · go_wp2_with fail
              clear k0 k1 k2 k3 l0 l1 l2 l3
              generalize ((((w9.setCell ⟨w3.heap.size, 0, none⟩ (.slice r10 r11 r12)).setCell ⟨w3.heap.size, 1, none⟩ (.slice r20 r21 r22)).setCell ⟨w3.heap.size, 2, none⟩ (.slice r30 r31 r32)).setCell ⟨w3.heap.size, 3, none⟩ (.slice r40 r41 r42)) = wx at *
              refine (edigit_0 _ A j _ (HFx.out.arg 0 (okb rfl)).1 hda hjb).mono ?_
              rintro e wx ⟨rfl, rfl⟩
              go_wp2_with fail
              refine (edigit_1 _ B j _ (HFx.out.arg 1 (okb rfl)).1 hdb hjb).mono ?_
              rintro e wx ⟨rfl, rfl⟩
              go_wp2_with fail
              have hszx : w3.heap.size < wx.heap.size := by have := HSx.out.sz; rw [List.length_singleton] at this; omega
              refine wp_region_K 5 (fun (w9 : World) => w9.cell? ⟨w3.heap.size, 0, none⟩ = some (.slice r10 r11 r12) ∧ w9.cell? ⟨w3.heap.size, 1, none⟩ = some (.slice r20 r21 r22) ∧ w9.cell? ⟨w3.heap.size, 2, none⟩ = some (.slice r30 r31 r32) ∧ w9.cell? ⟨w3.heap.size, 3, none⟩ = some (.slice r40 r41 r42) ∧ w9.cell? ⟨g, 8, none⟩ = some (.slice xb0 xb1 xb2) ∧ w9.cell? ⟨g, 9, none⟩ = some (.slice yb0 yb1 yb2) ∧ w9.cell? ⟨g, 10, none⟩ = some (.slice zb0 zb1 zb2) ∧ w9.cell? ⟨g, 11, none⟩ = some (.slice tb0 tb1 tb2)) (by kernel_rfl) ?_
              have hHeld : ((fun (w9 : World) => w9.cell? ⟨w3.heap.size, 0, none⟩ = some (.slice r10 r11 r12) ∧ w9.cell? ⟨w3.heap.size, 1, none⟩ = some (.slice r20 r21 r22) ∧ w9.cell? ⟨w3.heap.size, 2, none⟩ = some (.slice r30 r31 r32) ∧ w9.cell? ⟨w3.heap.size, 3, none⟩ = some (.slice r40 r41 r42) ∧ w9.cell? ⟨g, 8, none⟩ = some (.slice xb0 xb1 xb2) ∧ w9.cell? ⟨g, 9, none⟩ = some (.slice yb0 yb1 yb2) ∧ w9.cell? ⟨g, 10, none⟩ = some (.slice zb0 zb1 zb2) ∧ w9.cell? ⟨g, 11, none⟩ = some (.slice tb0 tb1 tb2))) (World.drew _) := ⟨HSx.out.cell 0 0 (okb rfl) (okb rfl), HSx.out.cell 0 1 (okb rfl) (okb rfl), HSx.out.cell 0 2 (okb rfl) (okb rfl), HSx.out.cell 0 3 (okb rfl) (okb rfl), HAx.out.cell 8 (by simp), HAx.out.cell 9 (by simp), HAx.out.cell 10 (by simp), HAx.out.cell 11 (by simp)⟩
              refine wpAnyK_take 0 [4, 5] (v := ?v28) rfl (by kernel_rfl) (fun _ _ _ h => h) (Or.inl ⟨by rfl, ?hy28⟩) hHeld ?_
              case hy28 => (intro w hSw; (try dsimp only at hSw); go_simp; try with_reducible rfl)
              try simp only [Act.put, List.setIfInBounds_toArray, List.set_cons_zero, List.set_cons_succ]
              refine wpAnyK_take0 1 (v := ?v29) rfl (by kernel_rfl) (fun _ _ _ h => h) (Or.inl ⟨by rfl, ?hy29⟩) (fun _ => hHeld) ?_
              case hy29 => (intro w hSw; go_simp; try with_reducible rfl)
              try simp only [Act.put, List.setIfInBounds_toArray, List.set_cons_zero, List.set_cons_succ]
              refine wpAnyK_take0 2 (v := ?v30) rfl (by kernel_rfl) (fun _ _ _ h => h) (Or.inl ⟨by rfl, ?hy30⟩) (fun _ => hHeld) ?_
              case hy30 => (intro w hSw; go_simp; try with_reducible rfl)
              try simp only [Act.put, List.setIfInBounds_toArray, List.set_cons_zero, List.set_cons_succ]
              refine wpAnyK_take 3 [4, 5] (v := ?v31) rfl (by kernel_rfl) (fun _ _ _ h => h) (Or.inl ⟨by rfl, ?hy31⟩) hHeld ?_
              case hy31 => (intro w hSw; (try dsimp only at hSw); go_simp; try with_reducible rfl)
              try simp only [Act.put, List.setIfInBounds_toArray, List.set_cons_zero, List.set_cons_succ]
              refine wpAnyK_step 4 rfl (by kernel_rfl) (fun K hK => ?_)
              go_simp
              have hF := HFx.out.drew
              have hS := HSx.out.drew
              refine (plus_v _ _ (pq eP eD (lsum r s D A B i) (lsum r s D A B i)) s _ (HT.out.below hF.bel (Nat.le_refl _)) (show Q4 (World.drew _) _ _ from HNx.out.q4) (HR.out.2.below hF.bel (Nat.le_refl _))).mono ?_
              rintro e w11 ⟨q11, rfl, hm11, hB⟩
              have HF11 : Hid (Fm w w11 [(68, [.slice xa0 xa1 xa2, .slice ya0 ya1 ya2, .slice za0 za1 za2, .slice ta0 ta1 ta2]), (68, [.slice xb0 xb1 xb2, .slice yb0 yb1 yb2, .slice zb0 zb1 zb2, .slice tb0 tb1 tb2]), (68, [.slice none 0 0, .slice none 0 0, .slice none 0 0, .slice none 0 0])] [(.slice a0 a1 a2, A, 1024), (.slice c0 c1 c2, B, 1024)] []) := hF.below hB
              have HS11 : Hid (Fm w3 w11 [(68, [.slice r10 r11 r12, .slice r20 r21 r22, .slice r30 r31 r32, .slice r40 r41 r42])] [] []) := hS.below hB
              have HA11 : Hid (Bl 98 w11 g [.slice i10 i11 i12, .slice i20 i21 i22, .slice i30 i31 i32, .slice i40 i41 i42, .slice xa0 xa1 xa2, .slice ya0 ya1 ya2, .slice za0 za1 za2, .slice ta0 ta1 ta2, .slice xb0 xb1 xb2, .slice yb0 yb1 yb2, .slice zb0 zb1 zb2, .slice tb0 tb1 tb2, .slice f10 f11 f12, .slice f20 f21 f22, .slice f30 f31 f32, .slice f40 f41 f42]) := (HAx.out.drewN 1).below hB HAx.out.lt
              have HQ11 : Hid (Qq w11 (w.heap.size + 3) w3.heap.size (.slice f10 f11 f12) (.slice f20 f21 f22) (.slice f30 f31 f32) (.slice f40 f41 f42) (pq eP eD r s)) := (show Qq (World.drew _) (w.heap.size + 3) w3.heap.size (.slice f10 f11 f12) (.slice f20 f21 f22) (.slice f30 f31 f32) (.slice f40 f41 f42) (pq eP eD r s) from HQx.out).below hB
              have HT11 : Hid (Qm w11 _ q11 _) := hm11
              have hsz : wx.heap.size ≤ w11.heap.size := hB.size
              clear hB hm11 hF hS
              try dsimp only
              refine hK.out _ _ ?hk32 ?_
              case hk32 => exact fun _ => ⟨HS11.out.cell 0 0 (okb rfl) (okb rfl), HS11.out.cell 0 1 (okb rfl) (okb rfl), HS11.out.cell 0 2 (okb rfl) (okb rfl), HS11.out.cell 0 3 (okb rfl) (okb rfl), HA11.out.cell 8 (by simp), HA11.out.cell 9 (by simp), HA11.out.cell 10 (by simp), HA11.out.cell 11 (by simp)⟩
              have hHeld : ((fun (w9 : World) => w9.cell? ⟨w3.heap.size, 0, none⟩ = some (.slice r10 r11 r12) ∧ w9.cell? ⟨w3.heap.size, 1, none⟩ = some (.slice r20 r21 r22) ∧ w9.cell? ⟨w3.heap.size, 2, none⟩ = some (.slice r30 r31 r32) ∧ w9.cell? ⟨w3.heap.size, 3, none⟩ = some (.slice r40 r41 r42) ∧ w9.cell? ⟨g, 8, none⟩ = some (.slice xb0 xb1 xb2) ∧ w9.cell? ⟨g, 9, none⟩ = some (.slice yb0 yb1 yb2) ∧ w9.cell? ⟨g, 10, none⟩ = some (.slice zb0 zb1 zb2) ∧ w9.cell? ⟨g, 11, none⟩ = some (.slice tb0 tb1 tb2))) _ := ⟨HS11.out.cell 0 0 (okb rfl) (okb rfl), HS11.out.cell 0 1 (okb rfl) (okb rfl), HS11.out.cell 0 2 (okb rfl) (okb rfl), HS11.out.cell 0 3 (okb rfl) (okb rfl), HA11.out.cell 8 (by simp), HA11.out.cell 9 (by simp), HA11.out.cell 10 (by simp), HA11.out.cell 11 (by simp)⟩
              clear hK K
              try simp only [Act.put, List.setIfInBounds_toArray, List.set_cons_zero, List.set_cons_succ]
              obtain ⟨y1, y2, y3, y4, rfl, m1, m2, m3, m4⟩ := HT11.out
              obtain ⟨u10, u11, u12, rfl⟩ := m1.nk.sl
              obtain ⟨u20, u21, u22, rfl⟩ := m2.nk.sl
              obtain ⟨u30, u31, u32, rfl⟩ := m3.nk.sl
              obtain ⟨u40, u41, u42, rfl⟩ := m4.nk.sl
              have k0 : w11.cell? ⟨w3.heap.size, 0, none⟩ = some (.slice r10 r11 r12) := HS11.out.cell 0 0 (okb rfl) (okb rfl)
              have k1 : w11.cell? ⟨w3.heap.size, 1, none⟩ = some (.slice r20 r21 r22) := HS11.out.cell 0 1 (okb rfl) (okb rfl)
              have k2 : w11.cell? ⟨w3.heap.size, 2, none⟩ = some (.slice r30 r31 r32) := HS11.out.cell 0 2 (okb rfl) (okb rfl)
              have k3 : w11.cell? ⟨w3.heap.size, 3, none⟩ = some (.slice r40 r41 r42) := HS11.out.cell 0 3 (okb rfl) (okb rfl)
              have l0 : w11.frozen? ⟨w3.heap.size, 0, none⟩ = false := HS11.out.frozen 0 0 (okb rfl)
              have l1 : w11.frozen? ⟨w3.heap.size, 1, none⟩ = false := HS11.out.frozen 0 1 (okb rfl)
              have l2 : w11.frozen? ⟨w3.heap.size, 2, none⟩ = false := HS11.out.frozen 0 2 (okb rfl)
              have l3 : w11.frozen? ⟨w3.heap.size, 3, none⟩ = false := HS11.out.frozen 0 3 (okb rfl)
              refine wpAnyK_step 5 rfl (by kernel_rfl) (fun K hK => ?_)
              go_simp
              refine hK.out _ _ ?hk34 ?_
              case hk34 => exact (fun h => nomatch (h.symm.trans (show _ = true by kernel_rfl)))
              clear hK K
              try simp only [Act.put, List.setIfInBounds_toArray, List.set_cons_zero, List.set_cons_succ]
              refine wpAnyK_done (by kernel_rfl) ?_ _
              have hby : But w11 ((((w11.setCell ⟨w3.heap.size, 0, none⟩ (.slice u10 u11 u12)).setCell ⟨w3.heap.size, 1, none⟩ (.slice u20 u21 u22)).setCell ⟨w3.heap.size, 2, none⟩ (.slice u30 u31 u32)).setCell ⟨w3.heap.size, 3, none⟩ (.slice u40 u41 u42)) w3.heap.size := ((((But.refl w11 w3.heap.size).set 0 (.slice u10 u11 u12)).set 1 (.slice u20 u21 u22)).set 2 (.slice u30 u31 u32)).set 3 (.slice u40 u41 u42)
              have HSy : Hid (Fm w3 ((((w11.setCell ⟨w3.heap.size, 0, none⟩ (.slice u10 u11 u12)).setCell ⟨w3.heap.size, 1, none⟩ (.slice u20 u21 u22)).setCell ⟨w3.heap.size, 2, none⟩ (.slice u30 u31 u32)).setCell ⟨w3.heap.size, 3, none⟩ (.slice u40 u41 u42)) [(68, [.slice u10 u11 u12, .slice u20 u21 u22, .slice u30 u31 u32, .slice u40 u41 u42])] [] []) := HS11.out.put4 (.slice u10 u11 u12) (.slice u20 u21 u22) (.slice u30 u31 u32) (.slice u40 u41 u42) rfl
              have HFy : Hid (Fm w ((((w11.setCell ⟨w3.heap.size, 0, none⟩ (.slice u10 u11 u12)).setCell ⟨w3.heap.size, 1, none⟩ (.slice u20 u21 u22)).setCell ⟨w3.heap.size, 2, none⟩ (.slice u30 u31 u32)).setCell ⟨w3.heap.size, 3, none⟩ (.slice u40 u41 u42)) [(68, [.slice xa0 xa1 xa2, .slice ya0 ya1 ya2, .slice za0 za1 za2, .slice ta0 ta1 ta2]), (68, [.slice xb0 xb1 xb2, .slice yb0 yb1 yb2, .slice zb0 zb1 zb2, .slice tb0 tb1 tb2]), (68, [.slice none 0 0, .slice none 0 0, .slice none 0 0, .slice none 0 0])] [(.slice a0 a1 a2, A, 1024), (.slice c0 c1 c2, B, 1024)] []) := HF3.out.below HSy.out.bel
              have HAy : Hid (Bl 98 ((((w11.setCell ⟨w3.heap.size, 0, none⟩ (.slice u10 u11 u12)).setCell ⟨w3.heap.size, 1, none⟩ (.slice u20 u21 u22)).setCell ⟨w3.heap.size, 2, none⟩ (.slice u30 u31 u32)).setCell ⟨w3.heap.size, 3, none⟩ (.slice u40 u41 u42)) g [.slice i10 i11 i12, .slice i20 i21 i22, .slice i30 i31 i32, .slice i40 i41 i42, .slice xa0 xa1 xa2, .slice ya0 ya1 ya2, .slice za0 za1 za2, .slice ta0 ta1 ta2, .slice xb0 xb1 xb2, .slice yb0 yb1 yb2, .slice zb0 zb1 zb2, .slice tb0 tb1 tb2, .slice f10 f11 f12, .slice f20 f21 f22, .slice f30 f31 f32, .slice f40 f41 f42]) := HA11.out.but hby (by omega)
              have HQy : Hid (Qq ((((w11.setCell ⟨w3.heap.size, 0, none⟩ (.slice u10 u11 u12)).setCell ⟨w3.heap.size, 1, none⟩ (.slice u20 u21 u22)).setCell ⟨w3.heap.size, 2, none⟩ (.slice u30 u31 u32)).setCell ⟨w3.heap.size, 3, none⟩ (.slice u40 u41 u42)) (w.heap.size + 3) w3.heap.size (.slice f10 f11 f12) (.slice f20 f21 f22) (.slice f30 f31 f32) (.slice f40 f41 f42) (pq eP eD r s)) := HQ11.out.but hby
              have HNy : Hid (Qq ((((w11.setCell ⟨w3.heap.size, 0, none⟩ (.slice u10 u11 u12)).setCell ⟨w3.heap.size, 1, none⟩ (.slice u20 u21 u22)).setCell ⟨w3.heap.size, 2, none⟩ (.slice u30 u31 u32)).setCell ⟨w3.heap.size, 3, none⟩ (.slice u40 u41 u42)) (w.heap.size + 3) w3.heap.size (.slice u10 u11 u12) (.slice u20 u21 u22) (.slice u30 u31 u32) (.slice u40 u41 u42) (pq eP eD (pq eP eD (lsum r s D A B i) (lsum r s D A B i)) s)) := ⟨(m1.mq (by show _ ≤ wx.heap.size; omega) (Or.inl (by show _ < wx.heap.size; omega))).but hby, (m2.mq (by show _ ≤ wx.heap.size; omega) (Or.inl (by show _ < wx.heap.size; omega))).but hby, (m3.mq (by show _ ≤ wx.heap.size; omega) (Or.inl (by show _ < wx.heap.size; omega))).but hby, (m4.mq (by show _ ≤ wx.heap.size; omega) (Or.inl (by show _ < wx.heap.size; omega))).but hby⟩
              clear m1 m2 m3 m4 HT11
              go_wp2
              refine ⟨⟨_, i + 1, u10, u20, u30, u40, u11, u12, u21, u22, u31, u32, u41, u42, rfl, by go_num, by omega, HSy.out, HAy.out, HQy.out, ?_⟩, by simp [intOf]; omega⟩
              rw [lsum_step r s Hj.out 0 1 (mod2 _ hda) hdb]
              exact HNy.out
            · go_wp2_with fail
              clear k0 k1 k2 k3 l0 l1 l2 l3
              generalize ((((w9.setCell ⟨w3.heap.size, 0, none⟩ (.slice r10 r11 r12)).setCell ⟨w3.heap.size, 1, none⟩ (.slice r20 r21 r22)).setCell ⟨w3.heap.size, 2, none⟩ (.slice r30 r31 r32)).setCell ⟨w3.heap.size, 3, none⟩ (.slice r40 r41 r42)) = wx at *
              refine (edigit_0 _ A j _ (HFx.out.arg 0 (okb rfl)).1 hda hjb).mono ?_
              rintro e wx ⟨rfl, rfl⟩
              go_wp2_with fail
              refine (edigit_0 _ B j _ (HFx.out.arg 1 (okb rfl)).1 hdb hjb).mono ?_
              rintro e wx ⟨rfl, rfl⟩
              go_wp2
              refine ⟨⟨_, i + 1, r10, r20, r30, r40, r11, r12, r21, r22, r31, r32, r41, r42, rfl, by go_num, by omega, HSx.out, HAx.out, HQx.out, ?_⟩, by simp [intOf]; omega⟩
              rw [lsum_step r s Hj.out 0 0 (mod2 _ hda) (mod2 _ hdb)]
              exact HNx.out
        · obtain rfl : i = D := by omega
          have HFE : Hid (Fm w w' [(68, [.slice xa0 xa1 xa2, .slice ya0 ya1 ya2, .slice za0 za1 za2, .slice ta0 ta1 ta2]), (68, [.slice xb0 xb1 xb2, .slice yb0 yb1 yb2, .slice zb0 zb1 zb2, .slice tb0 tb1 tb2]), (68, [.slice none 0 0, .slice none 0 0, .slice none 0 0, .slice none 0 0])] [(.slice a0 a1 a2, A, 1024), (.slice c0 c1 c2, B, 1024)] []) := HF3.out.below HI.out.1.bel
          have k0 : w'.cell? ⟨w3.heap.size, 0, none⟩ = some (.slice s10 s11 s12) := HI.out.1.cell 0 0 (okb rfl) (okb rfl)
          have k1 : w'.cell? ⟨w3.heap.size, 1, none⟩ = some (.slice s20 s21 s22) := HI.out.1.cell 0 1 (okb rfl) (okb rfl)
          have k2 : w'.cell? ⟨w3.heap.size, 2, none⟩ = some (.slice s30 s31 s32) := HI.out.1.cell 0 2 (okb rfl) (okb rfl)
          have k3 : w'.cell? ⟨w3.heap.size, 3, none⟩ = some (.slice s40 s41 s42) := HI.out.1.cell 0 3 (okb rfl) (okb rfl)
          have m0 : w'.cell? ⟨w.heap.size + 2, 0, none⟩ = some (.slice none 0 0) := HFE.out.cell 2 0 (okb rfl) (okb rfl)
          have m1 : w'.cell? ⟨w.heap.size + 2, 1, none⟩ = some (.slice none 0 0) := HFE.out.cell 2 1 (okb rfl) (okb rfl)
          have m2 : w'.cell? ⟨w.heap.size + 2, 2, none⟩ = some (.slice none 0 0) := HFE.out.cell 2 2 (okb rfl) (okb rfl)
          have m3 : w'.cell? ⟨w.heap.size + 2, 3, none⟩ = some (.slice none 0 0) := HFE.out.cell 2 3 (okb rfl) (okb rfl)
          have l0 : w'.frozen? ⟨w.heap.size + 2, 0, none⟩ = false := HFE.out.frozen 2 0 (okb rfl)
          have l1 : w'.frozen? ⟨w.heap.size + 2, 1, none⟩ = false := HFE.out.frozen 2 1 (okb rfl)
          have l2 : w'.frozen? ⟨w.heap.size + 2, 2, none⟩ = false := HFE.out.frozen 2 2 (okb rfl)
          have l3 : w'.frozen? ⟨w.heap.size + 2, 3, none⟩ = false := HFE.out.frozen 2 3 (okb rfl)
          go_wp2
          (try simp only [Exit.inBlock, Exit.then])
          have hb := ((((But.refl w' (w.heap.size + 2)).set 0 (.slice s10 s11 s12)).set 1 (.slice s20 s21 s22)).set 2 (.slice s30 s31 s32)).set 3 (.slice s40 s41 s42)
          have hfin := HI.out.2.2.2
          unfold lsum at hfin
          rw [Nat.sub_self, Nat.pow_zero, Nat.div_one, Nat.div_one] at hfin
          refine bodyPost_ret (v := .agg #[.slice s10 s11 s12, .slice s20 s21 s22, .slice s30 s31 s32, .slice s40 s41 s42]) ?_ rfl ⟨_, rfl, ⟨_, _, _, _, rfl, ((hfin.1).mk.but hb (by omega)).base (by omega), ((hfin.2.1).mk.but hb (by omega)).base (by omega), ((hfin.2.2.1).mk.but hb (by omega)).base (by omega), ((hfin.2.2.2).mk.but hb (by omega)).base (by omega)⟩, HFE.out.outB 2 (by simp) hb⟩
          rw [results_cell rfl]; go_simp
end Go.Proofs.YtjpjepfmphlneaaGreatDoor
