import Derived.Test.YtgkbbcoagnilgaaSpell
import Derived.Test.YtgkbbcoagnilgaaSpread
namespace Go.Proofs.Ytgkbbcoagnilgaa
open Go.RowKit

theorem spreadL_len (b : Nat) : (spreadL b).length = 10 := by unfold spreadL; simp

theorem fM_lt (b : Nat) : fM b < 16777216 := by unfold fM; split <;> omega
theorem fP_le (b : Nat) (h : b < 2139095040) : fP b ≤ 264 := by unfold fP; split <;> omega

theorem spreadL_small (b : Nat) : smallL (spreadL b) := by
  unfold spreadL
  have h0 : smallL (List.replicate 10 0) := fun x hx => by rw [(List.mem_replicate.1 hx).2]; decide
  refine smallL_set (smallL_set h0 _ _ (Nat.mod_lt _ (by decide))) _ _ ?_
  have h1 := fM_lt b
  have h2 : 2 ^ (fP b % 32) ≤ 2 ^ 31 := Nat.pow_le_pow_right (by decide) (by omega)
  have h3 : fM b * 2 ^ (fP b % 32) ≤ 16777216 * 2 ^ 31 := Nat.mul_le_mul (by omega) h2
  generalize fM b * 2 ^ (fP b % 32) = X at h3 ⊢
  omega

theorem spreadL_top (b : Nat) (h : b < 2139095040) : (spreadL b).getD 9 0 = 0 := by
  unfold spreadL
  have h1 := fM_lt b
  have h2 := fP_le b h
  rw [List.getD_eq_getElem?_getD]
  by_cases h8 : fP b / 32 = 8
  · have h3 : 2 ^ (fP b % 32) ≤ 2 ^ 8 := Nat.pow_le_pow_right (by decide) (by omega)
    have h4 : fM b * 2 ^ (fP b % 32) < 16777216 * 2 ^ 8 := Nat.lt_of_lt_of_le (Nat.mul_lt_mul_of_pos_right h1 (Nat.pow_pos (by decide))) (Nat.mul_le_mul_left _ h3)
    rw [h8, List.getElem?_set_self (by simp)]
    simp only [Option.getD_some]
    exact Nat.div_eq_of_lt (by omega)
  · rw [List.getElem?_set_ne (by omega), List.getElem?_set_ne (by omega)]
    rfl

theorem spreadL_whole (b : Nat) (h : b < 2139095040) : wv 4294967296 5 (spreadL b) 5 < 10 ^ 39 := by
  have h1 : wv 4294967296 5 (spreadL b) 5 = (spreadL b).getD 9 0 * 4294967296 ^ 4 + wv 4294967296 5 (spreadL b) 4 := rfl
  have h2 := wv_lt 4294967296 5 (spreadL b) (spreadL_small b) (by decide) 4 (by rw [spreadL_len]; decide)
  rw [h1, spreadL_top b h, Nat.zero_mul, Nat.zero_add]
  exact Nat.lt_trans h2 (by decide)

theorem ten_of {xs : List Nat} (h : xs.length = 10) : ∃ a b c d e f g i j k, xs = [a, b, c, d, e, f, g, i, j, k] := by
  match xs, h with
  | [a, b, c, d, e, f, g, i, j, k], _ => exact ⟨a, b, c, d, e, f, g, i, j, k, rfl⟩

theorem conv_any (w : World) (base n : Nat) (v : Value) (l : List UInt8) (h : w.ownsRow base 5 1 v n (l.map Bv)) :
    (convert 25 9 v).run Try.prog w = .ok (.string ⟨l.toArray⟩) w := by
  have hl : l.length = n := by have := h.1; simpa using this
  rcases h.2 with ⟨rfl, rfl⟩ | ⟨g, cap, cur, rfl, _⟩
  · obtain rfl := List.eq_nil_of_length_eq_zero hl
    exact run_convert_bytes_nil w 25 5 Try.underlying25 Try.underlying5 0 0 9 Try.underlying9
  · subst hl
    refine run_convert_bytes_back w 25 9 5 ⟨g, 0, none⟩ cap l Try.underlying25 Try.underlying5 Try.underlying9 fun j hj => ?_
    exact h.cells (g := g) rfl j (Bv l[j]) (by simp [hj])

theorem fx_laid (w : World) (x0 x1 x2 x3 x4 x5 x6 x7 x8 x9 : Nat) :
    Fx (w.alloc (.cells #[.int .u32 x0, .int .u32 x1, .int .u32 x2, .int .u32 x3, .int .u32 x4, .int .u32 x5, .int .u32 x6, .int .u32 x7, .int .u32 x8, .int .u32 x9] 27)) w.heap.size [x0, x1, x2, x3, x4, x5, x6, x7, x8, x9] := ⟨27, heap_alloc_new w _⟩

theorem below_of_frm {B b : Nat} {w w' : World} (h : Frm B b w w') (hb : B ≤ b) : Below B w w' := ⟨h.1, h.2.1, h.2.2.1, h.2.2.2.1, fun k hk => h.2.2.2.2 k hk (by omega)⟩

/-- The exact text of a float32. -/
def exactT (b : Nat) : List UInt8 := if 2139095040 ≤ b % 2147483648 then [] else (if b < 2147483648 then [] else [45]) ++ spellT (spreadL (b % 2147483648))

set_option maxRecDepth 10000 in
set_option maxHeartbeats 1000000 in
theorem exact_inf (b s : Nat) (w : World) (he : Hid (exactT b = [])) (hbits : bits .andNot .u32 (b : Int) 2147483648 = (s : Int)) (hq : decide ((s : Int) ≥ 2139095040) = true) (_hq2 : decide ((2139095040 : Int) ≤ (s : Int)) = true) :
    Calls Try.prog 4 #[.int .u32 b] w fun e w' => e = .returned (.string ⟨(exactT b).toArray⟩) ∧ Below w.heap.size w w' := by
  go_enter Try.func4, Try.ntmps4
  go_wp2
  go_ret
  rw [he.out]
  exact ⟨rfl, Below.refl _ _⟩

set_option maxRecDepth 10000 in
set_option maxHeartbeats 1000000 in
theorem exact_plus (b s : Nat) (w : World) (he : Hid (exactT b = spellT (spreadL s))) (hbits : bits .andNot .u32 (b : Int) 2147483648 = (s : Int)) (hq : decide ((s : Int) ≥ 2139095040) = false) (_hq2 : decide ((2139095040 : Int) ≤ (s : Int)) = false) (hneq : (bne (b : Int) (s : Int)) = false) (_hneq2 : ((b : Int) == (s : Int)) = true) (Hsp : Hid (∀ W, Calls Try.prog 6 #[.int .u32 s] W fun e w' => e = .returned (.agg ((spreadL s).map U).toArray) ∧ Below W.heap.size W w')) (Hsm : Hid (smallL (spreadL s))) (Hwh : Hid (wv 4294967296 5 (spreadL s) 5 < 10 ^ 39)) (Hln : Hid ((spreadL s).length = 10)) :
    Calls Try.prog 4 #[.int .u32 b] w fun e w' => e = .returned (.string ⟨(exactT b).toArray⟩) ∧ Below w.heap.size w w' := by
  go_enter Try.func4, Try.ntmps4
  go_wp2_with fail
  refine (Hsp.out _).mono ?_
  rintro e w1 ⟨rfl, hb1⟩
  generalize spreadL s = xs at *
  obtain ⟨x0, x1, x2, x3, x4, x5, x6, x7, x8, x9, hxs⟩ := ten_of Hln.out
  subst hxs
  simp only [List.map_cons, List.map_nil, U]
  go_wp2_with fail
  have hF := fx_laid w1 x0 x1 x2 x3 x4 x5 x6 x7 x8 x9
  have hsp := fun h1 h2 => spell_any w1.heap.size w.heap.size 0 [x0, x1, x2, x3, x4, x5, x6, x7, x8, x9] (.slice none 0 0) [] _ h1 (World.ownsRow_nil _ _ _ _) (by decide) (fun e => by cases e) hF h2 rfl Hsm.out Hwh.out
  refine (hsp ?_ ?_).mono ?_
  · simp; exact Nat.le_succ_of_le hb1.size
  · simp
  rintro e w2 ⟨v, rfl, hown, hfrm⟩
  rw [List.nil_append] at hown
  have hcv := conv_any w2 _ _ _ _ hown
  go_wp2
  go_ret
  rw [he.out]
  have hw1 := hb1.size
  refine ⟨rfl, Below.trans ?_ (below_of_frm hfrm hw1)⟩
  (repeat' (first | with_reducible assumption | with_reducible exact Below.refl _ _ | with_reducible exact Nat.le_refl _ | with_reducible refine Below.setCell ?_ ?_ _ | with_reducible refine Below.alloc ?_ ?_ _ | with_reducible apply Below.drew | with_reducible apply below_drewN | omega | (simp; done) | (simp; omega)))

set_option maxRecDepth 10000 in
set_option maxHeartbeats 1000000 in
theorem exact_minus (b s : Nat) (w : World) (he : Hid (exactT b = [45] ++ spellT (spreadL s))) (hbits : bits .andNot .u32 (b : Int) 2147483648 = (s : Int)) (hq : decide ((s : Int) ≥ 2139095040) = false) (_hq2 : decide ((2139095040 : Int) ≤ (s : Int)) = false) (hneq : (bne (b : Int) (s : Int)) = true) (_hneq2 : ((b : Int) == (s : Int)) = false) (Hsp : Hid (∀ W, Calls Try.prog 6 #[.int .u32 s] W fun e w' => e = .returned (.agg ((spreadL s).map U).toArray) ∧ Below W.heap.size W w')) (Hsm : Hid (smallL (spreadL s))) (Hwh : Hid (wv 4294967296 5 (spreadL s) 5 < 10 ^ 39)) (Hln : Hid ((spreadL s).length = 10)) :
    Calls Try.prog 4 #[.int .u32 b] w fun e w' => e = .returned (.string ⟨(exactT b).toArray⟩) ∧ Below w.heap.size w w' := by
  obtain ⟨i0, hi, hz0, hz1, hz2⟩ := info_parts Try.infoB
  go_enter Try.func4, Try.ntmps4
  go_wp2_with (
    at_builtin
    refine wpList_append_own_wide _ rfl (.tmp 13) (.tmp 14) 25 rfl w.heap.size 5 i0 (.int .u8 0) 1 1 Try.underlying25 hi hz0 hz1 hz2 rfl (by decide) (.slice none 0 0) 0 [] rfl (World.ownsRow_nil _ _ _ _) ⟨w.heap.size, 0, none⟩ 1 1 [.int .u8 45] rfl rfl (by intro t u ht; match t, ht with | 0, ht => (simp at ht; subst ht; simp [Addr.add])) (by intro u hu; simp at hu; subst hu; rfl) (by unfold maxLen; omega) (by omega) (by simp) ?_
    intro v1 w0 hown0 hgrow0 _)
  have HO0 : Hid (w0.ownsRow w.heap.size 5 1 v1 1 ([(45 : UInt8)].map Bv)) := hown0
  have HB0 : Hid (Below w.heap.size w w0) := ((Below.refl _ w).alloc (Nat.le_refl _) _).grown hgrow0 (by rw [World.size_alloc]; omega) (fun k e => by cases e)
  have hs0 := HB0.out.size
  clear hown0 hgrow0
  go_wp2_with fail
  refine (Hsp.out _).mono ?_
  rintro e w1 ⟨rfl, hb1⟩
  generalize spreadL s = xs at *
  obtain ⟨x0, x1, x2, x3, x4, x5, x6, x7, x8, x9, hxs⟩ := ten_of Hln.out
  subst hxs
  have HO1 : Hid (w1.ownsRow w.heap.size 5 1 v1 1 ([(45 : UInt8)].map Bv)) := World.ownsRow.kept HO0.out (row := none) ⟨hb1.os, hb1.tape, hb1.output, hb1.size, fun k hk _ => hb1.block k hk⟩ (by
    rcases h : v1.ownBlock with _ | k
    · exact .inl rfl
    · exact .inr (by simp))
  have Hlt : Hid (∀ k, v1.ownBlock = some k → k < w1.heap.size) := fun k e => (World.ownsRow.lt HO1.out k e).2
  have hw1 : w.heap.size ≤ w1.heap.size := Nat.le_trans hs0 hb1.size
  have hb2 : Below w.heap.size w w1 := HB0.out.trans (hb1.mono hs0)
  simp only [List.map_cons, List.map_nil, U]
  go_wp2_with fail
  have hF := fx_laid w1 x0 x1 x2 x3 x4 x5 x6 x7 x8 x9
  have hsp := fun h1 h2 => spell_any w1.heap.size w.heap.size 1 [x0, x1, x2, x3, x4, x5, x6, x7, x8, x9] v1 [45] _ h1 (World.ownsRow.alloc HO1.out _) (by decide) (fun e => by have := Hlt.out _ e; omega) hF h2 rfl Hsm.out Hwh.out
  refine (hsp ?_ ?_).mono ?_
  · simp; exact Nat.le_succ_of_le hw1
  · simp
  rintro e w2 ⟨v, rfl, hown, hfrm⟩
  have hcv := conv_any w2 _ _ _ _ hown
  go_wp2
  go_ret
  rw [he.out]
  refine ⟨rfl, Below.trans ?_ (below_of_frm hfrm hw1)⟩
  (repeat' (first | with_reducible assumption | with_reducible exact Below.refl _ _ | with_reducible exact Nat.le_refl _ | with_reducible refine Below.setCell ?_ ?_ _ | with_reducible refine Below.alloc ?_ ?_ _ | with_reducible apply Below.drew | with_reducible apply below_drewN | omega | (simp; done) | (simp; omega)))

theorem exact_bits (b : Nat) (hb : b < 4294967296) : bits .andNot .u32 (b : Int) 2147483648 = ((b % 2147483648 : Nat) : Int) := by
  have e : (2147483648 : Int) = ((2147483648 : Nat) : Int) := rfl
  rw [e, u32_andNot_nat b 2147483648 hb (by decide), show (4294967295 - 2147483648 : Nat) = 2 ^ 31 - 1 from rfl, Nat.and_two_pow_sub_one_eq_mod]

theorem exact_any (b : Nat) (w : World) (hb : b < 4294967296) :
    Calls Try.prog 4 #[.int .u32 b] w fun e w' => e = .returned (.string ⟨(exactT b).toArray⟩) ∧ Below w.heap.size w w' := by
  have hbits := exact_bits b hb
  have he : exactT b = if 2139095040 ≤ b % 2147483648 then [] else (if b < 2147483648 then [] else [45]) ++ spellT (spreadL (b % 2147483648)) := rfl
  have hs : b % 2147483648 < 2147483648 := Nat.mod_lt _ (by decide)
  have hbs : b % 2147483648 = b ↔ b < 2147483648 := by omega
  generalize b % 2147483648 = s at hbits he hs hbs
  by_cases hinf : 2139095040 ≤ s
  · rw [if_pos hinf] at he
    exact exact_inf b s w he hbits (decide_eq_true (by omega)) (decide_eq_true (by omega))
  · rw [if_neg hinf] at he
    by_cases hsg : b < 2147483648
    · rw [if_pos hsg, List.nil_append] at he
      exact exact_plus b s w he hbits (decide_eq_false (by omega)) (decide_eq_false (by omega)) (by simp; omega) (by simp; omega) (fun W => spread_any s W (by omega)) (spreadL_small s) (spreadL_whole s (by omega)) (spreadL_len s)
    · rw [if_neg hsg] at he
      exact exact_minus b s w he hbits (decide_eq_false (by omega)) (decide_eq_false (by omega)) (by simp; omega) (by simp; omega) (fun W => spread_any s W (by omega)) (spreadL_small s) (spreadL_whole s (by omega)) (spreadL_len s)

end Go.Proofs.Ytgkbbcoagnilgaa
