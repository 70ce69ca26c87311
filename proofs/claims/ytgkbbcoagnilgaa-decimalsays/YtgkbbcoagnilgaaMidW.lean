import Derived.Test.YtgkbbcoagnilgaaNearsM
import Derived.Test.YtgkbbcoagnilgaaExact
namespace Go.Proofs.Ytgkbbcoagnilgaa
open Go.RowKit

theorem parts_sub (b : Nat) (w : World) (hb : b < 8388608) :
    Calls Try.prog 8 #[.int .u32 b] w fun e w' => e = .returned (.tuple #[.int .i64 (b : Int), .int .i64 (-149)]) ∧ w' = w := by
  have h1 : (b : Int) / 8388608 = 0 := by omega
  have h2 : bits .and .u32 (b : Int) 8388607 = (b : Int) := by
    have e : (8388607 : Int) = ((8388607 : Nat) : Int) := rfl
    rw [e, u32_and_nat b 8388607 (by omega) (by omega), show (8388607 : Nat) = 2 ^ 23 - 1 from rfl, Nat.and_two_pow_sub_one_eq_mod, Nat.mod_eq_of_lt (by omega)]
  have h3 : bits .and .u32 0 255 = 0 := by decide
  go_enter Try.func8, Try.ntmps8
  go_wp2
  go_ret2
  exact ⟨rfl, rfl⟩

theorem parts_nor (b x f : Nat) (w : World) (hx : (b : Int) / 8388608 = (x : Int)) (hx1 : 1 ≤ x) (hx2 : x ≤ 254) (hf : bits .and .u32 (b : Int) 8388607 = (f : Int)) (hf2 : f < 8388608) (_hb : b < 2139095040) :
    Calls Try.prog 8 #[.int .u32 b] w fun e w' => e = .returned (.tuple #[.int .i64 ((f : Int) + 8388608), .int .i64 ((x : Int) - 150)]) ∧ w' = w := by
  have hA : bits .and .u32 (x : Int) 255 = (x : Int) := by
    have e : (255 : Int) = ((255 : Nat) : Int) := rfl
    rw [e, u32_and_nat x 255 (by omega) (by omega), show (255 : Nat) = 2 ^ 8 - 1 from rfl, Nat.and_two_pow_sub_one_eq_mod, Nat.mod_eq_of_lt (by omega)]
  have hq : ((x : Int) == 0) = false := by simp; omega
  go_enter Try.func8, Try.ntmps8
  go_wp2
  go_ret2
  exact ⟨rfl, rfl⟩

theorem parts_any (b : Nat) (w : World) (hb : b < 2139095040) :
    Calls Try.prog 8 #[.int .u32 b] w fun e w' => e = .returned (.tuple #[.int .i64 (fM b : Int), .int .i64 ((fP b : Int) - 160)]) ∧ w' = w := by
  by_cases h0 : b / 8388608 = 0
  · have e1 : (fM b : Int) = (b : Int) := by unfold fM; rw [if_pos h0]; omega
    have e2 : (fP b : Int) - 160 = -149 := by unfold fP; rw [if_pos h0]; rfl
    rw [e1, e2]
    exact parts_sub b w (by omega)
  · have hf : bits .and .u32 (b : Int) 8388607 = ((b % 8388608 : Nat) : Int) := by
      have e : (8388607 : Int) = ((8388607 : Nat) : Int) := rfl
      rw [e, u32_and_nat b 8388607 (by omega) (by omega), show (8388607 : Nat) = 2 ^ 23 - 1 from rfl, Nat.and_two_pow_sub_one_eq_mod]
    have e1 : (fM b : Int) = ((b % 8388608 : Nat) : Int) + 8388608 := by unfold fM; rw [if_neg h0]; omega
    have e2 : (fP b : Int) - 160 = ((b / 8388608 : Nat) : Int) - 150 := by unfold fP; rw [if_neg h0]; omega
    rw [e1, e2]
    exact parts_nor b (b / 8388608) (b % 8388608) w (by omega) (by omega) (by omega) hf (by omega) hb

def MidA (b : Nat) (w : World) (e : Ending) (w' : World) : Prop := ∃ (z : List UInt8) (O : Int) (g c : Nat), MidD b z O ∧
  e = .returned (.agg #[.bool false, .slice (some ⟨g, 0, none⟩) z.length c, .int .i64 O, .bool false, .slice none 0 0, .bool false, .string ⟨#[]⟩]) ∧ w.heap.size ≤ g ∧ g < w'.heap.size ∧ (∀ j c, z[j]? = some c → w'.cell? ⟨g, j, none⟩ = some (DW c)) ∧ Below w.heap.size w w'

theorem mid_row {w w' : World} {z : List UInt8} {a : Option Addr} {c : Nat} (h : w'.ownsRow (w.heap.size + 1) 3 1 (.slice a z.length c) z.length (z.map DV)) (hz : z ≠ []) :
    ∃ g, a = some ⟨g, 0, none⟩ ∧ w.heap.size ≤ g ∧ g < w'.heap.size ∧ (∀ j c, z[j]? = some c → w'.cell? ⟨g, j, none⟩ = some (DW c)) := by
  obtain ⟨g, e, h1, h2, h3⟩ := owns_some h (List.length_pos_iff.mpr hz)
  exact ⟨g, e, by omega, h2, fun j c hj => h3 j (DV c) (by rw [List.getElem?_map, hj]; rfl)⟩

theorem fP_ge (b : Nat) : 11 ≤ fP b := by unfold fP; split <;> omega
theorem dg_len {l : List Nat} {V : Nat} (h : Dg l V) (hV : V < 10 ^ 200) : l.length ≤ 200 := by
  by_cases c : l = []
  · rw [c]; exact Nat.zero_le _
  · have h1 := h.top c
    have h2 : l.length - 1 < 200 := (Nat.pow_lt_pow_iff_right (by decide)).mp (Nat.lt_of_le_of_lt h1 hV)
    omega

theorem five_lt (F T : Nat) (hF : F ≤ 33554431) (hT : T ≤ 150) : F * 5 ^ T < 10 ^ 200 := by
  have h1 : 5 ^ T ≤ 5 ^ 150 := Nat.pow_le_pow_right (by decide) hT
  have h2 : F * 5 ^ T ≤ 33554431 * 5 ^ 150 := Nat.mul_le_mul hF h1
  exact Nat.lt_of_le_of_lt h2 (by decide)

theorem two_lt (F T : Nat) (hF : F ≤ 33554431) (hT : T ≤ 150) : F * 2 ^ T < 10 ^ 200 := by
  have h1 : 2 ^ T ≤ 2 ^ 150 := Nat.pow_le_pow_right (by decide) hT
  have h2 : F * 2 ^ T ≤ 33554431 * 2 ^ 150 := Nat.mul_le_mul hF h1
  exact Nat.lt_of_le_of_lt h2 (by decide)

/-- Twice of a middle's parts. -/
theorem mid_twice (b : Nat) (w : World) (hb : b < 2139095040) :
    Calls Try.prog 9 #[.int .i64 (2 * (fM b : Int) + 1), .int .i64 ((fP b : Int) - 160 - 1)] w fun e w' => MidA b w e w' := by
  have h1 := fM_lt b
  have h2 := fP_ge b
  have h3 := fP_le b hb
  rw [show (2 * (fM b : Int) + 1) = ((2 * fM b + 1 : Nat) : Int) by omega]
  by_cases c : fP b < 161
  · obtain ⟨T, hT⟩ : ∃ T, fP b + T = 161 := ⟨161 - fP b, by omega⟩
    have hV := five_lt (2 * fM b + 1) T (by omega) (by omega)
    refine (twice_neg (2 * fM b + 1) ((fP b : Int) - 160 - 1) T w (by omega) (by omega) (by omega) (by omega) hV).mono ?_
    rintro e w' ⟨l, a, c1, hD, rfl, ho, hB⟩
    rw [if_pos (by omega), show (fP b : Int) - 160 - 1 = -(T : Int) by omega]
    have hM := mid_neg b T l hT hD (dg_len hD hV)
    obtain ⟨g, rfl, g1, g2, g3⟩ := mid_row ho hM.ne
    exact ⟨_, _, g, c1, hM, rfl, g1, g2, g3, hB⟩
  · obtain ⟨T, hT⟩ : ∃ T, fP b = 161 + T := ⟨fP b - 161, by omega⟩
    have hV := two_lt (2 * fM b + 1) T (by omega) (by omega)
    refine (twice_pos (2 * fM b + 1) ((fP b : Int) - 160 - 1) T w (by omega) (by omega) (by omega) (by omega) hV).mono ?_
    rintro e w' ⟨l, a, c1, hD, rfl, ho, hB⟩
    rw [if_neg (by omega)]
    have hM := mid_pos b T l hT (by omega) hD (dg_len hD hV)
    obtain ⟨g, rfl, g1, g2, g3⟩ := mid_row ho hM.ne
    exact ⟨_, _, g, c1, hM, rfl, g1, g2, g3, hB⟩

theorem cell_ob (W : World) (a : Addr) (v : Value) (g j : Nat) (h : g ≠ a.block) : (W.setCell a v).cell? ⟨g, j, none⟩ = W.cell? ⟨g, j, none⟩ :=
  World.cell?_setCell_other W _ _ v (fun e => h (by rw [e]))

end Go.Proofs.Ytgkbbcoagnilgaa
