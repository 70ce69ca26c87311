import Derived.Test.YtgkbbcoagnilgaaMidW
import Derived.Test.YtgkbbcoagnilgaaSaysM
namespace Go.Proofs.Ytgkbbcoagnilgaa
open Go.RowKit

/-- The digits of a float32 as the document has them. -/
structure DocZ (s : Nat) (z : List UInt8) (O : Int) : Prop where
  dig : allD z
  nil : z = [] → O ≤ 0
  fst : z ≠ [] → dz z 0 ≠ 0
  nt : NT z
  val : vU z O * 2 ^ 160 = vD z O * FV s
  v0 : z = [] → FV s = 0

theorem tw_len (l : List Nat) : (tr (zz l)).length ≤ l.length := by
  obtain ⟨s, hs, _⟩ := tr_pre (zz l)
  have : (zz l).length = (tr (zz l)).length + s.length := by rw [← List.length_append, ← hs]
  rw [zz_len] at this
  omega

theorem tw_nil {l : List Nat} {V : Nat} (h : Dg l V) (hz : tr (zz l) = []) : V = 0 := by
  apply Nat.eq_zero_of_not_pos
  intro hV
  obtain ⟨z1, z2⟩ := zz_head h hV
  exact (tr_first z1 z2 (allD_zz l h.dig)).1 hz

theorem dg_zero {l : List Nat} (h : Dg l 0) : l = [] := by
  by_cases c : l = []
  · exact c
  · have := h.top c
    have : 0 < 10 ^ (l.length - 1) := Nat.pow_pos (by decide)
    omega

theorem doc_neg (s T : Nat) (l : List Nat) (hT : fP s + T = 160) (h : Dg l (fM s * 5 ^ T)) : DocZ s (tr (zz l)) ((l.length : Int) + -(T : Int)) := by
  have hfs : ∀ hz : tr (zz l) ≠ [], dz (tr (zz l)) 0 ≠ 0 := fun hz => by
    have hV : 0 < fM s * 5 ^ T := Nat.pos_of_ne_zero fun e => by
      rw [e] at h
      apply hz
      rw [dg_zero h]
      rfl
    obtain ⟨z1, z2⟩ := zz_head h hV
    exact (tr_first z1 z2 (allD_zz l h.dig)).2
  refine ⟨allD_tr (allD_zz l h.dig), fun hz => ?_, hfs, tr_nt _, ?_, fun hz => ?_⟩
  · have h0 := tw_nil h hz
    rw [h0] at h
    rw [dg_zero h]
    simp
  · have hv := tw_val l _ h T
    rw [show (l.length : Int) + -(T : Int) = (l.length : Int) - T by omega]
    generalize vU (tr (zz l)) ((l.length : Int) - T) = U at hv
    generalize vD (tr (zz l)) ((l.length : Int) - T) = D at hv
    unfold FV
    have hp : 0 < 10 ^ T := Nat.pow_pos (by decide)
    apply Nat.eq_of_mul_eq_mul_right hp
    have e10 : (10 : Nat) ^ T = 2 ^ T * 5 ^ T := by rw [← Nat.mul_pow]
    have e160 : 2 ^ 160 = 2 ^ fP s * 2 ^ T := by rw [← Nat.pow_add, hT]
    have a1 : U * 2 ^ 160 * 10 ^ T = U * 10 ^ T * 2 ^ 160 := by ac_rfl
    rw [a1, hv, e160, e10]
    ac_rfl
  · have h0 := tw_nil h hz
    unfold FV
    have h5 : 0 < 5 ^ T := Nat.pow_pos (by decide)
    rcases Nat.mul_eq_zero.1 h0 with e | e
    · rw [e, Nat.zero_mul]
    · omega

theorem doc_pos (s T : Nat) (l : List Nat) (hT : fP s = 160 + T) (h : Dg l (fM s * 2 ^ T)) : DocZ s (tr (zz l)) ((l.length : Int) + 0) := by
  have hfs : ∀ hz : tr (zz l) ≠ [], dz (tr (zz l)) 0 ≠ 0 := fun hz => by
    have hV : 0 < fM s * 2 ^ T := Nat.pos_of_ne_zero fun e => by
      rw [e] at h
      apply hz
      rw [dg_zero h]
      rfl
    obtain ⟨z1, z2⟩ := zz_head h hV
    exact (tr_first z1 z2 (allD_zz l h.dig)).2
  refine ⟨allD_tr (allD_zz l h.dig), fun hz => ?_, hfs, tr_nt _, ?_, fun hz => ?_⟩
  · have h0 := tw_nil h hz
    rw [h0] at h
    rw [dg_zero h]
    simp
  · have hv := tw_val l _ h 0
    rw [show (l.length : Int) + 0 = (l.length : Int) - (0 : Nat) by omega]
    generalize vU (tr (zz l)) ((l.length : Int) - (0 : Nat)) = U at hv
    generalize vD (tr (zz l)) ((l.length : Int) - (0 : Nat)) = D at hv
    rw [Nat.pow_zero, Nat.mul_one] at hv
    unfold FV
    rw [hv, hT, Nat.pow_add]
    ac_rfl
  · have h0 := tw_nil h hz
    unfold FV
    have h5 : 0 < 2 ^ T := Nat.pow_pos (by decide)
    rcases Nat.mul_eq_zero.1 h0 with e | e
    · rw [e, Nat.zero_mul]
    · omega

def DocA (s : Nat) (w : World) (e : Ending) (w' : World) : Prop := ∃ (z : List UInt8) (O : Int) (a : Option Addr) (c : Nat), Hid (DocZ s z O) ∧ z.length ≤ 200 ∧ -1000 ≤ O ∧ O ≤ 1000 ∧
  e = .returned (.agg #[.bool false, .slice a z.length c, .int .i64 O, .bool false, .slice none 0 0, .bool false, .string ⟨#[]⟩]) ∧ Hid (RdD w' a z) ∧ Hid (Below w.heap.size w w')

theorem doc_twice (b : Nat) (w : World) (hb : b < 2139095040) :
    Calls Try.prog 9 #[.int .i64 (fM b : Int), .int .i64 ((fP b : Int) - 160)] w fun e w' => DocA b w e w' := by
  have h1 := fM_lt b
  have h2 := fP_ge b
  have h3 := fP_le b hb
  by_cases c : fP b < 160
  · obtain ⟨T, hT⟩ : ∃ T, fP b + T = 160 := ⟨160 - fP b, by omega⟩
    have hV := five_lt (fM b) T (by omega) (by omega)
    refine (twice_neg (fM b) ((fP b : Int) - 160) T w (by omega) (by omega) (by omega) (by omega) hV).mono ?_
    rintro e w' ⟨l, a, c1, hD, rfl, ho, hB⟩
    rw [if_pos (by omega), show (fP b : Int) - 160 = -(T : Int) by omega]
    have hl := dg_len hD hV
    have hl2 := tw_len l
    exact ⟨_, _, a, c1, doc_neg b T l hT hD, by omega, by omega, by omega, rfl, rdD_of_owns ho, hB⟩
  · obtain ⟨T, hT⟩ : ∃ T, fP b = 160 + T := ⟨fP b - 160, by omega⟩
    have hV := two_lt (fM b) T (by omega) (by omega)
    refine (twice_pos (fM b) ((fP b : Int) - 160) T w (by omega) (by omega) (by omega) (by omega) hV).mono ?_
    rintro e w' ⟨l, a, c1, hD, rfl, ho, hB⟩
    rw [if_neg (by omega)]
    have hl := dg_len hD hV
    have hl2 := tw_len l
    exact ⟨_, _, a, c1, doc_pos b T l hT hD, by omega, by omega, by omega, rfl, rdD_of_owns ho, hB⟩

end Go.Proofs.Ytgkbbcoagnilgaa
