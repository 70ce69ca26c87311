import Derived.Test.YtgkbbcoagnilgabDoorValM
import Derived.Test.YtgkbbcoagnilgabDoorWhM
import Derived.Lib.ItoaLen
namespace Go.Proofs.YtgkbbcoagnilgabDoor
open Go.RowKit

theorem dec_val (u : Nat) : num (Lib.decDigits u) = u ∧ allD (Lib.decDigits u) ∧ Lib.decDigits u ≠ [] ∧ (1 ≤ u → ∃ c t, Lib.decDigits u = c :: t ∧ c ≠ 48) := by
  have one : ∀ r, r < 10 → num [UInt8.ofNat (48 + r)] = r ∧ isD (UInt8.ofNat (48 + r)) = true := fun r hr => by
    have ht := ofNat_toNat r hr
    constructor
    · unfold num
      rw [List.length_singleton, dn_cons, ht]
      simp [dn]
    · unfold isD
      rw [ht]
      simp
      omega
  induction u using Nat.strongRecOn with
  | _ u ih =>
    by_cases h : u < 10
    · rw [Lib.decDigits, dif_pos h]
      refine ⟨(one u h).1, fun c hc => ?_, by simp, fun h1 => ⟨_, _, rfl, fun e => ?_⟩⟩
      · have : c = UInt8.ofNat (48 + u) := by simpa using hc
        rw [this]; exact (one u h).2
      · have := congrArg UInt8.toNat e
        rw [ofNat_toNat u h] at this
        have e48 : (48 : UInt8).toNat = 48 := by decide
        omega
    · rw [Lib.decDigits, dif_neg h]
      obtain ⟨i1, i2, i3, i4⟩ := ih (u / 10) (by omega)
      have hr : u % 10 < 10 := Nat.mod_lt _ (by decide)
      refine ⟨?_, fun c hc => ?_, by simp, fun _ => ?_⟩
      · rw [num_app, i1, (one _ hr).1, List.length_singleton, Nat.pow_one]
        omega
      · rcases List.mem_append.1 hc with h | h
        · exact i2 c h
        · have : c = UInt8.ofNat (48 + u % 10) := by simpa using h
          rw [this]; exact (one _ hr).2
      · obtain ⟨c, t, e, hc⟩ := i4 (by omega)
        exact ⟨c, t ++ [UInt8.ofNat (48 + u % 10)], by rw [e]; rfl, hc⟩

theorem dec_bw (u : Nat) : badW (Lib.decDigits u) = false := by
  by_cases h : u < 10
  · rw [Lib.decDigits, dif_pos h]; rfl
  · obtain ⟨c, t, e, hc⟩ := (dec_val u).2.2.2 (by omega)
    rw [e]
    unfold badW
    simp [hc]

theorem itoa_txt (n : Int) : Lib.itoa n = txt (decide (n < 0)) (Lib.decDigits n.natAbs) [] := by
  unfold Lib.itoa txt
  by_cases h : n < 0
  · rw [if_pos h, if_pos (by simpa using h)]; simp
  · rw [if_neg h, if_neg (by simpa using h)]
    have : n.toNat = n.natAbs := by omega
    simp [this]

theorem itoa_dot (n : Int) : Lib.itoa n ++ [46, 48, 48, 48] = txt (decide (n < 0)) (Lib.decDigits n.natAbs) [48, 48, 48] := by
  rw [itoa_txt]
  unfold txt
  simp

theorem allD_noughts : allD [48, 48, 48] := fun c hc => by
  have : c = 48 := by simpa using hc
  rw [this]; decide

theorem pcut_itoa (n : Int) : pcut (Lib.itoa n) = some (decide (n < 0), Lib.decDigits n.natAbs, [], false, []) := by
  rw [itoa_txt]
  exact pcut_txt _ _ _ (dec_val _).2.1 (fun c hc => by simp at hc) (dec_val _).2.2.1 (dec_bw _)

theorem pcut_dot (n : Int) : pcut (Lib.itoa n ++ [46, 48, 48, 48]) = some (decide (n < 0), Lib.decDigits n.natAbs, [48, 48, 48], false, []) := by
  rw [itoa_dot]
  exact pcut_txt _ _ _ (dec_val _).2.1 allD_noughts (dec_val _).2.2.1 (dec_bw _)

theorem natOf_num (l : List UInt8) : ∀ acc, natOf acc l = acc * 10 ^ l.length + num l := by
  induction l with
  | nil =>
    intro acc
    show acc = acc * 10 ^ 0 + 0
    rw [Nat.pow_zero, Nat.mul_one, Nat.add_zero]
  | cons a l ih =>
    intro acc
    show natOf (acc * 10 + (a.toNat - 48)) l = _
    rw [ih]
    have e : num (a :: l) = (a.toNat - 48) * 10 ^ l.length + num l := by
      unfold num
      rw [List.length_cons, dn_cons]
    rw [e, List.length_cons, Nat.pow_succ, Nat.add_mul, Nat.mul_assoc, Nat.mul_comm 10, Nat.add_assoc]

theorem natOf_dec (u : Nat) : natOf 0 (Lib.decDigits u) = u := by
  rw [natOf_num, (dec_val u).1, Nat.zero_mul, Nat.zero_add]

theorem whole_itoa (n : Int) (h0 : -9223372036854775808 ≤ n) (h1 : n ≤ 9223372036854775807) : wholeV (pcut (Lib.itoa n)) = (n, true) := by
  rw [pcut_itoa]
  show wholeG (decide (n < 0)) (Lib.decDigits n.natAbs) = _
  unfold wholeG
  rw [natOf_dec, if_neg (by omega)]
  by_cases h : n < 0
  · rw [if_pos (by simpa using h)]
    congr 1
    omega
  · rw [if_neg (by simpa using h), if_neg (by omega)]
    congr 1
    omega

theorem whole_dot (n : Int) : wholeV (pcut (Lib.itoa n ++ [46, 48, 48, 48])) = (0, false) := by
  rw [pcut_dot]
  rfl

/-- The value of a whole number, with noughts behind a dot or without. -/
theorem sv_whole (n : Int) (f : List UInt8) (hf : ∀ c ∈ f, c = 48) : sv (decide (n < 0), Lib.decDigits n.natAbs, f, false, []) = n * (dv (decide (n < 0), Lib.decDigits n.natAbs, f, false, []) : Int) := by
  have hv := val_txt (decide (n < 0)) (Lib.decDigits n.natAbs) f
  rw [num_app, (dec_val _).1, num_noughts f hf, Nat.add_zero] at hv
  unfold sv dv
  generalize vU (zof (decide (n < 0), Lib.decDigits n.natAbs, f, false, [])) (Pof (decide (n < 0), Lib.decDigits n.natAbs, f, false, [])) = U at hv
  generalize vD (zof (decide (n < 0), Lib.decDigits n.natAbs, f, false, [])) (Pof (decide (n < 0), Lib.decDigits n.natAbs, f, false, [])) = D at hv
  have hp : 0 < 10 ^ f.length := Nat.pow_pos (by decide)
  have hU : U = n.natAbs * D := by
    apply Nat.eq_of_mul_eq_mul_right hp
    rw [hv, Nat.mul_right_comm]
  rw [hU]
  show (if decide (n < 0) = true then -((n.natAbs * D : Nat) : Int) else ((n.natAbs * D : Nat) : Int)) = n * (D : Int)
  rw [Int.natCast_mul]
  by_cases h : n < 0
  · rw [if_pos (by simpa using h), show ((n.natAbs : Nat) : Int) = -n by omega, Int.neg_mul, Int.neg_neg]
  · rw [if_neg (by simpa using h), show ((n.natAbs : Nat) : Int) = n by omega]

theorem okey_wholes (m n : Int) : okey (decide (m < 0), Lib.decDigits m.natAbs, [], false, []) (decide (n < 0), Lib.decDigits n.natAbs, [48, 48, 48], false, []) = cmp3 m n := by
  rw [okey_val _ _ (good_txt _ _ _ (dec_val _).2.1 (fun c hc => by simp at hc)) (good_txt _ _ _ (dec_val _).2.1 allD_noughts), sv_whole m [] (fun c hc => by simp at hc), sv_whole n [48, 48, 48] (fun c hc => by simpa using hc)]
  have p1 : 0 < dv (decide (m < 0), Lib.decDigits m.natAbs, [], false, []) := vD_pos _ _
  have p2 : 0 < dv (decide (n < 0), Lib.decDigits n.natAbs, [48, 48, 48], false, []) := vD_pos _ _
  generalize dv (decide (m < 0), Lib.decDigits m.natAbs, [], false, []) = D1 at p1
  generalize dv (decide (n < 0), Lib.decDigits n.natAbs, [48, 48, 48], false, []) = D2 at p2
  rw [Int.mul_assoc, Int.mul_assoc, Int.mul_comm (D2 : Int) (D1 : Int)]
  have hD : (0 : Int) < (D1 : Int) * (D2 : Int) := by
    have := Nat.mul_pos p1 p2
    rw [← Int.natCast_mul]
    omega
  generalize (D1 : Int) * (D2 : Int) = D at hD
  have c := @cmp3_of (m * D) (n * D)
  have c2 := @cmp3_of m n
  by_cases h1 : m < n
  · rw [c2.1 h1, c.1 (Int.mul_lt_mul_of_pos_right h1 hD)]
  · by_cases h2 : m = n
    · rw [c2.2.1 h2, c.2.1 (by rw [h2])]
    · rw [c2.2.2 (by omega), c.2.2 (Int.mul_lt_mul_of_pos_right (by omega) hD)]

end Go.Proofs.YtgkbbcoagnilgabDoor
