import Derived.Test.YthnogdkkdekgpaaDoorPB
namespace Go.Proofs.YthnogdkkdekgpaaDoor
open Go.RowKit

theorem siz_zero {h : Int} (hh : isHB h = false) : Sha.siz h = 0 := by
  have := knownB h
  rw [hh] at this
  have := of_decide_eq_false this
  omega

set_option maxHeartbeats 1000000 in
theorem refusal_any (h : Int) (dl sl : Nat) (bits : Int) (w : World) (_h1 : dl ≤ 1000000000) (h2 : sl ≤ 1000000000) :
    Calls Tryd.prog 41 #[.int .i64 h, .int .i64 (dl : Int), .int .i64 (sl : Int), .int .i64 bits] w fun e w' => e = .returned (.int .i64 (pcode h dl sl bits)) ∧ w' = w := by
  have C := Sha.size_any h w
  by_cases hh : isHB h = true
  · have hs0 := isHB_pos hh
    have hs64 := siz_le64 h
    obtain ⟨pc, Hp⟩ : ∃ pc, Hid (pcode h dl sl bits = pc) := ⟨_, rfl⟩
    rw [Hp.out]
    have HP : Hid (pc = if bits < 0 ∨ 65536 < bits then 10 else if dl ≠ Sha.siz h ∨ wid bits.toNat < Sha.siz h + sl + 2 then 90 else 0) := by
      show _ = _
      rw [← Hp.out]; unfold pcode; rw [if_neg (by rw [hh]; simp)]
    clear Hp hh
    generalize Sha.siz h = s at *
    have d0 : ((s : Int) == 0) = false := by rw [beq_eq_false_iff_ne]; omega
    by_cases hb1 : bits < 0
    · have d1 : decide (bits < 0) = true := decide_eq_true hb1
      have HV : Hid (pc = 10) := by show _ = _; rw [HP.out, if_pos (.inl hb1)]
      clear HP hb1
      go_enter Tryd.func41, Tryd.ntmps41
      go_wp2_with fail
      refine C.mono ?_
      rintro e w' ⟨rfl, rfl⟩
      clear C
      go_wp2
      go_ret
      rw [HV.out]
      exact ⟨rfl, rfl⟩
    have d1 : decide (bits < 0) = false := decide_eq_false hb1
    by_cases hb2 : 65536 < bits
    · have d2 : decide (65536 < bits) = true := decide_eq_true hb2
      have d2' : decide (bits > 65536) = true := decide_eq_true hb2
      have HV : Hid (pc = 10) := by show _ = _; rw [HP.out, if_pos (.inr hb2)]
      clear HP hb1 hb2
      go_enter Tryd.func41, Tryd.ntmps41
      go_wp2_with fail
      refine C.mono ?_
      rintro e w' ⟨rfl, rfl⟩
      clear C
      go_wp2
      go_ret
      rw [HV.out]
      exact ⟨rfl, rfl⟩
    have d2 : decide (65536 < bits) = false := decide_eq_false hb2
    have d2' : decide (bits > 65536) = false := decide_eq_false hb2
    obtain ⟨b, rfl⟩ : ∃ b : Nat, bits = (b : Int) := ⟨bits.toNat, by omega⟩
    have HP2 : Hid (pc = if dl ≠ s ∨ wid b < s + sl + 2 then 90 else 0) := by show _ = _; rw [HP.out, if_neg (by omega), Int.toNat_natCast]
    have hb65 : b ≤ 65536 := by omega
    clear HP hb1 hb2
    by_cases hd : dl = s
    · have CW := width_any b w (by omega)
      have d3 : ((dl : Int) != (s : Int)) = false := by rw [hd]; simp
      have hw : wid b ≤ 10000 := by unfold wid; omega
      have HP3 : Hid (pc = if wid b < s + sl + 2 then 90 else 0) := by show _ = _; rw [HP2.out]; simp [hd]
      clear HP2 hd
      generalize wid b = wb at *
      by_cases hq : wb < s + sl + 2
      · have d4 : decide ((wb : Int) < (s : Int) + (sl : Int) + 2) = true := decide_eq_true (by omega)
        have HV : Hid (pc = 90) := by show _ = _; rw [HP3.out, if_pos hq]
        clear HP3 hq
        go_enter Tryd.func41, Tryd.ntmps41
        go_wp2_with fail
        refine C.mono ?_
        rintro e w' ⟨rfl, rfl⟩
        clear C
        go_wp2_with fail
        refine CW.mono ?_
        rintro e w' ⟨rfl, rfl⟩
        clear CW
        go_wp2
        go_ret
        rw [HV.out]
        exact ⟨rfl, rfl⟩
      · have d4 : decide ((wb : Int) < (s : Int) + (sl : Int) + 2) = false := decide_eq_false (by omega)
        have HV : Hid (pc = 0) := by show _ = _; rw [HP3.out, if_neg hq]
        clear HP3 hq
        go_enter Tryd.func41, Tryd.ntmps41
        go_wp2_with fail
        refine C.mono ?_
        rintro e w' ⟨rfl, rfl⟩
        clear C
        go_wp2_with fail
        refine CW.mono ?_
        rintro e w' ⟨rfl, rfl⟩
        clear CW
        go_wp2
        go_ret
        rw [HV.out]
        exact ⟨rfl, rfl⟩
    · have d3 : ((dl : Int) != (s : Int)) = true := by simp; omega
      have HV : Hid (pc = 90) := by show _ = _; rw [HP2.out, if_pos (.inl hd)]
      clear HP2 hd
      go_enter Tryd.func41, Tryd.ntmps41
      go_wp2_with fail
      refine C.mono ?_
      rintro e w' ⟨rfl, rfl⟩
      clear C
      go_wp2
      go_ret
      rw [HV.out]
      exact ⟨rfl, rfl⟩
  · have hh2 : isHB h = false := by simpa using hh
    have C0 : Calls Tryd.prog 13 #[.int .i64 h] w fun e w' => e = .returned (.int .i64 0) ∧ w' = w := by rw [siz_zero hh2] at C; exact C
    have HV : Hid (pcode h dl sl bits = 111) := by show _ = _; unfold pcode; rw [if_pos hh2]
    clear C hh hh2
    go_enter Tryd.func41, Tryd.ntmps41
    go_wp2_with fail
    refine C0.mono ?_
    rintro e w' ⟨rfl, rfl⟩
    clear C0
    go_wp2
    go_ret
    rw [HV.out]
    exact ⟨rfl, rfl⟩

end Go.Proofs.YthnogdkkdekgpaaDoor
