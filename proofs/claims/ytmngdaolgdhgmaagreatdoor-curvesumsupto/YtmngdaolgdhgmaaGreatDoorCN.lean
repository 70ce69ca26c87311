import Derived.Test.YtmngdaolgdhgmaaGreatDoorNtZ2
import Derived.Lib.ConvBytes
import Derived.Lib.AtoiErrMem
namespace Go.Proofs.YtmngdaolgdhgmaaGreatDoor
open Go.RowKit

/-- A digit of the base sixteen, and what it says. -/
def isHx (c : UInt8) : Prop := (48 ≤ c.toNat ∧ c.toNat ≤ 57) ∨ (97 ≤ c.toNat ∧ c.toNat ≤ 102)
instance (c : UInt8) : Decidable (isHx c) := inferInstanceAs (Decidable (_ ∨ _))
def hx (c : UInt8) : Nat := if c.toNat ≤ 57 then c.toNat - 48 else c.toNat - 87
theorem hx_lt {c : UInt8} (h : isHx c) : hx c < 16 := by unfold hx; unfold isHx at h; split <;> omega
/-- The number of digits. -/
def hv (l : List UInt8) : Nat := l.foldl (fun a c => a * 16 + hx c) 0
theorem hv_snoc (l : List UInt8) (c : UInt8) : hv (l ++ [c]) = hv l * 16 + hx c := by simp [hv]
theorem hv_take_succ (l : List UInt8) (k : Nat) (hk : k < l.length) : hv (l.take (k + 1)) = hv (l.take k) * 16 + hx l[k] := by rw [List.take_succ_eq_append_getElem hk, hv_snoc]
theorem hv_lt (l : List UInt8) (k : Nat) (h : ∀ c ∈ l, isHx c) (hk : k ≤ l.length) : hv (l.take k) < 16 ^ k := by
  induction k with
  | zero => simp [hv]
  | succ k ih =>
    have h1 := ih (by omega)
    rw [hv_take_succ l k (by omega), Nat.pow_succ]
    have h2 := hx_lt (h l[k] (List.getElem_mem _))
    omega

theorem lower_any (c : Nat) (w : World) (h1 : 97 ≤ c) (h2 : c ≤ 102) : Calls Tryz.prog 142 #[.int .u8 (c : Int)] w fun e w' => e = .returned (.int .u8 (c : Int)) ∧ w' = w := by
  obtain rfl | rfl | rfl | rfl | rfl | rfl : c = 97 ∨ c = 98 ∨ c = 99 ∨ c = 100 ∨ c = 101 ∨ c = 102 := by omega
  all_goals
    go_enter Tryz.func142, Tryz.ntmps142
    go_wp2
    go_ret
    exact ⟨rfl, rfl⟩

set_option maxHeartbeats 4000000 in
set_option maxRecDepth 100000 in
theorem parseIn_any (l : List UInt8) (w : World) (hl : l.length = 8) (hh : ∀ c ∈ l, isHx c) :
    Calls Tryz.prog 139 #[.string ⟨l.toArray⟩, .int .i64 16, .int .i64 32] w fun e w' => e = .returned (.tuple #[.int .u64 (hv l : Int), .nilIface]) ∧ Below w.heap.size w w' := by
  have hsz : (⟨l.toArray⟩ : ByteArray).size = 8 := by rw [← hl]; rfl
  have hemp : (⟨l.toArray⟩ : ByteArray).toList.isEmpty = false := by
    rw [← decide_eq_emptyBytes]
    exact decide_eq_false (fun h => by rw [h] at hsz; cases hsz)
  have hcv := Lib.run_convert_string_bytes (P := Tryz.prog) w 9 41 5 ⟨l.toArray⟩ (u := .string) rfl rfl rfl
  have hB : ∀ j, j < (⟨l.toArray⟩ : ByteArray).size → (Lib.bytesWorld w 5 ⟨l.toArray⟩).cell? ⟨w.heap.size, j, none⟩ = some (.int .u8 (l.getD j 0).toNat) := fun j hj => Lib.bytesWorld_cell w 5 ⟨l.toArray⟩ j hj
  have HBl : Hid (Below w.heap.size w (Lib.bytesWorld w 5 ⟨l.toArray⟩)) := Lib.bytesWorld_below _ _ _
  generalize Lib.bytesWorld w 5 ⟨l.toArray⟩ = W1 at *
  generalize (⟨l.toArray⟩ : ByteArray) = t at *
  have hmax : t.size ≤ 9223372036854775806 := by omega
  have hmv : IntKind.u64.wrap (IntKind.u64.wrap 4294967296 - 1) = 4294967295 := by
    rw [IntKind.wrap_u64, IntKind.wrap_u64]
    decide
  go_enter Tryz.func139, Tryz.ntmps139
  go_wp2
  go_loop [12, 13, 101] (fun vu vn vi => ∃ (k : Nat) (a : Int), vu = .bool false ∧ vn = .int .u64 a ∧ vi = .int .i64 (k : Int) ∧ k ≤ 8 ∧ 0 ≤ a ∧ a ≤ 4294967295 ∧ Hid (a = (hv (l.take k) : Int))) (fun _ _ vi => 8 - (intOf vi).toNat)
  case atStart => exact ⟨0, 0, rfl, rfl, rfl, by omega, by omega, by omega, (by simp [hv] : (0 : Int) = (hv (l.take 0) : Int))⟩
  case round =>
    obtain ⟨k, a, rfl, rfl, rfl, hk, a0, a1, HA⟩ := hrel
    by_cases hkn : k < 8
    · have hc := hB k (by omega)
      have hkl : k < l.length := by omega
      have hget : l.getD k 0 = l[k] := by rw [List.getD_eq_getElem?_getD, List.getElem?_eq_getElem hkl, Option.getD_some]
      have hd := hh l[k] (List.getElem_mem _)
      have hnext := hv_take_succ l k hkl
      have hlt := hv_lt l (k + 1) hh (by omega)
      have hlt8 : 16 ^ (k + 1) ≤ 16 ^ 8 := Nat.pow_le_pow_right (by decide) (by omega)
      have h168 : (16 : Nat) ^ 8 = 4294967296 := by decide
      rw [hget] at hc
      generalize l[k] = c at *
      have hc256 : c.toNat < 256 := c.toNat_lt
      have HN : Hid (a * 16 + (hx c : Int) = (hv (l.take (k + 1)) : Int)) := (by rw [hnext, HA.out]; omega : a * 16 + (hx c : Int) = (hv (l.take (k + 1)) : Int))
      have hnb : a * 16 + (hx c : Int) ≤ 4294967295 := by rw [HN.out]; omega
      clear hlt hlt8 h168 hnext hget HA hB hsz hl
      rcases hd with ⟨hd0, hd1⟩ | ⟨hd0, hd1⟩
      · have e1 : (hx c : Int) = (c.toNat : Int) - 48 := by unfold hx; rw [if_pos hd1]; omega
        rw [e1] at hnb HN
        have a2 : a ≤ 268435455 := by omega
        clear e1
        go_wp2
        exact ⟨⟨k + 1, a * 16 + ((c.toNat : Int) - 48), rfl, (by first | rfl | (congr 1; omega)), (by first | rfl | (congr 1; omega)), by omega, by omega, hnb, HN⟩, by simp [intOf]; omega⟩
      · have e1 : (hx c : Int) = (c.toNat : Int) - 87 := by unfold hx; rw [if_neg (by omega)]; omega
        rw [e1] at hnb HN
        have a2 : a ≤ 268435455 := by omega
        clear e1
        have CL := fun w => lower_any c.toNat w hd0 hd1
        go_wp2_with fail
        refine (CL _).mono ?_
        rintro e w' ⟨rfl, rfl⟩
        go_wp2_with fail
        refine (CL _).mono ?_
        rintro e w' ⟨rfl, rfl⟩
        go_wp2_with fail
        refine (CL _).mono ?_
        rintro e w' ⟨rfl, rfl⟩
        clear CL
        go_wp2
        exact ⟨⟨k + 1, a * 16 + ((c.toNat : Int) - 87), rfl, (by first | rfl | (congr 1; omega)), (by first | rfl | (congr 1; omega)), by omega, by omega, hnb, HN⟩, by simp [intOf]; omega⟩
    · have hkk : k = 8 := by omega
      have hdone : Hid (a = (hv l : Int)) := (by rw [HA.out, hkk, List.take_of_length_le (by omega)] : a = (hv l : Int))
      subst hkk
      clear HA hB hh hl hsz
      go_wp2
      go_ret2
      exact ⟨by rw [hdone.out]; rfl, HBl.out⟩
theorem parse_any (l : List UInt8) (w : World) (hl : l.length = 8) (hh : ∀ c ∈ l, isHx c) :
    Calls Tryz.prog 123 #[.string ⟨l.toArray⟩, .int .i64 16, .int .i64 32] w fun e w' => e = .returned (.tuple #[.int .u64 (hv l : Int), .nilIface]) ∧ Below w.heap.size w w' := by
  have C := parseIn_any l w hl hh
  generalize (⟨l.toArray⟩ : ByteArray) = t at *
  generalize (hv l : Int) = v at *
  clear hl hh
  go_enter Tryz.func123, Tryz.ntmps123
  go_wp2_with fail
  refine C.mono ?_
  clear C
  rintro e w1 ⟨rfl, hB⟩
  have HB : Hid (Below _ _ _) := hB
  clear hB
  go_wp2
  go_ret2
  exact ⟨rfl, HB.out⟩
end Go.Proofs.YtmngdaolgdhgmaaGreatDoor
