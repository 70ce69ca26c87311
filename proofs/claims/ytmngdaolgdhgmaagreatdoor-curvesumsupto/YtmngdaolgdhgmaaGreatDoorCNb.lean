import Derived.Test.YtmngdaolgdhgmaaGreatDoorCN
import Derived.Lib.Strings
namespace Go.Proofs.YtmngdaolgdhgmaaGreatDoor
open Go.RowKit

theorem hv_foldl (b : List UInt8) (a : Nat) : b.foldl (fun a c => a * 16 + hx c) a = a * 16 ^ b.length + hv b := by
  induction b generalizing a with
  | nil => simp [hv]
  | cons c r ih =>
    unfold hv
    rw [List.foldl_cons, List.foldl_cons, ih, ih (0 * 16 + hx c), List.length_cons, Nat.pow_succ, Nat.zero_mul, Nat.zero_add, Nat.add_mul, Nat.mul_comm (16 ^ r.length) 16, ← Nat.mul_assoc, Nat.add_assoc]
theorem hv_append (a b : List UInt8) : hv (a ++ b) = hv a * 16 ^ b.length + hv b := by
  unfold hv
  rw [List.foldl_append, hv_foldl]
  rfl
theorem Bs_16 : Bs = 16 ^ 8 := by decide
/-- One limb more. -/
theorem hv_step (l : List UInt8) (N i : Nat) (hl : l.length = 8 * N) (hi : i < N) : hv (l.drop (8 * (N - (i + 1)))) = hv ((l.drop (8 * (N - (i + 1)))).take 8) * Bs ^ i + hv (l.drop (8 * (N - i))) := by
  have h1 : l.drop (8 * (N - (i + 1))) = (l.drop (8 * (N - (i + 1)))).take 8 ++ l.drop (8 * (N - i)) := by
    have h2 : l.drop (8 * (N - i)) = (l.drop (8 * (N - (i + 1)))).drop 8 := by
      rw [List.drop_drop]
      congr 1
      omega
    rw [h2, List.take_append_drop]
  conv => lhs; rw [h1]
  rw [hv_append, List.length_drop, hl, Bs_16, ← Nat.pow_mul]
  congr 3
  omega
theorem piece_eq (l : List UInt8) (a : Nat) (_h : a + 8 ≤ l.length) : (⟨l.toArray⟩ : ByteArray).extract a (a + 8) = ⟨((l.drop a).take 8).toArray⟩ := by
  rw [Lib.extract_eq]
  congr 1
  simp

set_option maxHeartbeats 1000000 in
set_option maxRecDepth 100000 in
theorem number_any (l : List UInt8) (N : Nat) (w : World) (hl : l.length = 8 * N) (hN : N ≤ 100) (hh : ∀ c ∈ l, isHx c) (hV : Bs ^ (N - 1) ≤ hv l) (hN0 : 0 < N) :
    Calls Tryz.prog 97 #[.string ⟨l.toArray⟩] w fun e w' => ∃ r, e = .returned r ∧ Ow w' w.heap.size r (dg Bs (hv l)) ∧ Below w.heap.size w w' := by
  obtain ⟨wm, hmk, hb, hbel, hsz⟩ := madeU w N (by omega)
  have HMS : Hid (MS w wm w.heap.size N (List.replicate N 0)) := ⟨hb, by simp, Sm.zeros _ Bs_pos, hbel⟩
  have e0 : (⟨l.toArray⟩ : ByteArray).size = 8 * N := by rw [← hl]; rfl
  have e2 : Int.tdiv ((8 * N : Nat) : Int) 8 = (N : Int) := by rw [Int.tdiv_eq_ediv_of_nonneg (by omega)]; omega
  have e3 : ((8 * N : Nat) : Int) / 8 = (N : Int) := by omega
  have e4 : (8 * (N : Int)) / 8 = (N : Int) := by omega
  have HP : Hid (∀ a, a + 8 ≤ l.length → (⟨l.toArray⟩ : ByteArray).extract a (a + 8) = ⟨((l.drop a).take 8).toArray⟩) := fun a h => piece_eq l a h
  generalize (⟨l.toArray⟩ : ByteArray) = t at e0 HP ⊢
  clear hb hbel hsz
  go_enter Tryz.func97, Tryz.ntmps97
  go_wp2
  clear hmk e2 e3 e4
  go_loopw [14] (fun s wr => ∃ (i : Nat) (P : List Nat), s = .int .i64 (i : Int) ∧ i ≤ N ∧ Hid (MS w wr w.heap.size N P ∧ nv Bs P = hv (l.drop (8 * (N - i))) ∧ ∀ j, i ≤ j → P.getD j 0 = 0)) (fun s _ => N - (intOf s).toNat)
  case atStart =>
    refine ⟨0, _, rfl, Nat.zero_le _, HMS.out, ?_, fun j _ => ?_⟩
    · rw [nv_zeros, List.drop_eq_nil_of_le (by omega)]
      rfl
    · rw [List.getD_eq_getElem?_getD, List.getElem?_replicate]
      split <;> rfl
  case round =>
    clear HMS
    obtain ⟨i, P, rfl, hi, HI⟩ := hrel
    by_cases hlt : i < N
    · obtain ⟨a, Ha⟩ : ∃ a, Hid (8 * (N - (i + 1)) = a) := ⟨_, rfl⟩
      obtain ⟨z, Hz⟩ : ∃ z, Hid (a + 8 = z) := ⟨_, rfl⟩
      have ea : (8 * (N : Int)) - 8 * (i : Int) = (z : Int) := by have := Ha.out; have := Hz.out; omega
      have eb : (z : Int) - 8 = (a : Int) := by have := Hz.out; omega
      have hal : a + 8 ≤ 8 * N := by have := Ha.out; omega
      have hzl : z ≤ 8 * N := by have := Hz.out; omega
      have haz : a ≤ z := by have := Hz.out; omega
      have hex := HP.out a (by omega)
      rw [Hz.out] at hex
      have C := fun wr => parse_any ((l.drop a).take 8) wr (by rw [List.length_take, List.length_drop]; omega) (fun c hc => hh c (List.mem_of_mem_drop (List.mem_of_mem_take hc)))
      rw [← hex] at C
      have hb := hv_lt ((l.drop a).take 8) 8 (fun c hc => hh c (List.mem_of_mem_drop (List.mem_of_mem_take hc))) (by rw [List.length_take, List.length_drop]; omega)
      rw [List.take_of_length_le (by rw [List.length_take]; omega)] at hb
      have HS := hv_step l N i hl hlt
      rw [Ha.out] at HS
      have HS' : Hid (hv (l.drop a) = hv ((l.drop a).take 8) * Bs ^ i + hv (l.drop (8 * (N - i)))) := HS
      generalize hv ((l.drop a).take 8) = v at *
      have hv32 : v < 4294967296 := hb
      clear hex HS hb hl hal hV hN0 HP hh
      have hb1 : 0 ≤ (z : Int) := by omega
      go_wp2_with fail
      refine (C _).mono ?_
      clear C
      rintro e w1 ⟨rfl, hB⟩
      have hms := HI.out.1
      have hlt0 : w.heap.size < _ := hms.bl.lt
      have H1 : Hid (MS w w1 w.heap.size N P) := ⟨hms.bl.below hB hlt0, hms.len, hms.sm, hms.bel.trans (hB.mono hms.bel.size)⟩
      have gc := H1.out.bl.limb i 0 (by rw [hms.len]; exact hlt) (HI.out.2.2 i (Nat.le_refl _))
      have gf := H1.out.bl.frozen i
      have HV : Hid (nv Bs (P.set i v) = hv (l.drop (8 * (N - (i + 1)))) ∧ ∀ j, i + 1 ≤ j → (P.set i v).getD j 0 = 0) := by
        refine ⟨?_, fun j hj => ?_⟩
        · have h3 := nv_set' Bs P i v 0 (by rw [hms.len]; exact hlt) (HI.out.2.2 i (Nat.le_refl _))
          rw [Nat.mul_zero, Nat.add_zero] at h3
          rw [h3, HI.out.2.1, Ha.out, HS'.out, Nat.mul_comm (Bs ^ i), Nat.add_comm]
        · rw [List.getD_eq_getElem?_getD, List.getElem?_set_ne (by omega), ← List.getD_eq_getElem?_getD]
          exact HI.out.2.2 j (by omega)
      clear hB hms hlt0
      go_wp2
      exact ⟨⟨i + 1, P.set i v, by go_num, by omega, H1.out.set i v hv32, HV.out⟩, by simp [intOf]; omega⟩
    · obtain rfl : i = N := by omega
      have hms := HI.out.1
      have hval := HI.out.2.1
      rw [Nat.sub_self, Nat.mul_zero, List.drop_zero] at hval
      have htl : tl P = i := by
        have h1 := tl_le P
        rw [hms.len] at h1
        have h2 := dg_length Bs_two hms.sm
        rw [hval] at h2
        have h3 := dg_up Bs_two (hv l)
        rw [h2] at h3
        apply Nat.le_antisymm h1
        apply Nat.le_of_not_lt
        intro h4
        exact absurd (Nat.lt_of_le_of_lt hV h3) (Nat.not_lt.2 (Nat.pow_le_pow_right Bs_pos (by omega)))
      have HA := Bl.proper (base := w.heap.size) (L := P) hms.bl hms.sm (Nat.le_refl _) (by rw [hms.len]; omega)
      rw [htl, hms.len, hval] at HA
      have HA' : Hid (Ow _ w.heap.size (.slice (some ⟨w.heap.size, 0, none⟩) i i) (dg Bs (hv l)) ∧ Below w.heap.size w _) := ⟨HA, hms.bel⟩
      clear HA htl hval hms hl hV hh HI HP e0
      go_wp2
      go_ret
      exact ⟨_, rfl, HA'.out⟩
end Go.Proofs.YtmngdaolgdhgmaaGreatDoor
