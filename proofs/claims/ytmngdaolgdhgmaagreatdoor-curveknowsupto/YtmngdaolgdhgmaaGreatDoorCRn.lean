import Derived.Test.YtmngdaolgdhgmaaGreatDoorCRa
namespace Go.Proofs.YtmngdaolgdhgmaaGreatDoor
open Go.RowKit

set_option maxRecDepth 100000

def hd (c : UInt8) : Nat := if 97 ≤ c.toNat then c.toNat - 87 else c.toNat - 48
def Hxd (c : UInt8) : Bool := (decide (48 ≤ c.toNat) && decide (c.toNat ≤ 57)) || (decide (97 ≤ c.toNat) && decide (c.toNat ≤ 102))
theorem hxd_or {c : UInt8} (h : Hxd c = true) : (48 ≤ c.toNat ∧ c.toNat ≤ 57) ∨ (97 ≤ c.toNat ∧ c.toNat ≤ 102) := by
  unfold Hxd at h
  simpa using h
theorem hd_lt {c : UInt8} (h : Hxd c = true) : hd c < 16 := by
  have := hxd_or h
  unfold hd
  split <;> omega
theorem digit_v (c : UInt8) (w : World) (h : Hxd c = true) : Calls Tryz.prog 66 #[.int .u8 (c.toNat : Int)] w fun e w' => e = .returned (.int .u32 (hd c : Int)) ∧ w' = w := by
  have h2 := hxd_or h
  unfold hd
  generalize c.toNat = k at *
  by_cases h1 : 97 ≤ k
  · have e : ((if 97 ≤ k then k - 87 else k - 48 : Nat) : Int) = (k : Int) - 97 + 10 := by rw [if_pos h1]; omega
    rw [e]
    have hb : decide ((k : Int) ≥ 97) = true := decide_eq_true (by omega)
    have h3 : k ≤ 102 := by omega
    clear h2 h e
    go_enter Tryz.func66, Tryz.ntmps66
    go_wp2
    go_ret
    exact ⟨rfl, rfl⟩
  · have e : ((if 97 ≤ k then k - 87 else k - 48 : Nat) : Int) = (k : Int) - 48 := by rw [if_neg h1]; omega
    rw [e]
    have hb : decide ((k : Int) ≥ 97) = false := decide_eq_false (by omega)
    have h3 : 48 ≤ k ∧ k ≤ 57 := by omega
    clear h2 h e
    go_enter Tryz.func66, Tryz.ntmps66
    go_wp2
    go_ret
    exact ⟨rfl, rfl⟩
def qh (l : List UInt8) : Nat := l.foldl (fun a c => 16 * a + hd c) 0
theorem qh_snoc (l : List UInt8) (c : UInt8) : qh (l ++ [c]) = 16 * qh l + hd c := by simp [qh]
theorem qh_up (l : List UInt8) (h : ∀ c ∈ l, Hxd c = true) : ∀ a, l.foldl (fun a c => 16 * a + hd c) a < (a + 1) * 16 ^ l.length := by
  induction l with
  | nil => intro a; simp
  | cons c l ih =>
    intro a
    have h1 := ih (fun x hx => h x (by simp [hx])) (16 * a + hd c)
    have h2 := hd_lt (h c (by simp))
    have h3 : (16 * a + hd c + 1) * 16 ^ l.length ≤ (16 * (a + 1)) * 16 ^ l.length := Nat.mul_le_mul_right _ (by omega)
    rw [List.foldl_cons, List.length_cons, Nat.pow_succ', ← Nat.mul_assoc, Nat.mul_comm (a + 1) 16]
    omega
theorem qh_lt (l : List UInt8) (h : ∀ c ∈ l, Hxd c = true) : qh l < 16 ^ l.length := by
  have := qh_up l h 0
  rwa [Nat.zero_add, Nat.one_mul] at this
def limbsH (n : Nat) (l : List UInt8) : List Nat := (List.range n).map fun j => qh ((l.drop (8 * (n - 1 - j))).take 8)
theorem limbsH_len (n : Nat) (l : List UInt8) : (limbsH n l).length = n := by simp [limbsH]
theorem limbsH_get (n : Nat) (l : List UInt8) (t : Nat) (h : t < n) : (limbsH n l).take (t + 1) = (limbsH n l).take t ++ [qh ((l.drop (8 * (n - 1 - t))).take 8)] := by
  rw [List.take_succ_eq_append_getElem (by rw [limbsH_len]; exact h)]
  simp [limbsH]
set_option maxHeartbeats 4000000 in
theorem number_q (n : Nat) (l : List UInt8) (w : World) (hl : l.length = 8 * n) (hn : n ≤ 100) (hh : ∀ c ∈ l, Hxd c = true) :
    Calls Tryz.prog 42 #[.string ⟨l.toArray⟩] w fun e w' => ∃ r, e = .returned r ∧ OB w.heap.size w w' r (limbsH n l) := by
  have Hl : Hid (l.length = 8 * n) := hl
  have HH : Hid (∀ c ∈ l, Hxd c = true) := hh
  have HN0 : Hid (OB w.heap.size w w (.slice none 0 0) ((limbsH n l).take 0)) := OB.nil w
  have hll : ((l.length : Nat) : Int) = 8 * (((n - 0 : Nat) : Nat) : Int) := by omega
  clear hh
  go_enter Tryz.func42, Tryz.ntmps42
  go_wp2
  go_loopw [3, 4, 5, 6] (fun s3 s4 _ _ wr => ∃ t : Nat, s4 = .int .i64 (8 * ((n - t : Nat) : Int)) ∧ t ≤ n ∧ Hid (OB w.heap.size w wr s3 ((limbsH n l).take t))) (fun _ s _ _ _ => (intOf s).toNat)
  case atStart => exact ⟨0, by rw [Nat.sub_zero], Nat.zero_le _, HN0⟩
  case round =>
    clear HN0 hll
    obtain ⟨t, rfl, ht, HI⟩ := hrel
    by_cases hlt : t < n
    · obtain ⟨m, Hm⟩ : ∃ m : Nat, Hid (m = n - 1 - t) := ⟨_, rfl⟩
      have e1 : 8 * ((n - t : Nat) : Int) = 8 * (m : Int) + 8 := by have := Hm.out; omega
      rw [e1]
      have hm100 : m ≤ 100 := by have := Hm.out; omega
      have hpos : decide ((8 * (m : Int) + 8) > 0) = true := decide_eq_true (by omega)
      go_wp2
      go_loopw [5, 6] (fun s5 s6 wx => ∃ u V : Nat, s6 = .int .i64 (8 * (m : Int) + (u : Int)) ∧ s5 = .int .u32 (V : Int) ∧ u ≤ 8 ∧ wx = wr ∧ Hid (V = qh ((l.drop (8 * m)).take u))) (fun _ s _ => (8 * (m : Int) + 8 - intOf s).toNat)
      case atStart => exact ⟨0, 0, by simp, rfl, Nat.zero_le _, rfl, (show 0 = qh _ by simp [qh])⟩
      case round =>
        obtain ⟨u, V, rfl, rfl, hu, rfl, HV⟩ := hrel
        by_cases hlu : u < 8
        · have hk : 8 * m + u < l.length := by have := Hl.out; have := Hm.out; omega
          obtain ⟨c, Hc⟩ : ∃ c, Hid (l[8 * m + u]'hk = c) := ⟨l[8 * m + u]'hk, rfl⟩
          have gx : (⟨l.toArray⟩ : ByteArray)[8 * m + u]'(by show 8 * m + u < l.toArray.size; simpa using hk) = c := Hc.out
          have hV : V < 268435456 := by
            have h1 := qh_lt ((l.drop (8 * m)).take u) (fun x hx => HH.out x (List.mem_of_mem_drop (List.mem_of_mem_take hx)))
            rw [← HV.out] at h1
            refine Nat.lt_of_lt_of_le h1 (Nat.le_trans (Nat.pow_le_pow_right (by decide) (show ((l.drop (8 * m)).take u).length ≤ 7 by rw [List.length_take]; omega)) (by decide))
          have HX : Hid (Hxd c = true) := HH.out c (Hc.out ▸ List.getElem_mem hk)
          have hd16 : hd c < 16 := hd_lt HX.out
          have HV1 : Hid (16 * V + hd c = qh ((l.drop (8 * m)).take (u + 1))) := by
            show _ = _
            rw [List.take_succ_eq_append_getElem (show u < (l.drop (8 * m)).length by simp; omega), qh_snoc, HV.out]
            simp [Hc.out]
          have hlss : decide (8 * (m : Int) + (u : Int) < 8 * (m : Int) + 8) = true := decide_eq_true (by omega)
          go_wp2_with fail
          refine (digit_v c _ HX.out).mono ?_
          rintro e wx ⟨rfl, rfl⟩
          generalize hd c = D at *
          go_wp2
          go_roundw
          case rel => exact ⟨u + 1, 16 * V + D, by go_num, by go_num, by omega, trivial, HV1⟩
          case measure => simp [intOf]; omega
        · obtain rfl : u = 8 := by omega
          have hlss : decide (8 * (m : Int) + ((8 : Nat) : Int) < 8 * (m : Int) + 8) = false := decide_eq_false (by omega)
          have HL : Hid (((limbsH n l).take t).length ≤ 1000000000) := by show _ ≤ _; rw [List.length_take, limbsH_len]; omega
          go_wp2_with (at_builtin; refine append_one (w := w) rfl (.tmp 27) (.tmp 29) rfl w.heap.size _ ((limbsH n l).take t) V rfl HI.out rfl HL.out (Nat.le_refl _) ?_; intro v5 w5 h5)
          have HO : Hid (OB w.heap.size w w5 v5 ((limbsH n l).take (t + 1))) := by
            rw [limbsH_get n l t hlt, ← Hm.out, ← HV.out]; exact h5
          clear h5
          have e2 : 8 * (m : Int) + 8 - 8 = 8 * ((n - (t + 1) : Nat) : Int) := by have := Hm.out; omega
          go_wp2
          go_roundw
          case rel => exact ⟨t + 1, by go_num, by omega, HO⟩
          case measure => simp [intOf]; omega
    · obtain rfl : t = n := by omega
      have e1 : 8 * ((t - t : Nat) : Int) = 0 := by omega
      rw [e1]
      go_wp2
      go_ret
      refine ⟨_, rfl, ?_⟩
      have h := HI.out
      rwa [List.take_of_length_le (by rw [limbsH_len]; exact Nat.le_refl _)] at h
end Go.Proofs.YtmngdaolgdhgmaaGreatDoor
