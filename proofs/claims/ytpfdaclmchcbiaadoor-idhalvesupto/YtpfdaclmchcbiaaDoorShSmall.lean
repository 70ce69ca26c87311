import Derived.Test.YtpfdaclmchcbiaaDoorShBase
namespace Go.Proofs.YtpfdaclmchcbiaaDoor.Sha
open Go.RowKit
set_option maxRecDepth 100000

/-- How many bytes a block has; a sum. -/
def blk (h : Int) : Nat := if h = 1 then 64 else if h = 2 then 128 else if h = 3 then 128 else 0
def siz (h : Int) : Nat := if h = 1 then 32 else if h = 2 then 48 else if h = 3 then 64 else 0

theorem block_any (h : Int) (w : World) : Calls Tryd.prog 19 #[.int .i64 h] w fun e w' => e = .returned (.int .i64 (blk h)) ∧ w' = w := by
  by_cases h1 : h = 1
  · subst h1
    go_enter Tryd.func19, Tryd.ntmps19
    go_wp2
    go_ret
    exact ⟨rfl, rfl⟩
  by_cases h2 : h = 2
  · subst h2
    go_enter Tryd.func19, Tryd.ntmps19
    go_wp2
    go_ret
    exact ⟨rfl, rfl⟩
  by_cases h3 : h = 3
  · subst h3
    go_enter Tryd.func19, Tryd.ntmps19
    go_wp2
    go_ret
    exact ⟨rfl, rfl⟩
  have hb : Hid (blk h = 0) := by show _ = _; unfold blk; rw [if_neg h1, if_neg h2, if_neg h3]
  go_enter Tryd.func19, Tryd.ntmps19
  go_wp2
  go_ret
  rw [hb.out]
  exact ⟨rfl, rfl⟩

theorem size_any (h : Int) (w : World) : Calls Tryd.prog 23 #[.int .i64 h] w fun e w' => e = .returned (.int .i64 (siz h)) ∧ w' = w := by
  by_cases h1 : h = 1
  · subst h1
    go_enter Tryd.func23, Tryd.ntmps23
    go_wp2
    go_ret
    exact ⟨rfl, rfl⟩
  by_cases h2 : h = 2
  · subst h2
    go_enter Tryd.func23, Tryd.ntmps23
    go_wp2
    go_ret
    exact ⟨rfl, rfl⟩
  by_cases h3 : h = 3
  · subst h3
    go_enter Tryd.func23, Tryd.ntmps23
    go_wp2
    go_ret
    exact ⟨rfl, rfl⟩
  have hb : Hid (siz h = 0) := by show _ = _; unfold siz; rw [if_neg h1, if_neg h2, if_neg h3]
  go_enter Tryd.func23, Tryd.ntmps23
  go_wp2
  go_ret
  rw [hb.out]
  exact ⟨rfl, rfl⟩

/-- The number of bytes, the most significant first. -/
def be (l : List UInt8) : Nat := l.foldl (fun n x => n * 256 + x.toNat) 0

theorem be_snoc (l : List UInt8) (x : UInt8) : be (l ++ [x]) = be l * 256 + x.toNat := by simp [be]

theorem be_fold (l : List UInt8) : ∀ a : Nat, l.foldl (fun n x => n * 256 + x.toNat) a < (a + 1) * 256 ^ l.length := by
  induction l with
  | nil => intro a; simp
  | cons x l ih =>
    intro a
    rw [List.foldl_cons, List.length_cons, Nat.pow_succ]
    refine Nat.lt_of_lt_of_le (ih _) ?_
    have hx := x.toNat_lt
    have h1 : a * 256 + x.toNat + 1 ≤ (a + 1) * 256 := by omega
    calc (a * 256 + x.toNat + 1) * 256 ^ l.length ≤ ((a + 1) * 256) * 256 ^ l.length := Nat.mul_le_mul_right _ h1
      _ = (a + 1) * (256 ^ l.length * 256) := by rw [Nat.mul_assoc, Nat.mul_comm 256]

theorem be_lt (l : List UInt8) : be l < 256 ^ l.length := by
  have h := be_fold l 0
  rw [Nat.zero_add, Nat.one_mul] at h
  exact h

theorem getStep (n : Nat) (x : UInt8) (h : n < 72057594037927936) : bits .or .u64 ((n : Int) * 256) (x.toNat : Int) = ((n * 256 + x.toNat : Nat) : Int) := by
  have hx := x.toNat_lt
  have e : (n : Int) * 256 = ((n * 256 : Nat) : Int) := by omega
  rw [e, u64_or_nat (n * 256) x.toNat (by omega) (by omega), nat_join 8 (n * 256) x.toNat (by omega) (by omega)]

theorem take_be (l : List UInt8) (k : Nat) (hk : k < l.length) : be (l.take (k + 1)) = be (l.take k) * 256 + l[k].toNat := by
  rw [List.take_succ_eq_append_getElem hk, be_snoc]

set_option maxHeartbeats 400000 in
theorem get_any (b off cap : Nat) (l : List UInt8) (w : World) (hc : ∀ j, (hj : j < l.length) → w.cell? ⟨b, off + j, none⟩ = some (B l[j])) (hl : l.length ≤ 8) :
    Calls Tryd.prog 33 #[.slice (some ⟨b, off, none⟩) l.length cap] w fun e w' => e = .returned (.int .u64 (be l)) ∧ w' = w := by
  have Hc : Hid (∀ j, (hj : j < l.length) → w.cell? ⟨b, off + j, none⟩ = some (B l[j])) := hc
  clear hc
  go_enter Tryd.func33, Tryd.ntmps33
  go_wp2
  go_loop [3, 5, 8] (fun s3 _ s8 => ∃ k : Nat, s8 = .int .i64 (k : Int) ∧ k ≤ l.length ∧ s3 = .int .u64 (be (l.take k))) (fun _ _ s => l.length - (intOf s).toNat)
  case atStart => exact ⟨0, rfl, Nat.zero_le _, rfl⟩
  case round =>
    obtain ⟨k, rfl, hk, rfl⟩ := hrel
    by_cases hlt : k < l.length
    · have gc := Hc.out k hlt
      have Ht : Hid (be (l.take (k + 1)) = be (l.take k) * 256 + l[k].toNat) := take_be l k hlt
      have hb : be (l.take k) < 72057594037927936 := by
        have h1 := be_lt (l.take k)
        rw [List.length_take] at h1
        refine Nat.lt_of_lt_of_le h1 ?_
        have : (256 : Nat) ^ (min k l.length) ≤ 256 ^ 7 := Nat.pow_le_pow_right (by decide) (by omega)
        omega
      have hst := getStep (be (l.take k)) l[k] hb
      unfold B at gc
      generalize l[k] = x at *
      generalize be (l.take k) = m at *
      have hx := x.toNat_lt
      go_wp2
      go_round
      case rel => exact ⟨k + 1, by go_num, by omega, by rw [Ht.out]; simp⟩
      case measure => simp [intOf]; omega
    · obtain rfl : k = l.length := by omega
      go_wp2
      go_ret
      simp
end Go.Proofs.YtpfdaclmchcbiaaDoor.Sha