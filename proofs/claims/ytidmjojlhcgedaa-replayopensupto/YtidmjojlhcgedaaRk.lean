import Derived.Test.YtidmjojlhcgedaaRj
namespace Go.Proofs.Ytidmjojlhcgedaa
open Go.RowKit Go.Maps
set_option maxRecDepth 100000

/-- The number of bytes, the most significant first. -/
def be (l : List UInt8) : Nat := l.foldl (fun n x => n * 256 + x.toNat) 0

theorem be_snoc (l : List UInt8) (x : UInt8) : be (l ++ [x]) = be l * 256 + x.toNat := by simp [be]

theorem be_fold (l : List UInt8) : ∀ a : Nat, l.foldl (fun n x => n * 256 + x.toNat) a < (a + 1) * 256 ^ l.length := by
  induction l with
  | nil => intro a; simp
  | cons x l ih =>
    intro a
    rw [List.foldl_cons, List.length_cons, Nat.pow_succ]
    refine Nat.lt_of_lt_of_le (ih _) ?_
    have hx := x.toNat_lt
    have h1 : a * 256 + x.toNat + 1 ≤ (a + 1) * 256 := by omega
    calc (a * 256 + x.toNat + 1) * 256 ^ l.length ≤ ((a + 1) * 256) * 256 ^ l.length := Nat.mul_le_mul_right _ h1
      _ = (a + 1) * (256 ^ l.length * 256) := by rw [Nat.mul_assoc, Nat.mul_comm 256]

theorem be_lt (l : List UInt8) : be l < 256 ^ l.length := by
  have h := be_fold l 0
  rw [Nat.zero_add, Nat.one_mul] at h
  exact h

theorem getStep (n : Nat) (x : UInt8) (h : n < 72057594037927936) : bits .or .u64 ((n : Int) * 256) (x.toNat : Int) = ((n * 256 + x.toNat : Nat) : Int) := by
  have hx := x.toNat_lt
  have e : (n : Int) * 256 = ((n * 256 : Nat) : Int) := by omega
  rw [e, u64_or_nat (n * 256) x.toNat (by omega) (by omega), nat_join 8 (n * 256) x.toNat (by omega) (by omega)]

theorem take_be (l : List UInt8) (k : Nat) (hk : k < l.length) : be (l.take (k + 1)) = be (l.take k) * 256 + l[k].toNat := by
  rw [List.take_succ_eq_append_getElem hk, be_snoc]


/-- The bytes of the next thing. -/
def pieceF (l : List UInt8) (nx size : Nat) : List UInt8 := (l.drop nx).take size
theorem pieceF_length {l : List UInt8} {nx size : Nat} (h : nx + size ≤ l.length) : (pieceF l nx size).length = size := by simp [pieceF]; omega

set_option maxHeartbeats 1000000 in
theorem number_no (rb : Nat) (ao : Option Addr) (cap : Nat) (l : List UInt8) (p nx size : Nat) (w : World) (h : Rdr w rb ao cap l p nx) (hl : l.length ≤ 1000000000000) (hs : l.length < nx + size) (hs2 : size ≤ 8) :
    Calls Try.prog 52 #[.pointer (some ⟨rb, 0, none⟩), .int .i64 size] w fun e w' => e = .returned (.tuple #[.int .u64 0, .bool false]) ∧ Rdr w' rb ao cap l nx nx ∧ Chf (fun k => k = rb) w w' := by
  have PN := part_no rb ao cap l p nx size w h hl hs (by omega)
  clear h hl hs
  go_enter Try.func52, Try.ntmps52
  go_wp2_with fail
  refine PN.mono ?_
  rintro e w1 ⟨rfl, hR, hC⟩
  have hRh : Hid (Rdr w1 rb ao cap l nx nx) := hR
  have hCh : Hid (Chf (fun k => k = rb) w w1) := hC
  clear hR hC PN
  go_wp2
  refine wp_loop_rounds 1 ?_
  rw [rounds_succ]
  go_wp2
  go_ret2
  exact ⟨rfl, hRh.out, hCh.out⟩

set_option maxHeartbeats 1000000 in
theorem number_ok (rb : Nat) (ao : Option Addr) (cap : Nat) (l : List UInt8) (p nx size : Nat) (w : World) (h : Rdr w rb ao cap l p nx) (hl : l.length ≤ 1000000000000) (hs : nx + size ≤ l.length) (hs2 : size ≤ 8) :
    Calls Try.prog 52 #[.pointer (some ⟨rb, 0, none⟩), .int .i64 size] w fun e w' => e = .returned (.tuple #[.int .u64 (be (pieceF l nx size)), .bool true]) ∧ Rdr w' rb ao cap l nx (nx + size) ∧ Chf (fun k => k = rb) w w' := by
  have PN := part_ok rb ao cap l p nx size w h hl hs
  have hll := pieceF_length hs
  change Calls _ _ _ _ (fun e w' => (∃ ao' c', e = .returned (.tuple #[.slice ao' size c', .bool true]) ∧ Rd w' ao' (pieceF l nx size) ∧ size ≤ c') ∧ Rdr w' rb ao cap l nx (nx + size) ∧ Chf (fun k => k = rb) w w') at PN
  generalize pieceF l nx size = m at PN hll ⊢
  clear h hl hs
  go_enter Try.func52, Try.ntmps52
  go_wp2_with fail
  refine PN.mono ?_
  rintro e w1 ⟨⟨a2, c2, rfl, hrd, hc2⟩, hR, hC⟩
  have hRh : Hid (Rdr w1 rb ao cap l nx (nx + size)) := hR
  have hCh : Hid (Chf (fun k => k = rb) w w1) := hC
  subst hll
  clear hR hC PN hc2
  have Hc : Hid (Rd w1 a2 m) := hrd
  clear hrd
  go_wp2
  go_loop [8, 19] (fun s8 s => ∃ k : Nat, s = .int .i64 (k : Int) ∧ k ≤ m.length ∧ s8 = .int .u64 (be (m.take k))) (fun _ s => m.length - (intOf s).toNat)
  case atStart => exact ⟨0, rfl, Nat.zero_le _, rfl⟩
  case round =>
    obtain ⟨k, rfl, hk, rfl⟩ := hrel
    by_cases hlt : k < m.length
    · obtain ⟨g, off, rfl, _, hc⟩ := Hc.out.cell (by omega)
      have gc := hc k hlt
      clear hc
      have Ht : Hid (be (m.take (k + 1)) = be (m.take k) * 256 + m[k].toNat) := take_be m k hlt
      have hb : be (m.take k) < 72057594037927936 := by
        have h1 := be_lt (m.take k)
        rw [List.length_take] at h1
        refine Nat.lt_of_lt_of_le h1 ?_
        have : (256 : Nat) ^ (min k m.length) ≤ 256 ^ 7 := Nat.pow_le_pow_right (by decide) (by omega)
        omega
      have hst := getStep (be (m.take k)) m[k] hb
      rw [getD_eq _ _ hlt] at gc
      generalize m[k] = x at *
      generalize be (m.take k) = n at *
      have hx := x.toNat_lt
      go_wp2
      go_round
      case rel => exact ⟨k + 1, by go_num, by omega, by rw [Ht.out]; simp⟩
      case measure => simp [intOf]; omega
    · obtain rfl : k = m.length := by omega
      go_wp2
      go_ret2
      exact ⟨by simp, hRh.out, hCh.out⟩

end Go.Proofs.Ytidmjojlhcgedaa
