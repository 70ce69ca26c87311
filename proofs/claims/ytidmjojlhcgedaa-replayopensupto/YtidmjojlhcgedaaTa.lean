import Derived.Test.YtidmjojlhcgedaaRv
namespace Go.Proofs.Ytidmjojlhcgedaa
open Go.RowKit Go.Maps
set_option maxRecDepth 100000

set_option maxHeartbeats 1000000 in
theorem rsum_any (ao : Option Addr) (l : List UInt8) (cap : Nat) (w : World) (hr : Rd w ao l) (hl : l.length ≤ 1000000000) :
    Calls Try.prog 41 #[.slice ao l.length cap] w fun e w' => e = .returned (.int .u64 (sumF l)) ∧ w' = w := by
  go_enter Try.func41, Try.ntmps41
  go_wp2
  go_loop [3, 4] (fun s3 s => ∃ k : Nat, s = .int .i64 (k : Int) ∧ k ≤ l.length ∧ s3 = .int .u64 (sumF (l.take k))) (fun _ s => l.length - (intOf s).toNat)
  case atStart => exact ⟨0, rfl, Nat.zero_le _, by simp [sumF, FB]⟩
  case round =>
    obtain ⟨k, rfl, hk, rfl⟩ := hrel
    by_cases hlt : k < l.length
    · obtain ⟨g, off, rfl, _, hc⟩ := hr.cell (by omega)
      have c1 := hc k hlt
      clear hc
      generalize hz : l.getD k 0 = z at c1
      generalize hs : sumF (l.take k) = S
      have hSl : S < FM := by rw [← hs]; exact sumF_lt _
      have hW := fnv_walk S z hSl
      have hN : Hid (sumF (l.take (k + 1)) = fnv S z) := by
        show _ = _
        rw [List.take_succ_eq_append_getElem hlt, sumF_snoc, hs, ← hz, getD_eq _ _ hlt]
      generalize hn : fnv S z = T at hW hN
      clear hn hs hSl
      go_wp2
      refine ⟨⟨k + 1, by go_num, by omega, ?_⟩, by simp [intOf]; omega⟩
      first | rw [hN.out] | rw [hN.out, hW]
    · obtain rfl : k = l.length := by omega
      go_wp2
      go_ret
      exact ⟨rfl, rfl⟩

set_option maxHeartbeats 1000000 in
theorem rput_any (B0 : Nat) (v : Value) (xs : List UInt8) (N n : Nat) (w0 w : World) (hob : OBb B0 w0 w v xs) (hB : B0 ≤ w0.heap.size) (hl : xs.length ≤ 900000000) (h8 : n ≤ 8) :
    Calls Try.prog 54 #[v, .int .u64 N, .int .i64 n] w fun e w' => ∃ v', e = .returned v' ∧ OBb B0 w0 w' v' (xs ++ tobe n N) := by
  go_enter Try.func54, Try.ntmps54
  go_wp2
  go_loopw [0, 7] (fun s0 s wr => ∃ k m : Nat, s = .int .i64 ((m : Int) - 1) ∧ k + m = n ∧ OBb B0 w0 wr s0 (xs ++ (tobe n N).take k)) (fun _ s _ => (intOf s + 1).toNat)
  case atStart => exact ⟨0, n, by go_num, by omega, by simpa using hob⟩
  case round =>
    obtain ⟨k, m, rfl, hk, hob⟩ := hrel
    cases m with
    | succ m =>
      have hkl : k < (tobe n N).length := by rw [tobe_length]; omega
      have hxl : (xs ++ (tobe n N).take k).length ≤ 1000000000 := by simp [tobe_length]; omega
      have e1 : (.int .u8 ((N : Int) / 2 ^ (8 * m) % 256) : Value) = .int .u8 ((tobe n N)[k].toNat : Int) := by
        rw [tobe_get, shr8, show n - 1 - k = m by omega]
      have hm8 : (m : Int) ≤ 7 := by omega
      rw [show (((m + 1 : Nat) : Int) - 1) = (m : Int) by omega]
      go_wp2_with (at_builtin; refine append_oneb rfl _ _ rfl B0 _ (xs ++ (tobe n N).take k) (tobe n N)[k] rfl hob rfl hxl hB ?_; intro v' w' hob')
      refine ⟨⟨k + 1, m, rfl, by omega, ?_⟩, by simp [intOf]⟩
      rw [List.take_succ_eq_append_getElem hkl, ← List.append_assoc]
      exact hob'
    | zero =>
      obtain rfl : k = n := by omega
      go_wp2
      go_ret
      refine ⟨_, rfl, ?_⟩
      rw [List.take_of_length_le (by rw [tobe_length]; exact Nat.le_refl _)] at hob
      exact hob

set_option maxHeartbeats 1000000 in
theorem rget_no (ao : Option Addr) (cap : Nat) (l : List UInt8) (p n : Nat) (w : World) (hl : l.length ≤ 1000000000) (hp : p ≤ 1000000000) (hs : l.length < p + n) (hn : n ≤ 8) :
    Calls Try.prog 39 #[.slice ao l.length cap, .int .i64 p, .int .i64 n] w fun e w' => e = .returned (.tuple #[.int .u64 0, .bool false]) ∧ w' = w := by
  have q : decide ((l.length : Int) - (p : Int) < (n : Int)) = true := by simp; omega
  go_enter Try.func39, Try.ntmps39
  go_wp2
  go_ret2
  exact ⟨rfl, rfl⟩

set_option maxHeartbeats 1000000 in
theorem rget_ok (ao : Option Addr) (cap : Nat) (l : List UInt8) (p n : Nat) (w : World) (hr : Rd w ao l) (hl : l.length ≤ 1000000000) (hs : p + n ≤ l.length) (hn : n ≤ 8) :
    Calls Try.prog 39 #[.slice ao l.length cap, .int .i64 p, .int .i64 n] w fun e w' => e = .returned (.tuple #[.int .u64 (be (pieceF l p n)), .bool true]) ∧ w' = w := by
  have q : decide ((l.length : Int) - (p : Int) < (n : Int)) = false := by simp; omega
  have hpl := pieceF_length hs
  go_enter Try.func39, Try.ntmps39
  go_wp2
  go_loop [8, 9] (fun s8 s => ∃ k : Nat, s = .int .i64 (k : Int) ∧ k ≤ n ∧ s8 = .int .u64 (be ((pieceF l p n).take k))) (fun _ s => n - (intOf s).toNat)
  case atStart => exact ⟨0, rfl, Nat.zero_le _, rfl⟩
  case round =>
    obtain ⟨k, rfl, hk, rfl⟩ := hrel
    by_cases hlt : k < n
    · obtain ⟨g, off, rfl, _, hc⟩ := hr.cell (by omega)
      have c1 := hc (p + k) (by omega)
      clear hc
      have hkp : k < (pieceF l p n).length := by omega
      have hz : l.getD (p + k) 0 = (pieceF l p n)[k] := by
        rw [getD_eq _ _ (by omega)]
        simp [pieceF]
      rw [hz] at c1
      have hb := take_be (pieceF l p n) k hkp
      have hlt2 := be_lt ((pieceF l p n).take k)
      rw [List.length_take, Nat.min_eq_left (by omega)] at hlt2
      have h256 : 256 ^ k ≤ 72057594037927936 := by
        calc 256 ^ k ≤ 256 ^ 7 := Nat.pow_le_pow_right (by decide) (by omega)
          _ = 72057594037927936 := by decide
      have hx := (pieceF l p n)[k].toNat_lt
      generalize (pieceF l p n)[k] = z at c1 hb hx
      generalize be ((pieceF l p n).take k) = S at hb hlt2
      have hS : S < 72057594037927936 := by omega
      have hbh : Hid (be ((pieceF l p n).take (k + 1)) = S * 256 + z.toNat) := hb
      clear hb hz hlt2 h256 hkp hpl
      go_wp2
      exact ⟨⟨k + 1, by go_num, by omega, by rw [hbh.out]; congr 1; omega⟩, by simp [intOf]; omega⟩
    · obtain rfl : k = n := by omega
      rw [List.take_of_length_le (by omega)]
      go_wp2
      go_ret2
      exact ⟨rfl, rfl⟩

end Go.Proofs.Ytidmjojlhcgedaa
