import Derived.Test.YtidmjojlhcgedaaRd
namespace Go.Proofs.Ytidmjojlhcgedaa
open Go.RowKit Go.Maps
set_option maxRecDepth 100000

/-- FNV-1a of 64 bits. -/
def FB : Nat := 14695981039346656037
def FP : Nat := 1099511628211
def FM : Nat := 18446744073709551616
def fnv (h : Nat) (c : UInt8) : Nat := (h ^^^ c.toNat) * FP % FM
def sumF (l : List UInt8) : Nat := l.foldl fnv FB

theorem sumF_snoc (l : List UInt8) (c : UInt8) : sumF (l ++ [c]) = fnv (sumF l) c := by
  unfold sumF
  generalize FB = X
  rw [List.foldl_append, List.foldl_cons, List.foldl_nil]
theorem FB_lt : FB < FM := by unfold FB FM; omega
theorem mod_FM (x : Nat) : x % FM < FM := Nat.mod_lt _ (Nat.lt_of_le_of_lt (Nat.zero_le _) FB_lt)
theorem fnv_lt (h : Nat) (c : UInt8) : fnv h c < FM := by unfold fnv; exact mod_FM _
theorem foldl_lt : ∀ (l : List UInt8) (h : Nat), h < FM → l.foldl fnv h < FM
  | [], _, h => h
  | c :: r, h, _ => by rw [List.foldl_cons]; exact foldl_lt r _ (fnv_lt h c)
theorem fnv_walk (S : Nat) (c : UInt8) (hS : S < FM) : IntKind.u64.wrap (bits BinOp.xor IntKind.u64 (S : Int) (IntKind.u64.wrap (c.toNat : Int)) * 1099511628211) = ((fnv S c : Nat) : Int) := by
  have hc : c.toNat < 256 := c.toNat_lt
  have h1 : IntKind.u64.wrap (c.toNat : Int) = (c.toNat : Int) := by rw [IntKind.wrap_u64]; omega
  have hS' : S < 18446744073709551616 := hS
  rw [h1, u64_xor_nat S c.toNat hS' (by omega), IntKind.wrap_u64]
  unfold fnv
  have e1 : FM = 18446744073709551616 := rfl
  have e2 : FP = 1099511628211 := rfl
  rw [e1, e2]
  generalize S ^^^ c.toNat = X
  omega
theorem sumF_lt (l : List UInt8) : sumF l < FM := foldl_lt l FB FB_lt

set_option maxHeartbeats 1000000 in
theorem sumOf_any (ao : Option Addr) (l : List UInt8) (cap : Nat) (w : World) (hr : Rd w ao l) (hl : l.length ≤ 1000000000) :
    Calls Try.prog 35 #[.slice ao l.length cap] w fun e w' => e = .returned (.int .u64 (sumF l)) ∧ w' = w := by
  go_enter Try.func35, Try.ntmps35
  go_wp2
  go_loop [3, 8] (fun s3 s => ∃ k : Nat, s = .int .i64 (k : Int) ∧ k ≤ l.length ∧ s3 = .int .u64 (sumF (l.take k))) (fun _ s => l.length - (intOf s).toNat)
  case atStart => exact ⟨0, rfl, Nat.zero_le _, by simp [sumF, FB]⟩
  case round =>
    obtain ⟨k, rfl, hk, rfl⟩ := hrel
    by_cases hlt : k < l.length
    · obtain ⟨g, off, rfl, _, hc⟩ := hr.cell (by omega)
      have c1 := hc k hlt
      clear hc
      generalize hz : l.getD k 0 = z at c1
      generalize hs : sumF (l.take k) = S
      have hSl : S < FM := by rw [← hs]; exact sumF_lt _
      have hW := fnv_walk S z hSl
      have hN : Hid (sumF (l.take (k + 1)) = fnv S z) := by
        show _ = _
        rw [List.take_succ_eq_append_getElem hlt, sumF_snoc, hs, ← hz, getD_eq _ _ hlt]
      generalize hn : fnv S z = T at hW hN
      clear hn hs hSl
      go_wp2
      refine ⟨⟨k + 1, by go_num, by omega, ?_⟩, by simp [intOf]; omega⟩
      first | rw [hN.out] | rw [hN.out, hW]
    · obtain rfl : k = l.length := by omega
      go_wp2
      go_ret
      exact ⟨rfl, rfl⟩

end Go.Proofs.Ytidmjojlhcgedaa
