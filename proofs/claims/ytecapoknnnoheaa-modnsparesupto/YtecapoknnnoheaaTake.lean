import Derived.Test.YtecapoknnnoheaaRow
namespace Go.Proofs.Ytecapoknnnoheaa
open Go.RowKit

theorem take_step (B p A c X Y x y v c' d : Nat) (h : A + d * Y = X + p * c) (hs : v + c + d * y = x + B * c') : (A + p * v) + d * (Y + p * y) = (X + p * x) + (p * B) * c' := by
  have h1 := congrArg (p * ·) hs
  have h2 : d * (p * y) = p * (d * y) := Nat.mul_left_comm _ _ _
  simp only [Nat.mul_add, ← Nat.mul_assoc] at h1 h2 ⊢
  omega

theorem mul_lt_sq {a b : Nat} (ha : a ≤ 4294967295) (hb : b ≤ 4294967295) : a * b ≤ 18446744065119617025 := Nat.mul_le_mul ha hb

/-- What one limb's difference is: the limb, and what is borrowed. -/
theorem take_limb (x cr : Nat) (hx : x < 4294967296) (hcr : cr ≤ 18446744069414584320) : ∃ r : Nat, IntKind.u64.wrap ((x : Int) - ((cr % 4294967296 : Nat) : Int)) = (r : Int) ∧ r < 18446744073709551616 ∧ r % 4294967296 + cr = x + 4294967296 * (cr / 4294967296 + r / 9223372036854775808) ∧ cr / 4294967296 + r / 9223372036854775808 ≤ 4294967295 := by
  rw [IntKind.wrap_u64]
  by_cases h : x < cr % 4294967296
  · exact ⟨18446744073709551616 + x - cr % 4294967296, by omega, by omega, by omega, by omega⟩
  · exact ⟨x - cr % 4294967296, by omega, by omega, by omega, by omega⟩

set_option maxHeartbeats 1000000 in
theorem takeFrom_any (g off n c m bc d : Nat) (ao : Option Addr) (lo W hi ys : List Nat) (w : World) (hW : Bl 29 w g ((lo ++ W ++ hi).map U)) (hoff : off = lo.length) (hn : n = W.length) (hm : m = ys.length) (hy : Rn w ao ys) (ho : Off ao ys g) (sW : Sm Bs W) (sy : Sm Bs ys) (hl : n ≤ 1000000000) (hd : d ≤ 4294967295) :
    Calls Try.prog 73 #[.slice (some ⟨g, off, none⟩) n c, .slice ao m bc, .int .u64 (d : Int)] w fun e w' => ∃ (W' : List Nat) (cy : Nat), e = .returned (.bool (decide (cy ≠ 0))) ∧ Bl 29 w' g ((lo ++ W' ++ hi).map U) ∧ W'.length = n ∧ Sm Bs W' ∧ nv Bs W' + d * nv Bs (ys.take n) = nv Bs W + Bs ^ n * cy ∧ But w w' g ∧ w'.heap.size = w.heap.size := by
  have HW : Hid (Bl 29 w g ((lo ++ W ++ hi).map U)) := hW
  have Hoff : Hid (off = lo.length) := hoff
  have Hn : Hid (n = W.length) := hn
  have Hm : Hid (m = ys.length) := hm
  have Hy : Hid (Rn w ao ys) := hy
  have Ho : Hid (Off ao ys g) := ho
  have HsW : Hid (Sm Bs W) := sW
  have Hsy : Hid (Sm Bs ys) := sy
  clear hW hoff hn hm hy ho sW sy
  go_enter Try.func73, Try.ntmps73
  go_wp2
  go_loopw [7, 8, 9, 10, 13] (fun s7 _ _ _ s13 wr => ∃ (k cy : Nat) (ds : List Nat), s7 = .int .u64 (cy : Int) ∧ s13 = .int .i64 (k : Int) ∧ k ≤ n ∧ cy ≤ 4294967295 ∧ Hid (ds.length = k ∧ Sm Bs ds ∧ Bl 29 wr g ((lo ++ ds ++ W.drop k ++ hi).map U) ∧ nv Bs ds + d * nv Bs (ys.take k) = nv Bs (W.take k) + Bs ^ k * cy ∧ But w wr g ∧ wr.heap.size = w.heap.size)) (fun _ _ _ _ s _ => n - (intOf s).toNat)
  case atStart => exact ⟨0, 0, [], rfl, rfl, Nat.zero_le _, by omega, (rfl : ([] : List Nat).length = 0), Sm.nil _, by simpa using HW.out, by simp [nv], But.refl _ _, rfl⟩
  case round =>
    obtain ⟨k, cy, ds, rfl, rfl, hk, hcy, HI⟩ := hrel
    by_cases hlt : k < n
    · have hkW : k < W.length := by have := Hn.out; omega
      obtain ⟨x, Hx⟩ : ∃ x, Hid (W[k] = x) := ⟨W[k], (rfl : W[k] = W[k])⟩
      obtain ⟨y, Hyk⟩ : ∃ y, Hid (ys.getD k 0 = y) := ⟨_, rfl⟩
      have hx : x < 4294967296 := by rw [← Hx.out, ← Bs_eq]; exact HsW.out.get k hkW
      have hy : y < 4294967296 := by rw [← Hyk.out, ← Bs_eq]; exact Hsy.out.getD Bs_pos k
      have HB : Hid (Bl 29 wr g ((lo ++ ds ++ (x :: W.drop (k + 1)) ++ hi).map U)) := by
        have := HI.out.2.2.1
        rw [List.drop_eq_getElem_cons hkW, Hx.out] at this
        exact this
      have gc := mid_cell HB.out (o := off + k) (by rw [Hoff.out, HI.out.1])
      have gf := HB.out.frozen (off + k)
      have C := at_nat ao m bc k ys wr (Hy.out.but HI.out.2.2.2.2.1 Ho.out) Hm.out
      rw [Hyk.out] at C
      go_wp2_with fail
      refine C.mono ?_
      clear C
      rintro e w1 ⟨rfl, rfl⟩
      obtain ⟨z, Hz⟩ : ∃ z, Hid (d * y = z) := ⟨_, rfl⟩
      have hz : z ≤ 18446744065119617025 := by rw [← Hz.out]; exact mul_lt_sq hd (by omega)
      obtain ⟨s, Hs⟩ : ∃ s, Hid (cy + z = s) := ⟨_, rfl⟩
      have hs : s ≤ 18446744069414584320 := by rw [← Hs.out]; omega
      obtain ⟨r, er, hr, hr2, hr3⟩ := take_limb x s hx hs
      have Hr2 : Hid (r % 4294967296 + s = x + 4294967296 * (s / 4294967296 + r / 9223372036854775808)) := hr2
      clear hr2
      have e0 : (d : Int) * (y : Int) = (z : Int) := by rw [← Hz.out]; simp
      have e00 : IntKind.u64.wrap (z : Int) = (z : Int) := by rw [IntKind.wrap_u64]; omega
      have e1 : (cy : Int) + (z : Int) = (s : Int) := by have := Hs.out; omega
      have e11 : IntKind.u64.wrap (s : Int) = (s : Int) := by rw [IntKind.wrap_u64]; omega
      have e2 : Int.tmod (s : Int) 4294967296 = ((s % 4294967296 : Nat) : Int) := by rw [Int.tmod_eq_emod_of_nonneg (by omega)]; omega
      have e3 : IntKind.u32.wrap (r : Int) = ((r % 4294967296 : Nat) : Int) := by rw [IntKind.wrap_u32]; omega
      go_wp2
      go_roundw
      case rel =>
        have e4 : (s : Int) % 4294967296 = ((s % 4294967296 : Nat) : Int) := by omega
        rw [e4, er]
        have e5 : (r : Int) % 4294967296 = ((r % 4294967296 : Nat) : Int) := by omega
        have e6 : IntKind.u64.wrap ((s : Int) / 4294967296 + (r : Int) / 9223372036854775808) = ((s / 4294967296 + r / 9223372036854775808 : Nat) : Int) := by rw [IntKind.wrap_u64]; omega
        rw [e5, e6]
        refine ⟨k + 1, s / 4294967296 + r / 9223372036854775808, ds ++ [r % 4294967296], rfl, by go_num, by omega, hr3, ?_, HI.out.2.1.snoc (by rw [Bs_eq]; omega), mid_bl HB.out (by rw [Hoff.out, HI.out.1]) _, ?_, HI.out.2.2.2.2.1.set _ _, ?_⟩
        · rw [List.length_append, HI.out.1]; rfl
        · rw [nv_snoc, nv_take_succ, nv_take_succ, HI.out.1, getD_eq W k hkW, Hx.out, Hyk.out, Nat.pow_succ]
          refine take_step _ _ _ _ _ _ _ _ _ _ _ HI.out.2.2.2.1 ?_
          have h1 := Hr2.out
          have h2 := Hs.out
          rw [Bs_eq, Hz.out, Nat.add_assoc, h2]
          exact h1
        · rw [World.size_setCell]; exact HI.out.2.2.2.2.2
      case measure => simp [intOf]; omega
    · obtain rfl : k = n := by omega
      go_wp2
      go_ret
      refine ⟨ds, cy, ?_, ?_, HI.out.1, HI.out.2.1, ?_, HI.out.2.2.2.2⟩
      · congr 2
        by_cases h : cy = 0
        · subst h; rfl
        · simp [h]
      · have := HI.out.2.2.1
        rw [List.drop_of_length_le (by have := Hn.out; omega), List.append_nil] at this
        exact this
      · have := HI.out.2.2.2.1
        rw [List.take_of_length_le (l := W) (by have := Hn.out; omega)] at this
        exact this

end Go.Proofs.Ytecapoknnnoheaa
