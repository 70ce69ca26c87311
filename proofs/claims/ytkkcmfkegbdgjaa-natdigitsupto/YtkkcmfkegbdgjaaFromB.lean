import Derived.Test.YtkkcmfkegbdgjaaMul
namespace Go.Proofs.Ytkkcmfkegbdgjaa
open Go.RowKit

/-- The number of bytes, the most significant first. -/
def bv (l : List UInt8) : Nat := l.foldl (fun a c => a * 256 + c.toNat) 0
theorem bv_snoc (l : List UInt8) (c : UInt8) : bv (l ++ [c]) = bv l * 256 + c.toNat := by simp [bv]
theorem bv_nil : bv [] = 0 := rfl
theorem bv_take_succ (l : List UInt8) (k : Nat) (hk : k < l.length) : bv (l.take (k + 1)) = bv (l.take k) * 256 + l[k].toNat := by
  rw [List.take_succ_eq_append_getElem hk, bv_snoc]

theorem Bs_256 : Bs = 256 ^ 4 := by decide

/-- A limb whose lower bytes are not filled yet. -/
theorem low_zero (P : List Nat) (sP : Sm Bs P) (V p : Nat) (h : nv Bs P = V * 256 ^ (p + 1)) : P.getD (p / 4) 0 % 2 ^ (8 * (p % 4 + 1)) = 0 := by
  have e0 : 256 ^ (p + 1) = Bs ^ (p / 4) * 256 ^ (p % 4 + 1) := by
    rw [Bs_256, ← Nat.pow_mul, ← Nat.pow_add]
    congr 1
    omega
  have e1 : nv Bs P / Bs ^ (p / 4) = V * 256 ^ (p % 4 + 1) := by
    rw [h, e0, Nat.mul_left_comm, Nat.mul_div_cancel_left _ (Nat.pow_pos Bs_pos)]
  rw [nv_getD Bs_pos sP, e1, show (2 : Nat) ^ (8 * (p % 4 + 1)) = 256 ^ (p % 4 + 1) by rw [Nat.pow_mul], Nat.mod_mod_of_dvd _ (by
    rw [Bs_256]
    exact Nat.pow_dvd_pow 256 (by omega))]
  exact Nat.mul_mod_left _ _

theorem place_value (P : List Nat) (V p c x : Nat) (hp : p / 4 < P.length) (hx : P.getD (p / 4) 0 = x) (h : nv Bs P = V * 256 ^ (p + 1)) : nv Bs (P.set (p / 4) (x + c * 2 ^ (8 * (p % 4)))) = (V * 256 + c) * 256 ^ p := by
  have h1 := nv_set' Bs P (p / 4) (x + c * 2 ^ (8 * (p % 4))) x hp hx
  have e0 : 256 ^ p = Bs ^ (p / 4) * 2 ^ (8 * (p % 4)) := by
    rw [show (2 : Nat) ^ (8 * (p % 4)) = 256 ^ (p % 4) by rw [Nat.pow_mul], Bs_256, ← Nat.pow_mul, ← Nat.pow_add]
    congr 1
    omega
  have e2 : Bs ^ (p / 4) * (c * 2 ^ (8 * (p % 4))) = c * 256 ^ p := by rw [e0, Nat.mul_left_comm]
  rw [Nat.mul_add, e2] at h1
  rw [Nat.pow_succ, Nat.mul_comm (256 ^ p), ← Nat.mul_assoc] at h
  rw [Nat.add_mul]
  generalize Bs ^ (p / 4) * x = t at *
  omega

theorem MS.drewN {w wr : World} {g n : Nat} {P : List Nat} (h : MS w wr g n P) (q : Nat) : MS w (wr.drewN q) g n P := ⟨h.bl, h.len, h.sm, below_drewN h.bel q⟩

set_option maxHeartbeats 1000000 in
theorem fromBytes_any (ao : Option Addr) (c : Nat) (l : List UInt8) (w : World) (hl : Rd w ao l) (h1 : l.length ≤ 100000000) :
    Calls Try.prog 26 #[.slice ao l.length c] w fun e w' => ∃ r, e = .returned r ∧ Ow w' w.heap.size r (dg Bs (bv l)) ∧ Below w.heap.size w w' := by
  obtain ⟨N, HN⟩ : ∃ N, Hid ((l.length + 3) / 4 = N) := ⟨_, rfl⟩
  have hN : N ≤ 100000001 := by rw [← HN.out]; omega
  have e1 : (l.length : Int) + 4 - 1 = ((l.length + 3 : Nat) : Int) := by omega
  have e2 : Int.tdiv ((l.length + 3 : Nat) : Int) 4 = (N : Int) := by rw [Int.tdiv_eq_ediv_of_nonneg (by omega), ← HN.out]; omega
  have e3 : ((l.length + 3 : Nat) : Int) / 4 = (N : Int) := by rw [← HN.out]; omega
  have e4 : ((l.length : Int) + 3) / 4 = (N : Int) := by rw [← HN.out]; omega
  obtain ⟨wm, hmk, hb, hbel, hsz⟩ := madeU w N (by omega)
  have HMS : Hid (MS w wm w.heap.size N (List.replicate N 0)) := ⟨hb, by simp, Sm.zeros _ Bs_pos, hbel⟩
  have HL : Hid (Rd w ao l) := hl
  clear hb hbel hsz hl
  go_enter Try.func26, Try.ntmps26
  go_wp2
  clear hmk
  go_loopw [15] (fun s wr => ∃ (i q : Nat) (P : List Nat) (w0 : World), s = .int .i64 (i : Int) ∧ i ≤ l.length ∧ wr = w0.drewN q ∧ Hid (MS w w0 w.heap.size N P ∧ nv Bs P = bv (l.take i) * 256 ^ (l.length - i))) (fun s _ => l.length - (intOf s).toNat)
  case atStart => exact ⟨0, 0, _, wm, rfl, Nat.zero_le _, rfl, HMS.out, by rw [nv_zeros, List.take_zero, bv_nil, Nat.zero_mul]⟩
  case round =>
    clear HMS
    obtain ⟨i, q, P, w0, rfl, hi, rfl, HI⟩ := hrel
    by_cases hlt : i < l.length
    · obtain ⟨p, Hp⟩ : ∃ p, Hid (l.length = i + p + 1) := ⟨l.length - i - 1, (by omega : l.length = i + (l.length - i - 1) + 1)⟩
      have hll : l ≠ [] := fun e => by rw [e] at hlt; simp at hlt
      obtain ⟨gl, ol, rfl, _, cl⟩ : ∃ g off : Nat, ao = some ⟨g, off, none⟩ ∧ g < w0.heap.size ∧ ∀ j, j < l.length → w0.cell? ⟨g, off + j, none⟩ = some (B (l.getD j 0)) := by
        rcases HL.out.below HI.out.1.bel (Nat.le_refl _) with h | h
        · exact absurd h hll
        · exact h
      have c1 := cl i hlt
      obtain ⟨x, Hx⟩ : ∃ x, Hid (l[i] = x) := ⟨l[i], (rfl : l[i] = l[i])⟩
      rw [List.getD_eq_getElem?_getD, List.getElem?_eq_getElem hlt, Hx.out, Option.getD_some] at c1
      unfold B at c1
      have hxb := x.toNat_lt
      obtain ⟨y, Hy⟩ : ∃ y, Hid (x.toNat = y) := ⟨_, rfl⟩
      rw [Hy.out] at c1 hxb
      have hpb : p < 100000000 := by have := Hp.out; omega
      obtain ⟨qt, Hqt⟩ : ∃ a, Hid (p / 4 = a) := ⟨_, rfl⟩
      obtain ⟨s, Hs⟩ : ∃ a, Hid (8 * (p % 4) = a) := ⟨_, rfl⟩
      have hqN : qt < N := by rw [← Hqt.out, ← HN.out]; have := Hp.out; omega
      have hs32 : s ≤ 24 := by rw [← Hs.out]; omega
      obtain ⟨z, Hz⟩ : ∃ a, Hid (P.getD qt 0 = a) := ⟨_, rfl⟩
      have hz : z < 4294967296 := by rw [← Hz.out, ← Bs_eq]; exact HI.out.1.sm.getD Bs_pos qt
      have gc := HI.out.1.bl.limb qt z (by rw [HI.out.1.len]; exact hqN) Hz.out
      have gf := HI.out.1.bl.frozen qt
      have ep : (l.length : Int) - 1 - (i : Int) = (p : Int) := by have := Hp.out; omega
      have eq1 : Int.tdiv (p : Int) 4 = (qt : Int) := by rw [Int.tdiv_eq_ediv_of_nonneg (by omega), ← Hqt.out]; omega
      have eq2 : (p : Int) / 4 = (qt : Int) := by rw [← Hqt.out]; omega
      have er1 : Int.tmod (p : Int) 4 * 8 = (s : Int) := by rw [Int.tmod_eq_emod_of_nonneg (by omega), ← Hs.out]; omega
      have er2 : (p : Int) % 4 * 8 = (s : Int) := by rw [← Hs.out]; omega
      have hP2 : 2 ^ s ≤ 16777216 := Nat.pow_le_pow_right (n := 2) (by decide) hs32
      have hval := HI.out.2
      rw [show l.length - i = p + 1 by have := Hp.out; omega] at hval
      have hlow := low_zero P HI.out.1.sm _ p hval
      rw [Hqt.out, Hz.out, show 8 * (p % 4 + 1) = s + 8 by rw [← Hs.out]; omega] at hlow
      have hys : y * 2 ^ s < 2 ^ (s + 8) := by
        rw [Nat.pow_add, Nat.mul_comm]
        exact Nat.mul_lt_mul_of_pos_left (by exact hxb) (Nat.pow_pos (by decide))
      have hjoin := nat_join (s + 8) z (y * 2 ^ s) hlow hys
      obtain ⟨u, Hu⟩ : ∃ a, Hid (y * 2 ^ s = a) := ⟨_, rfl⟩
      have hu : u < 4294967296 := by
        have : y * 2 ^ s ≤ 255 * 16777216 := Nat.mul_le_mul (by omega) hP2
        rw [← Hu.out]; omega
      rw [Hu.out] at hjoin
      have hor : bits .or .u32 (z : Int) (u : Int) = ((z + u : Nat) : Int) := by rw [u32_or_nat z u hz hu, hjoin]
      have hzu : z + u < 4294967296 := by rw [← hjoin]; exact Nat.or_lt_two_pow (n := 32) hz hu
      have HV : Hid (nv Bs (P.set qt (z + u)) = bv (l.take (i + 1)) * 256 ^ (l.length - (i + 1))) := by
        have h3 := place_value P _ p y z (by rw [Hqt.out, HI.out.1.len]; exact hqN) (by rw [Hqt.out]; exact Hz.out) hval
        rw [Hqt.out, Hs.out, Hu.out] at h3
        show _ = _
        rw [h3, bv_take_succ l i hlt, Hx.out, Hy.out, show l.length - (i + 1) = p by have := Hp.out; omega]
      have eu : (y : Int) * 2 ^ s = (u : Int) := by rw [← Hu.out]; simp
      have euw : IntKind.u32.wrap (u : Int) = (u : Int) := by rw [IntKind.wrap_u32]; omega
      obtain ⟨t, Ht⟩ : ∃ a, Hid (z + u = a) := ⟨_, rfl⟩
      rw [Ht.out] at hor hzu HV
      clear cl hP2 hval hlow hys hjoin hll
      go_wp2
      refine wp_region_tail 13 (by kernel_rfl) (by kernel_rfl) ?_
      simp only [List.take_succ_cons, List.take_zero, List.drop_succ_cons, List.drop_zero]
      repeat (first | go_big_quiet_skip | (go_big_quiet_want; go_big_quiet_op; go_big_quiet_on))
      refine wpQuiet_nil ?_
      go_wp2
      go_roundw
      case rel => exact ⟨i + 1, 0, P.set qt t, _, by go_num, by omega, rfl, (HI.out.1.drewN (q + 1)).set qt t hzu, HV.out⟩
      case measure => simp [intOf]; omega
    · obtain rfl : i = l.length := by omega
      have hval := HI.out.2
      rw [Nat.sub_self, Nat.pow_zero, Nat.mul_one, List.take_of_length_le (Nat.le_refl _)] at hval
      have MSq := HI.out.1.drewN q
      have C3 := proper_any (some ⟨w.heap.size, 0, none⟩) N N P (w0.drewN q) MSq.bl.rn MSq.len.symm (Nat.le_refl _) (by omega)
      have HA : Hid (Ow (w0.drewN q) w.heap.size (.slice (some ⟨w.heap.size, 0, none⟩) (tl P) N) (dg Bs (bv l)) ∧ Below w.heap.size w (w0.drewN q)) := by
        have := Bl.proper (w := w0.drewN q) (base := w.heap.size) (g := w.heap.size) (L := P) MSq.bl MSq.sm (Nat.le_refl _) (by rw [MSq.len]; omega)
        rw [MSq.len, hval] at this
        exact ⟨this, MSq.bel⟩
      clear hval MSq
      go_wp2_with fail
      refine C3.mono ?_
      clear C3
      rintro e w1 ⟨rfl, rfl⟩
      go_wp2
      go_ret
      exact ⟨_, rfl, HA.out⟩

end Go.Proofs.Ytkkcmfkegbdgjaa
