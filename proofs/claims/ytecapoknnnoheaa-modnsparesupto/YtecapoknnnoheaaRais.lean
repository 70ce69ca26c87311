import Derived.Test.YtecapoknnnoheaaMul
import Derived.Test.YtecapoknnnoheaaSub
namespace Go.Proofs.Ytecapoknnnoheaa
open Go.RowKit

theorem or_low (cy x s : Nat) (hc : cy < 2 ^ s) (hs : s < 32) (hx : x < 4294967296) : bits .or .u64 (cy : Int) ((x * 2 ^ s : Nat) : Int) = ((cy + x * 2 ^ s : Nat) : Int) := by
  have h1 : 2 ^ s ≤ 2 ^ 32 := Nat.pow_le_pow_right (by decide) (by omega)
  have h2 : x * 2 ^ s ≤ 4294967295 * 2 ^ 32 := Nat.mul_le_mul (by omega) h1
  rw [u64_or_nat _ _ (by omega) (by omega), Nat.or_comm, nat_join s (x * 2 ^ s) cy (Nat.mul_mod_left _ _) hc, Nat.add_comm]

theorem rais_step (B p A c X x v c' S : Nat) (h : A + p * c = S * X) (hs : v + B * c' = c + x * S) : (A + p * v) + (p * B) * c' = S * (X + p * x) := by
  have h1 := congrArg (p * ·) hs
  have h2 : S * (p * x) = p * (x * S) := by rw [Nat.mul_left_comm, Nat.mul_comm S x]
  simp only [Nat.mul_add, ← Nat.mul_assoc] at h1 h2 ⊢
  omega

theorem rais_exact {B : Nat} (hB : 0 < B) {W xs : List Nat} (b n c s : Nat) (_hW : Sm B W) (hx : Sm B xs) (hn : n = b + xs.length + 1) (hs : 2 ^ s ≤ B) (h : nv B W + B ^ n * c = 2 ^ s * nv B (List.replicate b 0 ++ xs ++ [0])) : nv B W = nv B xs * (B ^ b * 2 ^ s) := by
  have h1 := nv_lt hB hx
  rw [nv_append, nv_append, nv_zeros, nv_one, List.length_replicate, Nat.mul_zero, Nat.add_zero, Nat.zero_add] at h
  have h2 : B ^ b * nv B xs < B ^ (b + xs.length) := by
    rw [Nat.pow_add]; exact Nat.mul_lt_mul_of_pos_left h1 (Nat.pow_pos hB)
  have h3 : 2 ^ s * (B ^ b * nv B xs) < B * B ^ (b + xs.length) := Nat.lt_of_le_of_lt (Nat.mul_le_mul_right _ hs) (Nat.mul_lt_mul_of_pos_left h2 hB)
  rw [show B * B ^ (b + xs.length) = B ^ n by rw [hn, Nat.pow_succ']] at h3
  have h4 : nv B xs * (B ^ b * 2 ^ s) = 2 ^ s * (B ^ b * nv B xs) := by rw [Nat.mul_comm, Nat.mul_comm (B ^ b), Nat.mul_assoc]
  rw [h4]
  rcases c with _ | c
  · omega
  · rw [Nat.mul_succ] at h; omega

theorem pow_32 (b s k : Nat) (hk : k = 32 * b + s) : Bs ^ b * 2 ^ s = 2 ^ k := by
  rw [hk, Nat.pow_add, Nat.pow_mul]; rfl

set_option maxHeartbeats 1000000 in
theorem raised_any (ao : Option Addr) (m c k : Nat) (xs : List Nat) (w : World) (hx : Rn w ao xs) (sx : Sm Bs xs) (hm : m = xs.length) (hl : m ≤ 100000000) (hk : k ≤ 1000000) :
    Calls Try.prog 71 #[.slice ao m c, .int .i64 (k : Int)] w fun e w' => ∃ (L : List Nat) (N : Nat), N = k / 32 + m + 1 ∧ e = .returned (.slice (some ⟨w.heap.size, 0, none⟩) N N) ∧ Bl 29 w' w.heap.size (L.map U) ∧ L.length = N ∧ Sm Bs L ∧ nv Bs L = nv Bs xs * 2 ^ k ∧ Below w.heap.size w w' ∧ w'.heap.size = w.heap.size + 1 := by
  obtain ⟨b, hb⟩ : ∃ b, k / 32 = b := ⟨_, rfl⟩
  obtain ⟨s, hs⟩ : ∃ s, k % 32 = s := ⟨_, rfl⟩
  have hs32 : s < 32 := by omega
  have hb3 : b ≤ 1000000 := by omega
  have HK : Hid (k = 32 * b + s) := by show _ = _; omega
  have eb : Int.tdiv (k : Int) 32 = (b : Int) := by rw [Int.tdiv_eq_ediv_of_nonneg (by omega)]; omega
  have es : Int.tmod (k : Int) 32 = (s : Int) := by rw [Int.tmod_eq_emod_of_nonneg (by omega)]; omega
  have eb2 : (k : Int) / 32 = (b : Int) := by omega
  have es2 : (k : Int) % 32 = (s : Int) := by omega
  rw [hb]
  obtain ⟨N, HN⟩ : ∃ N, Hid (N = b + m + 1) := ⟨_, rfl⟩
  have hN1 : b < N := by rw [HN.out]; omega
  have hN2 : N ≤ 101000001 := by rw [HN.out]; omega
  have eN : (b : Int) + (m : Int) + 1 = (N : Int) := by rw [HN.out]; omega
  obtain ⟨wm, hmk, hbm, hbel, hsz⟩ := madeU w N (by omega)
  obtain ⟨w1, hcp, hb1, hbut, hsz1⟩ := copyU wm w.heap.size b (N - b) (N - b) m c N ao xs hbm (hx.below hbel (Nat.le_refl _)) hm (by omega) (by rw [HN.out]; omega)
  have HB : Hid (Bl 29 w1 w.heap.size ((List.replicate b 0 ++ xs ++ [0]).map U)) := by
    show Bl _ _ _ _
    rw [show N - b - m = 1 by rw [HN.out]; omega] at hb1
    exact hb1
  have HE : Hid (Below w.heap.size w w1 ∧ w1.heap.size = w.heap.size + 1) := ⟨hbel.trans (hbut.below (by omega) (Nat.le_refl _)), by omega⟩
  have HSx : Hid (Sm Bs xs) := sx
  have Hm : Hid (m = xs.length) := hm
  obtain ⟨L0, HL0⟩ : ∃ L0, Hid (L0 = List.replicate b 0 ++ xs ++ [0]) := ⟨List.replicate b 0 ++ xs ++ [0], (rfl : List.replicate b 0 ++ xs ++ [0] = _)⟩
  have HLl : Hid (L0.length = N) := by show _ = _; rw [HL0.out, HN.out, Hm.out]; simp; omega
  have HLs : Hid (Sm Bs L0) := by show Sm _ _; rw [HL0.out]; exact ((Sm.zeros _ Bs_pos).append sx).snoc Bs_pos
  rw [← HL0.out] at HB
  clear hb hs hbm hbel hsz hb1 hbut hsz1 hx sx hm
  have hNb : (b : Int) ≤ (N : Int) := by omega
  go_enter Try.func71, Try.ntmps71
  go_wp2
  clear hcp hmk
  go_loopw [7, 25] (fun s7 s25 wr => ∃ (i cy : Nat) (ds : List Nat), s7 = .int .u64 (cy : Int) ∧ s25 = .int .i64 (i : Int) ∧ i ≤ N ∧ cy < 2 ^ s ∧ Hid (ds.length = i ∧ Sm Bs ds ∧ Bl 29 wr w.heap.size (([] ++ ds ++ L0.drop i ++ []).map U) ∧ nv Bs ds + Bs ^ i * cy = 2 ^ s * nv Bs (L0.take i) ∧ Below w.heap.size w wr ∧ wr.heap.size = w.heap.size + 1)) (fun _ s _ => N - (intOf s).toNat)
  case atStart => exact ⟨0, 0, [], rfl, rfl, Nat.zero_le _, Nat.pow_pos (by decide), (rfl : ([] : List Nat).length = 0), Sm.nil _, by simpa using HB.out, by simp [nv], HE.out⟩
  case round =>
    obtain ⟨i, cy, ds, rfl, rfl, hi, hcy, HI⟩ := hrel
    by_cases hlt : i < N
    · have hkW : i < L0.length := by have := HLl.out; omega
      obtain ⟨x, Hx⟩ : ∃ x, Hid (L0[i] = x) := ⟨L0[i], (rfl : L0[i] = L0[i])⟩
      have hx : x < 4294967296 := by rw [← Hx.out, ← Bs_eq]; exact HLs.out.get i hkW
      have HB2 : Hid (Bl 29 wr w.heap.size (([] ++ ds ++ (x :: L0.drop (i + 1)) ++ []).map U)) := by
        have := HI.out.2.2.1
        rw [List.drop_eq_getElem_cons hkW, Hx.out] at this
        exact this
      have gc := mid_cell HB2.out (o := i) (by rw [HI.out.1]; simp)
      have gf := HB2.out.frozen i
      have hcyH : Hid (cy < 2 ^ s) := hcy
      have eor := or_low cy x s hcy hs32 hx
      obtain ⟨t, Ht⟩ : ∃ t, Hid (cy + x * 2 ^ s = t) := ⟨_, rfl⟩
      obtain ⟨z, Hz⟩ : ∃ z, Hid (x * 2 ^ s = z) := ⟨_, rfl⟩
      rw [Ht.out, Hz.out] at eor
      have hp : 2 ^ s ≤ 2147483648 := Nat.pow_le_pow_right (n := 2) (by decide) (show s ≤ 31 by omega)
      have hz : z ≤ 9223372034707292160 := by rw [← Hz.out]; exact Nat.mul_le_mul (show x ≤ 4294967295 by omega) hp
      have ht : t < 9223372036854775808 := by have h1 := Ht.out; have h2 := Hz.out; rw [h2] at h1; omega
      have ht2 : Hid (t / 4294967296 < 2 ^ s) := by
        show _ < _
        have h3 : x * 2 ^ s ≤ 4294967295 * 2 ^ s := Nat.mul_le_mul_right _ (by omega)
        have h1 := Ht.out
        omega
      have ez : (x : Int) * 2 ^ s = (z : Int) := by rw [← Hz.out]; simp
      have ew : IntKind.u64.wrap (z : Int) = (z : Int) := by rw [IntKind.wrap_u64]; omega
      have e3 : IntKind.u32.wrap (t : Int) = ((t % 4294967296 : Nat) : Int) := by rw [IntKind.wrap_u32]; omega
      clear hcy hp
      go_wp2
      go_roundw
      case rel =>
        have e4 : (t : Int) / 4294967296 = ((t / 4294967296 : Nat) : Int) := by omega
        have e5 : (t : Int) % 4294967296 = ((t % 4294967296 : Nat) : Int) := by omega
        rw [e4, e5]
        refine ⟨i + 1, t / 4294967296, ds ++ [t % 4294967296], rfl, by go_num, by omega, ht2.out, ?_, HI.out.2.1.snoc (by rw [Bs_eq]; omega), mid_bl HB2.out (by rw [HI.out.1]; simp) _, ?_, HI.out.2.2.2.2.1.setCell (Nat.le_refl _) _, ?_⟩
        · rw [List.length_append, HI.out.1]; rfl
        · rw [nv_snoc, nv_take_succ, HI.out.1, getD_eq L0 i hkW, Hx.out, Nat.pow_succ]
          exact rais_step _ _ _ _ _ _ _ _ _ HI.out.2.2.2.1 (by have := Ht.out; rw [Bs_eq, this]; omega)
        · rw [World.size_setCell]; exact HI.out.2.2.2.2.2
      case measure => simp [intOf]; omega
    · obtain rfl : i = N := by omega
      go_wp2
      go_ret
      have h1 := HI.out.2.2.2.1
      rw [List.take_of_length_le (by have := HLl.out; omega), HL0.out] at h1
      refine ⟨ds, i, HN.out, rfl, ?_, HI.out.1, HI.out.2.1, ?_, HI.out.2.2.2.2⟩
      · have := HI.out.2.2.1
        rw [List.drop_of_length_le (by have := HLl.out; omega), List.append_nil, List.append_nil] at this
        exact this
      · rw [← pow_32 b s k HK.out]
        exact rais_exact Bs_pos b i cy s HI.out.2.1 HSx.out (by rw [HN.out, Hm.out]) (by rw [Bs_eq]; exact Nat.pow_le_pow_right (n := 2) (by decide) (show s ≤ 32 by omega)) h1

end Go.Proofs.Ytecapoknnnoheaa
