import Derived.Test.YtmngdaolgdhgmaaGreatDoorNtZ1
import Derived.Test.YtmngdaolgdhgmaaGreatDoorNtZ2
namespace Go.Proofs.YtmngdaolgdhgmaaGreatDoor
open Go.RowKit

/-- How many binary digits a number has. -/
def bl (v : Nat) : Nat := if v = 0 then 0 else Nat.log2 v + 1

theorem bl_lt (v : Nat) : v < 2 ^ bl v := by
  unfold bl
  split
  · next h => subst h; decide
  · exact Nat.lt_log2_self
theorem bl_le (v : Nat) (h : v ≠ 0) : 2 ^ (bl v - 1) ≤ v := by
  unfold bl
  rw [if_neg h, Nat.add_sub_cancel]
  exact Nat.log2_self_le h
theorem bl_of (v n : Nat) (h1 : v < 2 ^ n) (h2 : n = 0 ∨ 2 ^ (n - 1) ≤ v) : bl v = n := by
  by_cases hv : v = 0
  · subst hv
    rcases h2 with h | h
    · subst h; rfl
    · have := Nat.pow_pos (n := n - 1) (show 0 < 2 by decide); omega
  · have a1 := bl_lt v
    have a2 := bl_le v hv
    have a3 : 0 < bl v := by unfold bl; rw [if_neg hv]; omega
    rcases Nat.lt_trichotomy (bl v) n with h | h | h
    · have h3 : 2 ^ (n - 1) ≤ v := by rcases h2 with h2 | h2 <;> omega
      have : 2 ^ bl v ≤ 2 ^ (n - 1) := Nat.pow_le_pow_right (by decide) (by omega)
      omega
    · exact h
    · have : 2 ^ n ≤ 2 ^ (bl v - 1) := Nat.pow_le_pow_right (by decide) (by omega)
      omega
theorem bl_pos (v : Nat) (h : v ≠ 0) : 0 < bl v := by unfold bl; rw [if_neg h]; omega
theorem bl_zero : bl 0 = 0 := rfl
theorem bl_shift (v k : Nat) (h : v / 2 ^ k ≠ 0) : bl v = bl (v / 2 ^ k) + k := by
  have hp : 0 < 2 ^ k := Nat.pow_pos (by decide)
  have a1 := bl_lt (v / 2 ^ k)
  have a2 := bl_le (v / 2 ^ k) h
  have a3 := bl_pos _ h
  refine bl_of _ _ ?_ (.inr ?_)
  · rw [Nat.pow_add]; exact (Nat.div_lt_iff_lt_mul hp).1 a1
  · rw [show bl (v / 2 ^ k) + k - 1 = (bl (v / 2 ^ k) - 1) + k by omega, Nat.pow_add]
    exact (Nat.le_div_iff_mul_le hp).1 a2
theorem bl_mono {a b : Nat} (h : a ≤ b) : bl a ≤ bl b := by
  by_cases ha : a = 0
  · subst ha; rw [bl_zero]; omega
  · have a1 := bl_le a ha
    have a2 := bl_lt b
    have a3 := bl_pos a ha
    rcases Nat.lt_or_ge (bl b) (bl a) with h3 | h3
    · have : 2 ^ bl b ≤ 2 ^ (bl a - 1) := Nat.pow_le_pow_right (by decide) (by omega)
      omega
    · exact h3

/-- The table of the library. -/
def lenTab : ByteArray := ⟨#[0, 1, 2, 2, 3, 3, 3, 3, 4, 4, 4, 4, 4, 4, 4, 4, 5, 5, 5, 5, 5, 5, 5, 5, 5, 5, 5, 5, 5, 5, 5, 5, 6, 6, 6, 6, 6, 6, 6, 6, 6, 6, 6, 6, 6, 6, 6, 6, 6, 6, 6, 6, 6, 6, 6, 6, 6, 6, 6, 6, 6, 6, 6, 6, 7, 7, 7, 7, 7, 7, 7, 7, 7, 7, 7, 7, 7, 7, 7, 7, 7, 7, 7, 7, 7, 7, 7, 7, 7, 7, 7, 7, 7, 7, 7, 7, 7, 7, 7, 7, 7, 7, 7, 7, 7, 7, 7, 7, 7, 7, 7, 7, 7, 7, 7, 7, 7, 7, 7, 7, 7, 7, 7, 7, 7, 7, 7, 7, 8, 8, 8, 8, 8, 8, 8, 8, 8, 8, 8, 8, 8, 8, 8, 8, 8, 8, 8, 8, 8, 8, 8, 8, 8, 8, 8, 8, 8, 8, 8, 8, 8, 8, 8, 8, 8, 8, 8, 8, 8, 8, 8, 8, 8, 8, 8, 8, 8, 8, 8, 8, 8, 8, 8, 8, 8, 8, 8, 8, 8, 8, 8, 8, 8, 8, 8, 8, 8, 8, 8, 8, 8, 8, 8, 8, 8, 8, 8, 8, 8, 8, 8, 8, 8, 8, 8, 8, 8, 8, 8, 8, 8, 8, 8, 8, 8, 8, 8, 8, 8, 8, 8, 8, 8, 8, 8, 8, 8, 8, 8, 8, 8, 8, 8, 8, 8, 8, 8, 8, 8, 8, 8, 8, 8, 8, 8, 8]⟩
theorem lenTab_all : ∀ n : Fin 256, lenTab.data[n.val]! = UInt8.ofNat (bl n.val) := by decide +kernel
theorem lenTab_at (n : Nat) (h : n < 256) (h' : n < lenTab.size) : (lenTab[n]'h').toNat = bl n := by
  have h1 := lenTab_all ⟨n, h⟩
  have h2 : bl n ≤ 8 := by
    have := bl_mono (show n ≤ 255 by omega)
    exact Nat.le_trans this (by decide)
  have h3 : lenTab.data[n]! = lenTab[n]'h' := by
    rw [getElem!_pos lenTab.data n h']; rfl
  rw [← h3]
  rw [show lenTab.data[n]! = UInt8.ofNat (bl n) from h1, UInt8.toNat_ofNat']
  omega

theorem len_val (n b : Nat) (s : Int) (hs : 0 ≤ s) (hs2 : s ≤ 24) (h : n < 256) (h' : n < lenTab.size) (hb : (b : Int) = bl n + s) : wrap64 (s + wrap64 (((lenTab[n]'h').toNat : Nat) : Int)) = (b : Int) := by
  rw [lenTab_at n h h', hb]
  have h2 : bl n ≤ 8 := by
    have := bl_mono (show n ≤ 255 by omega)
    exact Nat.le_trans this (by decide)
  unfold wrap64
  omega

set_option maxRecDepth 100000 in
set_option maxHeartbeats 400000 in
theorem len_a (x : Int) (n b : Nat) (w : World) (hn : x.toNat = n) (h0 : 0 ≤ x) (h : x < 256) (hb : (b : Int) = bl n + 0) : Calls Tryz.prog 99 #[.int .u32 x] w fun e w' => e = .returned (.int .i64 (b : Int)) ∧ w' = w := by
  have h1 : decide (x ≥ 65536) = false := by simp; omega
  have h2 : decide (x ≥ 256) = false := by simp; omega
  have Hb : Hid ((b : Int) = bl n + 0) := hb
  have Hn : Hid (x.toNat = n) := hn
  clear hb hn
  go_enter Tryz.func99, Tryz.ntmps99
  go_wp2
  go_ret
  refine ⟨?_, rfl⟩
  have hn := Hn.out
  subst hn
  have := len_val x.toNat b 0 (by omega) (by omega) (by omega) (by show _ < 256; omega) Hb.out
  rw [Int.zero_add] at this
  exact congrArg (fun z => Ending.returned (Value.int .i64 z)) this

set_option maxRecDepth 100000 in
set_option maxHeartbeats 400000 in
theorem len_b (x : Int) (n b : Nat) (w : World) (hn : (x / 256).toNat = n) (h0 : 256 ≤ x) (h : x < 65536) (hb : (b : Int) = bl n + 8) : Calls Tryz.prog 99 #[.int .u32 x] w fun e w' => e = .returned (.int .i64 (b : Int)) ∧ w' = w := by
  have h1 : decide (x ≥ 65536) = false := by simp; omega
  have h2 : decide (x ≥ 256) = true := by simp; omega
  have Hb : Hid ((b : Int) = bl n + 8) := hb
  have Hn : Hid ((x / 256).toNat = n) := hn
  have h3 : 0 ≤ x / 256 := by omega
  have h4 : x / 256 < 256 := by omega
  clear hb hn
  go_enter Tryz.func99, Tryz.ntmps99
  go_wp2
  go_ret
  refine ⟨?_, rfl⟩
  have hn := Hn.out
  subst hn
  have := len_val (x / 256).toNat b 8 (by omega) (by omega) (by omega) (by show _ < 256; omega) Hb.out
  exact congrArg (fun z => Ending.returned (Value.int .i64 z)) this

set_option maxRecDepth 100000 in
set_option maxHeartbeats 400000 in
theorem len_c (x : Int) (n b : Nat) (w : World) (hn : (x / 65536).toNat = n) (h0 : 65536 ≤ x) (h : x < 16777216) (hb : (b : Int) = bl n + 16) : Calls Tryz.prog 99 #[.int .u32 x] w fun e w' => e = .returned (.int .i64 (b : Int)) ∧ w' = w := by
  have h1 : decide (x ≥ 65536) = true := by simp; omega
  have h2 : decide (x / 65536 ≥ 256) = false := by simp; omega
  have Hb : Hid ((b : Int) = bl n + 16) := hb
  have Hn : Hid ((x / 65536).toNat = n) := hn
  have h3 : 0 ≤ x / 65536 := by omega
  have h4 : x / 65536 < 256 := by omega
  clear hb hn
  go_enter Tryz.func99, Tryz.ntmps99
  go_wp2
  go_ret
  refine ⟨?_, rfl⟩
  have hn := Hn.out
  subst hn
  have := len_val (x / 65536).toNat b 16 (by omega) (by omega) (by omega) (by show _ < 256; omega) Hb.out
  exact congrArg (fun z => Ending.returned (Value.int .i64 z)) this

set_option maxRecDepth 100000 in
set_option maxHeartbeats 400000 in
theorem len_d (x : Int) (n b : Nat) (w : World) (hn : (x / 65536 / 256).toNat = n) (h0 : 16777216 ≤ x) (h : x < 4294967296) (hb : (b : Int) = bl n + 24) : Calls Tryz.prog 99 #[.int .u32 x] w fun e w' => e = .returned (.int .i64 (b : Int)) ∧ w' = w := by
  have h1 : decide (x ≥ 65536) = true := by simp; omega
  have h2 : decide (x / 65536 ≥ 256) = true := by simp; omega
  have Hb : Hid ((b : Int) = bl n + 24) := hb
  have Hn : Hid ((x / 65536 / 256).toNat = n) := hn
  have h3 : 0 ≤ x / 65536 / 256 := by omega
  have h4 : x / 65536 / 256 < 256 := by omega
  clear hb hn
  go_enter Tryz.func99, Tryz.ntmps99
  go_wp2
  go_ret
  refine ⟨?_, rfl⟩
  have hn := Hn.out
  subst hn
  have := len_val (x / 65536 / 256).toNat b 24 (by omega) (by omega) (by omega) (by show _ < 256; omega) Hb.out
  exact congrArg (fun z => Ending.returned (Value.int .i64 z)) this

theorem len_any (x : Nat) (w : World) (h : x < 4294967296) : Calls Tryz.prog 99 #[.int .u32 (x : Int)] w fun e w' => e = .returned (.int .i64 ((bl x : Nat) : Int)) ∧ w' = w := by
  rcases Nat.lt_or_ge x 256 with h1 | h1
  · exact len_a x x (bl x) w (by omega) (by omega) (by omega) (by omega)
  rcases Nat.lt_or_ge x 65536 with h2 | h2
  · have h9 : bl x = bl (x / 256) + 8 := bl_shift x 8 (by omega)
    exact len_b x (x / 256) (bl x) w (by omega) (by omega) (by omega) (by omega)
  rcases Nat.lt_or_ge x 16777216 with h3 | h3
  · have h9 : bl x = bl (x / 65536) + 16 := bl_shift x 16 (by omega)
    exact len_c x (x / 65536) (bl x) w (by omega) (by omega) (by omega) (by omega)
  · have h9 : bl x = bl (x / 16777216) + 24 := bl_shift x 24 (by omega)
    have h8 : x / 65536 / 256 = x / 16777216 := by omega
    exact len_d x (x / 65536 / 256) (bl x) w (by omega) (by omega) (by omega) (by rw [h8]; omega)

theorem lead_any (x : Nat) (w : World) (h : x < 4294967296) : Calls Tryz.prog 136 #[.int .u32 (x : Int)] w fun e w' => e = .returned (.int .i64 ((32 - bl x : Nat) : Int)) ∧ w' = w := by
  have C := len_any x w h
  have hb : bl x ≤ 32 := by
    have h1 : bl x ≤ bl 4294967295 := bl_mono (by omega)
    exact Nat.le_trans h1 (by decide)
  have e1 : (32 : Int) - ((bl x : Nat) : Int) = ((32 - bl x : Nat) : Int) := by omega
  go_enter Tryz.func136, Tryz.ntmps136
  go_wp2_with fail
  refine C.mono ?_
  clear C
  rintro e w ⟨rfl, rfl⟩
  go_wp2
  go_ret
  exact ⟨rfl, rfl⟩

end Go.Proofs.YtmngdaolgdhgmaaGreatDoor

namespace Go.Proofs.YtmngdaolgdhgmaaGreatDoor
open Go.RowKit

theorem diff_exact {B : Nat} (hB : 0 < B) {W : List Nat} (n c X Y : Nat) (hW : Sm B W) (hl : W.length = n) (_hX : X < B ^ n) (hle : Y ≤ X) (h : nv B W + 1 * Y = X + B ^ n * c) : nv B W = X - Y := by
  have h1 := nv_lt hB hW
  rw [hl] at h1
  rcases c with _ | c
  · omega
  · rw [Nat.mul_succ] at h; omega

set_option maxHeartbeats 1000000 in
theorem sub_nm (v u : Value) (xs ys : List Nat) (w : World) (hv : Nm w v xs) (hu : Nm w u ys) (h1 : xs.length ≤ 100000000) (h2 : ys.length ≤ 100000000) :
    Calls Tryz.prog 109 #[v, u] w fun e w' => ∃ r, e = .returned (.tuple #[r, .bool (decide (nv Bs ys ≤ nv Bs xs))]) ∧ Ow w' w.heap.size r (dg Bs (nv Bs xs - nv Bs ys)) ∧ Below w.heap.size w w' := by
  obtain ⟨ax, cx, X, P1, lx1, lx2, RX, SX, EX⟩ := proper_nm v xs w hv (by omega)
  obtain ⟨ay, cy, Y, P2, ly1, ly2, RY, SY, EY⟩ := proper_nm u ys w hu (by omega)
  have EX' : nv Bs X = nv Bs xs := by rw [EX, dg_nv Bs_two]
  have EY' : nv Bs Y = nv Bs ys := by rw [EY, dg_nv Bs_two]
  have hX : X.length ≤ 100000000 := by omega
  have hY : Y.length ≤ 100000000 := by omega
  have HLE : Hid (nv Bs Y ≤ nv Bs X → Y.length ≤ X.length) := fun h => by
    rcases Nat.lt_or_ge X.length Y.length with h3 | h3
    · rw [EX, EY] at h3
      have := dg_mono Bs_two h3
      omega
    · exact h3
  rw [← EX', ← EY']
  have HRX : Hid (Rn w ax X) := RX
  have HRY : Hid (Rn w ay Y) := RY
  have HSX : Hid (Sm Bs X) := SX
  have HSY : Hid (Sm Bs Y) := SY
  have C := cmp_any ax ay X.length Y.length cx cy X Y w RX rfl lx1 RY rfl ly1 SX SY (by omega) (by omega)
  clear EX EY EX' EY' RX RY SX SY hv hu h1 h2 lx1 lx2 ly1 ly2
  by_cases hlt : nv Bs X < nv Bs Y
  · rw [cmp3_lt (by omega)] at C
    have HT : Hid (dg Bs (nv Bs X - nv Bs Y) = [] ∧ decide (nv Bs Y ≤ nv Bs X) = false) := ⟨by rw [show nv Bs X - nv Bs Y = 0 by omega, dg_zero], by simp; omega⟩
    clear hlt
    go_enter Tryz.func109, Tryz.ntmps109
    go_wp2_with fail
    refine P1.mono ?_
    clear P1
    rintro e w ⟨rfl, rfl⟩
    go_wp2_with fail
    refine P2.mono ?_
    clear P2
    rintro e w ⟨rfl, rfl⟩
    go_wp2_with fail
    refine C.mono ?_
    clear C
    rintro e w1 ⟨rfl, q, hq⟩
    have HQ : Hid (w1 = w.drewN q) := hq
    clear hq
    go_wp2
    go_ret2
    rw [HT.out.1, HT.out.2]
    exact ⟨_, rfl, Ow.nil _ _, by rw [HQ.out]; exact below_drewN (Below.refl _ _) q⟩
  · have hc : cmp3 (nv Bs X) (nv Bs Y) = 0 ∨ cmp3 (nv Bs X) (nv Bs Y) = 1 := by
      rcases Nat.lt_or_ge (nv Bs Y) (nv Bs X) with h | h
      · exact .inr (cmp3_gt (by omega))
      · exact .inl (cmp3_eq (by omega))
    have HG : Hid (nv Bs Y ≤ nv Bs X) := by show _ ≤ _; omega
    clear hlt
    obtain ⟨o, ho, hob⟩ : ∃ o : Int, cmp3 (nv Bs X) (nv Bs Y) = o ∧ decide (o < 0) = false := by
      rcases hc with h | h
      · exact ⟨0, h, by decide⟩
      · exact ⟨1, h, by decide⟩
    rw [ho] at C
    clear ho hc
    go_enter Tryz.func109, Tryz.ntmps109
    go_wp2_with fail
    refine P1.mono ?_
    clear P1
    rintro e w ⟨rfl, rfl⟩
    go_wp2_with fail
    refine P2.mono ?_
    clear P2
    rintro e w ⟨rfl, rfl⟩
    go_wp2_with fail
    refine C.mono ?_
    clear C
    rintro e w1 ⟨rfl, q, hq⟩
    have HQ : Hid (w1 = w.drewN q) := hq
    have hws : w1.heap.size = w.heap.size := by rw [hq]; rfl
    have C := copied_any ax X.length cx X.length X w1 (by rw [hq]; exact HRX.out.drewN q) rfl (Nat.le_refl _) (by omega)
    rw [hws] at C
    clear hq hws
    go_wp2_with fail
    refine C.mono ?_
    clear C
    rintro e w2 ⟨rfl, hb, hbel, hsz⟩
    have HB1 : Hid (Below w.heap.size w w2) := (by rw [HQ.out]; exact below_drewN (Below.refl _ _) q : Below w.heap.size w w1).trans hbel
    have C2 := takeFrom_any w.heap.size 0 X.length X.length Y.length cy 1 ay [] X [] Y w2 (by simpa using hb) rfl rfl rfl (HRY.out.below HB1.out (Nat.le_refl _)) (HRY.out.off _ (Nat.le_refl _)) HSX.out HSY.out (by omega) (by decide)
    clear hb hbel hsz
    go_wp2_with fail
    refine C2.mono ?_
    clear C2
    rintro e w3 ⟨W, c, rfl, hbW, hlW, sW, heq, hbut, hs2⟩
    have HF : Hid (nv Bs W = nv Bs X - nv Bs Y) := by
      show _ = _
      rw [List.take_of_length_le (HLE.out HG.out)] at heq
      exact diff_exact Bs_pos X.length c _ _ sW hlW (nv_lt Bs_pos HSX.out) HG.out heq
    have C3 := proper_any (some ⟨w.heap.size, 0, none⟩) X.length X.length W w3 (by have := hbW; simp at this; exact this.rn) hlW.symm (Nat.le_refl _) (by omega)
    have HA : Hid (Ow w3 w.heap.size (.slice (some ⟨w.heap.size, 0, none⟩) (tl W) X.length) (dg Bs (nv Bs W))) := by
      have := Bl.proper (w := w3) (base := w.heap.size) (g := w.heap.size) (L := W) (by simpa using hbW) sW (Nat.le_refl _) (by omega)
      rw [hlW] at this
      exact this
    have HB2 : Hid (Below _ _ _) := HB1.out.trans (hbut.below HB1.out.size (Nat.le_refl _))
    clear hbW hlW sW heq hbut hs2
    go_wp2_with fail
    refine C3.mono ?_
    clear C3
    rintro e w3 ⟨rfl, rfl⟩
    go_wp2
    go_ret2
    rw [← HF.out, decide_eq_true HG.out]
    exact ⟨_, rfl, HA.out, HB2.out⟩

end Go.Proofs.YtmngdaolgdhgmaaGreatDoor

namespace Go.Proofs.YtmngdaolgdhgmaaGreatDoor
open Go.RowKit

theorem or_low (cy x s : Nat) (hc : cy < 2 ^ s) (hs : s < 32) (hx : x < 4294967296) : bits .or .u64 (cy : Int) ((x * 2 ^ s : Nat) : Int) = ((cy + x * 2 ^ s : Nat) : Int) := by
  have h1 : 2 ^ s ≤ 2 ^ 32 := Nat.pow_le_pow_right (by decide) (by omega)
  have h2 : x * 2 ^ s ≤ 4294967295 * 2 ^ 32 := Nat.mul_le_mul (by omega) h1
  rw [u64_or_nat _ _ (by omega) (by omega), Nat.or_comm, nat_join s (x * 2 ^ s) cy (Nat.mul_mod_left _ _) hc, Nat.add_comm]

theorem rais_step (B p A c X x v c' S : Nat) (h : A + p * c = S * X) (hs : v + B * c' = c + x * S) : (A + p * v) + (p * B) * c' = S * (X + p * x) := by
  have h1 := congrArg (p * ·) hs
  have h2 : S * (p * x) = p * (x * S) := by rw [Nat.mul_left_comm, Nat.mul_comm S x]
  simp only [Nat.mul_add, ← Nat.mul_assoc] at h1 h2 ⊢
  omega

theorem rais_exact {B : Nat} (hB : 0 < B) {W xs : List Nat} (b n c s : Nat) (_hW : Sm B W) (hx : Sm B xs) (hn : n = b + xs.length + 1) (hs : 2 ^ s ≤ B) (h : nv B W + B ^ n * c = 2 ^ s * nv B (List.replicate b 0 ++ xs ++ [0])) : nv B W = nv B xs * (B ^ b * 2 ^ s) := by
  have h1 := nv_lt hB hx
  rw [nv_append, nv_append, nv_zeros, nv_one, List.length_replicate, Nat.mul_zero, Nat.add_zero, Nat.zero_add] at h
  have h2 : B ^ b * nv B xs < B ^ (b + xs.length) := by
    rw [Nat.pow_add]; exact Nat.mul_lt_mul_of_pos_left h1 (Nat.pow_pos hB)
  have h3 : 2 ^ s * (B ^ b * nv B xs) < B * B ^ (b + xs.length) := Nat.lt_of_le_of_lt (Nat.mul_le_mul_right _ hs) (Nat.mul_lt_mul_of_pos_left h2 hB)
  rw [show B * B ^ (b + xs.length) = B ^ n by rw [hn, Nat.pow_succ']] at h3
  have h4 : nv B xs * (B ^ b * 2 ^ s) = 2 ^ s * (B ^ b * nv B xs) := by rw [Nat.mul_comm, Nat.mul_comm (B ^ b), Nat.mul_assoc]
  rw [h4]
  rcases c with _ | c
  · omega
  · rw [Nat.mul_succ] at h; omega

theorem pow_32 (b s k : Nat) (hk : k = 32 * b + s) : Bs ^ b * 2 ^ s = 2 ^ k := by
  rw [hk, Nat.pow_add, Nat.pow_mul]; rfl

set_option maxHeartbeats 1000000 in
theorem raised_any (ao : Option Addr) (m c k : Nat) (xs : List Nat) (w : World) (hx : Rn w ao xs) (sx : Sm Bs xs) (hm : m = xs.length) (hl : m ≤ 100000000) (hk : k ≤ 1000000) :
    Calls Tryz.prog 137 #[.slice ao m c, .int .i64 (k : Int)] w fun e w' => ∃ (L : List Nat) (N : Nat), N = k / 32 + m + 1 ∧ e = .returned (.slice (some ⟨w.heap.size, 0, none⟩) N N) ∧ Bl 51 w' w.heap.size (L.map U) ∧ L.length = N ∧ Sm Bs L ∧ nv Bs L = nv Bs xs * 2 ^ k ∧ Below w.heap.size w w' ∧ w'.heap.size = w.heap.size + 1 := by
  obtain ⟨b, hb⟩ : ∃ b, k / 32 = b := ⟨_, rfl⟩
  obtain ⟨s, hs⟩ : ∃ s, k % 32 = s := ⟨_, rfl⟩
  have hs32 : s < 32 := by omega
  have hb3 : b ≤ 1000000 := by omega
  have HK : Hid (k = 32 * b + s) := by show _ = _; omega
  have eb : Int.tdiv (k : Int) 32 = (b : Int) := by rw [Int.tdiv_eq_ediv_of_nonneg (by omega)]; omega
  have es : Int.tmod (k : Int) 32 = (s : Int) := by rw [Int.tmod_eq_emod_of_nonneg (by omega)]; omega
  have eb2 : (k : Int) / 32 = (b : Int) := by omega
  have es2 : (k : Int) % 32 = (s : Int) := by omega
  rw [hb]
  obtain ⟨N, HN⟩ : ∃ N, Hid (N = b + m + 1) := ⟨_, rfl⟩
  have hN1 : b < N := by rw [HN.out]; omega
  have hN2 : N ≤ 101000001 := by rw [HN.out]; omega
  have eN : (b : Int) + (m : Int) + 1 = (N : Int) := by rw [HN.out]; omega
  obtain ⟨wm, hmk, hbm, hbel, hsz⟩ := madeU w N (by omega)
  obtain ⟨w1, hcp, hb1, hbut, hsz1⟩ := copyU wm w.heap.size b (N - b) (N - b) m c N ao xs hbm (hx.below hbel (Nat.le_refl _)) hm (by omega) (by rw [HN.out]; omega)
  have HB : Hid (Bl 51 w1 w.heap.size ((List.replicate b 0 ++ xs ++ [0]).map U)) := by
    show Bl _ _ _ _
    rw [show N - b - m = 1 by rw [HN.out]; omega] at hb1
    exact hb1
  have HE : Hid (Below w.heap.size w w1 ∧ w1.heap.size = w.heap.size + 1) := ⟨hbel.trans (hbut.below (by omega) (Nat.le_refl _)), by omega⟩
  have HSx : Hid (Sm Bs xs) := sx
  have Hm : Hid (m = xs.length) := hm
  obtain ⟨L0, HL0⟩ : ∃ L0, Hid (L0 = List.replicate b 0 ++ xs ++ [0]) := ⟨List.replicate b 0 ++ xs ++ [0], (rfl : List.replicate b 0 ++ xs ++ [0] = _)⟩
  have HLl : Hid (L0.length = N) := by show _ = _; rw [HL0.out, HN.out, Hm.out]; simp; omega
  have HLs : Hid (Sm Bs L0) := by show Sm _ _; rw [HL0.out]; exact ((Sm.zeros _ Bs_pos).append sx).snoc Bs_pos
  rw [← HL0.out] at HB
  clear hb hs hbm hbel hsz hb1 hbut hsz1 hx sx hm
  have hNb : (b : Int) ≤ (N : Int) := by omega
  go_enter Tryz.func137, Tryz.ntmps137
  go_wp2
  clear hcp hmk
  go_loopw [7, 25] (fun s7 s25 wr => ∃ (i cy : Nat) (ds : List Nat), s7 = .int .u64 (cy : Int) ∧ s25 = .int .i64 (i : Int) ∧ i ≤ N ∧ cy < 2 ^ s ∧ Hid (ds.length = i ∧ Sm Bs ds ∧ Bl 51 wr w.heap.size (([] ++ ds ++ L0.drop i ++ []).map U) ∧ nv Bs ds + Bs ^ i * cy = 2 ^ s * nv Bs (L0.take i) ∧ Below w.heap.size w wr ∧ wr.heap.size = w.heap.size + 1)) (fun _ s _ => N - (intOf s).toNat)
  case atStart => exact ⟨0, 0, [], rfl, rfl, Nat.zero_le _, Nat.pow_pos (by decide), (rfl : ([] : List Nat).length = 0), Sm.nil _, by simpa using HB.out, by simp [nv], HE.out⟩
  case round =>
    obtain ⟨i, cy, ds, rfl, rfl, hi, hcy, HI⟩ := hrel
    by_cases hlt : i < N
    · have hkW : i < L0.length := by have := HLl.out; omega
      obtain ⟨x, Hx⟩ : ∃ x, Hid (L0[i] = x) := ⟨L0[i], (rfl : L0[i] = L0[i])⟩
      have hx : x < 4294967296 := by rw [← Hx.out, ← Bs_eq]; exact HLs.out.get i hkW
      have HB2 : Hid (Bl 51 wr w.heap.size (([] ++ ds ++ (x :: L0.drop (i + 1)) ++ []).map U)) := by
        have := HI.out.2.2.1
        rw [List.drop_eq_getElem_cons hkW, Hx.out] at this
        exact this
      have gc := mid_cell HB2.out (o := i) (by rw [HI.out.1]; simp)
      have gf := HB2.out.frozen i
      have hcyH : Hid (cy < 2 ^ s) := hcy
      have eor := or_low cy x s hcy hs32 hx
      obtain ⟨t, Ht⟩ : ∃ t, Hid (cy + x * 2 ^ s = t) := ⟨_, rfl⟩
      obtain ⟨z, Hz⟩ : ∃ z, Hid (x * 2 ^ s = z) := ⟨_, rfl⟩
      rw [Ht.out, Hz.out] at eor
      have hp : 2 ^ s ≤ 2147483648 := Nat.pow_le_pow_right (n := 2) (by decide) (show s ≤ 31 by omega)
      have hz : z ≤ 9223372034707292160 := by rw [← Hz.out]; exact Nat.mul_le_mul (show x ≤ 4294967295 by omega) hp
      have ht : t < 9223372036854775808 := by have h1 := Ht.out; have h2 := Hz.out; rw [h2] at h1; omega
      have ht2 : Hid (t / 4294967296 < 2 ^ s) := by
        show _ < _
        have h3 : x * 2 ^ s ≤ 4294967295 * 2 ^ s := Nat.mul_le_mul_right _ (by omega)
        have h1 := Ht.out
        omega
      have ez : (x : Int) * 2 ^ s = (z : Int) := by rw [← Hz.out]; simp
      have ew : IntKind.u64.wrap (z : Int) = (z : Int) := by rw [IntKind.wrap_u64]; omega
      have e3 : IntKind.u32.wrap (t : Int) = ((t % 4294967296 : Nat) : Int) := by rw [IntKind.wrap_u32]; omega
      clear hcy hp
      go_wp2
      go_roundw
      case rel =>
        have e4 : (t : Int) / 4294967296 = ((t / 4294967296 : Nat) : Int) := by omega
        have e5 : (t : Int) % 4294967296 = ((t % 4294967296 : Nat) : Int) := by omega
        rw [e4, e5]
        refine ⟨i + 1, t / 4294967296, ds ++ [t % 4294967296], rfl, by go_num, by omega, ht2.out, ?_, HI.out.2.1.snoc (by rw [Bs_eq]; omega), mid_bl HB2.out (by rw [HI.out.1]; simp) _, ?_, HI.out.2.2.2.2.1.setCell (Nat.le_refl _) _, ?_⟩
        · rw [List.length_append, HI.out.1]; rfl
        · rw [nv_snoc, nv_take_succ, HI.out.1, getD_eq L0 i hkW, Hx.out, Nat.pow_succ]
          exact rais_step _ _ _ _ _ _ _ _ _ HI.out.2.2.2.1 (by have := Ht.out; rw [Bs_eq, this]; omega)
        · rw [World.size_setCell]; exact HI.out.2.2.2.2.2
      case measure => simp [intOf]; omega
    · obtain rfl : i = N := by omega
      go_wp2
      go_ret
      have h1 := HI.out.2.2.2.1
      rw [List.take_of_length_le (by have := HLl.out; omega), HL0.out] at h1
      refine ⟨ds, i, HN.out, rfl, ?_, HI.out.1, HI.out.2.1, ?_, HI.out.2.2.2.2⟩
      · have := HI.out.2.2.1
        rw [List.drop_of_length_le (by have := HLl.out; omega), List.append_nil, List.append_nil] at this
        exact this
      · rw [← pow_32 b s k HK.out]
        exact rais_exact Bs_pos b i cy s HI.out.2.1 HSx.out (by rw [HN.out, Hm.out]) (by rw [Bs_eq]; exact Nat.pow_le_pow_right (n := 2) (by decide) (show s ≤ 32 by omega)) h1

end Go.Proofs.YtmngdaolgdhgmaaGreatDoor

namespace Go.Proofs.YtmngdaolgdhgmaaGreatDoor
open Go.RowKit

theorem or_pair (a x : Nat) (ha : a < 4294967296) (hx : x < 4294967296) : bits .or .u64 ((a : Int) * 4294967296) (x : Int) = ((a * 4294967296 + x : Nat) : Int) := by
  have e : ((a : Int) * 4294967296) = ((a * 4294967296 : Nat) : Int) := by omega
  rw [e, u64_or_nat _ _ (by omega) (by omega), nat_join 32 (a * 4294967296) x (by omega) (by omega)]

theorem shr_gen (P Q y y' : Nat) (hP : 0 < P) (_hQ : 0 < Q) (hy : y < P * Q) : P * (((y' * (P * Q) + y) / P) % (P * Q)) + y % P = y + (P * Q) * (y' % P) := by
  have e1 : (y' * (P * Q) + y) / P = y' * Q + y / P := by
    rw [show y' * (P * Q) + y = y + P * (y' * Q) by rw [Nat.mul_left_comm]; omega, Nat.add_mul_div_left _ _ hP, Nat.add_comm]
  have h1 : y / P < Q := Nat.div_lt_of_lt_mul hy
  have h2 : y' % P < P := Nat.mod_lt _ hP
  have e2 : y' * Q + y / P = (y' % P) * Q + y / P + (P * Q) * (y' / P) := by
    have := Nat.div_add_mod y' P
    have h3 : y' * Q = (P * (y' / P) + y' % P) * Q := by rw [this]
    rw [Nat.add_mul] at h3
    have h4 : P * (y' / P) * Q = P * Q * (y' / P) := by rw [Nat.mul_assoc, Nat.mul_comm (y' / P), ← Nat.mul_assoc]
    omega
  have h5 : (y' % P) * Q + y / P < P * Q := by
    have : (y' % P + 1) * Q ≤ P * Q := Nat.mul_le_mul_right _ h2
    rw [Nat.add_mul, Nat.one_mul] at this
    omega
  rw [e1, e2, Nat.add_mul_mod_self_left, Nat.mod_eq_of_lt h5, Nat.mul_add]
  have h6 := Nat.div_add_mod y P
  have h7 : P * ((y' % P) * Q) = P * Q * (y' % P) := by rw [Nat.mul_comm (y' % P), Nat.mul_assoc]
  omega

theorem shr_limb (y y' s : Nat) (hs : s < 32) (hy : y < 4294967296) : 2 ^ s * ((y' * 4294967296 + y) / 2 ^ s % 4294967296) + y % 2 ^ s = y + 4294967296 * (y' % 2 ^ s) := by
  have e : 4294967296 = 2 ^ s * 2 ^ (32 - s) := by rw [← Nat.pow_add, show s + (32 - s) = 32 by omega]
  have := shr_gen (2 ^ s) (2 ^ (32 - s)) y y' (Nat.pow_pos (by decide)) (Nat.pow_pos (by decide)) (by rw [← e]; exact hy)
  rw [← e] at this
  exact this

theorem shr_step (B p A c0 X y r r' v S : Nat) (h : S * A + c0 = X + p * r) (hs : S * v + r = y + B * r') : S * (A + p * v) + c0 = (X + p * y) + (p * B) * r' := by
  have h1 := congrArg (p * ·) hs
  have h2 : S * (p * v) = p * (S * v) := Nat.mul_left_comm _ _ _
  simp only [Nat.mul_add, ← Nat.mul_assoc] at h1 h2 ⊢
  omega

theorem Rn.drop {w : World} {g off : Nat} {l : List Nat} (h : Rn w (some ⟨g, off, none⟩) l) (k : Nat) : Rn w (some ⟨g, off + k, none⟩) (l.drop k) := by
  rcases h with h | ⟨g', off', e, hg, hc⟩
  · exact .inl (by rw [h]; simp)
  · cases e
    refine .inr ⟨g, off + k, rfl, hg, fun j hj => ?_⟩
    rw [List.length_drop] at hj
    rw [Nat.add_assoc, hc (k + j) (by omega)]
    simp [List.getD_eq_getElem?_getD, List.getElem?_drop]

theorem shr_value (b s : Nat) (X D : List Nat) (hX : Sm Bs X) (hb : b ≤ X.length) (c0 : Nat) (hc : c0 < 2 ^ s) (h : 2 ^ s * nv Bs D + c0 = nv Bs (X.drop b)) : nv Bs D = nv Bs X / (Bs ^ b * 2 ^ s) := by
  have h1 := nv_split Bs X b hb
  have h2 := nv_lt Bs_pos (hX.take b)
  rw [List.length_take, Nat.min_eq_left hb] at h2
  rw [← Nat.div_div_eq_div_mul, h1, Nat.add_mul_div_left _ _ (Nat.pow_pos Bs_pos), Nat.div_eq_of_lt h2, Nat.zero_add, ← h, Nat.mul_add_div (Nat.pow_pos (by decide)), Nat.div_eq_of_lt hc, Nat.add_zero]

theorem take_zero_drop (n : Nat) (_h : 0 < n) (i : Nat) (hi : i < n) : (List.replicate n 0).drop i = 0 :: (List.replicate n 0).drop (i + 1) := by
  rw [List.drop_replicate, List.drop_replicate, show n - i = (n - (i + 1)) + 1 by omega, List.replicate_succ]

set_option maxHeartbeats 1000000 in
theorem shr_pos (K : Nat) (hK : K ≤ 9223372036854775807) (v : Value) (xs : List Nat) (w : World) (hv : Nm w v xs) (h1 : xs.length ≤ 100000000) :
    Calls Tryz.prog 77 #[v, .int .i64 (K : Int)] w fun e w' => ∃ r, e = .returned r ∧ Ow w' w.heap.size r (dg Bs (nv Bs xs / 2 ^ K)) ∧ Below w.heap.size w w' := by
  obtain ⟨ax, cx, X, P1, lx1, lx2, RX, SX, EX⟩ := proper_nm v xs w hv (by omega)
  have hX : X.length ≤ 100000000 := by omega
  have EX' : nv Bs X = nv Bs xs := by rw [EX, dg_nv Bs_two]
  rw [← EX']
  obtain ⟨b, hb⟩ : ∃ b, K / 32 = b := ⟨_, rfl⟩
  obtain ⟨s, hs⟩ : ∃ s, K % 32 = s := ⟨_, rfl⟩
  have hs32 : s < 32 := by omega
  have hb64 : b ≤ 288230376151711744 := by omega
  have ebw : wrap64 (b : Int) = (b : Int) := by unfold wrap64; omega
  have HK : Hid (K = 32 * b + s) := by show _ = _; omega
  have eb : Int.tdiv (K : Int) 32 = (b : Int) := by rw [Int.tdiv_eq_ediv_of_nonneg (by omega)]; omega
  have es : Int.tmod (K : Int) 32 = (s : Int) := by rw [Int.tmod_eq_emod_of_nonneg (by omega)]; omega
  have eb2 : (K : Int) / 32 = (b : Int) := by omega
  have es2 : (K : Int) % 32 = (s : Int) := by omega
  have hK0 : decide ((K : Int) < 0) = false := by simp
  clear hb hs
  by_cases hbX : X.length ≤ b
  · have HV : Hid (dg Bs (nv Bs X / 2 ^ K) = []) := by
      have h3 := nv_lt Bs_pos SX
      have h4 : nv Bs X < 2 ^ K := by
        rw [← pow_32 b s K HK.out]
        refine Nat.lt_of_lt_of_le h3 (Nat.le_trans (Nat.pow_le_pow_right Bs_pos hbX) (Nat.le_mul_of_pos_right _ (Nat.pow_pos (by decide))))
      show _ = _
      rw [Nat.div_eq_of_lt h4, dg_zero]
    clear EX EX' RX SX hv h1 lx1 lx2
    go_enter Tryz.func77, Tryz.ntmps77
    go_wp2_with fail
    refine P1.mono ?_
    clear P1
    rintro e w ⟨rfl, rfl⟩
    go_wp2
    go_ret
    rw [HV.out]
    exact ⟨_, rfl, Ow.nil _ _, Below.refl _ _⟩
  · have hbX2 : b < X.length := by omega
    obtain ⟨gx, ox, rfl, hgx, _⟩ := RX.cell (by omega)
    obtain ⟨N, HN⟩ : ∃ N, Hid (N = X.length - b) := ⟨_, rfl⟩
    obtain ⟨Y, HY⟩ : ∃ Y, Hid (Y = X.drop b) := ⟨X.drop b, (rfl : X.drop b = _)⟩
    have HYl : Hid (N = Y.length) := by show _ = _; rw [HN.out, HY.out, List.length_drop]
    have HYr : Hid (Rn w (some ⟨gx, ox + b, none⟩) Y) := by have := RX.drop b; rw [← HY.out] at this; exact this
    have HYs : Hid (Sm Bs Y) := by show Sm _ _; rw [HY.out]; exact SX.drop b
    have hN0 : 0 < N := by rw [HN.out]; omega
    have hN1 : N ≤ 100000000 := by rw [HN.out]; omega
    have eN : X.length - b = N := HN.out.symm
    have HSX : Hid (Sm Bs X) := SX
    have hbXc : b < cx := by omega
    obtain ⟨wm, hmk, hbm, hbel, hsz⟩ := madeU w N (by omega)
    have HM : Hid (Bl 51 wm w.heap.size (([] ++ [] ++ (List.replicate N 0).drop 0 ++ []).map U) ∧ Below w.heap.size w wm) := ⟨by simpa using hbm, hbel⟩
    have hgeB : decide ((b : Int) ≥ (X.length : Int)) = false := decide_eq_false (by omega)
    clear EX EX' RX SX hv h1 lx1 lx2 hbm hbel hsz
    go_enter Tryz.func77, Tryz.ntmps77
    go_wp2_with fail
    refine P1.mono ?_
    clear P1
    rintro e w ⟨rfl, rfl⟩
    go_wp2
    clear hmk
    go_loopw [27] (fun s27 wr => ∃ (i : Nat) (ds : List Nat), s27 = .int .i64 (i : Int) ∧ i ≤ N ∧ Hid (ds.length = i ∧ Sm Bs ds ∧ Bl 51 wr w.heap.size (([] ++ ds ++ (List.replicate N 0).drop i ++ []).map U) ∧ 2 ^ s * nv Bs ds + Y.getD 0 0 % 2 ^ s = nv Bs (Y.take i) + Bs ^ i * (Y.getD i 0 % 2 ^ s) ∧ Below w.heap.size w wr)) (fun s _ => N - (intOf s).toNat)
    case atStart => exact ⟨0, [], rfl, Nat.zero_le _, (rfl : ([] : List Nat).length = 0), Sm.nil _, HM.out.1, by simp [nv], HM.out.2⟩
    case round =>
      obtain ⟨i, ds, rfl, hi, HI⟩ := hrel
      by_cases hlt : i < N
      · have RW := HYr.out.below HI.out.2.2.2.2 (Nat.le_refl _)
        obtain ⟨g', o', e', _, cy⟩ := RW.cell (by have := HYl.out; omega)
        cases e'
        have c1 := cy i (by have := HYl.out; omega)
        obtain ⟨y, Hy⟩ : ∃ y, Hid (Y.getD i 0 = y) := ⟨_, rfl⟩
        obtain ⟨y', Hy'⟩ : ∃ y, Hid (Y.getD (i + 1) 0 = y) := ⟨_, rfl⟩
        rw [Hy.out] at c1
        have hy : y < 4294967296 := by rw [← Hy.out, ← Bs_eq]; exact HYs.out.getD Bs_pos i
        have hy' : y' < 4294967296 := by rw [← Hy'.out, ← Bs_eq]; exact HYs.out.getD Bs_pos (i + 1)
        have C := at_nat (some ⟨gx, ox + b, none⟩) N (cx - b) (i + 1) Y wr RW HYl.out
        rw [Hy'.out, show ((i + 1 : Nat) : Int) = (i : Int) + 1 from by omega] at C
        have HB2 : Hid (Bl 51 wr w.heap.size (([] ++ ds ++ (0 :: (List.replicate N 0).drop (i + 1)) ++ []).map U)) := by
          have := HI.out.2.2.1
          rw [take_zero_drop N hN0 i hlt] at this
          exact this
        have gc := mid_cell HB2.out (o := i) (by rw [HI.out.1]; simp)
        have gf := HB2.out.frozen i
        have eor := or_pair y' y hy' hy
        obtain ⟨p, Hp⟩ : ∃ p, Hid (y' * 4294967296 + y = p) := ⟨_, rfl⟩
        rw [Hp.out] at eor
        have hp : p < 18446744073709551616 := by have := Hp.out; omega
        have HS := shr_limb y y' s hs32 hy
        rw [Hp.out] at HS
        have HHS : Hid (2 ^ s * (p / 2 ^ s % 4294967296) + y % 2 ^ s = y + 4294967296 * (y' % 2 ^ s)) := HS
        obtain ⟨t, Ht⟩ : ∃ t, Hid (p / 2 ^ s = t) := ⟨_, rfl⟩
        rw [Ht.out] at HHS
        have et : (p : Int) / 2 ^ s = (t : Int) := by rw [← Ht.out]; simp
        have ht : t < 18446744073709551616 := by rw [← Ht.out]; exact Nat.lt_of_le_of_lt (Nat.div_le_self _ _) hp
        have e3 : IntKind.u32.wrap (t : Int) = ((t % 4294967296 : Nat) : Int) := by rw [IntKind.wrap_u32]; omega
        clear cy RW HS
        go_wp2_with fail
        refine C.mono ?_
        clear C
        rintro e wr ⟨rfl, rfl⟩
        go_wp2
        go_roundw
        case rel =>
          have e5 : (t : Int) % 4294967296 = ((t % 4294967296 : Nat) : Int) := by omega
          rw [e5]
          refine ⟨i + 1, ds ++ [t % 4294967296], by go_num, by omega, ?_, HI.out.2.1.snoc (by rw [Bs_eq]; omega), mid_bl HB2.out (by rw [HI.out.1]; simp) _, ?_, HI.out.2.2.2.2.setCell (Nat.le_refl _) _⟩
          · rw [List.length_append, HI.out.1]; rfl
          · have h1 := HI.out.2.2.2.1
            rw [Hy.out] at h1
            rw [nv_snoc, nv_take_succ, HI.out.1, Hy.out, Hy'.out, Nat.pow_succ]
            exact shr_step _ _ _ _ _ _ _ _ _ _ h1 (by rw [Bs_eq]; exact HHS.out)
        case measure => simp [intOf]; omega
      · obtain rfl : i = N := by omega
        have h1 := HI.out.2.2.2.1
        rw [getD_none Y i (by have := HYl.out; omega), List.take_of_length_le (by have := HYl.out; omega), Nat.zero_mod, Nat.mul_zero, Nat.add_zero, HY.out] at h1
        have HF : Hid (nv Bs ds = nv Bs X / 2 ^ K) := by
          show _ = _
          rw [← pow_32 b s K HK.out]
          exact shr_value b s X ds HSX.out (by omega) _ (Nat.mod_lt _ (Nat.pow_pos (by decide))) h1
        have hbW : Bl 51 wr w.heap.size (ds.map U) := by
          have := HI.out.2.2.1
          rw [List.drop_of_length_le (by simp), List.append_nil, List.append_nil] at this
          exact this
        have C3 := proper_any (some ⟨w.heap.size, 0, none⟩) i i ds wr hbW.rn HI.out.1.symm (Nat.le_refl _) (by omega)
        have HA : Hid (Ow wr w.heap.size (.slice (some ⟨w.heap.size, 0, none⟩) (tl ds) i) (dg Bs (nv Bs ds))) := by
          have := Bl.proper (w := wr) (base := w.heap.size) (g := w.heap.size) (L := ds) hbW HI.out.2.1 (Nat.le_refl _) (by rw [HI.out.1]; omega)
          rw [HI.out.1] at this
          exact this
        clear h1 hbW
        go_wp2_with fail
        refine C3.mono ?_
        clear C3
        rintro e wr ⟨rfl, rfl⟩
        go_wp2
        go_ret
        rw [← HF.out]
        exact ⟨_, rfl, HA.out, HI.out.2.2.2.2⟩

end Go.Proofs.YtmngdaolgdhgmaaGreatDoor

namespace Go.Proofs.YtmngdaolgdhgmaaGreatDoor

/-- What an estimate is made of: window and divisor, both times B B, by their highest limbs. -/
structure Es (B M v2 d' u w' D W : Nat) : Prop where
  hd : D = v2 * M + d'
  hd' : d' < M
  hw : W = u * M + w'
  hw' : w' < M

theorem Es.start {B M top next head w2 d' w' D W : Nat} (h : Es B M (top * B + next) d' (head * B + w2) w' D W) (h2 : w2 < B) (g : Nat) (hg : head < (g + 1) * top) : W < (g + 1) * D := by
  have h1 : (head * B + w2 + 1) * M ≤ ((g + 1) * top * B) * M := Nat.mul_le_mul_right _ (by
    have : (head + 1) * B ≤ (g + 1) * top * B := Nat.mul_le_mul_right _ hg
    rw [Nat.add_mul] at this
    omega)
  rw [Nat.add_mul, Nat.one_mul] at h1
  have h3 : (g + 1) * top * B * M ≤ (g + 1) * D := by
    rw [h.hd, Nat.mul_assoc (g + 1), Nat.mul_assoc (g + 1)]
    refine Nat.mul_le_mul_left _ ?_
    rw [Nat.add_mul]
    omega
  have := h.hw
  have := h.hw'
  omega

/-- The digit is too great. -/
theorem Es.step {B M top next head w2 d' w' D W : Nat} (h : Es B M (top * B + next) d' (head * B + w2) w' D W) (g left : Nat) (hi : g * top + left = head) (hgt : left * B + w2 < g * next) : W < g * D := by
  have e1 : g * (top * B + next) = g * top * B + g * next := by rw [Nat.mul_add, ← Nat.mul_assoc]
  have e2 : head * B = g * top * B + left * B := by rw [← hi, Nat.add_mul]
  have h1 : (head * B + w2 + 1) * M ≤ g * (top * B + next) * M := Nat.mul_le_mul_right _ (by rw [e1]; omega)
  rw [Nat.add_mul, Nat.one_mul] at h1
  have h3 : g * (top * B + next) * M ≤ g * D := by
    rw [h.hd, Nat.mul_assoc]
    exact Nat.mul_le_mul_left _ (by omega)
  have := h.hw
  have := h.hw'
  omega

/-- The digit is at most one too great. -/
theorem Es.stop {B M top next head w2 d' w' D W : Nat} (h : Es B M (top * B + next) d' (head * B + w2) w' D W) (g left : Nat) (hi : g * top + left = head) (hle : g * next ≤ left * B + w2) (hg : g ≤ top * B + next) : g * D ≤ W + D := by
  have e1 : g * (top * B + next) = g * top * B + g * next := by rw [Nat.mul_add, ← Nat.mul_assoc]
  have e2 : head * B = g * top * B + left * B := by rw [← hi, Nat.add_mul]
  have h1 : g * (top * B + next) * M ≤ (head * B + w2) * M := Nat.mul_le_mul_right _ (by rw [e1]; omega)
  have h2 : g * d' ≤ g * M := Nat.mul_le_mul_left _ (Nat.le_of_lt h.hd')
  have h3 : g * M ≤ (top * B + next) * M := Nat.mul_le_mul_right _ hg
  have e3 : g * D = g * (top * B + next) * M + g * d' := by rw [h.hd, Nat.mul_add, ← Nat.mul_assoc]
  have := h.hw
  have := h.hd
  omega

theorem top_split {B : Nat} (hB : 0 < B) (xs : List Nat) (hs : Sm B xs) (m : Nat) (hl : xs.length = m + 1) : ∃ d', nv B xs * (B * B) = (xs.getD m 0 * B + (if m = 0 then 0 else xs.getD (m - 1) 0)) * B ^ (m + 1) + d' ∧ d' < B ^ (m + 1) := by
  have e1 := nv_take_succ B xs m
  rw [List.take_of_length_le (by omega)] at e1
  rcases m with _ | m
  · refine ⟨0, ?_, Nat.pow_pos hB⟩
    rw [e1, if_pos rfl, List.take_zero, nv]
    simp [← Nat.mul_assoc]
  · have e2 := nv_take_succ B xs m
    have h1 := nv_lt hB (hs.take m)
    rw [List.length_take, Nat.min_eq_left (by omega)] at h1
    refine ⟨nv B (xs.take m) * (B * B), ?_, ?_⟩
    · rw [e1, e2, if_neg (by omega), Nat.add_sub_cancel, Nat.add_mul, Nat.add_mul, Nat.add_mul]
      have a1 : B ^ m * xs.getD m 0 * (B * B) = xs.getD m 0 * B ^ (m + 1 + 1) := by
        rw [Nat.pow_succ, Nat.pow_succ, Nat.mul_comm (B ^ m), Nat.mul_assoc, Nat.mul_assoc]
      have a2 : B ^ (m + 1) * xs.getD (m + 1) 0 * (B * B) = xs.getD (m + 1) 0 * B * B ^ (m + 1 + 1) := by
        rw [show B ^ (m + 1 + 1) = B ^ (m + 1) * B from Nat.pow_succ ..]
        generalize B ^ (m + 1) = p
        ac_rfl
      rw [a1, a2]
      omega
    · rw [Nat.pow_succ, Nat.pow_succ, Nat.mul_assoc]
      exact Nat.mul_lt_mul_of_pos_right h1 (Nat.mul_pos hB hB)

theorem win_split {B : Nat} (hB : 0 < B) (W : List Nat) (hs : Sm B W) (m : Nat) (hl : W.length = m + 2) : ∃ w', nv B W * (B * B) = ((W.getD (m + 1) 0 * B + W.getD m 0) * B + (if m = 0 then 0 else W.getD (m - 1) 0)) * B ^ (m + 1) + w' ∧ w' < B ^ (m + 1) := by
  obtain ⟨w', h1, h2⟩ := top_split hB (W.take (m + 1)) (hs.take _) m (by rw [List.length_take]; omega)
  refine ⟨w', ?_, h2⟩
  have e1 := nv_take_succ B W (m + 1)
  rw [List.take_of_length_le (by omega)] at e1
  have g1 : (W.take (m + 1)).getD m 0 = W.getD m 0 := by simp [List.getD_eq_getElem?_getD]
  have g2 : (W.take (m + 1)).getD (m - 1) 0 = W.getD (m - 1) 0 := by
    rw [List.getD_eq_getElem?_getD, List.getElem?_take_of_lt (by omega), List.getD_eq_getElem?_getD]
  rw [g1, g2] at h1
  rw [e1, Nat.add_mul, h1]
  generalize (if m = 0 then 0 else W.getD (m - 1) 0) = w2
  have a : B ^ (m + 1) * W.getD (m + 1) 0 * (B * B) = W.getD (m + 1) 0 * B * B * B ^ (m + 1) := by
    generalize B ^ (m + 1) = p
    ac_rfl
  rw [a]
  simp only [Nat.add_mul]
  omega

/-- The window's highest limb is not above the divisor's. -/
theorem win_top {B : Nat} (hB : 0 < B) (W D : List Nat) (sD : Sm B D) (m : Nat) (hW : W.length = m + 2) (hD : D.length = m + 1) (h : nv B W < B * nv B D) : W.getD (m + 1) 0 ≤ D.getD m 0 := by
  have e1 := nv_take_succ B W (m + 1)
  rw [List.take_of_length_le (by omega)] at e1
  have e2 := nv_take_succ B D m
  rw [List.take_of_length_le (by omega)] at e2
  have h1 := nv_lt hB (sD.take m)
  rw [List.length_take, Nat.min_eq_left (by omega)] at h1
  rcases Nat.lt_or_ge (D.getD m 0) (W.getD (m + 1) 0) with h3 | h3
  · exfalso
    have h4 : B * nv B D < B * (B ^ m * (D.getD m 0 + 1)) := Nat.mul_lt_mul_of_pos_left (by rw [e2, Nat.mul_add]; omega) hB
    have h5 : B ^ (m + 1) * (D.getD m 0 + 1) ≤ B ^ (m + 1) * W.getD (m + 1) 0 := Nat.mul_le_mul_left _ h3
    have e3 : B * (B ^ m * (D.getD m 0 + 1)) = B ^ (m + 1) * (D.getD m 0 + 1) := by rw [Nat.pow_succ', Nat.mul_assoc]
    rw [e3] at h4
    omega
  · exact h3

theorem mul_sq_lt {B D W q : Nat} (hB : 0 < B) : W * (B * B) < q * (D * (B * B)) ↔ W < q * D := by
  have hp : 0 < B * B := Nat.mul_pos hB hB
  rw [show q * (D * (B * B)) = q * D * (B * B) from (Nat.mul_assoc _ _ _).symm]
  constructor
  · exact fun h => Nat.lt_of_mul_lt_mul_right h
  · exact fun h => Nat.mul_lt_mul_of_pos_right h hp
theorem mul_sq_le {B D W q : Nat} (hB : 0 < B) (h : q * (D * (B * B)) ≤ W * (B * B) + D * (B * B)) : q * D ≤ W + D := by
  have hp : 0 < B * B := Nat.mul_pos hB hB
  rw [show q * (D * (B * B)) = q * D * (B * B) from (Nat.mul_assoc _ _ _).symm, ← Nat.add_mul] at h
  exact Nat.le_of_mul_le_mul_right h hp

end Go.Proofs.YtmngdaolgdhgmaaGreatDoor
