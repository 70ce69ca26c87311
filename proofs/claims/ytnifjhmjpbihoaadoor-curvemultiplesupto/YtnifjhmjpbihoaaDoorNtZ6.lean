import Derived.Test.YtnifjhmjpbihoaaDoorNtZ5
import Derived.Test.YtnifjhmjpbihoaaDoorNtZ4
namespace Go.Proofs.YtnifjhmjpbihoaaDoor
open Go.RowKit

theorem take_lt {B : Nat} (xs ys : List Nat) (k m : Nat) (hm : k ≤ m) (h : nv B (xs.take k) < nv B (ys.take k)) (he : ∀ j, k ≤ j → xs.getD j 0 = ys.getD j 0) : nv B (xs.take m) < nv B (ys.take m) := by
  induction m with
  | zero => rw [show k = 0 by omega] at h; exact h
  | succ m ih =>
    rcases Nat.lt_or_ge m k with h1 | h1
    · rw [show m + 1 = k by omega]; exact h
    · rw [nv_take_succ, nv_take_succ, he m h1]
      have := ih h1
      omega
theorem limb_lt' {B : Nat} (hB : 0 < B) {xs ys : List Nat} (sx : Sm B xs) (k m : Nat) (hm : k < m) (hx : xs.length ≤ m) (hy : ys.length ≤ m) (he : ∀ j, k + 1 ≤ j → xs.getD j 0 = ys.getD j 0) (h : xs.getD k 0 < ys.getD k 0) : nv B xs < nv B ys := by
  have h1 : nv B (xs.take (k + 1)) < nv B (ys.take (k + 1)) := by
    rw [nv_take_succ, nv_take_succ]
    have h2 := nv_lt hB (sx.take k)
    have h3 : B ^ (xs.take k).length ≤ B ^ k := Nat.pow_le_pow_right hB (by rw [List.length_take]; omega)
    have h4 : B ^ k * (xs.getD k 0 + 1) ≤ B ^ k * ys.getD k 0 := Nat.mul_le_mul_left _ h
    rw [Nat.mul_add, Nat.mul_one] at h4
    omega
  have := take_lt xs ys (k + 1) m (by omega) h1 he
  rwa [List.take_of_length_le hx, List.take_of_length_le hy] at this
theorem nv_ext {B : Nat} (xs ys : List Nat) (he : ∀ j, xs.getD j 0 = ys.getD j 0) : nv B xs = nv B ys := by
  have h : ∀ m, nv B (xs.take m) = nv B (ys.take m) := fun m => by
    induction m with
    | zero => simp
    | succ m ih => rw [nv_take_succ, nv_take_succ, ih, he m]
  have := h (xs.length + ys.length)
  rwa [List.take_of_length_le (by omega), List.take_of_length_le (by omega)] at this
theorem nv_low {B : Nat} (_hB : 0 < B) (ys : List Nat) (n : Nat) (h : nv B ys < B ^ n) : nv B (ys.take n) = nv B ys := by
  rcases Nat.lt_or_ge n ys.length with h1 | h1
  · have e := nv_split B ys n (by omega)
    rcases Nat.eq_zero_or_pos (nv B (ys.drop n)) with h2 | h2
    · rw [h2, Nat.mul_zero, Nat.add_zero] at e; exact e.symm
    · exfalso
      have : B ^ n * 1 ≤ B ^ n * nv B (ys.drop n) := Nat.mul_le_mul_left _ h2
      omega
  · rw [List.take_of_length_le h1]

end Go.Proofs.YtnifjhmjpbihoaaDoor

namespace Go.Proofs.YtnifjhmjpbihoaaDoor
open Go.RowKit

theorem sub_limb (x y bw : Nat) (hx : x < 4294967296) (hy : y < 4294967296) (hb : bw ≤ 1) : ∃ z b' : Nat, z < 4294967296 ∧ b' ≤ 1 ∧ z + bw + 1 * y = x + 4294967296 * b' ∧ (x < y + bw → b' = 1 ∧ (x : Int) + 4294967296 - ((y + bw : Nat) : Int) = (z : Int)) ∧ (¬ x < y + bw → b' = 0 ∧ (x : Int) - ((y + bw : Nat) : Int) = (z : Int)) := by
  by_cases h : x < y + bw
  · exact ⟨x + 4294967296 - (y + bw), 1, by omega, by omega, by omega, fun _ => ⟨rfl, by omega⟩, fun h2 => absurd h h2⟩
  · exact ⟨x - (y + bw), 0, by omega, by omega, by omega, fun h2 => absurd h2 h, fun _ => ⟨rfl, by omega⟩⟩

theorem times_step (B p A c X x v c' d Z q : Nat) (h : A + p * c = Z * (d * X)) (hs : v + B * c' = x * d + c) (hp : p = Z * q) : (A + p * v) + (p * B) * c' = Z * (d * (X + q * x)) := by
  have h1 := congrArg (p * ·) hs
  have h2 : Z * (d * (q * x)) = p * (x * d) := by rw [hp]; ac_rfl
  rw [Nat.mul_add, Nat.mul_add, h2]
  simp only [Nat.mul_add, ← Nat.mul_assoc] at h1 h ⊢
  omega

end Go.Proofs.YtnifjhmjpbihoaaDoor

namespace Go.Proofs.YtnifjhmjpbihoaaDoor
open Go.RowKit

theorem proper_of_ge {B : Nat} (hB : 2 ≤ B) {L : List Nat} (hs : Sm B L) (m : Nat) (hl : L.length = m + 1) (h : B ^ m ≤ nv B L) : L = dg B (nv B L) := by
  have h1 := trim_dg hB hs
  have h2 := tl_le L
  have h3 := dg_up hB (nv B L)
  rw [← h1, List.length_take, Nat.min_eq_left h2] at h3
  rcases Nat.lt_or_ge (tl L) (m + 1) with h4 | h4
  · exfalso
    have : B ^ tl L ≤ B ^ m := Nat.pow_le_pow_right (by omega) (by omega)
    omega
  · rw [List.take_of_length_le (by omega)] at h1
    exact h1

theorem bl_half (u : Nat) (h : u ≠ 0) : bl u = bl (u / 2) + 1 := by
  by_cases h1 : u / 2 = 0
  · obtain rfl : u = 1 := by omega
    rfl
  · have := bl_shift u 1 (by rw [Nat.pow_one]; exact h1)
    rw [Nat.pow_one] at this
    exact this

theorem bit_div (xs : List Nat) (hs : Sm Bs xs) (q s : Nat) : nv Bs xs / 2 ^ (32 * q + s) % 2 = xs.getD q 0 / 2 ^ s % 2 ∨ 32 ≤ s := by
  rcases Nat.lt_or_ge s 32 with h | h
  · left
    rw [nv_getD Bs_pos hs q, Nat.pow_add, Nat.pow_mul, show (2 : Nat) ^ 32 = Bs from rfl, ← Nat.div_div_eq_div_mul]
    generalize nv Bs xs / Bs ^ q = N
    have e : Bs = 2 ^ s * 2 ^ (32 - s) := by rw [← Nat.pow_add, show s + (32 - s) = 32 by omega]; rfl
    rw [e, Nat.mod_mul_right_div_self, Nat.mod_mod_of_dvd]
    exact ⟨2 ^ (32 - s - 1), by rw [← Nat.pow_succ', show (32 - s - 1).succ = 32 - s by omega]⟩
  · exact .inr h

end Go.Proofs.YtnifjhmjpbihoaaDoor

namespace Go.Proofs.YtnifjhmjpbihoaaDoor
open Go.RowKit

/-- The n lowest bytes of a number, the most significant first. -/
def tobe (n N : Nat) : List UInt8 := (List.range n).map fun i => UInt8.ofNat (N / 256 ^ (n - 1 - i) % 256)
theorem tobe_length (n N : Nat) : (tobe n N).length = n := by simp [tobe]

theorem madeB (w : World) (n : Nat) (hn : n ≤ 10000000000) : ∃ wm, (Instr.makeSlice 101 (.int .i64 (n : Int)) (.int .i64 (n : Int))).run Tryd.prog w = .ok (.slice (some ⟨w.heap.size, 0, none⟩) n n) wm ∧ Bl 5 wm w.heap.size ((List.replicate n (0 : UInt8)).map B) ∧ Below w.heap.size w wm := by
  obtain ⟨i0, hi, hz0, hz1, hz2⟩ := info_parts infoB
  refine ⟨w.alloc (.cells ((List.replicate n (0 : UInt8)).map B).toArray 5), ?_, alloc_bl _ _ _, alloc_below _ _⟩
  rw [run_make w 101 5 i0 (.int .u8 0) Tryd.underlying101 hi hz0 .i64 .i64 (n : Int) (n : Int) (by omega) (by omega) (by rw [hz2]; omega) (by omega)]
  have e : madeCells (Value.cells (.int .u8 0)) ((n : Int).toNat * i0.size) = ((List.replicate n (0 : UInt8)).map B).toArray := by
    rw [hz1, Int.toNat_natCast, Nat.mul_one]
    apply Array.toList_inj.1
    have := toList_madeCells_one (.int .u8 0) n
    rw [List.map_replicate]
    exact this
  rw [e]
  simp

theorem made_set (f : Nat → UInt8) (n k : Nat) (v : UInt8) (hk : k < n) (hv : v = f k) :
    (((List.range k).map f ++ List.replicate (n - k) 0).map B).set k (B v) = (((List.range (k + 1)).map f ++ List.replicate (n - (k + 1)) 0).map B) := by
  subst hv
  rw [← List.map_set, List.set_append_right _ _ (by simp), List.length_map, List.length_range, Nat.sub_self, show n - k = (n - (k + 1)) + 1 by omega, List.replicate_succ, List.set_cons_zero, List.range_succ, List.map_append]
  simp

theorem byte_div (xs : List Nat) (hs : Sm Bs xs) (p : Nat) : xs.getD (p / 4) 0 / 2 ^ (8 * (p % 4)) % 256 = nv Bs xs / 256 ^ p % 256 := by
  have e0 : 256 ^ p = Bs ^ (p / 4) * 2 ^ (8 * (p % 4)) := by
    rw [show (2 : Nat) ^ (8 * (p % 4)) = 256 ^ (p % 4) by rw [Nat.pow_mul], Bs_256, ← Nat.pow_mul, ← Nat.pow_add]
    congr 1
    omega
  rw [nv_getD Bs_pos hs, e0, ← Nat.div_div_eq_div_mul]
  generalize nv Bs xs / Bs ^ (p / 4) = N
  have hr : p % 4 < 4 := Nat.mod_lt _ (by decide)
  generalize p % 4 = r at hr
  have e : Bs = 2 ^ (8 * r) * 2 ^ (32 - 8 * r) := by rw [← Nat.pow_add, show 8 * r + (32 - 8 * r) = 32 by omega]; rfl
  rw [e, Nat.mod_mul_right_div_self, Nat.mod_mod_of_dvd]
  exact ⟨2 ^ (32 - 8 * r - 8), by rw [show (256 : Nat) = 2 ^ 8 from rfl, ← Nat.pow_add, show 8 + (32 - 8 * r - 8) = 32 - 8 * r by omega]⟩

/-- A number's least bytes. -/
def lst (V : Nat) : Nat := (bl V + 7) / 8

theorem lst_bound (xs : List Nat) (sx : Sm Bs xs) : lst (nv Bs xs) ≤ 4 * xs.length := by
  unfold lst
  have h2 := nv_lt Bs_pos sx
  have h6 : Bs ^ xs.length = 2 ^ (32 * xs.length) := by rw [Nat.pow_mul]; rfl
  rw [h6] at h2
  rcases Nat.lt_or_ge (32 * xs.length) (bl (nv Bs xs)) with h3 | h3
  · exfalso
    have h4 : nv Bs xs ≠ 0 := fun e => by rw [e, bl_zero] at h3; omega
    have h5 := bl_le _ h4
    have h7 : 2 ^ (32 * xs.length) ≤ 2 ^ (bl (nv Bs xs) - 1) := Nat.pow_le_pow_right (by decide) (by omega)
    exact absurd (Nat.lt_of_le_of_lt (Nat.le_trans h7 h5) h2) (Nat.lt_irrefl _)
  · omega

/-- A row of bytes of one's own. -/
def Owb (w : World) (base : Nat) (v : Value) (l : List UInt8) : Prop := w.ownsRow base 5 1 v l.length (l.map B)
theorem Owb.nil (w : World) (base : Nat) : Owb w base (.slice none 0 0) [] := ⟨rfl, .inl ⟨rfl, rfl⟩⟩
theorem Bl.owb {w : World} {base g : Nat} {l : List UInt8} (h : Bl 5 w g (l.map B)) (hg : base ≤ g) (hl : l.length ≤ 10000000000) : Owb w base (.slice (some ⟨g, 0, none⟩) l.length l.length) l := by
  refine ⟨by simp, .inr ⟨g, l.length, (l.map B).toArray, rfl, hg, h, Nat.le_refl _, ?_, by simp, ?_⟩⟩
  · unfold maxLen; omega
  · rw [List.take_of_length_le (by simp)]
theorem Owb.below {w w' : World} {base n : Nat} {v : Value} {xs : List UInt8} (h : Owb w base v xs) (hb : Below n w w') (hn : w.heap.size ≤ n) : Owb w' base v xs := by
  rcases h.2 with h0 | ⟨g, cap, cur, e, hg, hh, r⟩
  · exact ⟨h.1, .inl h0⟩
  · exact ⟨h.1, .inr ⟨g, cap, cur, e, hg, by rw [hb.block g (Nat.lt_of_lt_of_le (Array.getElem?_eq_some_iff.1 hh).1 hn)]; exact hh, r⟩⟩
theorem Owb.drewN {w : World} {base : Nat} {v : Value} {xs : List UInt8} (h : Owb w base v xs) (q : Nat) : Owb (w.drewN q) base v xs := h
theorem Owb.base {w : World} {base base' : Nat} {v : Value} {xs : List UInt8} (h : Owb w base v xs) (hb : base' ≤ base) : Owb w base' v xs := by
  rcases h.2 with h0 | ⟨g, cap, cur, e, hg, r⟩
  · exact ⟨h.1, .inl h0⟩
  · exact ⟨h.1, .inr ⟨g, cap, cur, e, Nat.le_trans hb hg, r⟩⟩
/-- A value that is bytes. -/
def Nb (w : World) (v : Value) (l : List UInt8) : Prop := ∃ (ao : Option Addr) (c : Nat), v = .slice ao l.length c ∧ l.length ≤ c ∧ Rd w ao l
theorem Nb.below {w w' : World} {v : Value} {xs : List UInt8} {n : Nat} (h : Nb w v xs) (hb : Below n w w') (hn : w.heap.size ≤ n) : Nb w' v xs := by
  obtain ⟨ao, c, e, hc, hr⟩ := h
  exact ⟨ao, c, e, hc, hr.below hb hn⟩
theorem Nb.drewN {w : World} {v : Value} {xs : List UInt8} (h : Nb w v xs) (q : Nat) : Nb (w.drewN q) v xs := h
theorem Owb.nb {w : World} {base : Nat} {v : Value} {xs : List UInt8} (h : Owb w base v xs) : Nb w v xs := by
  rcases h.2 with ⟨rfl, h0⟩ | ⟨g, cap, cur, rfl, hg, hh, hn, hc, hsz, ht⟩
  · have : xs = [] := List.eq_nil_of_length_eq_zero h0
    subst this
    exact ⟨none, 0, rfl, Nat.le_refl _, .inl rfl⟩
  · refine ⟨_, cap, rfl, hn, .inr ⟨g, 0, rfl, (World.ownsRow.lt h g rfl).2, fun j hj => ?_⟩⟩
    rw [Nat.zero_add, World.ownsRow.cellAt h j (by omega)]
    rw [List.getElem?_map, List.getElem?_eq_getElem hj, List.getD_eq_getElem?_getD, List.getElem?_eq_getElem hj]; rfl

end Go.Proofs.YtnifjhmjpbihoaaDoor

namespace Go.Proofs.YtnifjhmjpbihoaaDoor
open Go.RowKit

set_option maxHeartbeats 1000000 in
theorem bit_pos (k : Nat) (v : Value) (xs : List Nat) (w : World) (hv : Nm w v xs) (hk : k ≤ 9223372036854775807) :
    Calls Tryd.prog 48 #[v, .int .i64 (k : Int)] w fun e w' => e = .returned (.bool (decide (nv Bs xs / 2 ^ k % 2 = 1))) ∧ w' = w := by
  obtain ⟨ax, cx, rfl, hcx, hx, sx⟩ := hv
  obtain ⟨q, hq⟩ : ∃ q, k / 32 = q := ⟨_, rfl⟩
  obtain ⟨s, hs⟩ : ∃ s, k % 32 = s := ⟨_, rfl⟩
  have hs32 : s < 32 := by omega
  have eq1 : Int.tdiv (k : Int) 32 = (q : Int) := by rw [Int.tdiv_eq_ediv_of_nonneg (by omega)]; omega
  have eq2 : (k : Int) / 32 = (q : Int) := by omega
  have es1 : Int.tmod (k : Int) 32 = (s : Int) := by rw [Int.tmod_eq_emod_of_nonneg (by omega)]; omega
  have es2 : (k : Int) % 32 = (s : Int) := by omega
  have hq64 : q ≤ 288230376151711744 := by omega
  have eqw : wrap64 (q : Int) = (q : Int) := by unfold wrap64; omega
  have hk0 : decide ((k : Int) ≥ 0) = true := decide_eq_true (by omega)
  have HV : Hid (nv Bs xs / 2 ^ k % 2 = xs.getD q 0 / 2 ^ s % 2) := by
    have := bit_div xs sx q s
    rw [show 32 * q + s = k by omega] at this
    rcases this with h | h
    · exact h
    · omega
  have C := at_nat ax xs.length cx q xs w hx rfl
  obtain ⟨x, Hx⟩ : ∃ x, Hid (xs.getD q 0 = x) := ⟨_, rfl⟩
  have hxb : x < 4294967296 := by rw [← Hx.out, ← Bs_eq]; exact sx.getD Bs_pos q
  rw [Hx.out] at C HV
  obtain ⟨y, Hy⟩ : ∃ y, Hid (x / 2 ^ s = y) := ⟨_, rfl⟩
  have hy : y < 4294967296 := by rw [← Hy.out]; exact Nat.lt_of_le_of_lt (Nat.div_le_self _ _) hxb
  have ey : (x : Int) / 2 ^ s = (y : Int) := by rw [← Hy.out]; simp
  rw [Hy.out] at HV
  have hand : bits .and .u32 (y : Int) 1 = ((y % 2 : Nat) : Int) := by
    have := u32_and_nat y 1 hy (by decide)
    rw [Nat.and_one_is_mod] at this
    exact this
  obtain ⟨z, Hz⟩ : ∃ z, Hid (y % 2 = z) := ⟨_, rfl⟩
  rw [Hz.out] at hand HV
  have hz : z ≤ 1 := by rw [← Hz.out]; omega
  clear hx sx hcx hq hs Hy Hz
  go_enter Tryd.func48, Tryd.ntmps48
  go_wp2_with fail
  refine C.mono ?_
  clear C
  rintro e w ⟨rfl, rfl⟩
  go_wp2
  go_ret
  refine ⟨?_, rfl⟩
  rw [HV.out]
  congr 2
  rcases Nat.eq_zero_or_pos z with h | h
  · subst h; rfl
  · obtain rfl : z = 1 := by omega
    rfl

theorem bit_neg (k : Int) (v : Value) (w : World) (hk : k < 0) : Calls Tryd.prog 48 #[v, .int .i64 k] w fun e w' => e = .returned (.bool false) ∧ w' = w := by
  have hk0 : decide (k ≥ 0) = false := decide_eq_false (by omega)
  go_enter Tryd.func48, Tryd.ntmps48
  go_wp2
  go_ret
  exact ⟨rfl, rfl⟩

/-- So many bits Shl takes. -/
def shk (k : Int) : Nat := if k < 0 then 0 else if k ≤ 131072 then k.toNat else 131072

theorem shr_nm (k : Int) (v : Value) (xs : List Nat) (w : World) (hv : Nm w v xs) (h1 : xs.length ≤ 100000000) (hk : k ≤ 9223372036854775807) :
    Calls Tryd.prog 54 #[v, .int .i64 k] w fun e w' => ∃ r, e = .returned r ∧ Ow w' w.heap.size r (dg Bs (nv Bs xs / 2 ^ k.toNat)) ∧ Below w.heap.size w w' := by
  by_cases h : k < 0
  · rw [show k.toNat = 0 by omega]; exact shr_neg k h v xs w hv h1
  · obtain ⟨K, rfl⟩ : ∃ K : Nat, k = (K : Int) := ⟨k.toNat, by omega⟩
    rw [Int.toNat_natCast]
    exact shr_pos K (by omega) v xs w hv h1

end Go.Proofs.YtnifjhmjpbihoaaDoor
