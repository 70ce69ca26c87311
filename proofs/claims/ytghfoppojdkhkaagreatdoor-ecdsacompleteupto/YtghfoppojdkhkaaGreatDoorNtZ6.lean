import Derived.Test.YtghfoppojdkhkaaGreatDoorNtZ5
import Derived.Test.YtghfoppojdkhkaaGreatDoorNtZ4
namespace Go.Proofs.YtghfoppojdkhkaaGreatDoor
open Go.RowKit

end Go.Proofs.YtghfoppojdkhkaaGreatDoor

namespace Go.Proofs.YtghfoppojdkhkaaGreatDoor
open Go.RowKit

end Go.Proofs.YtghfoppojdkhkaaGreatDoor

namespace Go.Proofs.YtghfoppojdkhkaaGreatDoor
open Go.RowKit

theorem bit_div (xs : List Nat) (hs : Sm Bs xs) (q s : Nat) : nv Bs xs / 2 ^ (32 * q + s) % 2 = xs.getD q 0 / 2 ^ s % 2 ∨ 32 ≤ s := by
  rcases Nat.lt_or_ge s 32 with h | h
  · left
    rw [nv_getD Bs_pos hs q, Nat.pow_add, Nat.pow_mul, show (2 : Nat) ^ 32 = Bs from rfl, ← Nat.div_div_eq_div_mul]
    generalize nv Bs xs / Bs ^ q = N
    have e : Bs = 2 ^ s * 2 ^ (32 - s) := by rw [← Nat.pow_add, show s + (32 - s) = 32 by omega]; rfl
    rw [e, Nat.mod_mul_right_div_self, Nat.mod_mod_of_dvd]
    exact ⟨2 ^ (32 - s - 1), by rw [← Nat.pow_succ', show (32 - s - 1).succ = 32 - s by omega]⟩
  · exact .inr h

end Go.Proofs.YtghfoppojdkhkaaGreatDoor

namespace Go.Proofs.YtghfoppojdkhkaaGreatDoor
open Go.RowKit

/-- The n lowest bytes of a number, the most significant first. -/
def tobe (n N : Nat) : List UInt8 := (List.range n).map fun i => UInt8.ofNat (N / 256 ^ (n - 1 - i) % 256)
theorem tobe_length (n N : Nat) : (tobe n N).length = n := by simp [tobe]

theorem madeB (w : World) (n : Nat) (hn : n ≤ 10000000000) : ∃ wm, (Instr.makeSlice 24 (.int .i64 (n : Int)) (.int .i64 (n : Int))).run Tryz.prog w = .ok (.slice (some ⟨w.heap.size, 0, none⟩) n n) wm ∧ Bl 5 wm w.heap.size ((List.replicate n (0 : UInt8)).map B) ∧ Below w.heap.size w wm := by
  obtain ⟨i0, hi, hz0, hz1, hz2⟩ := info_parts infoB
  refine ⟨w.alloc (.cells ((List.replicate n (0 : UInt8)).map B).toArray 5), ?_, alloc_bl _ _ _, alloc_below _ _⟩
  rw [run_make w 24 5 i0 (.int .u8 0) Tryz.underlying24 hi hz0 .i64 .i64 (n : Int) (n : Int) (by omega) (by omega) (by rw [hz2]; omega) (by omega)]
  have e : madeCells (Value.cells (.int .u8 0)) ((n : Int).toNat * i0.size) = ((List.replicate n (0 : UInt8)).map B).toArray := by
    rw [hz1, Int.toNat_natCast, Nat.mul_one]
    apply Array.toList_inj.1
    have := toList_madeCells_one (.int .u8 0) n
    rw [List.map_replicate]
    exact this
  rw [e]
  simp

theorem made_set (f : Nat → UInt8) (n k : Nat) (v : UInt8) (hk : k < n) (hv : v = f k) :
    (((List.range k).map f ++ List.replicate (n - k) 0).map B).set k (B v) = (((List.range (k + 1)).map f ++ List.replicate (n - (k + 1)) 0).map B) := by
  subst hv
  rw [← List.map_set, List.set_append_right _ _ (by simp), List.length_map, List.length_range, Nat.sub_self, show n - k = (n - (k + 1)) + 1 by omega, List.replicate_succ, List.set_cons_zero, List.range_succ, List.map_append]
  simp

theorem byte_div (xs : List Nat) (hs : Sm Bs xs) (p : Nat) : xs.getD (p / 4) 0 / 2 ^ (8 * (p % 4)) % 256 = nv Bs xs / 256 ^ p % 256 := by
  have e0 : 256 ^ p = Bs ^ (p / 4) * 2 ^ (8 * (p % 4)) := by
    rw [show (2 : Nat) ^ (8 * (p % 4)) = 256 ^ (p % 4) by rw [Nat.pow_mul], Bs_256, ← Nat.pow_mul, ← Nat.pow_add]
    congr 1
    omega
  rw [nv_getD Bs_pos hs, e0, ← Nat.div_div_eq_div_mul]
  generalize nv Bs xs / Bs ^ (p / 4) = N
  have hr : p % 4 < 4 := Nat.mod_lt _ (by decide)
  generalize p % 4 = r at hr
  have e : Bs = 2 ^ (8 * r) * 2 ^ (32 - 8 * r) := by rw [← Nat.pow_add, show 8 * r + (32 - 8 * r) = 32 by omega]; rfl
  rw [e, Nat.mod_mul_right_div_self, Nat.mod_mod_of_dvd]
  exact ⟨2 ^ (32 - 8 * r - 8), by rw [show (256 : Nat) = 2 ^ 8 from rfl, ← Nat.pow_add, show 8 + (32 - 8 * r - 8) = 32 - 8 * r by omega]⟩

set_option maxHeartbeats 1000000 in
theorem written_any (ax : Option Addr) (cx n : Nat) (xs : List Nat) (w : World) (hx : Rn w ax xs) (sx : Sm Bs xs) (_h1 : xs.length ≤ 100000000) (hn : n ≤ 1000000000) :
    Calls Tryz.prog 66 #[.slice ax xs.length cx, .int .i64 (n : Int)] w fun e w' => e = .returned (.slice (some ⟨w.heap.size, 0, none⟩) n n) ∧ Bl 5 w' w.heap.size ((tobe n (nv Bs xs)).map B) ∧ Below w.heap.size w w' := by
  obtain ⟨wm, hmk, hbm, hbel⟩ := madeB w n (by omega)
  obtain ⟨V, HV⟩ : ∃ V, Hid (nv Bs xs = V) := ⟨_, rfl⟩
  rw [HV.out]
  obtain ⟨f, Hf⟩ : ∃ f : Nat → UInt8, Hid (f = fun i => UInt8.ofNat (V / 256 ^ (n - 1 - i) % 256)) := ⟨_, rfl⟩
  have HX : Hid (Rn w ax xs) := hx
  have HSX : Hid (Sm Bs xs) := sx
  have HM : Hid (Bl 5 wm w.heap.size (((List.range 0).map f ++ List.replicate (n - 0) 0).map B) ∧ Below w.heap.size w wm) := ⟨by simpa using hbm, hbel⟩
  clear hx sx hbm hbel
  go_enter Tryz.func66, Tryz.ntmps66
  go_wp2
  clear hmk
  go_loopw [12] (fun s wr => ∃ i : Nat, s = .int .i64 (i : Int) ∧ i ≤ n ∧ Hid (Bl 5 wr w.heap.size (((List.range i).map f ++ List.replicate (n - i) 0).map B) ∧ Below w.heap.size w wr)) (fun s _ => n - (intOf s).toNat)
  case atStart => exact ⟨0, rfl, Nat.zero_le _, HM⟩
  case round =>
    clear HM
    obtain ⟨i, rfl, hi, HI⟩ := hrel
    by_cases hlt : i < n
    · obtain ⟨p, Hp⟩ : ∃ p, Hid (n = i + p + 1) := ⟨n - i - 1, (by omega : n = i + (n - i - 1) + 1)⟩
      have ep : (n : Int) - 1 - (i : Int) = (p : Int) := by have := Hp.out; omega
      have hpb : p ≤ 1000000000 := by have := Hp.out; omega
      obtain ⟨qt, Hqt⟩ : ∃ a, Hid (p / 4 = a) := ⟨_, rfl⟩
      obtain ⟨s, Hs⟩ : ∃ a, Hid (8 * (p % 4) = a) := ⟨_, rfl⟩
      have hs32 : s ≤ 24 := by rw [← Hs.out]; omega
      have eq1 : Int.tdiv (p : Int) 4 = (qt : Int) := by rw [Int.tdiv_eq_ediv_of_nonneg (by omega), ← Hqt.out]; omega
      have eq2 : (p : Int) / 4 = (qt : Int) := by rw [← Hqt.out]; omega
      have er1 : Int.tmod (p : Int) 4 * 8 = (s : Int) := by rw [Int.tmod_eq_emod_of_nonneg (by omega), ← Hs.out]; omega
      have er2 : (p : Int) % 4 * 8 = (s : Int) := by rw [← Hs.out]; omega
      have C := at_nat ax xs.length cx qt xs wr (HX.out.below HI.out.2 (Nat.le_refl _)) rfl
      obtain ⟨x, Hx⟩ : ∃ x, Hid (xs.getD qt 0 = x) := ⟨_, rfl⟩
      have hx : x < 4294967296 := by rw [← Hx.out, ← Bs_eq]; exact HSX.out.getD Bs_pos qt
      rw [Hx.out] at C
      obtain ⟨y, Hy⟩ : ∃ y, Hid (x / 2 ^ s = y) := ⟨_, rfl⟩
      have hy : y < 4294967296 := by rw [← Hy.out]; exact Nat.lt_of_le_of_lt (Nat.div_le_self _ _) hx
      have ey : (x : Int) / 2 ^ s = (y : Int) := by rw [← Hy.out]; simp
      obtain ⟨z, Hz⟩ : ∃ z, Hid (y % 256 = z) := ⟨_, rfl⟩
      have hz : z < 256 := by rw [← Hz.out]; omega
      have ez : (y : Int) % 256 = (z : Int) := by rw [← Hz.out]; omega
      have ezw : IntKind.u8.wrap (y : Int) = (z : Int) := by rw [IntKind.wrap_u8, ← Hz.out]; omega
      have HF : Hid (.int .u8 (z : Int) = B (f i)) := by
        show _ = _
        rw [Hf.out]
        unfold B
        have h4 := byte_div xs HSX.out p
        rw [Hqt.out, Hs.out, Hx.out, Hy.out, Hz.out, HV.out] at h4
        show Value.int .u8 (z : Int) = .int .u8 ((UInt8.ofNat (V / 256 ^ (n - 1 - i) % 256)).toNat : Int)
        rw [show n - 1 - i = p by have := Hp.out; omega, ← h4, UInt8.toNat_ofNat', Nat.mod_eq_of_lt (by omega)]
      have gf := HI.out.1.frozen i
      obtain ⟨old, gc⟩ : ∃ v, wr.cell? ⟨w.heap.size, i, none⟩ = some v := ⟨_, HI.out.1.cell i (by simp; omega)⟩
      clear Hz Hy
      go_wp2_with fail
      refine C.mono ?_
      clear C
      rintro e wr ⟨rfl, rfl⟩
      go_wp2
      go_roundw
      case rel =>
        refine ⟨i + 1, by go_num, by omega, ?_, HI.out.2.setCell (Nat.le_refl _) _⟩
        have h5 := HI.out.1.set i (B (f i))
        rw [made_set f n i (f i) hlt rfl] at h5
        rw [HF.out]
        exact h5
      case measure => simp [intOf]; omega
    · obtain rfl : i = n := by omega
      have HO : Hid (Bl 5 wr w.heap.size ((tobe i V).map B) ∧ Below w.heap.size w wr) := by
        have h5 := HI.out
        rw [Nat.sub_self, List.replicate_zero, List.append_nil, Hf.out] at h5
        exact h5
      go_wp2
      go_ret
      exact ⟨rfl, HO.out⟩

/-- A number's least bytes. -/
def lst (V : Nat) : Nat := (bl V + 7) / 8

theorem least_nm (v : Value) (xs : List Nat) (w : World) (hv : Nm w v xs) (h1 : xs.length ≤ 10000000) :
    Calls Tryz.prog 65 #[v] w fun e w' => e = .returned (.int .i64 ((lst (nv Bs xs) : Nat) : Int)) ∧ w' = w := by
  have C := bits_nm v xs w hv (by omega)
  have hb : bl (nv Bs xs) ≤ 1000000000 := by
    have h2 := nv_lt Bs_pos hv.sm
    rcases Nat.lt_or_ge 1000000000 (bl (nv Bs xs)) with h3 | h3
    · exfalso
      have h4 : nv Bs xs ≠ 0 := fun e => by rw [e] at h3; exact absurd h3 (by decide)
      have h5 := bl_le _ h4
      have h6 : Bs ^ xs.length = 2 ^ (32 * xs.length) := by rw [Nat.pow_mul]; rfl
      rw [h6] at h2
      have h7 : 2 ^ (32 * xs.length) ≤ 2 ^ (bl (nv Bs xs) - 1) := Nat.pow_le_pow_right (by decide) (by omega)
      exact absurd (Nat.lt_of_le_of_lt (Nat.le_trans h7 h5) h2) (Nat.lt_irrefl _)
    · exact h3
  unfold lst
  obtain ⟨b, Hb⟩ : ∃ b, Hid (bl (nv Bs xs) = b) := ⟨_, rfl⟩
  rw [Hb.out] at C hb ⊢
  obtain ⟨m, Hm⟩ : ∃ m, Hid (b + 7 = m) := ⟨_, rfl⟩
  obtain ⟨n, Hn⟩ : ∃ n, Hid (m / 8 = n) := ⟨_, rfl⟩
  rw [Hm.out, Hn.out]
  have hm : m ≤ 1000000007 := by rw [← Hm.out]; omega
  have e1 : (b : Int) + 7 = (m : Int) := by rw [← Hm.out]; omega
  have e2 : Int.tdiv (m : Int) 8 = (n : Int) := by rw [Int.tdiv_eq_ediv_of_nonneg (by omega), ← Hn.out]; omega
  have e3 : (m : Int) / 8 = (n : Int) := by rw [← Hn.out]; omega
  clear hv
  go_enter Tryz.func65, Tryz.ntmps65
  go_wp2_with fail
  refine C.mono ?_
  clear C
  rintro e w ⟨rfl, rfl⟩
  go_wp2
  go_ret
  exact ⟨rfl, rfl⟩

/-- A row of bytes of one's own. -/
def Owb (w : World) (base : Nat) (v : Value) (l : List UInt8) : Prop := w.ownsRow base 5 1 v l.length (l.map B)
theorem Owb.nil (w : World) (base : Nat) : Owb w base (.slice none 0 0) [] := ⟨rfl, .inl ⟨rfl, rfl⟩⟩
theorem Bl.owb {w : World} {base g : Nat} {l : List UInt8} (h : Bl 5 w g (l.map B)) (hg : base ≤ g) (hl : l.length ≤ 10000000000) : Owb w base (.slice (some ⟨g, 0, none⟩) l.length l.length) l := by
  refine ⟨by simp, .inr ⟨g, l.length, (l.map B).toArray, rfl, hg, h, Nat.le_refl _, ?_, by simp, ?_⟩⟩
  · unfold maxLen; omega
  · rw [List.take_of_length_le (by simp)]
theorem Owb.below {w w' : World} {base n : Nat} {v : Value} {xs : List UInt8} (h : Owb w base v xs) (hb : Below n w w') (hn : w.heap.size ≤ n) : Owb w' base v xs := by
  rcases h.2 with h0 | ⟨g, cap, cur, e, hg, hh, r⟩
  · exact ⟨h.1, .inl h0⟩
  · exact ⟨h.1, .inr ⟨g, cap, cur, e, hg, by rw [hb.block g (Nat.lt_of_lt_of_le (Array.getElem?_eq_some_iff.1 hh).1 hn)]; exact hh, r⟩⟩
theorem Owb.drewN {w : World} {base : Nat} {v : Value} {xs : List UInt8} (h : Owb w base v xs) (q : Nat) : Owb (w.drewN q) base v xs := h
theorem Owb.base {w : World} {base base' : Nat} {v : Value} {xs : List UInt8} (h : Owb w base v xs) (hb : base' ≤ base) : Owb w base' v xs := by
  rcases h.2 with h0 | ⟨g, cap, cur, e, hg, r⟩
  · exact ⟨h.1, .inl h0⟩
  · exact ⟨h.1, .inr ⟨g, cap, cur, e, Nat.le_trans hb hg, r⟩⟩
/-- A value that is bytes. -/
def Nb (w : World) (v : Value) (l : List UInt8) : Prop := ∃ (ao : Option Addr) (c : Nat), v = .slice ao l.length c ∧ l.length ≤ c ∧ Rd w ao l
theorem Nb.below {w w' : World} {v : Value} {xs : List UInt8} {n : Nat} (h : Nb w v xs) (hb : Below n w w') (hn : w.heap.size ≤ n) : Nb w' v xs := by
  obtain ⟨ao, c, e, hc, hr⟩ := h
  exact ⟨ao, c, e, hc, hr.below hb hn⟩
theorem Nb.drewN {w : World} {v : Value} {xs : List UInt8} (h : Nb w v xs) (q : Nat) : Nb (w.drewN q) v xs := h
theorem Owb.nb {w : World} {base : Nat} {v : Value} {xs : List UInt8} (h : Owb w base v xs) : Nb w v xs := by
  rcases h.2 with ⟨rfl, h0⟩ | ⟨g, cap, cur, rfl, hg, hh, hn, hc, hsz, ht⟩
  · have : xs = [] := List.eq_nil_of_length_eq_zero h0
    subst this
    exact ⟨none, 0, rfl, Nat.le_refl _, .inl rfl⟩
  · refine ⟨_, cap, rfl, hn, .inr ⟨g, 0, rfl, (World.ownsRow.lt h g rfl).2, fun j hj => ?_⟩⟩
    rw [Nat.zero_add, World.ownsRow.cellAt h j (by omega)]
    rw [List.getElem?_map, List.getElem?_eq_getElem hj, List.getD_eq_getElem?_getD, List.getElem?_eq_getElem hj]; rfl

theorem fixed_nm (v : Value) (xs : List Nat) (size : Int) (w : World) (hv : Nm w v xs) (h1 : xs.length ≤ 10000000) :
    Calls Tryz.prog 42 #[v, .int .i64 size] w fun e w' => ∃ r l, e = .returned (.tuple #[r, .bool (decide ((lst (nv Bs xs) : Int) ≤ size ∧ size ≤ 16384))]) ∧ Owb w' w.heap.size r l ∧ l = (if (lst (nv Bs xs) : Int) ≤ size ∧ size ≤ 16384 then tobe size.toNat (nv Bs xs) else []) ∧ Below w.heap.size w w' := by
  have C := least_nm v xs w hv h1
  obtain ⟨ax, cx, rfl, hcx, hx, sx⟩ := hv
  obtain ⟨n, Hn⟩ : ∃ n, Hid (lst (nv Bs xs) = n) := ⟨_, rfl⟩
  rw [Hn.out] at C ⊢
  by_cases hs : (n : Int) ≤ size ∧ size ≤ 16384
  · obtain ⟨k, rfl⟩ : ∃ k : Nat, size = (k : Int) := ⟨size.toNat, by omega⟩
    have C2 := written_any ax cx k xs w hx sx (by omega) (by omega)
    have hc1 : decide ((k : Int) < (n : Int)) = false := decide_eq_false (by omega)
    have hc2 : decide ((k : Int) > 16384) = false := decide_eq_false (by omega)
    have hc3 : decide (k < n) = false := decide_eq_false (by omega)
    have hk : k ≤ 16384 := by omega
    rw [if_pos hs, decide_eq_true hs, Int.toNat_natCast]
    clear hx sx hs
    go_enter Tryz.func42, Tryz.ntmps42
    go_wp2_with fail
    refine C.mono ?_
    clear C
    rintro e w ⟨rfl, rfl⟩
    go_wp2_with fail
    refine C2.mono ?_
    clear C2
    rintro e w1 ⟨rfl, hb1, hb2⟩
    have HO : Hid (Owb w1 w.heap.size (.slice (some ⟨w.heap.size, 0, none⟩) k k) (tobe k (nv Bs xs)) ∧ Below w.heap.size w w1) := by
      have := hb1.owb (Nat.le_refl w.heap.size) (by rw [tobe_length]; omega)
      rw [tobe_length] at this
      exact ⟨this, hb2⟩
    clear hb1 hb2
    go_wp2
    go_ret2
    exact ⟨_, _, rfl, HO.out.1, rfl, HO.out.2⟩
  · rw [if_neg hs, decide_eq_false hs]
    by_cases h3 : size < (n : Int)
    · have hc1 : decide (size < (n : Int)) = true := decide_eq_true h3
      clear hx sx hs
      go_enter Tryz.func42, Tryz.ntmps42
      go_wp2_with fail
      refine C.mono ?_
      clear C
      rintro e w ⟨rfl, rfl⟩
      go_wp2
      go_ret2
      exact ⟨_, _, rfl, Owb.nil _ _, rfl, Below.refl _ _⟩
    · have hc1 : decide (size < (n : Int)) = false := decide_eq_false h3
      have hc2 : decide (size > 16384) = true := decide_eq_true (by omega)
      clear hx sx hs
      go_enter Tryz.func42, Tryz.ntmps42
      go_wp2_with fail
      refine C.mono ?_
      clear C
      rintro e w ⟨rfl, rfl⟩
      go_wp2
      go_ret2
      exact ⟨_, _, rfl, Owb.nil _ _, rfl, Below.refl _ _⟩

end Go.Proofs.YtghfoppojdkhkaaGreatDoor

namespace Go.Proofs.YtghfoppojdkhkaaGreatDoor
open Go.RowKit

set_option maxHeartbeats 1000000 in
theorem bit_pos (k : Nat) (v : Value) (xs : List Nat) (w : World) (hv : Nm w v xs) (hk : k ≤ 9223372036854775807) :
    Calls Tryz.prog 51 #[v, .int .i64 (k : Int)] w fun e w' => e = .returned (.bool (decide (nv Bs xs / 2 ^ k % 2 = 1))) ∧ w' = w := by
  obtain ⟨ax, cx, rfl, hcx, hx, sx⟩ := hv
  obtain ⟨q, hq⟩ : ∃ q, k / 32 = q := ⟨_, rfl⟩
  obtain ⟨s, hs⟩ : ∃ s, k % 32 = s := ⟨_, rfl⟩
  have hs32 : s < 32 := by omega
  have eq1 : Int.tdiv (k : Int) 32 = (q : Int) := by rw [Int.tdiv_eq_ediv_of_nonneg (by omega)]; omega
  have eq2 : (k : Int) / 32 = (q : Int) := by omega
  have es1 : Int.tmod (k : Int) 32 = (s : Int) := by rw [Int.tmod_eq_emod_of_nonneg (by omega)]; omega
  have es2 : (k : Int) % 32 = (s : Int) := by omega
  have hq64 : q ≤ 288230376151711744 := by omega
  have eqw : wrap64 (q : Int) = (q : Int) := by unfold wrap64; omega
  have hk0 : decide ((k : Int) ≥ 0) = true := decide_eq_true (by omega)
  have HV : Hid (nv Bs xs / 2 ^ k % 2 = xs.getD q 0 / 2 ^ s % 2) := by
    have := bit_div xs sx q s
    rw [show 32 * q + s = k by omega] at this
    rcases this with h | h
    · exact h
    · omega
  have C := at_nat ax xs.length cx q xs w hx rfl
  obtain ⟨x, Hx⟩ : ∃ x, Hid (xs.getD q 0 = x) := ⟨_, rfl⟩
  have hxb : x < 4294967296 := by rw [← Hx.out, ← Bs_eq]; exact sx.getD Bs_pos q
  rw [Hx.out] at C HV
  obtain ⟨y, Hy⟩ : ∃ y, Hid (x / 2 ^ s = y) := ⟨_, rfl⟩
  have hy : y < 4294967296 := by rw [← Hy.out]; exact Nat.lt_of_le_of_lt (Nat.div_le_self _ _) hxb
  have ey : (x : Int) / 2 ^ s = (y : Int) := by rw [← Hy.out]; simp
  rw [Hy.out] at HV
  have hand : bits .and .u32 (y : Int) 1 = ((y % 2 : Nat) : Int) := by
    have := u32_and_nat y 1 hy (by decide)
    rw [Nat.and_one_is_mod] at this
    exact this
  obtain ⟨z, Hz⟩ : ∃ z, Hid (y % 2 = z) := ⟨_, rfl⟩
  rw [Hz.out] at hand HV
  have hz : z ≤ 1 := by rw [← Hz.out]; omega
  clear hx sx hcx hq hs Hy Hz
  go_enter Tryz.func51, Tryz.ntmps51
  go_wp2_with fail
  refine C.mono ?_
  clear C
  rintro e w ⟨rfl, rfl⟩
  go_wp2
  go_ret
  refine ⟨?_, rfl⟩
  rw [HV.out]
  congr 2
  rcases Nat.eq_zero_or_pos z with h | h
  · subst h; rfl
  · obtain rfl : z = 1 := by omega
    rfl

/-- So many bits Shl takes. -/
def shk (k : Int) : Nat := if k < 0 then 0 else if k ≤ 131072 then k.toNat else 131072

end Go.Proofs.YtghfoppojdkhkaaGreatDoor
