import Derived.Test.YthnogdkkdekgpaaGreatDoorNtZ7
namespace Go.Proofs.YthnogdkkdekgpaaGreatDoor
open Go.RowKit

theorem pow_256 (n : Nat) : 256 ^ n = 2 ^ (8 * n) := by rw [Nat.pow_mul]
theorem lst_of (V n : Nat) (h1 : V < 256 ^ n) (h2 : n = 0 ∨ 256 ^ (n - 1) ≤ V) : lst V = n := by
  unfold lst
  rw [pow_256] at h1
  rcases Nat.eq_zero_or_pos n with h0 | h0
  · subst h0
    have : V = 0 := by simp at h1; exact h1
    subst this
    rfl
  · have h3 : 256 ^ (n - 1) ≤ V := by rcases h2 with h | h <;> omega
    rw [pow_256] at h3
    have a1 := bl_lt V
    have hV : V ≠ 0 := fun e => by
      rw [e] at h3
      have := Nat.pow_pos (n := 8 * (n - 1)) (show 0 < 2 by decide)
      omega
    have a2 := bl_le V hV
    have b1 : bl V ≤ 8 * n := by
      rcases Nat.lt_or_ge (8 * n) (bl V) with h | h
      · exfalso
        have : 2 ^ (8 * n) ≤ 2 ^ (bl V - 1) := Nat.pow_le_pow_right (by decide) (by omega)
        omega
      · exact h
    have b2 : 8 * (n - 1) < bl V := by
      rcases Nat.lt_or_ge (8 * (n - 1)) (bl V) with h | h
      · exact h
      · exfalso
        have : 2 ^ bl V ≤ 2 ^ (8 * (n - 1)) := Nat.pow_le_pow_right (by decide) h
        omega
    omega
theorem lst_lt (V : Nat) : V < 256 ^ lst V := by
  rw [pow_256]
  unfold lst
  exact Nat.lt_of_lt_of_le (bl_lt V) (Nat.pow_le_pow_right (by decide) (by omega))

theorem tobe_take (n V k : Nat) (hk : k < n) : (tobe n V).take (k + 1) = (tobe n V).take k ++ [UInt8.ofNat (V / 256 ^ (n - 1 - k) % 256)] := by
  rw [List.take_succ_eq_append_getElem (by rw [tobe_length]; exact hk)]
  simp [tobe]
theorem tobe_pad (n m V : Nat) (h : V < 256 ^ m) (hm : m ≤ n) : List.replicate (n - m) 0 ++ tobe m V = tobe n V := by
  apply List.ext_getElem
  · simp [tobe_length]; omega
  · intro j h1 h2
    rw [tobe_length] at h2
    by_cases hj : j < n - m
    · rw [List.getElem_append_left (by simpa using hj), List.getElem_replicate]
      simp only [tobe, List.getElem_map, List.getElem_range]
      have : V / 256 ^ (n - 1 - j) = 0 := Nat.div_eq_of_lt (Nat.lt_of_lt_of_le h (Nat.pow_le_pow_right (by decide) (by omega)))
      rw [this]
      rfl
    · rw [List.getElem_append_right (by simp; omega)]
      simp only [tobe, List.getElem_map, List.getElem_range, List.length_replicate]
      congr 4
      omega

end Go.Proofs.YthnogdkkdekgpaaGreatDoor

namespace Go.Proofs.YthnogdkkdekgpaaGreatDoor
open Go.RowKit

theorem half_limb (x D : Nat) (hx : x < 4294967296) : (x + 4294967296 * D) / 2 = x / 2 + D % 2 * 2147483648 + 4294967296 * (D / 2) ∧ (x + 4294967296 * D) % 2 = x % 2 ∧ x / 2 + D % 2 * 2147483648 < 4294967296 := by omega

theorem nv_drop (B : Nat) (xs : List Nat) (k : Nat) (hk : k < xs.length) : nv B (xs.drop k) = xs.getD k 0 + B * nv B (xs.drop (k + 1)) := by
  rw [List.drop_eq_getElem_cons hk, nv, getD_eq _ _ hk]

end Go.Proofs.YthnogdkkdekgpaaGreatDoor

namespace Go.Proofs.YthnogdkkdekgpaaGreatDoor
open Go.RowKit

theorem shk_clamp (k : Int) : (if k < 0 then 0 else if 0 ≤ (131072 : Int) ∧ (131072 : Int) < k then 131072 else k) = ((shk k : Nat) : Int) := by
  unfold shk
  by_cases h : k < 0
  · rw [if_pos h, if_pos h]; rfl
  · rw [if_neg h, if_neg h]
    by_cases h2 : k ≤ 131072
    · rw [if_neg (fun h3 => by omega), if_pos h2]; omega
    · rw [if_pos ⟨by omega, by omega⟩, if_neg h2]; rfl
theorem shk_le (k : Int) : shk k ≤ 131072 := by unfold shk; split; omega; split <;> omega

end Go.Proofs.YthnogdkkdekgpaaGreatDoor

namespace Go.Proofs.YthnogdkkdekgpaaGreatDoor
open Go.RowKit

theorem clamp_neg (k : Int) : (if k < 0 then 0 else if 0 ≤ (-1 : Int) ∧ (-1 : Int) < k then -1 else k) = ((k.toNat : Nat) : Int) := by
  by_cases h : k < 0
  · rw [if_pos h]; omega
  · rw [if_neg h, if_neg (fun h3 => by omega)]; omega

theorem drop_value (xs : List Nat) (sx : Sm Bs xs) (q : Nat) (hq : q ≤ xs.length) : nv Bs (xs.drop q) = nv Bs xs / Bs ^ q := by
  have h1 := nv_split Bs xs q hq
  have h2 := nv_lt Bs_pos (sx.take q)
  rw [List.length_take, Nat.min_eq_left hq] at h2
  rw [h1, Nat.add_mul_div_left _ _ (Nat.pow_pos Bs_pos), Nat.div_eq_of_lt h2, Nat.zero_add]

theorem bv_append (a b : List UInt8) : bv (a ++ b) = bv a * 256 ^ b.length + bv b := by
  induction b generalizing a with
  | nil => simp [bv]
  | cons c r ih =>
    rw [show a ++ c :: r = (a ++ [c]) ++ r by simp, ih, bv_snoc, show bv (c :: r) = bv ([c] ++ r) from rfl, ih [c]]
    have : bv [c] = c.toNat := by simp [bv]
    rw [this, List.length_cons, Nat.pow_succ, Nat.add_mul, Nat.mul_assoc, Nat.mul_comm 256]
    omega
theorem bv_lt : ∀ l : List UInt8, bv l < 256 ^ l.length
  | [] => by simp [bv]
  | c :: r => by
    have h1 := bv_lt r
    have h2 := c.toNat_lt
    have e : bv (c :: r) = bv ([c] ++ r) := rfl
    have e1 : bv [c] = c.toNat := by simp [bv]
    rw [e, bv_append, e1, List.length_cons, Nat.pow_succ]
    have h3 : c.toNat * 256 ^ r.length ≤ 255 * 256 ^ r.length := Nat.mul_le_mul_right _ (by omega)
    omega

/-- A limb of bytes: from a less four on. -/
def wbv (l : List UInt8) (a j : Nat) : Nat := bv ((l.take (a + j - 4)).drop (a - 4))
theorem wbv_zero (l : List UInt8) (a : Nat) : wbv l a 0 = 0 := by
  unfold wbv
  rw [List.drop_of_length_le (by rw [List.length_take]; omega)]
  rfl
theorem wbv_in (l : List UInt8) (a j : Nat) (h4 : 4 ≤ a + j) (hl : a + j - 4 < l.length) : wbv l a (j + 1) = wbv l a j * 256 + (l[a + j - 4]).toNat := by
  unfold wbv
  rw [show a + (j + 1) - 4 = a + j - 4 + 1 by omega, List.take_succ_eq_append_getElem hl, List.drop_append_of_le_length (by rw [List.length_take]; omega), bv_snoc]
theorem wbv_out (l : List UInt8) (a j : Nat) (h4 : a + j < 4) : wbv l a (j + 1) = wbv l a j * 256 := by
  unfold wbv
  rw [show a + (j + 1) - 4 = 0 by omega, show a + j - 4 = 0 by omega]
  simp [bv]
theorem wbv_lt (l : List UInt8) (a j : Nat) : wbv l a j < 256 ^ j := by
  unfold wbv
  refine Nat.lt_of_lt_of_le (bv_lt _) (Nat.pow_le_pow_right (by decide) ?_)
  rw [List.length_drop, List.length_take]
  omega
theorem wbv_end (l : List UInt8) (a t : Nat) (ha : a + 4 * t = l.length) : bv (l.drop (a - 4)) = bv (l.drop a) + Bs ^ t * wbv l a 4 := by
  unfold wbv
  rw [Nat.add_sub_cancel]
  have e : l.drop (a - 4) = (l.take a).drop (a - 4) ++ l.drop a := by
    conv => lhs; rw [← List.take_append_drop a l]
    rw [List.drop_append_of_le_length (by rw [List.length_take]; omega)]
  rw [e, bv_append, List.length_drop, show l.length - a = 4 * t by omega, Nat.pow_mul, ← Bs_256, Nat.mul_comm]
  omega

set_option maxHeartbeats 2000000 in
theorem rfromBytes_any (ao : Option Addr) (c : Nat) (l : List UInt8) (w : World) (hl : Rd w ao l) (h1 : l.length ≤ 100000000) :
    Calls Tryz.prog 49 #[.slice ao l.length c] w fun e w' => ∃ r, e = .returned r ∧ Ow w' w.heap.size r (dg Bs (bv l)) ∧ Below w.heap.size w w' := by
  have HL : Hid (Rd w ao l) := hl
  have HN0 : Hid (OB w.heap.size w w (.slice none 0 0) []) := OB.nil w
  clear hl
  go_enter Tryz.func49, Tryz.ntmps49
  go_wp2
  go_loopw [3, 4] (fun s3 s4 wr => ∃ (t : Nat) (ds : List Nat), s4 = .int .i64 ((l.length : Int) - 4 * (t : Int)) ∧ 4 * t ≤ l.length + 3 ∧ Hid (OB w.heap.size w wr s3 ds ∧ ds.length = t ∧ Sm Bs ds ∧ nv Bs ds = bv (l.drop (l.length - 4 * t)))) (fun _ s _ => (intOf s + 4).toNat)
  case atStart => exact ⟨0, [], by first | rfl | (congr 1; omega), by omega, HN0.out, rfl, Sm.nil _, by rw [Nat.mul_zero, Nat.sub_zero, List.drop_of_length_le (Nat.le_refl _)]; rfl⟩
  case round =>
    clear HN0
    obtain ⟨t, ds, rfl, ht, HI⟩ := hrel
    have HDl : Hid (ds.length ≤ 1000000000) := by show _ ≤ _; rw [HI.out.2.1]; omega
    by_cases hlt : 4 * t < l.length
    · obtain ⟨a, Ha⟩ : ∃ a, Hid (a + 4 * t = l.length) := ⟨l.length - 4 * t, (by omega : l.length - 4 * t + 4 * t = l.length)⟩
      have ea : (l.length : Int) - 4 * (t : Int) = (a : Int) := by have := Ha.out; omega
      have ha0 : 0 < a := by have := Ha.out; omega
      have hab : a ≤ 100000000 := by have := Ha.out; omega
      rw [ea]
      have hgt : decide ((a : Int) > 0) = true := decide_eq_true (by omega)
      have hgt2 : decide ((0 : Int) < (a : Int)) = true := decide_eq_true (by omega)
      have hgt3 : decide (0 < a) = true := decide_eq_true ha0
      go_wp2
      go_loopw [5, 6] (fun s5 s6 wq => ∃ (j : Nat) (u : Nat), s5 = .int .u32 (u : Int) ∧ s6 = .int .i64 ((a : Int) - 4 + (j : Int)) ∧ j ≤ 4 ∧ wq = wr ∧ Hid (u = wbv l a j)) (fun _ s _ => ((a : Int) - intOf s).toNat)
      case atStart => exact ⟨0, 0, rfl, by first | rfl | (congr 1; omega), by omega, rfl, (wbv_zero l a).symm⟩
      case round =>
        obtain ⟨j, u, rfl, rfl, hj, rfl, HJ⟩ := hrel
        by_cases hj4 : j < 4
        · have hub : u ≤ 16777215 := by
            have h3 := wbv_lt l a j
            rw [← HJ.out] at h3
            have h4 : 256 ^ j ≤ 256 ^ 3 := Nat.pow_le_pow_right (by decide) (by omega)
            omega
          obtain ⟨u2, Hu2⟩ : ∃ u2, Hid (u * 256 = u2) := ⟨_, rfl⟩
          have hu2 : u2 ≤ 4294967040 := by rw [← Hu2.out]; omega
          have eu : (u : Int) * 256 = (u2 : Int) := by rw [← Hu2.out]; omega
          have euw : IntKind.u32.wrap (u2 : Int) = (u2 : Int) := by rw [IntKind.wrap_u32]; omega
          by_cases ha4 : 4 ≤ a + j
          · obtain ⟨p, Hp⟩ : ∃ p, Hid (a + j - 4 = p) := ⟨_, rfl⟩
            have hpl : p < l.length := by have h5 := Hp.out; have h6 := Ha.out; omega
            have ep : (a : Int) - 4 + (j : Int) = (p : Int) := by have := Hp.out; omega
            have hpa : p < a := by have := Hp.out; omega
            have hll : l ≠ [] := fun e => by rw [e] at hpl; simp at hpl
            obtain ⟨gl, ol, rfl, _, cl⟩ : ∃ g off : Nat, ao = some ⟨g, off, none⟩ ∧ g < wr.heap.size ∧ ∀ j, j < l.length → wr.cell? ⟨g, off + j, none⟩ = some (B (l.getD j 0)) := by
              rcases HL.out.below HI.out.1.bel (Nat.le_refl _) with h | h
              · exact absurd h hll
              · exact h
            have c1 := cl p hpl
            obtain ⟨x, Hx⟩ : ∃ x, Hid (l[p] = x) := ⟨l[p], (rfl : l[p] = l[p])⟩
            rw [List.getD_eq_getElem?_getD, List.getElem?_eq_getElem hpl, Hx.out, Option.getD_some] at c1
            unfold B at c1
            have hxb := x.toNat_lt
            have HW : Hid (wbv l a (j + 1) = u2 + x.toNat) := by
              have h7 := wbv_in l a j ha4 (by rw [Hp.out]; exact hpl)
              simp only [Hp.out, Hx.out] at h7
              show _ = _
              rw [h7, ← HJ.out, Hu2.out]
            obtain ⟨y, Hy⟩ : ∃ y, Hid (x.toNat = y) := ⟨_, rfl⟩
            rw [Hy.out] at c1 hxb HW
            have e2 : IntKind.u32.wrap ((u2 : Int) + (y : Int)) = ((u2 + y : Nat) : Int) := by rw [IntKind.wrap_u32]; omega
            rw [ep]
            have hlI : decide ((p : Int) < (a : Int)) = true := decide_eq_true (by omega)
            have hlN : decide (p < a) = true := decide_eq_true hpa
            have hge : decide ((p : Int) ≥ 0) = true := decide_eq_true (by omega)
            have ep1 : Hid ((p : Int) + 1 = (a : Int) - 4 + ((j + 1 : Nat) : Int)) := by have := Hp.out; show _ = _; omega
            clear cl hll ep
            go_wp2
            go_roundw
            case rel => first | exact ⟨j + 1, u2 + y, by first | rfl | (congr 1; omega), by rw [ep1.out], by omega, rfl, HW.out.symm⟩ | exact ⟨j + 1, u2 + y, by first | rfl | (congr 1; omega), by rw [ep1.out], by omega, trivial, HW.out.symm⟩
            case measure => simp [intOf]; omega
          · have HW : Hid (wbv l a (j + 1) = u2) := by
              show _ = _
              rw [wbv_out l a j (by omega), ← HJ.out, Hu2.out]
            obtain ⟨i, Hi⟩ : ∃ i : Int, Hid ((a : Int) - 4 + (j : Int) = i) := ⟨_, rfl⟩
            rw [Hi.out]
            have hin : i < 0 := by rw [← Hi.out]; omega
            have hlI : decide (i < (a : Int)) = true := decide_eq_true (by omega)
            have hge : decide (i ≥ 0) = false := decide_eq_false (by omega)
            have hi1 : -9000 ≤ i := by rw [← Hi.out]; omega
            go_wp2
            go_roundw
            case rel => first | exact ⟨j + 1, u2, rfl, by rw [← Hi.out]; congr 1; omega, by omega, rfl, HW.out.symm⟩ | exact ⟨j + 1, u2, rfl, by rw [← Hi.out]; congr 1; omega, by omega, trivial, HW.out.symm⟩
            case measure => simp [intOf]; omega
        · obtain rfl : j = 4 := by omega
          have e4 : (a : Int) - 4 + ((4 : Nat) : Int) = (a : Int) := by omega
          rw [e4]
          have hub : u < 4294967296 := by
            have h3 := wbv_lt l a 4
            rw [← HJ.out] at h3
            exact h3
          have HW : Hid ((ds ++ [u]).length = t + 1 ∧ Sm Bs (ds ++ [u]) ∧ nv Bs (ds ++ [u]) = bv (l.drop (l.length - 4 * (t + 1)))) := by
            refine ⟨by rw [List.length_append, HI.out.2.1]; rfl, HI.out.2.2.1.snoc (by rw [Bs_eq]; exact hub), ?_⟩
            rw [nv_snoc, HI.out.2.1, HI.out.2.2.2, show l.length - 4 * (t + 1) = a - 4 by have := Ha.out; omega, show l.length - 4 * t = a by have := Ha.out; omega, wbv_end l a t Ha.out, HJ.out]
          have hlI : decide ((a : Int) < (a : Int)) = false := decide_eq_false (by omega)
          have ean : Hid ((a : Int) - 4 = (l.length : Int) - 4 * ((t + 1 : Nat) : Int)) := by have := Ha.out; show _ = _; omega
          clear ea
          go_wp2_with (at_builtin; refine append_one (w := w) rfl (.tmp 31) (.tmp 33) rfl w.heap.size _ ds u rfl HI.out.1 rfl HDl.out (Nat.le_refl _) ?_; intro v5 w5 h5)
          have HO : Hid (OB w.heap.size w w5 v5 (ds ++ [u])) := h5
          clear h5
          go_wp2
          go_roundw
          case rel => exact ⟨t + 1, ds ++ [u], by rw [ean.out], by omega, HO.out, HW.out⟩
          case measure => simp [intOf]; omega
    · obtain ⟨i, Hi⟩ : ∃ i : Int, Hid ((l.length : Int) - 4 * (t : Int) = i) := ⟨_, rfl⟩
      rw [Hi.out]
      have hgt : decide (i > 0) = false := decide_eq_false (by rw [← Hi.out]; omega)
      have hi0 : ¬ i > 0 := by rw [← Hi.out]; omega
      have C := HI.out.1.proper HI.out.2.2.1 (by rw [HI.out.2.1]; omega)
      rw [HI.out.2.2.2, show l.length - 4 * t = 0 by omega, List.drop_zero] at C
      go_wp2_with fail
      refine C.mono ?_
      clear C
      rintro e w6 ⟨r, rfl, h6, h7⟩
      have HR : Hid (Ow w6 w.heap.size r (dg Bs (bv l)) ∧ Below w.heap.size w w6) := ⟨h6, h7⟩
      clear h6 h7
      go_wp2
      go_ret
      exact ⟨r, rfl, HR.out⟩

end Go.Proofs.YthnogdkkdekgpaaGreatDoor
