import Derived.Test.YtmngdaolgdhgmaaGreatDoorNtZ6
import Derived.Test.YtmngdaolgdhgmaaGreatDoorNtZ5
import Derived.Test.YtmngdaolgdhgmaaGreatDoorNtZ1
namespace Go.Proofs.YtmngdaolgdhgmaaGreatDoor
open Go.RowKit

theorem dbl_step (B p A c X x v c' b : Nat) (h : A + p * c = 2 * X + b) (hs : v + B * c' = 2 * x + c) : (A + p * v) + (p * B) * c' = 2 * (X + p * x) + b := by
  have h1 := congrArg (p * ·) hs
  have h2 : p * (2 * x) = 2 * (p * x) := Nat.mul_left_comm _ _ _
  simp only [Nat.mul_add, ← Nat.mul_assoc] at h1 h2 ⊢
  omega

theorem dbl_proper (V b : Nat) (ds : List Nat) (c : Nat) (sd : Sm Bs ds) (hl : ds.length = (dg Bs V).length) (hc : c ≤ 1) (hb : b ≤ 1) (h : nv Bs ds + Bs ^ (dg Bs V).length * c = 2 * V + b) :
    (if c = 0 then ds else ds ++ [c]) = dg Bs (2 * V + b) := by
  rcases Nat.eq_zero_or_pos (dg Bs V).length with h0 | h0
  · have hV : V = 0 := by
      have := dg_nv Bs_two V
      rw [List.eq_nil_of_length_eq_zero h0] at this
      exact this.symm
    subst hV
    have hd : ds = [] := List.eq_nil_of_length_eq_zero (by omega)
    subst hd
    rw [h0, Nat.pow_zero] at h
    have hcb : c = b := by simp [nv] at h; omega
    subst hcb
    rcases Nat.eq_zero_or_pos c with h1 | h1
    · subst h1; rw [if_pos rfl, dg_zero]
    · obtain rfl : c = 1 := by omega
      rw [if_neg (by decide), dg_pos Bs_two (by decide), show (2 * 0 + 1) % Bs = 1 from by decide, show (2 * 0 + 1) / Bs = 0 from by decide, dg_zero]
      rfl
  · obtain ⟨m, hm⟩ : ∃ m, (dg Bs V).length = m + 1 := ⟨(dg Bs V).length - 1, by omega⟩
    have hlow := dg_low Bs_two m V hm
    rw [hm] at h hl
    by_cases hc0 : c = 0
    · subst hc0
      rw [if_pos rfl]
      rw [Nat.mul_zero, Nat.add_zero] at h
      have := proper_of_ge Bs_two sd m hl (by rw [h]; omega)
      rw [h] at this
      exact this
    · rw [if_neg hc0]
      have e : nv Bs (ds ++ [c]) = 2 * V + b := by rw [nv_snoc, hl]; exact h
      have := proper_of_ge Bs_two (sd.snoc (x := c) (by rw [Bs_eq]; omega)) (m + 1) (by rw [List.length_append, hl]; rfl) (by
        rw [nv_snoc, hl]
        exact Nat.le_trans (Nat.le_mul_of_pos_right _ (by omega)) (Nat.le_add_left _ _))
      rw [e] at this
      exact this

end Go.Proofs.YtmngdaolgdhgmaaGreatDoor

namespace Go.Proofs.YtmngdaolgdhgmaaGreatDoor
open Go.RowKit

theorem div_made (X D Y : Nat) (h : Y < D) : (X * D + Y) / D = X ∧ (X * D + Y) % D = Y := by
  have h0 : 0 < D := by omega
  rw [Nat.mul_comm X D]
  exact ⟨by rw [Nat.mul_add_div h0, Nat.div_eq_of_lt h, Nat.add_zero], by rw [Nat.mul_add_mod, Nat.mod_eq_of_lt h]⟩
theorem vnil (w : World) : Vl w (.slice none 0 0) 0 0 := ⟨[], ⟨none, 0, rfl, Nat.le_refl _, .inl rfl, Sm.nil _⟩, rfl, Nat.le_refl _⟩
theorem vlit (w : World) (xs : List Nat) (h : ∀ x ∈ xs, x < 4294967296) : Vl (w.alloc (.cells (xs.map U).toArray 51)) (.slice (some ⟨w.heap.size, 0, none⟩) xs.length xs.length) (nv Bs xs) xs.length :=
  ⟨xs, ⟨_, xs.length, rfl, Nat.le_refl _, (alloc_bl w (xs.map U) 51).rn, h⟩, rfl, Nat.le_refl _⟩

end Go.Proofs.YtmngdaolgdhgmaaGreatDoor

namespace Go.Proofs.YtmngdaolgdhgmaaGreatDoor
open Go.RowKit

theorem half_step (A k : Nat) : A / 2 ^ k = 2 * (A / 2 ^ (k + 1)) + A / 2 ^ k % 2 := by
  rw [Nat.pow_succ, ← Nat.div_div_eq_div_mul]
  omega

theorem dgl_dbl (D k : Nat) (h : (dg Bs D).length ≤ k) : (dg Bs (2 * D)).length ≤ k + 1 := by
  have a3 : D < Bs ^ k := Nat.lt_of_lt_of_le (dg_up Bs_two D) (Nat.pow_le_pow_right Bs_pos h)
  refine dg_len Bs_two _ _ ?_
  rw [Nat.pow_succ']
  exact Nat.lt_of_lt_of_le (Nat.mul_lt_mul_of_pos_left a3 (by decide)) (Nat.mul_le_mul_right _ (by decide))

theorem bool_toNat (n : Nat) (h : n ≤ 1) : (decide (n = 1)).toNat = n := by
  rcases Nat.eq_zero_or_pos n with h0 | h0
  · subst h0; rfl
  · obtain rfl : n = 1 := by omega
    rfl

/-- What stands while a quotient is made bit by bit. -/
structure RS (w wr : World) (q r v u : Value) (xs ys : List Nat) (k Q R : Nat) : Prop where
  oq : Ow wr w.heap.size q (dg Bs Q)
  or : Ow wr w.heap.size r (dg Bs R)
  nmv : Nm wr v xs
  nmu : Nm wr u ys
  bel : Below w.heap.size w wr
  eq : nv Bs xs / 2 ^ k = Q * nv Bs ys + R
  lt : R < nv Bs ys

end Go.Proofs.YtmngdaolgdhgmaaGreatDoor

namespace Go.Proofs.YtmngdaolgdhgmaaGreatDoor
open Go.RowKit

/-- A row of bytes of one's own, made since a world. -/
structure OBb (B0 : Nat) (w ws : World) (v : Value) (xs : List UInt8) : Prop where
  own : Owb ws B0 v xs
  bel : Below B0 w ws
theorem OBb.nil (w : World) : OBb w.heap.size w w (.slice none 0 0) [] := ⟨Owb.nil _ _, Below.refl _ _⟩
theorem Bl.rdb {t : TypeId} {w : World} {b : Nat} {xs : List UInt8} (h : Bl t w b (xs.map B)) : Rd w (some ⟨b, 0, none⟩) xs := by
  refine .inr ⟨b, 0, rfl, h.lt, fun j hj => ?_⟩
  rw [Nat.zero_add, h.cell j (by simpa using hj), List.getElem_map, List.getD_eq_getElem?_getD, List.getElem?_eq_getElem hj]; rfl

/-- append of bytes that can be read, nil ones too, behind a row of one's own. -/
theorem append_rdb {w : World} {ops : Array Oper} {rest : List Oper} {o : Oper} {a : Act} {Q : Exit → Act → World → Prop} (hgd : o.guard = none) (s x : Operand)
    (ho : o.op = .call { callee := .builtin .append, args := #[s, x], argTypes := #[41, 41] })
    (base : Nat) (v : Value) (xs : List UInt8) (hs : a.eval s = v) (hown : Owb w base v xs)
    (ao : Option Addr) (m c : Nat) (l : List UInt8) (hx : a.eval x = .slice ao m c) (hl : l.length = m) (hao : ao = none → m = 0 ∧ c = 0) (hrd : Rd w ao l)
    (hbytes : xs.length + m ≤ 10000000000) (hbase : base ≤ w.heap.size)
    (h : ∀ v' w', Owb w' base v' (xs ++ l) → w.grownBy w' v.ownBlock → wpList Tryz.prog ops Q rest (a.put o.dst v') w') : wpList Tryz.prog ops Q (o :: rest) a w := by
  obtain ⟨i, hi, hz, hsize, hby⟩ := info_parts infoB
  cases ao with
  | none =>
    obtain ⟨rfl, rfl⟩ := hao rfl
    obtain rfl := List.eq_nil_of_length_eq_zero hl
    refine wpList_append_own_none hgd s x 41 ho base 5 i 1 Tryz.underlying41 hi v xs.length (xs.map B) hs hown hx ?_
    exact h v w (by rw [List.append_nil]; exact hown) (World.grownBy.refl _ _)
  | some ad =>
    refine wpList_append_own_wide w hgd s x 41 ho base 5 i (.int .u8 0) 1 1 Tryz.underlying41 hi hz hsize hby rfl (by decide) v xs.length (xs.map B) hs hown ad m c (l.map B) hx (by simpa using hl) ?_ (oneB l) (by unfold maxLen; omega) (by omega) hbase ?_
    · intro j u hu
      rcases hrd with h0 | ⟨b, off, e, hb, hc⟩
      · subst h0; simp at hu
      · cases e
        have hj : j < l.length := by
          have := (List.getElem?_eq_some_iff.1 hu).1
          simpa using this
        rw [Addr.add_lit, hc j hj]
        simp [List.getElem?_map, List.getElem?_eq_getElem hj] at hu
        rw [← hu, List.getD_eq_getElem?_getD, List.getElem?_eq_getElem hj, Option.getD_some]
    · intro v' w' h1 h2 _
      refine h v' w' ?_ h2
      unfold Owb
      rw [List.map_append, List.length_append, hl]
      exact h1

/-- append of one byte. -/
theorem append_oneb {w wr : World} {ops : Array Oper} {rest : List Oper} {o : Oper} {a : Act} {Q : Exit → Act → World → Prop} (hgd : o.guard = none) (s x : Operand)
    (ho : o.op = .call { callee := .builtin .append, args := #[s, x], argTypes := #[41, 41] })
    (B0 : Nat) (v : Value) (xs : List UInt8) (z : UInt8) (hs : a.eval s = v) (hob : OBb B0 w wr v xs) (hx : a.eval x = .slice (some ⟨wr.heap.size, 0, none⟩) 1 1) (hl : xs.length ≤ 1000000000) (hB : B0 ≤ w.heap.size)
    (h : ∀ v' w', OBb B0 w w' v' (xs ++ [z]) → wpList Tryz.prog ops Q rest (a.put o.dst v') w') : wpList Tryz.prog ops Q (o :: rest) a (wr.alloc (.cells #[.int .u8 (z.toNat : Int)] 5)) := by
  have hs2 : B0 ≤ wr.heap.size := Nat.le_trans hB hob.bel.size
  have hbl := alloc_bl wr (([z] : List UInt8).map B) 5
  refine append_rdb hgd s x ho B0 v xs hs (hob.own.below (alloc_below wr _) (Nat.le_refl _)) (some ⟨wr.heap.size, 0, none⟩) 1 1 [z] hx rfl (fun e => by cases e) hbl.rdb (by omega) (by rw [World.size_alloc]; omega) ?_
  intro v' w' h1 h2
  exact h v' w' ⟨h1, hob.bel.trans ((((alloc_below wr _).mono hs2)).grown h2 (by rw [World.size_alloc]; omega) (own_block hob.own))⟩

set_option maxHeartbeats 400000 in
theorem byteAt_any (ax : Option Addr) (cx p : Nat) (xs : List Nat) (w : World) (hx : Rn w ax xs) (sx : Sm Bs xs) (hp : p ≤ 1000000000) :
    Calls Tryz.prog 121 #[.slice ax xs.length cx, .int .i64 (p : Int)] w fun e w' => e = .returned (.int .u8 ((nv Bs xs / 256 ^ p % 256 : Nat) : Int)) ∧ w' = w := by
  obtain ⟨qt, Hqt⟩ : ∃ a, Hid (p / 4 = a) := ⟨_, rfl⟩
  obtain ⟨s, Hs⟩ : ∃ a, Hid (p % 4 = a) := ⟨_, rfl⟩
  have hs4 : s < 4 := by rw [← Hs.out]; omega
  have eq1 : Int.tdiv (p : Int) 4 = (qt : Int) := by rw [Int.tdiv_eq_ediv_of_nonneg (by omega), ← Hqt.out]; omega
  have eq2 : (p : Int) / 4 = (qt : Int) := by rw [← Hqt.out]; omega
  have er1 : Int.tmod (p : Int) 4 = (s : Int) := by rw [Int.tmod_eq_emod_of_nonneg (by omega), ← Hs.out]; omega
  have er2 : (p : Int) % 4 = (s : Int) := by rw [← Hs.out]; omega
  have C := rlimb_any ax xs.length cx qt xs w hx sx rfl
  obtain ⟨x, Hx⟩ : ∃ x, Hid (xs.getD qt 0 = x) := ⟨_, rfl⟩
  have hxb : x < 4294967296 := by rw [← Hx.out, ← Bs_eq]; exact sx.getD Bs_pos qt
  rw [Hx.out] at C
  have HV : Hid (nv Bs xs / 256 ^ p % 256 = x / 256 ^ s % 256) := by
    have h4 := byte_div xs sx p
    rw [Hqt.out, Hs.out, Hx.out, Nat.pow_mul] at h4
    exact h4.symm
  rw [HV.out]
  obtain ⟨t, Ht⟩ : ∃ t, Hid (x / 256 ^ s % 256 = t) := ⟨_, rfl⟩
  rw [Ht.out]
  clear hx sx HV
  go_enter Tryz.func121, Tryz.ntmps121
  go_wp2_with fail
  refine C.mono ?_
  clear C
  rintro e w ⟨rfl, rfl⟩
  go_wp2
  go_loopw [5, 6] (fun s5 s6 wr => ∃ (j u : Nat), s5 = .int .u64 (u : Int) ∧ s6 = .int .i64 (j : Int) ∧ j ≤ s ∧ u < 4294967296 ∧ wr = w ∧ Hid (u = x / 256 ^ j)) (fun _ t _ => s - (intOf t).toNat)
  case atStart => exact ⟨0, x, rfl, rfl, Nat.zero_le _, hxb, rfl, by rw [Nat.pow_zero, Nat.div_one]; rfl⟩
  case round =>
    obtain ⟨j, u, rfl, rfl, hj, hu, rfl, HI⟩ := hrel
    by_cases hjs : j < s
    · obtain ⟨y, Hy⟩ : ∃ y, Hid (u / 256 = y) := ⟨_, rfl⟩
      have hy : y < 4294967296 := by rw [← Hy.out]; omega
      have HN : Hid (y = x / 256 ^ (j + 1)) := by show _ = _; rw [← Hy.out, HI.out, Nat.div_div_eq_div_mul, Nat.pow_succ]
      have ed : Int.tdiv (u : Int) 256 = (y : Int) := by rw [Int.tdiv_eq_ediv_of_nonneg (by omega), ← Hy.out]; omega
      have ed2 : (u : Int) / 256 = (y : Int) := by rw [← Hy.out]; omega
      have hjI : (j : Int) < (s : Int) := by omega
      go_wp2
      go_roundw
      case rel => first | exact ⟨j + 1, y, rfl, by go_num, by omega, hy, rfl, HN⟩ | exact ⟨j + 1, y, rfl, by go_num, by omega, hy, trivial, HN⟩
      case measure => simp [intOf]; omega
    · obtain rfl : j = s := by omega
      obtain ⟨z, Hz⟩ : ∃ z, Hid (u % 256 = z) := ⟨_, rfl⟩
      have hz : z < 256 := by rw [← Hz.out]; omega
      have HZ : Hid (t = z) := by show _ = _; rw [← Ht.out, ← HI.out]; exact Hz.out
      have em : Int.tmod (u : Int) 256 = (z : Int) := by rw [Int.tmod_eq_emod_of_nonneg (by omega), ← Hz.out]; omega
      have em2 : (u : Int) % 256 = (z : Int) := by rw [← Hz.out]; omega
      have ew : IntKind.u8.wrap (z : Int) = (z : Int) := by rw [IntKind.wrap_u8]; omega
      have hjI : ¬ (j : Int) < (j : Int) := by omega
      go_wp2
      go_ret
      rw [HZ.out]
      exact ⟨rfl, rfl⟩

end Go.Proofs.YtmngdaolgdhgmaaGreatDoor

namespace Go.Proofs.YtmngdaolgdhgmaaGreatDoor

/-- They differ by a multiple of M. -/
def Cg (M : Nat) (a b : Int) : Prop := (M : Int) ∣ a - b
theorem Cg.mod {M a b : Nat} (h : Cg M a b) : a % M = b % M := by
  have h1 : ((a : Int)) % (M : Int) = (b : Int) % (M : Int) := Int.emod_eq_emod_iff_emod_sub_eq_zero.2 (Int.emod_eq_zero_of_dvd h)
  omega
theorem Cg.of_mod {M a b : Nat} (h : a % M = b % M) : Cg M a b := by
  have h1 : ((a : Int)) % (M : Int) = (b : Int) % (M : Int) := by omega
  exact Int.dvd_of_emod_eq_zero (Int.emod_eq_emod_iff_emod_sub_eq_zero.1 h1)

/-- a - b modulo M, of numbers below M. -/
def lessV (M a b : Nat) : Nat := if a < b then a + M - b else a - b
theorem lessV_lt {M a b : Nat} (ha : a < M) (hb : b < M) : lessV M a b < M := by
  unfold lessV
  split <;> omega
theorem lessV_cg {M a b : Nat} (hb : b < M) : Cg M (lessV M a b : Nat) ((a : Int) - b) := by
  unfold lessV
  split
  · exact ⟨1, by omega⟩
  · exact ⟨0, by omega⟩
theorem lessV_mod {M a b : Nat} (ha : a < M) (hb : b < M) : lessV M a b = (a + M - b) % M := by
  unfold lessV
  split
  · rw [Nat.mod_eq_of_lt (by omega)]
  · rw [show a + M - b = a - b + M by omega, Nat.add_mod_right, Nat.mod_eq_of_lt (by omega)]
/-- The number whose double is x modulo an odd M. -/
def halfV (M x : Nat) : Nat := if x % 2 = 1 then (x + M) / 2 else x / 2
theorem halfV_lt {M x : Nat} (h : x < M) : halfV M x < M := by
  unfold halfV
  split <;> omega
theorem halfV_two {M x : Nat} (hM : M % 2 = 1) : Cg M (2 * (halfV M x : Nat)) x := by
  unfold halfV
  split
  · exact ⟨1, by omega⟩
  · exact ⟨0, by omega⟩

theorem Cg.half {M : Nat} {a b : Int} (hM : M % 2 = 1) (h : Cg M (2 * a) (2 * b)) : Cg M a b := by
  obtain ⟨k, hk⟩ := h
  obtain ⟨n, hn⟩ : ∃ n : Int, (M : Int) = 2 * n + 1 := ⟨(M : Int) / 2, by omega⟩
  have h2 : k % 2 = 0 := by
    have h3 : 2 * a - 2 * b = 2 * (n * k) + k := by rw [hk, hn]; grind
    omega
  refine ⟨k / 2, ?_⟩
  have h4 : k = 2 * (k / 2) := by omega
  rw [h4] at hk
  have h5 : (M : Int) * (2 * (k / 2)) = 2 * ((M : Int) * (k / 2)) := by grind
  omega

/-- What the search for an inverse keeps. -/
structure Inq (A M L x D y : Nat) : Prop where
  g : Nat.gcd L D = Nat.gcd A M
  cx : Cg M ((A : Int) * x) L
  cy : Cg M ((A : Int) * y) D
  hx : x < M
  hy : y < M
  hD : 0 < D
  hL : L ≤ M
  hM : D ≤ M

theorem Inq.start {A M : Nat} (h : 2 ≤ M) : Inq A M (A % M) 1 M 0 where
  g := by rw [Nat.gcd_comm A M, Nat.gcd_rec M A]
  cx := ⟨(A : Int) / M, by have := Int.mul_ediv_add_emod (A : Int) M; rw [Int.natCast_emod]; omega⟩
  cy := ⟨-1, by simp⟩
  hx := by omega
  hy := by omega
  hD := by omega
  hL := Nat.le_of_lt (Nat.mod_lt _ (by omega))
  hM := Nat.le_refl _
theorem Inq.swap {A M L x D y : Nat} (h : Inq A M L x D y) (hL : 0 < L) : Inq A M D y L x :=
  ⟨by rw [Nat.gcd_comm]; exact h.g, h.cy, h.cx, h.hy, h.hx, hL, h.hM, h.hL⟩
theorem Inq.sub {A M L x D y : Nat} (h : Inq A M L x D y) (hle : D ≤ L) : Inq A M (L - D) (lessV M x y) D y where
  g := by rw [Nat.gcd_sub_self_left hle]; exact h.g
  cx := by
    obtain ⟨u, hu⟩ := h.cx
    obtain ⟨v, hv⟩ := h.cy
    obtain ⟨k, hk⟩ := lessV_cg (a := x) h.hy
    refine ⟨u - v + A * k, ?_⟩
    rw [Int.ofNat_sub hle]
    have e : ((lessV M x y : Nat) : Int) = x - y + M * k := by omega
    rw [e]
    grind
  cy := h.cy
  hx := lessV_lt h.hx h.hy
  hy := h.hy
  hD := h.hD
  hL := by have := h.hL; omega
  hM := h.hM
theorem Inq.half {A M L x D y : Nat} (h : Inq A M L x D y) (hM : M % 2 = 1) (hD : D % 2 = 1) (hL : L % 2 = 0) : Inq A M (L / 2) (halfV M x) D y where
  g := by
    rw [← h.g]
    have h2 : Nat.Coprime 2 D := by
      rw [Nat.Coprime, Nat.gcd_rec, hD]; rfl
    have h3 := h2.gcd_mul_left_cancel (L / 2)
    rw [show 2 * (L / 2) = L by omega] at h3
    exact h3.symm
  cx := by
    apply Cg.half hM
    obtain ⟨u, hu⟩ := h.cx
    obtain ⟨k, hk⟩ := halfV_two (x := x) hM
    refine ⟨u + A * k, ?_⟩
    have e : (2 : Int) * ((L / 2 : Nat) : Int) = L := by omega
    rw [e]
    have e2 : (2 : Int) * ((halfV M x : Nat) : Int) = x + M * k := by omega
    have e3 : (2 : Int) * (A * ((halfV M x : Nat) : Int)) = A * (x + M * k) := by rw [← e2]; grind
    rw [e3]
    grind
  cy := h.cy
  hx := halfV_lt h.hx
  hy := h.hy
  hD := h.hD
  hL := by have := h.hL; omega
  hM := h.hM
theorem Inq.divide {A M L x D y : Nat} (h : Inq A M L x D y) (hL : 0 < L) : Inq A M (D % L) (lessV M y (D / L * x % M)) L x where
  g := by rw [← Nat.gcd_rec L D]; exact h.g
  cx := by
    obtain ⟨u, hu⟩ := h.cx
    obtain ⟨v, hv⟩ := h.cy
    have hM : 0 < M := by have := h.hx; omega
    obtain ⟨k, hk⟩ := lessV_cg (a := y) (Nat.mod_lt (D / L * x) hM)
    have e1 : ((D % L : Nat) : Int) = D - L * (D / L : Nat) := by
      have h2 : ((L * (D / L) + D % L : Nat) : Int) = (D : Int) := by rw [Nat.div_add_mod D L]
      rw [Int.natCast_add, Int.natCast_mul] at h2
      omega
    have e2 : ((D / L * x % M : Nat) : Int) = (D / L : Nat) * x - M * (D / L * x / M : Nat) := by
      have := Nat.div_add_mod (D / L * x) M
      have h2 : ((M * (D / L * x / M) + D / L * x % M : Nat) : Int) = ((D / L * x : Nat) : Int) := by rw [this]
      simp only [Int.natCast_add, Int.natCast_mul] at h2
      omega
    generalize D / L * x / M = n at e2
    generalize D / L = q at *
    generalize D % L = r at *
    generalize q * x % M = s at *
    refine ⟨v - q * u + A * n + A * k, ?_⟩
    have e : ((lessV M y s : Nat) : Int) = y - (q * x - M * n) + M * k := by omega
    rw [e, e1]
    grind
  cy := h.cx
  hx := lessV_lt h.hy (Nat.mod_lt _ (by have := h.hx; omega))
  hy := h.hx
  hD := hL
  hL := by have := Nat.mod_lt D hL; have := h.hL; omega
  hM := h.hL

/-- The inverse. -/
def Inz (A M Y : Nat) : Prop := Y < M ∧ A * Y % M = 1
theorem Inz.one {A M Y Z : Nat} (h : Inz A M Y) (h2 : Inz A M Z) : Y = Z := by
  have e : Y % M = Z % M := by
    apply Cg.mod
    have hM : M ≠ 1 := fun e => by have := h.2; rw [e, Nat.mod_one] at this; cases this
    have hM0 : M ≠ 0 := fun e => by have := h.1; omega
    have h1 : Cg M ((A * Y : Nat) : Int) ((1 : Nat) : Int) := Cg.of_mod (by rw [h.2, Nat.mod_eq_of_lt (by omega)])
    have h3 : Cg M ((A * Z : Nat) : Int) ((1 : Nat) : Int) := Cg.of_mod (by rw [h2.2, Nat.mod_eq_of_lt (by omega)])
    obtain ⟨u, hu⟩ := h1
    obtain ⟨v, hv⟩ := h3
    refine ⟨Z * u - Y * v, ?_⟩
    rw [Int.natCast_mul] at hu hv
    grind
  rwa [Nat.mod_eq_of_lt h.1, Nat.mod_eq_of_lt h2.1] at e
theorem Inz.gcd {A M Y : Nat} (h : Inz A M Y) : Nat.gcd A M = 1 := by
  apply Nat.dvd_one.1
  rw [← h.2]
  exact (Nat.dvd_mod_iff (Nat.gcd_dvd_right A M)).2 (Nat.dvd_trans (Nat.gcd_dvd_left A M) (Nat.dvd_mul_right _ _))
theorem Inq.done {A M x D y : Nat} (h : Inq A M 0 x D y) : D = Nat.gcd A M := by have := h.g; rwa [Nat.gcd_zero_left] at this
theorem Inq.inz {A M x y : Nat} (hM : 2 ≤ M) (h : Inq A M 0 x 1 y) : Inz A M y := by
  refine ⟨h.hy, ?_⟩
  have h1 := h.cy
  have h2 : Cg M ((A * y : Nat) : Int) ((1 : Nat) : Int) := by rw [Int.natCast_mul]; exact h1
  rw [h2.mod, Nat.mod_eq_of_lt (by omega)]

/-- The power by the digits from the top. -/
theorem exp_step (A M E k : Nat) : (if E / 2 ^ k % 2 = 1 then (A ^ (E / 2 ^ (k + 1)) % M * (A ^ (E / 2 ^ (k + 1)) % M) % M) * (A % M) % M else A ^ (E / 2 ^ (k + 1)) % M * (A ^ (E / 2 ^ (k + 1)) % M) % M) = A ^ (E / 2 ^ k) % M := by
  have e : E / 2 ^ (k + 1) = E / 2 ^ k / 2 := by rw [Nat.pow_succ, Nat.div_div_eq_div_mul]
  rw [e]
  generalize E / 2 ^ k = F
  split
  · rw [← Nat.mul_mod (A ^ (F / 2)), ← Nat.mul_mod, ← Nat.pow_add, ← Nat.pow_succ, show (F / 2 + F / 2).succ = F by omega]
  · rw [← Nat.mul_mod, ← Nat.pow_add, show F / 2 + F / 2 = F by omega]

end Go.Proofs.YtmngdaolgdhgmaaGreatDoor
