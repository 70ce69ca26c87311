import Derived.Test.YthnogdkkdekgpaaDoorPI
namespace Go.Proofs.YthnogdkkdekgpaaDoor
open Go.RowKit

theorem bv_one (c : UInt8) : bv [c] = c.toNat := by simp [bv]
theorem cube_mod (S M N : Nat) (h : N = S * S * S - M) (h1 : M ≤ S * S * S) (h2 : M < N) : S ^ 3 % N = M := by
  have e : S ^ 3 = M + N := by rw [Nat.pow_succ, Nat.pow_succ, Nat.pow_one]; omega
  rw [e, Nat.add_mod_right, Nat.mod_eq_of_lt h2]
theorem dg_bl (V k : Nat) (h : bl V ≤ 32 * k) : (dg Bs V).length ≤ k := by
  refine dg_len Bs_two _ _ ?_
  have h1 := bl_lt V
  have h2 : 2 ^ bl V ≤ 2 ^ (32 * k) := Nat.pow_le_pow_right (by decide) h
  rw [Nat.pow_mul, show (2 : Nat) ^ 32 = Bs by rfl] at h2
  omega
theorem mul_v (v u : Value) (U V : Nat) (w : World) (hv : Nu w v U) (hu : Nu w u V) (hl : (dg Bs (U * V)).length ≤ 3000000) :
    Calls Tryd.prog 28 #[v, u] w fun e w' => ∃ r, e = .returned r ∧ Re w w' r (U * V) := by
  refine (vmul v u U V _ _ w hv hu (by omega) (by omega)).mono ?_
  rintro e w' ⟨r, rfl, h1, _, h3⟩
  exact ⟨r, rfl, h1, hl, h3⟩
theorem sub_v (v u : Value) (U V : Nat) (w : World) (hv : Nu w v U) (hu : Nu w u V) :
    Calls Tryd.prog 27 #[v, u] w fun e w' => ∃ r, e = .returned (.tuple #[r, .bool (decide (V ≤ U))]) ∧ Re w w' r (U - V) := vsub v u U V _ _ w hv hu (by omega) (by omega)
theorem bytes_v (v : Value) (V : Nat) (w : World) (hv : Nu w v V) : Calls Tryd.prog 32 #[v] w fun e w' => ∃ r, e = .returned r ∧ OBb w.heap.size w w' r (tobe (lst V) V) := by
  obtain ⟨xs, n1, rfl, k1⟩ := hv
  refine (bytes_nm v xs w n1 (by omega)).mono ?_
  rintro e w' ⟨r, rfl, h1, h2⟩
  exact ⟨r, rfl, h1, h2⟩
theorem bl_pow (V k : Nat) (hV : V < 2 ^ k) : bl V ≤ k := by
  rcases Nat.lt_or_ge k (bl V) with h2 | h2
  · exfalso
    have h0 : V ≠ 0 := fun e => by rw [e, bl_zero] at h2; omega
    have h3 := bl_le V h0
    have h4 : 2 ^ k ≤ 2 ^ (bl V - 1) := Nat.pow_le_pow_right (by decide) (by omega)
    omega
  · exact h2
theorem bl_mulb (S V a b : Nat) (h1 : bl S ≤ a) (h2 : bl V ≤ b) : bl (S * V) ≤ a + b := by
  refine bl_pow _ _ ?_
  rw [Nat.pow_add]
  exact Nat.mul_lt_mul'' (Nat.lt_of_lt_of_le (bl_lt S) (Nat.pow_le_pow_right (by decide) h1)) (Nat.lt_of_lt_of_le (bl_lt V) (Nat.pow_le_pow_right (by decide) h2))
theorem klst_lt (V : Nat) : V < 256 ^ lst V := by
  have h := bl_lt V
  have h2 : 2 ^ bl V ≤ 2 ^ (8 * lst V) := Nat.pow_le_pow_right (by decide) (by unfold lst; omega)
  rw [Nat.pow_mul, show (2 : Nat) ^ 8 = 256 by rfl] at h2
  omega

theorem bl_bv (l : List UInt8) : bl (bv l) ≤ 8 * l.length := by
  refine bl_pow _ _ ?_
  rw [Nat.pow_mul, show (2 : Nat) ^ 8 = 256 by rfl]
  exact kbv_lt l
/-- The signature that is made by its cube holds. -/
theorem pver_comp (h : Int) (m salt mod sig : List UInt8) (b X N : Nat) (hp : pcode h (Sha.sumF h m).length salt.length (b : Int) = 0) (hsl : salt.length = Sha.siz h) (hk : keyC mod [3] = 0) (hN : bv mod = N) (hsg : sig.length = mod.length) (hX : bv sig = X) (hXN : X < N)
    (hbl : bl N = b + 1) (hM : bv (encF h (Sha.sumF h m) salt b) ≤ X * X * X) (hNe : N = X * X * X - bv (encF h (Sha.sumF h m) salt b)) (hMN : bv (encF h (Sha.sumF h m) salt b) < N) : pverV h mod [3] m sig = 0 := by
  obtain ⟨h1, h2, h3, h4, h5⟩ := pcode_ok hp
  rw [Int.toNat_natCast] at h5
  have hs := isHB_pos h1
  have hel := encF_length h (Sha.sumF h m) salt b hs h5
  have e1 : X ^ 3 % N = bv (encF h (Sha.sumF h m) salt b) := cube_mod X _ N hNe hM hMN
  have e2 : bv [3] = 3 := rfl
  unfold pverV
  rw [if_neg (by rw [h1]; simp), if_neg (by rw [hk]; simp), if_neg (by rw [hsg]; simp), hN, hX, if_neg (by omega), e2, e1, hbl, Nat.add_sub_cancel]
  rw [if_pos]
  refine ⟨?_, ?_⟩
  · have := kbv_lt (encF h (Sha.sumF h m) salt b)
    rwa [hel] at this
  · rw [ktobe_bv (wid b) _ hel]
    have := holds_enc h (Sha.sumF h m) salt (b : Int) hp hsl
    rwa [Int.toNat_natCast] at this

set_option maxRecDepth 100000 in
set_option maxHeartbeats 8000000 in
theorem pcomp_core (h : Int) (a1 a2 a3 : Option Addr) (c1 c2 c3 : Nat) (s m salt : List UInt8) (bits : Int) (W : World) (T : Sha.Tb W) (r1 : Rd W a1 s) (r2 : Rd W a2 m) (r3 : Rd W a3 salt)
    (k2 : m.length ≤ c2) (k2' : c2 ≤ 9223372036854775807) (k3 : salt.length ≤ c3) (k3' : c3 ≤ 9223372036854775807) (l1 : s.length ≤ 3000000) (l2 : m.length ≤ 3000000) (l3 : salt.length ≤ 3000000) :
    Calls Tryd.prog 9 #[.int .i64 h, .slice a1 s.length c1, .slice a2 m.length c2, .slice a3 salt.length c3, .int .i64 bits] W fun x w' => x = .returned (.bool true) ∧ Below W.heap.size W w' := by
  have HT : Hid (Sha.Tb W) := T
  have H1 : Hid (Rd W a1 s) := r1
  have H2 : Hid (Rd W a2 m) := r2
  have H3 : Hid (Rd W a3 salt) := r3
  have CA := awake10 W T
  clear T r1 r2 r3
  go_enter Tryd.func9, Tryd.ntmps9
  go_wp2_with fail
  refine CA.mono ?_
  rintro x w1 ⟨rfl, hb1⟩
  clear CA
  have B1 : Hid (Below W.heap.size W w1) := hb1
  clear hb1
  have CS := Sha.size_any h w1
  have hs64 := siz_le64 h
  obtain ⟨S, HS⟩ : ∃ S, Hid (Sha.siz h = S) := ⟨_, rfl⟩
  rw [HS.out] at CS hs64
  by_cases hq1 : salt.length = S
  case neg =>
    have d1 : ((salt.length : Int) != (S : Int)) = true := by simp; omega
    clear hq1
    go_wp2_with fail
    refine CS.mono ?_
    rintro x w' ⟨rfl, rfl⟩
    clear CS
    go_wp2
    go_ret
    exact ⟨rfl, B1.out⟩
  have d1 : ((salt.length : Int) != (S : Int)) = false := by rw [hq1]; simp
  by_cases hq2 : s.length > 600
  case pos =>
    have d2 : decide ((s.length : Int) > 600) = true := decide_eq_true (by omega)
    have d2' : decide (600 < s.length) = true := decide_eq_true (by omega)
    clear hq2 hq1
    go_wp2_with fail
    refine CS.mono ?_
    rintro x w' ⟨rfl, rfl⟩
    clear CS
    go_wp2
    go_ret
    exact ⟨rfl, B1.out⟩
  have d2 : decide ((s.length : Int) > 600) = false := decide_eq_false (by omega)
  have d2' : decide (600 < s.length) = false := decide_eq_false (by omega)
  have hs600 : s.length ≤ 600 := by omega
  have HSalt : Hid (salt.length = S) := hq1
  clear hq1 hq2
  have b2 := alloc_below w1 (.cells #[.slice a2 m.length c2] 23)
  have CQ := Sha.ssum_any h (some ⟨w1.heap.size, 0, none⟩) 1 [⟨a2, c2, m⟩] (w1.alloc (.cells #[.slice a2 m.length c2] 23)) ((HT.out.below B1.out).below b2) (parts_one w1 ⟨a2, c2, m⟩ ⟨H2.out.below B1.out (Nat.le_refl _), k2, k2'⟩) (by simp) (by simp [Sha.cat]; omega)
  rw [show Sha.cat [⟨a2, c2, m⟩] = m by simp [Sha.cat], HS.out] at CQ
  clear b2
  go_wp2_with fail
  refine CS.mono ?_
  rintro x w' ⟨rfl, rfl⟩
  clear CS
  go_wp2_with fail
  refine CQ.mono ?_
  rintro x w2 ⟨aQ, rfl, hOQ, hb2⟩
  clear CQ d1 d2 d2'
  have b2 := alloc_below w' (.cells #[.slice a2 m.length c2] 23)
  have b12 : Below w'.heap.size w' w2 := b2.trans (hb2.mono b2.size)
  have B2 : Hid (Below W.heap.size W w2) := B1.out.trans (b12.mono B1.out.size)
  have hdl : (Sha.sumF h m).length = S := by rw [Sha.sumF_length]; exact HS.out
  have CE := pencode_any h aQ a3 S c3 (Sha.sumF h m) salt bits w2 (HT.out.below B2.out) (Sha.Own.rd hOQ) (H3.out.below B2.out (Nat.le_refl _)) (by rw [hdl]; exact Nat.le_refl _) (by omega) k3 k3' (by rw [hdl]; omega) (by omega)
  by_cases hp : pcode h (Sha.sumF h m).length salt.length bits = 0
  case neg =>
    have dp : (pcode h (Sha.sumF h m).length salt.length bits != 0) = true := by simpa using hp
    generalize pcode h (Sha.sumF h m).length salt.length bits = pc at *
    rw [hdl] at CE
    clear hp hOQ hb2 b2 b12 hdl
    go_wp2_with fail
    refine CE.mono ?_
    rintro x w3 ⟨rE, rfl, hE⟩
    clear CE
    have B3 : Hid (Below W.heap.size W w3) := B2.out.trans (hE.bel.mono B2.out.size)
    clear hE
    go_wp2
    go_ret
    exact ⟨rfl, B3.out⟩
  have HP : Hid (pcode h (Sha.sumF h m).length salt.length bits = 0) := hp
  obtain ⟨hh, hb0, hb1, _, hwd⟩ := pcode_ok hp
  obtain ⟨b, rfl⟩ : ∃ b : Nat, bits = (b : Int) := ⟨bits.toNat, by omega⟩
  rw [Int.toNat_natCast] at hwd
  have hb65 : b ≤ 65536 := by omega
  have hev : pencV h (Sha.sumF h m) salt (b : Int) = encF h (Sha.sumF h m) salt b := by unfold pencV; rw [hp, if_pos rfl, Int.toNat_natCast]
  have hel := encF_length h (Sha.sumF h m) salt b (isHB_pos hh) hwd
  have hwb : wid b ≤ 8192 := by unfold wid; omega
  rw [hp, hev, hdl] at CE
  clear hp hOQ hb2 b2 b12 hdl hev hwd hb0 hb1 hh
  obtain ⟨em, hem⟩ : ∃ em, encF h (Sha.sumF h m) salt b = em := ⟨_, rfl⟩
  rw [hem] at CE hel
  have Hem : Hid (encF h (Sha.sumF h m) salt b = em) := hem
  clear hem
  go_wp2_with fail
  refine CE.mono ?_
  rintro x w3 ⟨rE, rfl, hE⟩
  clear CE
  have B3 : Hid (Below W.heap.size W w3) := B2.out.trans (hE.bel.mono B2.out.size)
  obtain ⟨aE, cE, eE, _, hEr⟩ := hE.own.nb
  subst eE
  have HEr : Hid (Rd w3 aE em) := hEr
  have Hel : Hid (em.length = wid b) := hel
  have hel2 : em.length ≤ 8192 := by omega
  clear hE hEr B2 hel
  have C1 := fromb a1 c1 s w3 (H1.out.below B3.out (Nat.le_refl _)) (by omega)
  have hbX : bl (bv s) ≤ 4800 := by have := bl_bv s; omega
  obtain ⟨X, hX⟩ : ∃ X, bv s = X := ⟨_, rfl⟩
  rw [hX] at C1 hbX
  clear hX
  go_wp2_with fail
  refine C1.mono ?_
  rintro x w4 ⟨rX, rfl, hX4⟩
  clear C1
  have B4 : Hid (Below W.heap.size W w4) := B3.out.trans (hX4.bel.mono B3.out.size)
  have HX4 : Hid (Nu w4 rX X) := hX4.nu
  have HEr4 : Hid (Rd w4 aE em) := HEr.out.below hX4.bel (Nat.le_refl _)
  have hXX : bl (X * X) ≤ 9600 := bl_mulb X X 4800 4800 hbX hbX
  have hXXX : bl (X * X * X) ≤ 14400 := bl_mulb (X * X) X 9600 4800 hXX hbX
  have C4 := mul_v rX rX X X w4 HX4.out HX4.out (dg_bl _ _ (by omega))
  clear hX4 B3 HEr
  go_wp2_with fail
  refine C4.mono ?_
  rintro x w5 ⟨rq, rfl, hq5⟩
  clear C4
  have B5 : Hid (Below W.heap.size W w5) := B4.out.trans (hq5.bel.mono B4.out.size)
  have HX5 : Hid (Nu w5 rX X) := HX4.out.below hq5.bel (Nat.le_refl _)
  have HEr5 : Hid (Rd w5 aE em) := HEr4.out.below hq5.bel (Nat.le_refl _)
  have C5 := mul_v rq rX (X * X) X w5 hq5.nu HX5.out (dg_bl _ _ (by omega))
  clear hq5 B4 HX4 HEr4
  go_wp2_with fail
  refine C5.mono ?_
  rintro x w6 ⟨rc, rfl, hc6⟩
  clear C5
  have B6 : Hid (Below W.heap.size W w6) := B5.out.trans (hc6.bel.mono B5.out.size)
  have HX6 : Hid (Nu w6 rX X) := HX5.out.below hc6.bel (Nat.le_refl _)
  have HC6 : Hid (Nu w6 rc (X * X * X)) := hc6.nu
  have C6 := fromb aE cE em w6 (HEr5.out.below hc6.bel (Nat.le_refl _)) (by omega)
  have HEr6 : Hid (Rd w6 aE em) := HEr5.out.below hc6.bel (Nat.le_refl _)
  obtain ⟨M, hM⟩ : ∃ M, bv em = M := ⟨_, rfl⟩
  have HMv : Hid (bv em = M) := hM
  rw [hM] at C6
  clear hc6 B5 HX5 HEr5 hM
  go_wp2_with fail
  refine C6.mono ?_
  rintro x w7 ⟨rm, rfl, hm7⟩
  clear C6
  have B7 : Hid (Below W.heap.size W w7) := B6.out.trans (hm7.bel.mono B6.out.size)
  have HX7 : Hid (Nu w7 rX X) := HX6.out.below hm7.bel (Nat.le_refl _)
  have HEr7 : Hid (Rd w7 aE em) := HEr6.out.below hm7.bel (Nat.le_refl _)
  have C7 := sub_v rc rm (X * X * X) M w7 (HC6.out.below hm7.bel (Nat.le_refl _)) hm7.nu
  obtain ⟨N, HN⟩ : ∃ N, Hid (N = X * X * X - M) := ⟨_, rfl⟩
  rw [← HN.out] at C7
  clear hm7 B6 HX6 HEr6 HC6
  by_cases hok : M ≤ X * X * X
  case neg =>
    rw [decide_eq_false hok] at C7
    clear hok
    go_wp2_with fail
    refine C7.mono ?_
    rintro x w8 ⟨rn, rfl, hn8⟩
    clear C7
    have B8 : Hid (Below W.heap.size W w8) := B7.out.trans (hn8.bel.mono B7.out.size)
    clear hn8
    go_wp2
    go_ret
    exact ⟨rfl, B8.out⟩
  rw [decide_eq_true hok] at C7
  have HOK : Hid (M ≤ X * X * X) := hok
  have hNb : bl N ≤ 14400 := by
    refine Nat.le_trans (bl_mono (show N ≤ X * X * X by rw [HN.out]; exact Nat.sub_le _ _)) hXXX
  clear hok hXX hXXX
  go_wp2_with fail
  refine C7.mono ?_
  rintro x w8 ⟨rn, rfl, hn8⟩
  clear C7
  have B8 : Hid (Below W.heap.size W w8) := B7.out.trans (hn8.bel.mono B7.out.size)
  have HX8 : Hid (Nu w8 rX X) := HX7.out.below hn8.bel (Nat.le_refl _)
  have HEr8 : Hid (Rd w8 aE em) := HEr7.out.below hn8.bel (Nat.le_refl _)
  have HN8 : Hid (Nu w8 rn N) := hn8.nu
  have C8 := vbits rn N _ w8 HN8.out (by omega)
  clear hn8 B7 HX7 HEr7
  by_cases hbN : bl N = b + 1
  case neg =>
    have d1 : (((bl N : Nat) : Int) != (b : Int) + 1) = true := by simp; omega
    clear hbN
    generalize bl N = bn at *
    go_wp2_with fail
    refine C8.mono ?_
    rintro x w' ⟨rfl, rfl⟩
    clear C8
    go_wp2
    go_ret
    exact ⟨rfl, B8.out⟩
  have d1 : (((bl N : Nat) : Int) != (b : Int) + 1) = false := by rw [hbN]; simp
  have HbN : Hid (bl N = b + 1) := hbN
  clear hbN
  have HNb : Hid (bl N ≤ 14400) := hNb
  clear hNb
  generalize hbn : bl N = bn at C8 d1
  clear hbn
  have C9 := vcmp rX rn _ _ _ _ w8 HX8.out HN8.out (by omega) (by omega)
  have e9 := cmp_geD X N
  have e9' : decide (0 ≤ cmp3 ((X : Nat) : Int) ((N : Nat) : Int)) = decide (N ≤ X) := e9
  by_cases hXN : N ≤ X
  case pos =>
    rw [decide_eq_true hXN] at e9 e9'
    clear hXN
    generalize cmp3 ((X : Nat) : Int) ((N : Nat) : Int) = cm at *
    go_wp2_with fail
    refine C8.mono ?_
    rintro x w' ⟨rfl, rfl⟩
    clear C8
    go_wp2_with fail
    refine C9.mono ?_
    rintro x w9 ⟨rfl, q, hw9⟩
    clear C9
    have B9 : Hid (Below W.heap.size W w9) := by rw [hw9]; exact below_drewN B8.out q
    clear hw9
    go_wp2
    go_ret
    exact ⟨rfl, B9.out⟩
  rw [decide_eq_false hXN] at e9 e9'
  have HXN : Hid (X < N) := by show _ < _; omega
  clear hXN
  generalize cmp3 ((X : Nat) : Int) ((N : Nat) : Int) = cm at *
  go_wp2_with fail
  refine C8.mono ?_
  rintro x w' ⟨rfl, rfl⟩
  clear C8
  go_wp2_with fail
  refine C9.mono ?_
  rintro x w9 ⟨rfl, q, hw9⟩
  clear C9
  have B9 : Hid (Below W.heap.size W w9) := by rw [hw9]; exact below_drewN B8.out q
  have HX9 : Hid (Nu w9 rX X) := by rw [hw9]; exact HX8.out
  have HN9 : Hid (Nu w9 rn N) := by rw [hw9]; exact HN8.out
  have HEr9 : Hid (Rd w9 aE em) := by rw [hw9]; exact HEr8.out
  have C10 := fromb aE cE em w9 HEr9.out (by omega)
  rw [HMv.out] at C10
  clear hw9 B8 HX8 HN8 HEr8
  go_wp2_with fail
  refine C10.mono ?_
  rintro x w10 ⟨rm2, rfl, hm10⟩
  clear C10
  have B10 : Hid (Below W.heap.size W w10) := B9.out.trans (hm10.bel.mono B9.out.size)
  have HX10 : Hid (Nu w10 rX X) := HX9.out.below hm10.bel (Nat.le_refl _)
  have HN10 : Hid (Nu w10 rn N) := HN9.out.below hm10.bel (Nat.le_refl _)
  have C11 := vcmp rm2 rn _ _ _ _ w10 hm10.nu HN10.out (by omega) (by omega)
  have f9 := cmp_geD M N
  have f9' : decide (0 ≤ cmp3 ((M : Nat) : Int) ((N : Nat) : Int)) = decide (N ≤ M) := f9
  clear hm10 B9 HX9 HN9 HEr9
  by_cases hMN : N ≤ M
  case pos =>
    rw [decide_eq_true hMN] at f9 f9'
    clear hMN
    generalize cmp3 ((M : Nat) : Int) ((N : Nat) : Int) = cm2 at *
    go_wp2_with fail
    refine C11.mono ?_
    rintro x w11 ⟨rfl, q2, hw11⟩
    clear C11
    have B11 : Hid (Below W.heap.size W w11) := by rw [hw11]; exact below_drewN B10.out q2
    clear hw11
    go_wp2
    go_ret
    exact ⟨rfl, B11.out⟩
  rw [decide_eq_false hMN] at f9 f9'
  have HMN : Hid (M < N) := by show _ < _; omega
  clear hMN
  generalize cmp3 ((M : Nat) : Int) ((N : Nat) : Int) = cm2 at *
  go_wp2_with fail
  refine C11.mono ?_
  rintro x w11 ⟨rfl, q2, hw11⟩
  clear C11
  have B11 : Hid (Below W.heap.size W w11) := by rw [hw11]; exact below_drewN B10.out q2
  have HX11 : Hid (Nu w11 rX X) := by rw [hw11]; exact HX10.out
  have HN11 : Hid (Nu w11 rn N) := by rw [hw11]; exact HN10.out
  clear hw11 B10 HX10 HN10
  have C12 := bytes_v rn N w11 HN11.out
  obtain ⟨mod, hmod⟩ : ∃ l, tobe (lst N) N = l := ⟨_, rfl⟩
  have HMod : Hid (bv mod = N) := by show _ = _; rw [← hmod, kbv_tobe, Nat.mod_eq_of_lt (klst_lt N)]
  have hml : mod.length = lst N := by rw [← hmod, tobe_length]
  have hml2 : mod.length ≤ 2000 := by
    rw [hml]; unfold lst; have := HNb.out; omega
  rw [hmod] at C12
  have Hml : Hid (mod.length = lst N) := hml
  have HBy : Hid (∀ w, Nu w rn N → Calls Tryd.prog 32 #[rn] w fun e w' => ∃ a c, e = .returned (.slice a mod.length c) ∧ Rd w' a mod ∧ Below w.heap.size w w') := fun w hw => by
    have := bytes_v rn N w hw
    rw [hmod] at this
    refine this.mono ?_
    rintro e w' ⟨r, rfl, ho⟩
    obtain ⟨a, c, e, _, hr⟩ := ho.own.nb
    exact ⟨a, c, by rw [e], hr, ho.bel⟩
  clear C12 hmod hml
  have C12 := HBy.out w11 HN11.out
  go_wp2_with fail
  refine C12.mono ?_
  rintro x w12 ⟨ab, cb, rfl, hbr, hb12⟩
  clear C12
  have B12 : Hid (Below W.heap.size W w12) := B11.out.trans (hb12.mono B11.out.size)
  have HX12 : Hid (Nu w12 rX X) := HX11.out.below hb12 (Nat.le_refl _)
  have HN12 : Hid (Nu w12 rn N) := HN11.out.below hb12 (Nat.le_refl _)
  have b13 := alloc_below w12 (.cells #[.int .u8 3] 5)
  have CK := key_any ab (some ⟨w12.heap.size, 0, none⟩) cb 1 mod [3] (w12.alloc (.cells #[.int .u8 3] 5)) (hbr.below b13 (Nat.le_refl _)) (rd_lit (w := w12) [3]) (by omega) (by simp)
  have B13 : Hid (Below W.heap.size W (w12.alloc (.cells #[.int .u8 3] 5))) := B12.out.trans (b13.mono B12.out.size)
  have HX13 : Hid (Nu (w12.alloc (.cells #[.int .u8 3] 5)) rX X) := HX12.out.below b13 (Nat.le_refl _)
  have HN13 : Hid (Nu (w12.alloc (.cells #[.int .u8 3] 5)) rn N) := HN12.out.below b13 (Nat.le_refl _)
  clear b13 hbr hb12 B11 HX11 HN11 B12 HX12 HN12
  by_cases hkey : keyC mod [3] = 0
  case neg =>
    have dk : (keyC mod [3] != 0) = true := by simpa using hkey
    generalize keyC mod [3] = kc at *
    clear hkey
    go_wp2_with fail
    refine CK.mono ?_
    rintro x w' ⟨rfl, hw'⟩
    clear CK
    have B14 : Hid (Below W.heap.size W w') := by rw [hw']; exact B13.out
    clear hw'
    go_wp2
    go_ret
    exact ⟨rfl, B14.out⟩
  have dk : (keyC mod [3] != 0) = false := by rw [hkey]; rfl
  have HKey : Hid (keyC mod [3] = 0) := hkey
  generalize keyC mod [3] = kc at CK dk
  clear hkey
  go_wp2_with fail
  refine CK.mono ?_
  rintro x w14 ⟨rfl, hw14⟩
  clear CK
  have B14 : Hid (Below W.heap.size W w14) := by rw [hw14]; exact B13.out
  have HX14 : Hid (Nu w14 rX X) := by rw [hw14]; exact HX13.out
  have HN14 : Hid (Nu w14 rn N) := by rw [hw14]; exact HN13.out
  clear hw14 B13 HX13 HN13
  have C15 := HBy.out w14 HN14.out
  go_wp2_with fail
  refine C15.mono ?_
  rintro x w15 ⟨ab2, cb2, rfl, _, hb15⟩
  clear C15
  have B15 : Hid (Below W.heap.size W w15) := B14.out.trans (hb15.mono B14.out.size)
  have HX15 : Hid (Nu w15 rX X) := HX14.out.below hb15 (Nat.le_refl _)
  have HN15 : Hid (Nu w15 rn N) := HN14.out.below hb15 (Nat.le_refl _)
  have C16 := pfixed_v rX X mod.length w15 HX15.out (by omega)
  have hXf : X < 256 ^ mod.length := by rw [Hml.out]; exact Nat.lt_trans HXN.out (klst_lt N)
  rw [decide_eq_true hXf, if_pos hXf] at C16
  have HXf : Hid (X < 256 ^ mod.length) := hXf
  clear hXf hb15 B14 HX14 HN14 HX15 dk
  go_wp2_with fail
  refine C16.mono ?_
  rintro x w16 ⟨rs, rfl, hs16⟩
  clear C16
  have B16 : Hid (Below W.heap.size W w16) := B15.out.trans (hs16.bel.mono B15.out.size)
  have HN16 : Hid (Nu w16 rn N) := HN15.out.below hs16.bel (Nat.le_refl _)
  obtain ⟨aG, cG, es, _, hsr⟩ := hs16.own.nb
  rw [tobe_length] at es
  subst es
  have HSr : Hid (Rd w16 aG (tobe mod.length X)) := hsr
  have C17 := HBy.out w16 HN16.out
  clear hs16 hsr B15 HN15
  go_wp2_with fail
  refine C17.mono ?_
  rintro x w17 ⟨ab3, cb3, rfl, hbr3, hb17⟩
  clear C17
  have B17 : Below W.heap.size W w17 := B16.out.trans (hb17.mono B16.out.size)
  have b18 := alloc_below w17 (.cells #[.int .u8 3] 5)
  have B18 : Below W.heap.size W (w17.alloc (.cells #[.int .u8 3] 5)) := B17.trans (b18.mono B17.size)
  have CV := pverify_any h ab3 (some ⟨w17.heap.size, 0, none⟩) a2 aG cb3 1 c2 cG mod [3] m (tobe mod.length X) (w17.alloc (.cells #[.int .u8 3] 5)) (HT.out.below B18) (hbr3.below b18 (Nat.le_refl _)) (rd_lit (w := w17) [3]) (H2.out.below B18 (Nat.le_refl _)) ((HSr.out.below hb17 (Nat.le_refl _)).below b18 (Nat.le_refl _)) k2 k2' (by omega) (by simp) (by omega) (by rw [tobe_length]; omega)
  have hv0 : pverV h mod [3] m (tobe mod.length X) = 0 := by
    refine pver_comp h m salt mod (tobe mod.length X) b X N HP.out (by rw [HSalt.out]; exact HS.out.symm) HKey.out HMod.out (tobe_length _ _) (by rw [kbv_tobe, Nat.mod_eq_of_lt HXf.out]) HXN.out HbN.out ?_ ?_ ?_
    · rw [Hem.out, HMv.out]; exact HOK.out
    · rw [Hem.out, HMv.out]; exact HN.out
    · rw [Hem.out, HMv.out]; exact HMN.out
  rw [hv0, tobe_length] at CV
  have HB18 : Hid (Below W.heap.size W (w17.alloc (.cells #[.int .u8 3] 5))) := B18
  clear hv0 B17 b18 B18 hb17 hbr3 HSr
  go_wp2_with fail
  refine CV.mono ?_
  rintro x w19 ⟨rfl, hb19⟩
  clear CV
  have HZ : Hid (Below W.heap.size W w19) := HB18.out.trans (hb19.mono HB18.out.size)
  clear hb19
  go_wp2
  go_ret
  exact ⟨rfl, HZ.out⟩

end Go.Proofs.YthnogdkkdekgpaaDoor
