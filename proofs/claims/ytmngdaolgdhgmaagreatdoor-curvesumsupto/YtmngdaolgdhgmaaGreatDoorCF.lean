import Derived.Test.YtmngdaolgdhgmaaGreatDoorNtY3
namespace Go.Proofs.YtmngdaolgdhgmaaGreatDoor
open Go.RowKit

/-- A power of two. -/
def pw (k : Nat) : Nat := 2 ^ k
theorem pw_mono {k m : Nat} (h : k ≤ m) : pw k ≤ pw m := Nat.pow_le_pow_right (by decide) h
theorem pw_add (k m : Nat) : pw (k + m) = pw k * pw m := Nat.pow_add _ _ _
theorem pw_succ (k : Nat) : pw (k + 1) = pw k * 2 := Nat.pow_succ _ _
theorem Bs_pw (n : Nat) : Bs ^ n = pw (32 * n) := by
  unfold pw
  rw [show Bs = 2 ^ 32 by decide, ← Nat.pow_mul]
theorem dgl_gen (n : Nat) {V k : Nat} (h : V < pw k) (hk : k ≤ 32 * n) : (dg Bs V).length ≤ n :=
  dg_len Bs_two n V (Nat.lt_of_lt_of_le h (by rw [Bs_pw]; exact pw_mono hk))
/-- A number below a power of two, and a new one. -/
def Nk (w : World) (v : Value) (V k : Nat) : Prop := Nu w v V ∧ V < pw k
def Rk (w w' : World) (r : Value) (V k : Nat) : Prop := Re w w' r V ∧ V < pw k
theorem Rk.nb {w w' : World} {r : Value} {V k : Nat} (h : Rk w w' r V k) : Nk w' r V k := ⟨h.1.nu, h.2⟩
theorem Rk.bel {w w' : World} {r : Value} {V k : Nat} (h : Rk w w' r V k) : Below w.heap.size w w' := h.1.bel
theorem Nk.below {w w' : World} {v : Value} {V k n : Nat} (h : Nk w v V k) (hb : Below n w w') (hn : w.heap.size ≤ n) : Nk w' v V k := ⟨h.1.below hb hn, h.2⟩
theorem Nk.drewN {w : World} {v : Value} {V k : Nat} (h : Nk w v V k) (q : Nat) : Nk (w.drewN q) v V k := h
theorem Nk.le {w : World} {v : Value} {V k m : Nat} (h : Nk w v V k) (hk : k ≤ m) : Nk w v V m := ⟨h.1, Nat.lt_of_lt_of_le h.2 (pw_mono hk)⟩
theorem dgl_pw {V k : Nat} (h : V < pw k) (hk : k ≤ 4096) : (dg Bs V).length ≤ 128 := dgl_gen 128 h (by omega)
theorem Lg_pow {V k : Nat} (h : V < pw k) (hk : k ≤ 4096) : Lg V = false := Lg_of (dgl_pw h hk)
theorem rcode_fine {M A B k m : Nat} (hM : 2 ≤ M) (h0 : M < pw 400) (h1 : A < pw k) (h2 : B < pw m) (hk : k ≤ 4096) (hm : m ≤ 4096) : rcode M (Lg A || Lg B) = 0 := by
  unfold rcode
  rw [Lg_pow h0 (by decide), Lg_pow h1 hk, Lg_pow h2 hm]
  simp
  omega
/-- A prime as the program holds it: above 1, of at most 400 digits. -/
def Pm (p : Nat) : Prop := 2 ≤ p ∧ p < pw 384
theorem Pm.lt {p V : Nat} (h : Pm p) (hv : V < p) : V < pw 384 := Nat.lt_trans hv h.2
theorem Pm.lt4 {p : Nat} (h : Pm p) : p < pw 400 := Nat.lt_of_lt_of_le h.2 (pw_mono (by decide))
/-- Sums, differences and products modulo a number. -/
def fA (p a b : Nat) : Nat := (a + b) % p
def fS (p a b : Nat) : Nat := lessV p (a % p) (b % p)
def fM (p a b : Nat) : Nat := a * b % p
theorem fA_lt {p : Nat} (h : Pm p) (a b : Nat) : fA p a b < p := Nat.mod_lt _ (by have := h.1; omega)
theorem fM_lt {p : Nat} (h : Pm p) (a b : Nat) : fM p a b < p := Nat.mod_lt _ (by have := h.1; omega)
theorem fS_lt {p : Nat} (h : Pm p) (a b : Nat) : fS p a b < p := lessV_lt (Nat.mod_lt _ (by have := h.1; omega)) (Nat.mod_lt _ (by have := h.1; omega))
def Sl3 (v : Value) : Prop := ∃ a b c, v = .slice a b c
set_option maxHeartbeats 1000000 in
theorem fadd_v (pv bv a b : Value) (p A B k m : Nat) (w : World) (hp : Pm p) (hpv : Nu w pv p) (hbv : Sl3 bv) (ha : Nk w a A k) (hb : Nk w b B m) (hk : k ≤ 4096) (hm : m ≤ 4096) :
    Calls Tryz.prog 80 #[.agg #[pv, bv], a, b] w fun e w' => ∃ r, e = .returned r ∧ Rk w w' r (fA p A B) 384 := by
  obtain ⟨p0, p1, p2, rfl⟩ := hpv.shape
  obtain ⟨b0, b1, b2, rfl⟩ := hbv
  obtain ⟨a0, a1, a2, rfl⟩ := ha.1.shape
  obtain ⟨c0, c1, c2, rfl⟩ := hb.1.shape
  have hbel := alloc_below w (.cells #[.slice p0 p1 p2, .slice b0 b1 b2] 54)
  have hc := (alloc_bl w [.slice p0 p1 p2, .slice b0 b1 b2] 54).cell 0 (by simp)
  have C := madd_v (.slice a0 a1 a2) (.slice c0 c1 c2) (.slice p0 p1 p2) A B p _ (ha.1.below hbel (Nat.le_refl _)) (hb.1.below hbel (Nat.le_refl _)) (hpv.below hbel (Nat.le_refl _))
  rw [rcode_fine hp.1 hp.lt4 ha.2 hb.2 hk hm] at C
  have HB : Hid (Below w.heap.size w (w.alloc (.cells #[.slice p0 p1 p2, .slice b0 b1 b2] 54))) := hbel
  have HL : Hid (fA p A B < pw 384) := hp.lt (fA_lt hp A B)
  clear hpv ha hb hbel
  go_enter Tryz.func80, Tryz.ntmps80
  go_wp2_with fail
  refine C.mono ?_
  clear C hc
  rintro e w1 h
  rcases h with ⟨h, _⟩ | ⟨_, r, rfl, h⟩
  · exact absurd rfl h
  have H : Hid (Rk w w1 r (fA p A B) 384) := ⟨Re.later HB.out h, HL.out⟩
  obtain ⟨r0, r1, r2, rfl⟩ := h.nu.shape
  clear h
  go_wp2
  go_ret
  exact ⟨_, rfl, H.out⟩
set_option maxHeartbeats 1000000 in
theorem fsub_v (pv bv a b : Value) (p A B k m : Nat) (w : World) (hp : Pm p) (hpv : Nu w pv p) (hbv : Sl3 bv) (ha : Nk w a A k) (hb : Nk w b B m) (hk : k ≤ 4096) (hm : m ≤ 4096) :
    Calls Tryz.prog 83 #[.agg #[pv, bv], a, b] w fun e w' => ∃ r, e = .returned r ∧ Rk w w' r (fS p A B) 384 := by
  obtain ⟨p0, p1, p2, rfl⟩ := hpv.shape
  obtain ⟨b0, b1, b2, rfl⟩ := hbv
  obtain ⟨a0, a1, a2, rfl⟩ := ha.1.shape
  obtain ⟨c0, c1, c2, rfl⟩ := hb.1.shape
  have hbel := alloc_below w (.cells #[.slice p0 p1 p2, .slice b0 b1 b2] 54)
  have hc := (alloc_bl w [.slice p0 p1 p2, .slice b0 b1 b2] 54).cell 0 (by simp)
  have C := msub_v (.slice a0 a1 a2) (.slice c0 c1 c2) (.slice p0 p1 p2) A B p _ (ha.1.below hbel (Nat.le_refl _)) (hb.1.below hbel (Nat.le_refl _)) (hpv.below hbel (Nat.le_refl _))
  rw [rcode_fine hp.1 hp.lt4 ha.2 hb.2 hk hm] at C
  have HB : Hid (Below w.heap.size w (w.alloc (.cells #[.slice p0 p1 p2, .slice b0 b1 b2] 54))) := hbel
  have HL : Hid (fS p A B < pw 384) := hp.lt (fS_lt hp A B)
  clear hpv ha hb hbel
  go_enter Tryz.func83, Tryz.ntmps83
  go_wp2_with fail
  refine C.mono ?_
  clear C hc
  rintro e w1 h
  rcases h with ⟨h, _⟩ | ⟨_, r, rfl, h⟩
  · exact absurd rfl h
  have H : Hid (Rk w w1 r (fS p A B) 384) := ⟨Re.later HB.out h, HL.out⟩
  obtain ⟨r0, r1, r2, rfl⟩ := h.nu.shape
  clear h
  go_wp2
  go_ret
  exact ⟨_, rfl, H.out⟩
set_option maxHeartbeats 1000000 in
theorem fmul_v (pv bv a b : Value) (p A B k m : Nat) (w : World) (hp : Pm p) (hpv : Nu w pv p) (hbv : Sl3 bv) (ha : Nk w a A k) (hb : Nk w b B m) (hk : k ≤ 4096) (hm : m ≤ 4096) :
    Calls Tryz.prog 79 #[.agg #[pv, bv], a, b] w fun e w' => ∃ r, e = .returned r ∧ Rk w w' r (fM p A B) 384 := by
  obtain ⟨p0, p1, p2, rfl⟩ := hpv.shape
  obtain ⟨b0, b1, b2, rfl⟩ := hbv
  obtain ⟨a0, a1, a2, rfl⟩ := ha.1.shape
  obtain ⟨c0, c1, c2, rfl⟩ := hb.1.shape
  have hbel := alloc_below w (.cells #[.slice p0 p1 p2, .slice b0 b1 b2] 54)
  have hc := (alloc_bl w [.slice p0 p1 p2, .slice b0 b1 b2] 54).cell 0 (by simp)
  have C := mmul_v (.slice a0 a1 a2) (.slice c0 c1 c2) (.slice p0 p1 p2) A B p _ (ha.1.below hbel (Nat.le_refl _)) (hb.1.below hbel (Nat.le_refl _)) (hpv.below hbel (Nat.le_refl _))
  rw [rcode_fine hp.1 hp.lt4 ha.2 hb.2 hk hm] at C
  have HB : Hid (Below w.heap.size w (w.alloc (.cells #[.slice p0 p1 p2, .slice b0 b1 b2] 54))) := hbel
  have HL : Hid (fM p A B < pw 384) := hp.lt (fM_lt hp A B)
  clear hpv ha hb hbel
  go_enter Tryz.func79, Tryz.ntmps79
  go_wp2_with fail
  refine C.mono ?_
  clear C hc
  rintro e w1 h
  rcases h with ⟨h, _⟩ | ⟨_, r, rfl, h⟩
  · exact absurd rfl h
  have H : Hid (Rk w w1 r (fM p A B) 384) := ⟨Re.later HB.out h, HL.out⟩
  obtain ⟨r0, r1, r2, rfl⟩ := h.nu.shape
  clear h
  go_wp2
  go_ret
  exact ⟨_, rfl, H.out⟩
theorem nmul_v (a b : Value) (A B k m : Nat) (w : World) (ha : Nk w a A k) (hb : Nk w b B m) (hk : k + m ≤ 4096) :
    Calls Tryz.prog 81 #[a, b] w fun e w' => ∃ r, e = .returned r ∧ Rk w w' r (A * B) (k + m) := by
  refine (vmul a b A B _ _ w ha.1 hb.1 (by decide) (by decide)).mono ?_
  rintro e w' ⟨r, rfl, h⟩
  have hl : A * B < pw (k + m) := by
    rw [pw_add]
    exact Nat.mul_lt_mul'' ha.2 hb.2
  exact ⟨r, rfl, ⟨h.1, Nat.le_trans (dgl_pw hl hk) (by decide), h.2.2⟩, hl⟩
theorem nadd_v (a b : Value) (A B k m : Nat) (w : World) (ha : Nk w a A k) (hb : Nk w b B m) (hk : k + m + 1 ≤ 4096) :
    Calls Tryz.prog 84 #[a, b] w fun e w' => ∃ r, e = .returned r ∧ Rk w w' r (A + B) (k + m + 1) := by
  refine (vadd a b A B _ _ w ha.1 hb.1 (by decide) (by decide)).mono ?_
  rintro e w' ⟨r, rfl, h⟩
  have hl : A + B < pw (k + m + 1) := by
    have h1 : pw k ≤ pw (k + m) := pw_mono (by omega)
    have h2 : pw m ≤ pw (k + m) := pw_mono (by omega)
    have h3 := ha.2
    have h4 := hb.2
    rw [pw_succ]
    omega
  exact ⟨r, rfl, ⟨h.1, Nat.le_trans (dgl_pw hl hk) (by decide), h.2.2⟩, hl⟩
theorem small_v (u k : Nat) (hu : u < pw k) (hk : k ≤ 60) (w : World) : Calls Tryz.prog 86 #[.int .u64 (u : Int)] w fun e w' => ∃ r, e = .returned r ∧ Rk w w' r u k := by
  have h1 : u < 18446744073709551616 := Nat.lt_of_lt_of_le hu (pw_mono (show k ≤ 64 by omega))
  refine (fromUint_any u w h1).mono ?_
  rintro e w' ⟨r, rfl, h1, h2⟩
  exact ⟨r, rfl, ⟨h1, Nat.le_trans (dgl_pw hu (by omega)) (by decide), h2⟩, hu⟩
set_option maxHeartbeats 1000000 in
theorem thrice_v (a : Value) (A k : Nat) (w : World) (ha : Nk w a A k) (hk : k + 2 ≤ 4096) :
    Calls Tryz.prog 82 #[a] w fun e w' => ∃ r, e = .returned r ∧ Rk w w' r (A * 3) (k + 2) := by
  obtain ⟨a0, a1, a2, rfl⟩ := ha.1.shape
  have C := small_v 3 2 (by decide) (by decide) w
  have HA : Hid (Nk w (.slice a0 a1 a2) A k) := ha
  clear ha
  go_enter Tryz.func82, Tryz.ntmps82
  go_wp2_with fail
  refine C.mono ?_
  clear C
  rintro e w1 ⟨t, rfl, h⟩
  have C := nmul_v (.slice a0 a1 a2) t A 3 k 2 w1 (HA.out.below h.bel (Nat.le_refl _)) h.nb (by omega)
  have HB : Hid (Below _ _ _) := h.bel
  clear h
  go_wp2_with fail
  refine C.mono ?_
  clear C
  rintro e w2 ⟨r, rfl, h⟩
  have H : Hid (Rk w w2 r (A * 3) (k + 2)) := ⟨Re.later HB.out h.1, h.2⟩
  clear h
  go_wp2
  go_ret
  exact ⟨r, rfl, H.out⟩
end Go.Proofs.YtmngdaolgdhgmaaGreatDoor
