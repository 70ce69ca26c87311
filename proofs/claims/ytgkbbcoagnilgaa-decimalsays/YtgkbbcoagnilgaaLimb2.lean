import Derived.Test.YtgkbbcoagnilgaaLimb
namespace Go.Proofs.Ytgkbbcoagnilgaa
open Go.RowKit

/-- What overTen makes of the lowest k limbs (in the base B) of the stretch from off on, with left above them: all limbs, and what is left over. -/
def ovF (B off : Nat) : Nat → List Nat → Nat → List Nat × Nat
  | 0, xs, left => (xs, left)
  | k + 1, xs, left => ovF B off k (xs.set (off + k) ((left * B + xs.getD (off + k) 0) / 10)) ((left * B + xs.getD (off + k) 0) % 10)

/-- What timesTen makes of the limbs from place k of the stretch on, m of them, with carry. -/
def tmF (B off : Nat) : Nat → Nat → List Nat → Nat → List Nat × Nat
  | _, 0, xs, carry => (xs, carry)
  | k, m + 1, xs, carry => tmF B off (k + 1) m (xs.set (off + k) ((carry + xs.getD (off + k) 0 * 10) % B)) ((carry + xs.getD (off + k) 0 * 10) / B)

theorem ovF_succ (B off k : Nat) (xs : List Nat) (left y : Nat) (h : y = left * B + xs.getD (off + k) 0) : ovF B off (k + 1) xs left = ovF B off k (xs.set (off + k) (y / 10)) (y % 10) := by
  subst h; rfl

theorem tmF_succ (B off k m : Nat) (xs : List Nat) (carry y : Nat) (h : y = carry + xs.getD (off + k) 0 * 10) : tmF B off k (m + 1) xs carry = tmF B off (k + 1) m (xs.set (off + k) (y % B)) (y / B) := by
  subst h; rfl

def smallL (xs : List Nat) : Prop := ∀ x ∈ xs, x < 4294967296

theorem smallL_set {xs : List Nat} (h : smallL xs) (j v : Nat) (hv : v < 4294967296) : smallL (xs.set j v) := by
  intro x hx
  rcases List.mem_or_eq_of_mem_set hx with h1 | h1
  · exact h x h1
  · rw [h1]; exact hv

theorem smallL_get {xs : List Nat} (h : smallL xs) (j : Nat) (hj : j < xs.length) : xs[j] < 4294967296 := h _ (List.getElem_mem hj)

theorem or64 (a x : Nat) (ha : a < 10) (hx : x < 4294967296) : bits .or .u64 ((a : Int) * 4294967296) (x : Int) = ((a * 4294967296 + x : Nat) : Int) := by
  have e : ((a : Int) * 4294967296) = ((a * 4294967296 : Nat) : Int) := by omega
  rw [e, u64_or_nat _ _ (by omega) (by omega), nat_join 32 (a * 4294967296) x (by omega) (by omega)]

set_option maxHeartbeats 1000000 in
theorem overTen_any (b off n cap d : Nat) (xs : List Nat) (w : World) (hx : Fx w b xs) (hn : off + n ≤ xs.length) (hlen : xs.length ≤ 1000000) (hs : smallL xs) (hd : d < 10) :
    Calls Try.prog 12 #[.slice (some ⟨b, off, none⟩) n cap, .int .u32 d] w fun e w' => e = .returned (.int .u32 ((ovF 4294967296 off n xs d).2 : Int)) ∧ Fx w' b (ovF 4294967296 off n xs d).1 ∧ But w w' b := by
  go_enter Try.func12, Try.ntmps12
  go_wp2
  go_loopw [5, 6] (fun s5 s6 wr => ∃ (k left : Nat) (ys : List Nat), s5 = .int .u64 (left : Int) ∧ s6 = .int .i64 ((k : Int) - 1) ∧ k ≤ n ∧ left < 10 ∧ Hid (ovF 4294967296 off n xs d = ovF 4294967296 off k ys left) ∧ Hid (Fx wr b ys) ∧ ys.length ≤ xs.length ∧ xs.length ≤ ys.length ∧ Hid (smallL ys) ∧ Hid (But w wr b)) (fun _ s6 _ => (intOf s6 + 1).toNat)
  case atStart => exact ⟨n, d, xs, rfl, rfl, Nat.le_refl _, hd, rfl, hx, Nat.le_refl _, Nat.le_refl _, hs, But.refl _ _⟩
  case round =>
    obtain ⟨k, left, ys, rfl, rfl, hk, hl, Ho, Hx, hy1, hy2, Hs, Hb⟩ := hrel
    rcases k with _ | j
    · have Hr : Hid (ovF 4294967296 off n xs d = (ys, left)) := Ho
      have hw : IntKind.u32.wrap (left : Int) = (left : Int) := by rw [IntKind.wrap_u32]; omega
      clear Ho
      go_wp2
      go_ret
      rw [Hr.out]
      exact ⟨rfl, Hx.out, Hb.out⟩
    · have hn1 : ((j + 1 : Nat) : Int) - 1 = (j : Int) := by omega
      rw [hn1]
      clear hn1
      have hjl : off + j < ys.length := by omega
      obtain ⟨x, hxj⟩ : ∃ x, ys[off + j] = x := ⟨_, rfl⟩
      have hxs : x < 4294967296 := by rw [← hxj]; exact smallL_get Hs.out _ hjl
      have gc := Hx.out.cell (off + j) hjl
      have gf := Hx.out.frozen (off + j)
      rw [hxj] at gc
      have egd : ys.getD (off + j) 0 = x := by simp [List.getD_eq_getElem?_getD, hjl, hxj]
      have hor := or64 left x hl hxs
      obtain ⟨y, hy⟩ : ∃ y, y = left * 4294967296 + x := ⟨_, rfl⟩
      rw [← hy] at hor
      have Ho1 : Hid (ovF 4294967296 off n xs d = ovF 4294967296 off j (ys.set (off + j) (y / 10)) (y % 10)) := by
        show _ = _
        rw [Ho.out]
        exact ovF_succ 4294967296 off j ys left y (by rw [egd]; exact hy)
      have hy3 : y < 42949672960 := by omega
      have htd : Int.tdiv (y : Int) 10 = ((y / 10 : Nat) : Int) := by rw [Int.tdiv_eq_ediv_of_nonneg (by omega)]; omega
      have htm : Int.tmod (y : Int) 10 = ((y % 10 : Nat) : Int) := by rw [Int.tmod_eq_emod_of_nonneg (by omega)]; omega
      clear Ho egd hy hxj
      go_wp2
      go_roundw
      case rel =>
        have e1 : (y : Int) % 10 = ((y % 10 : Nat) : Int) := by omega
        have e2 : (y : Int) / 10 = ((y / 10 : Nat) : Int) := by omega
        rw [e1, e2]
        exact ⟨j, y % 10, ys.set (off + j) (y / 10), rfl, rfl, by omega, by omega, Ho1, Hx.out.set _ _, by rw [List.length_set]; exact hy1, by rw [List.length_set]; exact hy2, smallL_set Hs.out _ _ (by omega), Hb.out.set _ _⟩
      case measure => simp [intOf] <;> omega

set_option maxHeartbeats 1000000 in
theorem timesTen_any (b off n cap d : Nat) (xs : List Nat) (w : World) (hx : Fx w b xs) (hn : off + n ≤ xs.length) (hlen : xs.length ≤ 1000000) (hs : smallL xs) (hd : d < 10) :
    Calls Try.prog 14 #[.slice (some ⟨b, off, none⟩) n cap, .int .u32 d] w fun e w' => e = .returned (.int .u32 ((tmF 4294967296 off 0 n xs d).2 : Int)) ∧ Fx w' b (tmF 4294967296 off 0 n xs d).1 ∧ But w w' b := by
  go_enter Try.func14, Try.ntmps14
  go_wp2
  go_loopw [5, 6, 11] (fun s5 _ s11 wr => ∃ (k carry : Nat) (ys : List Nat), s5 = .int .u64 (carry : Int) ∧ s11 = .int .i64 (k : Int) ∧ k ≤ n ∧ carry < 10 ∧ Hid (tmF 4294967296 off 0 n xs d = tmF 4294967296 off k (n - k) ys carry) ∧ Hid (Fx wr b ys) ∧ ys.length ≤ xs.length ∧ xs.length ≤ ys.length ∧ Hid (smallL ys) ∧ Hid (But w wr b)) (fun _ _ s _ => n - (intOf s).toNat)
  case atStart => exact ⟨0, d, xs, rfl, rfl, Nat.zero_le _, hd, rfl, hx, Nat.le_refl _, Nat.le_refl _, hs, But.refl _ _⟩
  case round =>
    obtain ⟨k, carry, ys, rfl, rfl, hk, hc, Ho, Hx, hy1, hy2, Hs, Hb⟩ := hrel
    by_cases hlt : k < n
    · have hjl : off + k < ys.length := by omega
      obtain ⟨x, hxj⟩ : ∃ x, ys[off + k] = x := ⟨_, rfl⟩
      have hxs : x < 4294967296 := by rw [← hxj]; exact smallL_get Hs.out _ hjl
      have gc := Hx.out.cell (off + k) hjl
      have gf := Hx.out.frozen (off + k)
      rw [hxj] at gc
      have egd : ys.getD (off + k) 0 = x := by simp [List.getD_eq_getElem?_getD, hjl, hxj]
      obtain ⟨y, hy⟩ : ∃ y, y = carry + x * 10 := ⟨_, rfl⟩
      obtain ⟨m, hm⟩ : ∃ m, n - k = m + 1 := ⟨n - k - 1, by omega⟩
      have hm2 : n - (k + 1) = m := by omega
      have Ho1 : Hid (tmF 4294967296 off 0 n xs d = tmF 4294967296 off (k + 1) (n - (k + 1)) (ys.set (off + k) (y % 4294967296)) (y / 4294967296)) := by
        show _ = _
        rw [Ho.out, hm, hm2]
        exact tmF_succ 4294967296 off k m ys carry y (by rw [egd]; exact hy)
      have hy3 : y < 42949672960 := by omega
      have hyi : (carry : Int) + (x : Int) * 10 = (y : Int) := by omega
      have hwy : IntKind.u64.wrap (y : Int) = (y : Int) := by rw [IntKind.wrap_u64]; omega
      have hw32 : IntKind.u32.wrap (y : Int) = ((y % 4294967296 : Nat) : Int) := by rw [IntKind.wrap_u32]; omega
      clear Ho egd hy hxj hm hm2
      go_wp2
      go_roundw
      case rel =>
        have e1 : (y : Int) % 4294967296 = ((y % 4294967296 : Nat) : Int) := by omega
        have e2 : (y : Int) / 4294967296 = ((y / 4294967296 : Nat) : Int) := by omega
        rw [e1, e2]
        exact ⟨k + 1, y / 4294967296, ys.set (off + k) (y % 4294967296), rfl, by go_num, by omega, by omega, Ho1, Hx.out.set _ _, by rw [List.length_set]; exact hy1, by rw [List.length_set]; exact hy2, smallL_set Hs.out _ _ (by omega), Hb.out.set _ _⟩
      case measure => simp [intOf]; omega
    · obtain rfl : k = n := by omega
      have Hr : Hid (tmF 4294967296 off 0 k xs d = (ys, carry)) := by
        show _ = _
        rw [Ho.out, Nat.sub_self]; rfl
      have hw : IntKind.u32.wrap (carry : Int) = (carry : Int) := by rw [IntKind.wrap_u32]; omega
      clear Ho
      go_wp2
      go_ret
      rw [Hr.out]
      exact ⟨rfl, Hx.out, Hb.out⟩

end Go.Proofs.Ytgkbbcoagnilgaa
