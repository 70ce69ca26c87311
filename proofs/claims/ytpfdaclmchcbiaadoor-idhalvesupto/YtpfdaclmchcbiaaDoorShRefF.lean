import Derived.Test.YtpfdaclmchcbiaaDoorShRefA
namespace Go.Proofs.YtpfdaclmchcbiaaDoor.Sha
open Go.RowKit
set_option maxRecDepth 100000

/-- How many noughts come behind the bit. -/
def zR (K n : Nat) : Nat := (2 * K - 9 - n % K) % K
/-- A text with the filling behind it. -/
def padR (K : Nat) (m : List UInt8) : List UInt8 := m ++ [128] ++ List.replicate (zR K m.length) 0 ++ tobe 8 (m.length * 8)

theorem own_len {w : World} {base n : Nat} {v : Value} {l : List UInt8} (h : w.ownsRow base 5 1 v n (l.map B)) : ∃ a c, v = .slice a n c := by
  obtain ⟨a, c, e, _⟩ := own_rd h
  exact ⟨a, c, e⟩

theorem tobe_cons (k N : Nat) (h : k < 8) : (tobe 8 N).take (k + 1) = (tobe 8 N).take k ++ [UInt8.ofNat (N / 256 ^ (7 - k) % 256)] := by
  rw [List.take_succ_eq_append_getElem (by rw [tobe_length]; exact h)]
  simp [tobe]

set_option maxRecDepth 100000 in
set_option maxHeartbeats 1000000 in
theorem rfilled_64 (a : Option Addr) (c B0 : Nat) (m : List UInt8) (w : World) (hB : B0 = w.heap.size) (hrd : Rd w a m) (ha : a = none → m.length = 0 ∧ c = 0) (hm : m.length ≤ 100000000) :
    Calls Tryd.prog 26 #[.slice a m.length c, .int .i64 64] w fun e w' => ∃ v, e = .returned v ∧ w'.ownsRow B0 5 1 v (padR 64 m).length ((padR 64 m).map B) ∧ Below B0 w w' := by
  obtain ⟨i0, hi, hz0, hz1, hz2⟩ := info_parts infoB
  have HR : Hid (Rd w a m) := hrd
  clear hrd
  go_enter Tryd.func26, Tryd.ntmps26
  go_wp2_with (first
    | (at_builtin; refine append_rd rfl (.tmp 8) (.tmp 9) rfl B0 i0 hi hz0 hz1 hz2 _ 0 [] rfl (World.ownsRow_nil _ _ _ _) a m.length c m rfl rfl ha HR.out (by omega) (by omega) ?_; intro v1 w1 hown1 hgrow1)
    | (at_builtin; refine append_rd rfl (.tmp 11) (.tmp 12) rfl B0 i0 hi hz0 hz1 hz2 _ (0 + m.length) ([] ++ m) rfl (hown1.alloc _) (some ⟨w1.heap.size, 0, none⟩) 1 1 [128] rfl rfl (fun e => by cases e) (.inr ⟨w1.heap.size, 0, rfl, by simp, fun j hj => by (have : j = 0 := by simpa using hj); subst this; simp [B]⟩) (by omega) (by (have := hgrow1.size); simp; omega) ?_; intro v5 w5 hown5 hgrow5))
  have HB1 : Hid (Below B0 w w1) := (Below.refl _ _).grown hgrow1 (by omega) (fun k h => by cases h)
  have hs1 : B0 ≤ w1.heap.size := by have := HB1.out.size; omega
  have HO2 : Hid (w5.ownsRow B0 5 1 v5 (m.length + 1 + 0) ((m ++ [128] ++ List.replicate 0 0).map B)) := by
    show World.ownsRow _ _ _ _ _ _ _
    simpa using hown5
  have HB2 : Hid (Below B0 w w5) := HB1.out.trans ((((alloc_below w1 _).mono hs1)).grown hgrow5 (by rw [alloc_size]; omega) (own_block hown1))
  clear hown5 hgrow5 hown1 hgrow1 HB1
  obtain ⟨Zn, hZn⟩ : ∃ Zn, Zn = zR 64 m.length := ⟨_, rfl⟩
  have hzr : (m.length + 1 + Zn) % 64 = 64 - 8 ∧ ∀ k, k < Zn → (m.length + 1 + k) % 64 ≠ 64 - 8 := by
    unfold zR at hZn
    constructor
    · omega
    · intro k hk
      omega
  have hz2' : Zn < 64 := by rw [hZn]; unfold zR; omega
  have HZn : Hid (True → Zn = zR 64 m.length) := fun _ => hZn
  have HZ : Hid (∀ k, k < Zn → (m.length + 1 + k) % 64 ≠ 64 - 8) := hzr.2
  have hz1' := hzr.1
  clear hZn hzr HR
  go_loopw [5] (fun s ws => ∃ k : Nat, k ≤ Zn ∧ Hid (ws.ownsRow B0 5 1 s (m.length + 1 + k) ((m ++ [128] ++ List.replicate k 0).map B)) ∧ Hid (Below B0 w ws)) (fun s _ => Zn + m.length + 1 - (match s with | .slice _ n _ => n | _ => 0))
  case atStart => exact ⟨0, by omega, HO2, HB2⟩
  case round =>
    clear HO2 HB2
    obtain ⟨k, hk, hown, hbel⟩ := hrel
    obtain ⟨av, cv, rfl⟩ := own_len hown.out
    by_cases hlt : k < Zn
    · have hne := HZ.out k hlt
      have hneI : (Int.tmod ((m.length + 1 + k : Nat) : Int) 64 != (64 - 8 : Int)) = true := by
        rw [Int.tmod_eq_emod_of_nonneg (by omega)]
        simp
        omega
      have hs2 : B0 ≤ wr.heap.size := by have := hbel.out.size; omega
      go_wp2_with (at_builtin; refine append_rd rfl (.tmp 21) (.tmp 22) rfl B0 i0 hi hz0 hz1 hz2 _ (m.length + 1 + k) (m ++ [128] ++ List.replicate k 0) rfl (hown.out.alloc _) (some ⟨wr.heap.size, 0, none⟩) 1 1 [0] rfl rfl (fun e => by cases e) (.inr ⟨wr.heap.size, 0, rfl, by simp, fun j hj => by (have : j = 0 := by simpa using hj); subst this; simp [B]⟩) (by omega) (by simp; omega) ?_; intro v5 w5 hown5 hgrow5)
      have HO3 : Hid (w5.ownsRow B0 5 1 v5 (m.length + 1 + (k + 1)) ((m ++ [128] ++ List.replicate (k + 1) 0).map B)) := by
        rw [List.replicate_succ', ← List.append_assoc]
        exact hown5
      have HB3 : Hid (Below B0 w w5) := hbel.out.trans ((((alloc_below wr _).mono hs2)).grown hgrow5 (by rw [alloc_size]; omega) (own_block hown.out))
      clear hown5 hgrow5
      obtain ⟨a5, c5, rfl⟩ := own_len HO3.out
      go_wp2
      refine ⟨⟨k + 1, by omega, HO3, HB3⟩, ?_⟩
      show Zn + m.length + 1 - (m.length + 1 + (k + 1)) < Zn + m.length + 1 - (m.length + 1 + k)
      omega
    · obtain rfl : k = Zn := by omega
      have heI : (Int.tmod ((m.length + 1 + k : Nat) : Int) 64 != (64 - 8 : Int)) = false := by
        rw [Int.tmod_eq_emod_of_nonneg (by omega)]
        simp
        omega
      have hwm : IntKind.u64.wrap ((m.length : Int) * 8) = ((m.length * 8 : Nat) : Int) := by rw [IntKind.wrap_u64]; omega
      have HO4 : Hid (wr.ownsRow B0 5 1 (.slice av (m.length + 1 + k) cv) (m.length + 1 + k + 0) ((m ++ [128] ++ List.replicate k 0 ++ (tobe 8 (m.length * 8)).take 0).map B)) := by
        show World.ownsRow _ _ _ _ _ _ _
        simpa using hown.out
      obtain ⟨Y, hY⟩ : ∃ Y, Y = m ++ [128] ++ List.replicate k 0 := ⟨_, rfl⟩
      have hYl : Y.length = m.length + 1 + k := by rw [hY]; simp; omega
      have HY : Hid (True → padR 64 m = Y ++ tobe 8 (m.length * 8)) := fun _ => by unfold padR; rw [← HZn.out trivial, hY]
      rw [← hY] at HO4
      obtain ⟨N, hN⟩ : ∃ N, N = m.length * 8 := ⟨_, rfl⟩
      have hN2 : N < 18446744073709551616 := by omega
      have hNI : (m.length : Int) * 8 = (N : Int) := by omega
      have HN : Hid (True → N = m.length * 8) := fun _ => hN
      rw [← hN] at HO4 hwm HY
      clear hY hN hown
      rename World => w6
      go_wp2
      clear heI hz1'
      generalize ((m.length : Int) + 1 + (k : Int)) % 64 = q17
      generalize (q17 != (56 : Int)) = b20
      go_loopw [5, 7] (fun s s7 ws => ∃ k2 : Nat, k2 ≤ 8 ∧ s7 = .int .i64 (7 - (k2 : Int)) ∧ Hid (ws.ownsRow B0 5 1 s (m.length + 1 + k + k2) ((Y ++ (tobe 8 N).take k2).map B)) ∧ Hid (Below B0 w ws)) (fun _ s _ => ((intOf s) + 1).toNat)
      case atStart => exact ⟨0, by omega, rfl, HO4, hbel⟩
      case round =>
        clear HO4 hbel hwm
        obtain ⟨k2, hk2, rfl, hown, hbel⟩ := hrel
        obtain ⟨av, cv, rfl⟩ := own_len hown.out
        by_cases hlt2 : k2 < 8
        · obtain ⟨j, hj⟩ : ∃ j : Nat, (7 : Int) - (k2 : Int) = (j : Int) := ⟨7 - k2, by omega⟩
          rw [hj]
          have hj2 : j ≤ 7 := by omega
          have hand : bits .and .u64 ((N : Int) / 2 ^ (8 * j)) 255 = ((N / 256 ^ j % 256 : Nat) : Int) := by
            have e1 : (N : Int) / 2 ^ (8 * j) = ((N / 256 ^ j : Nat) : Int) := by
              have : (2 : Int) ^ (8 * j) = ((256 ^ j : Nat) : Int) := by rw [Int.pow_mul]; simp
              rw [this]; rfl
            rw [e1]
            have e2 : (255 : Int) = ((255 : Nat) : Int) := rfl
            rw [e2, u64_and_nat _ 255 (Nat.lt_of_le_of_lt (Nat.div_le_self _ _) hN2) (by omega), nat_mask8]
          have hbt : N / 256 ^ j % 256 < 256 := Nat.mod_lt _ (by omega)
          have HT8 : Hid (True → (tobe 8 N).take (k2 + 1) = (tobe 8 N).take k2 ++ [UInt8.ofNat (N / 256 ^ j % 256)]) := fun _ => by
            rw [tobe_cons k2 N hlt2, show 7 - k2 = j by omega]
          have hwj : IntKind.u64.wrap (8 * (j : Int)) = 8 * (j : Int) := by rw [IntKind.wrap_u64]; omega
          generalize N / 256 ^ j % 256 = y at *
          have hs2 : B0 ≤ wr.heap.size := by have := hbel.out.size; omega
          go_wp2_with (at_builtin; refine append_rd rfl (.tmp 32) (.tmp 40) rfl B0 i0 hi hz0 hz1 hz2 _ (m.length + 1 + k + k2) (Y ++ (tobe 8 N).take k2) rfl (hown.out.alloc _) (some ⟨wr.heap.size, 0, none⟩) 1 1 [UInt8.ofNat y] rfl rfl (fun e => by cases e) (.inr ⟨wr.heap.size, 0, rfl, by simp, fun j hj => by (have : j = 0 := by simpa using hj); subst this; simp [B]; omega⟩) (by omega) (by simp; omega) ?_; intro v5 w5 hown5 hgrow5)
          have HO5 : Hid (w5.ownsRow B0 5 1 v5 (m.length + 1 + k + (k2 + 1)) ((Y ++ (tobe 8 N).take (k2 + 1)).map B)) := by
            rw [HT8.out trivial, ← List.append_assoc]
            exact hown5
          have HB5 : Hid (Below B0 w w5) := hbel.out.trans ((((alloc_below wr _).mono hs2)).grown hgrow5 (by rw [alloc_size]; omega) (own_block hown.out))
          clear hown5 hgrow5 hand hwj HT8
          go_wp2
          go_roundw
          case rel =>
            refine ⟨k2 + 1, by omega, ?_, HO5, HB5⟩
            congr 1
            omega
          case measure => first | (simp [intOf]; done) | (simp [intOf]; omega)
        · obtain rfl : k2 = 8 := by omega
          go_wp2
          go_ret
          have h1 := hown.out
          rw [List.take_of_length_le (by rw [tobe_length]; omega), HN.out trivial, ← HN.out trivial, ← HY.out trivial] at h1
          have hlen : (padR 64 m).length = m.length + 1 + k + 8 := by rw [HY.out trivial, List.length_append, hYl, tobe_length]
          refine ⟨_, rfl, ?_, hbel.out⟩
          rw [hlen]
          exact h1

set_option maxRecDepth 100000 in
set_option maxHeartbeats 1000000 in
theorem rfilled_128 (a : Option Addr) (c B0 : Nat) (m : List UInt8) (w : World) (hB : B0 = w.heap.size) (hrd : Rd w a m) (ha : a = none → m.length = 0 ∧ c = 0) (hm : m.length ≤ 100000000) :
    Calls Tryd.prog 26 #[.slice a m.length c, .int .i64 128] w fun e w' => ∃ v, e = .returned v ∧ w'.ownsRow B0 5 1 v (padR 128 m).length ((padR 128 m).map B) ∧ Below B0 w w' := by
  obtain ⟨i0, hi, hz0, hz1, hz2⟩ := info_parts infoB
  have HR : Hid (Rd w a m) := hrd
  clear hrd
  go_enter Tryd.func26, Tryd.ntmps26
  go_wp2_with (first
    | (at_builtin; refine append_rd rfl (.tmp 8) (.tmp 9) rfl B0 i0 hi hz0 hz1 hz2 _ 0 [] rfl (World.ownsRow_nil _ _ _ _) a m.length c m rfl rfl ha HR.out (by omega) (by omega) ?_; intro v1 w1 hown1 hgrow1)
    | (at_builtin; refine append_rd rfl (.tmp 11) (.tmp 12) rfl B0 i0 hi hz0 hz1 hz2 _ (0 + m.length) ([] ++ m) rfl (hown1.alloc _) (some ⟨w1.heap.size, 0, none⟩) 1 1 [128] rfl rfl (fun e => by cases e) (.inr ⟨w1.heap.size, 0, rfl, by simp, fun j hj => by (have : j = 0 := by simpa using hj); subst this; simp [B]⟩) (by omega) (by (have := hgrow1.size); simp; omega) ?_; intro v5 w5 hown5 hgrow5))
  have HB1 : Hid (Below B0 w w1) := (Below.refl _ _).grown hgrow1 (by omega) (fun k h => by cases h)
  have hs1 : B0 ≤ w1.heap.size := by have := HB1.out.size; omega
  have HO2 : Hid (w5.ownsRow B0 5 1 v5 (m.length + 1 + 0) ((m ++ [128] ++ List.replicate 0 0).map B)) := by
    show World.ownsRow _ _ _ _ _ _ _
    simpa using hown5
  have HB2 : Hid (Below B0 w w5) := HB1.out.trans ((((alloc_below w1 _).mono hs1)).grown hgrow5 (by rw [alloc_size]; omega) (own_block hown1))
  clear hown5 hgrow5 hown1 hgrow1 HB1
  obtain ⟨Zn, hZn⟩ : ∃ Zn, Zn = zR 128 m.length := ⟨_, rfl⟩
  have hzr : (m.length + 1 + Zn) % 128 = 128 - 8 ∧ ∀ k, k < Zn → (m.length + 1 + k) % 128 ≠ 128 - 8 := by
    unfold zR at hZn
    constructor
    · omega
    · intro k hk
      omega
  have hz2' : Zn < 128 := by rw [hZn]; unfold zR; omega
  have HZn : Hid (True → Zn = zR 128 m.length) := fun _ => hZn
  have HZ : Hid (∀ k, k < Zn → (m.length + 1 + k) % 128 ≠ 128 - 8) := hzr.2
  have hz1' := hzr.1
  clear hZn hzr HR
  go_loopw [5] (fun s ws => ∃ k : Nat, k ≤ Zn ∧ Hid (ws.ownsRow B0 5 1 s (m.length + 1 + k) ((m ++ [128] ++ List.replicate k 0).map B)) ∧ Hid (Below B0 w ws)) (fun s _ => Zn + m.length + 1 - (match s with | .slice _ n _ => n | _ => 0))
  case atStart => exact ⟨0, by omega, HO2, HB2⟩
  case round =>
    clear HO2 HB2
    obtain ⟨k, hk, hown, hbel⟩ := hrel
    obtain ⟨av, cv, rfl⟩ := own_len hown.out
    by_cases hlt : k < Zn
    · have hne := HZ.out k hlt
      have hneI : (Int.tmod ((m.length + 1 + k : Nat) : Int) 128 != (128 - 8 : Int)) = true := by
        rw [Int.tmod_eq_emod_of_nonneg (by omega)]
        simp
        omega
      have hs2 : B0 ≤ wr.heap.size := by have := hbel.out.size; omega
      go_wp2_with (at_builtin; refine append_rd rfl (.tmp 21) (.tmp 22) rfl B0 i0 hi hz0 hz1 hz2 _ (m.length + 1 + k) (m ++ [128] ++ List.replicate k 0) rfl (hown.out.alloc _) (some ⟨wr.heap.size, 0, none⟩) 1 1 [0] rfl rfl (fun e => by cases e) (.inr ⟨wr.heap.size, 0, rfl, by simp, fun j hj => by (have : j = 0 := by simpa using hj); subst this; simp [B]⟩) (by omega) (by simp; omega) ?_; intro v5 w5 hown5 hgrow5)
      have HO3 : Hid (w5.ownsRow B0 5 1 v5 (m.length + 1 + (k + 1)) ((m ++ [128] ++ List.replicate (k + 1) 0).map B)) := by
        rw [List.replicate_succ', ← List.append_assoc]
        exact hown5
      have HB3 : Hid (Below B0 w w5) := hbel.out.trans ((((alloc_below wr _).mono hs2)).grown hgrow5 (by rw [alloc_size]; omega) (own_block hown.out))
      clear hown5 hgrow5
      obtain ⟨a5, c5, rfl⟩ := own_len HO3.out
      go_wp2
      refine ⟨⟨k + 1, by omega, HO3, HB3⟩, ?_⟩
      show Zn + m.length + 1 - (m.length + 1 + (k + 1)) < Zn + m.length + 1 - (m.length + 1 + k)
      omega
    · obtain rfl : k = Zn := by omega
      have heI : (Int.tmod ((m.length + 1 + k : Nat) : Int) 128 != (128 - 8 : Int)) = false := by
        rw [Int.tmod_eq_emod_of_nonneg (by omega)]
        simp
        omega
      have hwm : IntKind.u64.wrap ((m.length : Int) * 8) = ((m.length * 8 : Nat) : Int) := by rw [IntKind.wrap_u64]; omega
      have HO4 : Hid (wr.ownsRow B0 5 1 (.slice av (m.length + 1 + k) cv) (m.length + 1 + k + 0) ((m ++ [128] ++ List.replicate k 0 ++ (tobe 8 (m.length * 8)).take 0).map B)) := by
        show World.ownsRow _ _ _ _ _ _ _
        simpa using hown.out
      obtain ⟨Y, hY⟩ : ∃ Y, Y = m ++ [128] ++ List.replicate k 0 := ⟨_, rfl⟩
      have hYl : Y.length = m.length + 1 + k := by rw [hY]; simp; omega
      have HY : Hid (True → padR 128 m = Y ++ tobe 8 (m.length * 8)) := fun _ => by unfold padR; rw [← HZn.out trivial, hY]
      rw [← hY] at HO4
      obtain ⟨N, hN⟩ : ∃ N, N = m.length * 8 := ⟨_, rfl⟩
      have hN2 : N < 18446744073709551616 := by omega
      have hNI : (m.length : Int) * 8 = (N : Int) := by omega
      have HN : Hid (True → N = m.length * 8) := fun _ => hN
      rw [← hN] at HO4 hwm HY
      clear hY hN hown
      rename World => w6
      go_wp2
      clear heI hz1'
      generalize ((m.length : Int) + 1 + (k : Int)) % 128 = q17
      generalize (q17 != (120 : Int)) = b20
      go_loopw [5, 7] (fun s s7 ws => ∃ k2 : Nat, k2 ≤ 8 ∧ s7 = .int .i64 (7 - (k2 : Int)) ∧ Hid (ws.ownsRow B0 5 1 s (m.length + 1 + k + k2) ((Y ++ (tobe 8 N).take k2).map B)) ∧ Hid (Below B0 w ws)) (fun _ s _ => ((intOf s) + 1).toNat)
      case atStart => exact ⟨0, by omega, rfl, HO4, hbel⟩
      case round =>
        clear HO4 hbel hwm
        obtain ⟨k2, hk2, rfl, hown, hbel⟩ := hrel
        obtain ⟨av, cv, rfl⟩ := own_len hown.out
        by_cases hlt2 : k2 < 8
        · obtain ⟨j, hj⟩ : ∃ j : Nat, (7 : Int) - (k2 : Int) = (j : Int) := ⟨7 - k2, by omega⟩
          rw [hj]
          have hj2 : j ≤ 7 := by omega
          have hand : bits .and .u64 ((N : Int) / 2 ^ (8 * j)) 255 = ((N / 256 ^ j % 256 : Nat) : Int) := by
            have e1 : (N : Int) / 2 ^ (8 * j) = ((N / 256 ^ j : Nat) : Int) := by
              have : (2 : Int) ^ (8 * j) = ((256 ^ j : Nat) : Int) := by rw [Int.pow_mul]; simp
              rw [this]; rfl
            rw [e1]
            have e2 : (255 : Int) = ((255 : Nat) : Int) := rfl
            rw [e2, u64_and_nat _ 255 (Nat.lt_of_le_of_lt (Nat.div_le_self _ _) hN2) (by omega), nat_mask8]
          have hbt : N / 256 ^ j % 256 < 256 := Nat.mod_lt _ (by omega)
          have HT8 : Hid (True → (tobe 8 N).take (k2 + 1) = (tobe 8 N).take k2 ++ [UInt8.ofNat (N / 256 ^ j % 256)]) := fun _ => by
            rw [tobe_cons k2 N hlt2, show 7 - k2 = j by omega]
          have hwj : IntKind.u64.wrap (8 * (j : Int)) = 8 * (j : Int) := by rw [IntKind.wrap_u64]; omega
          generalize N / 256 ^ j % 256 = y at *
          have hs2 : B0 ≤ wr.heap.size := by have := hbel.out.size; omega
          go_wp2_with (at_builtin; refine append_rd rfl (.tmp 32) (.tmp 40) rfl B0 i0 hi hz0 hz1 hz2 _ (m.length + 1 + k + k2) (Y ++ (tobe 8 N).take k2) rfl (hown.out.alloc _) (some ⟨wr.heap.size, 0, none⟩) 1 1 [UInt8.ofNat y] rfl rfl (fun e => by cases e) (.inr ⟨wr.heap.size, 0, rfl, by simp, fun j hj => by (have : j = 0 := by simpa using hj); subst this; simp [B]; omega⟩) (by omega) (by simp; omega) ?_; intro v5 w5 hown5 hgrow5)
          have HO5 : Hid (w5.ownsRow B0 5 1 v5 (m.length + 1 + k + (k2 + 1)) ((Y ++ (tobe 8 N).take (k2 + 1)).map B)) := by
            rw [HT8.out trivial, ← List.append_assoc]
            exact hown5
          have HB5 : Hid (Below B0 w w5) := hbel.out.trans ((((alloc_below wr _).mono hs2)).grown hgrow5 (by rw [alloc_size]; omega) (own_block hown.out))
          clear hown5 hgrow5 hand hwj HT8
          go_wp2
          go_roundw
          case rel =>
            refine ⟨k2 + 1, by omega, ?_, HO5, HB5⟩
            congr 1
            omega
          case measure => first | (simp [intOf]; done) | (simp [intOf]; omega)
        · obtain rfl : k2 = 8 := by omega
          go_wp2
          go_ret
          have h1 := hown.out
          rw [List.take_of_length_le (by rw [tobe_length]; omega), HN.out trivial, ← HN.out trivial, ← HY.out trivial] at h1
          have hlen : (padR 128 m).length = m.length + 1 + k + 8 := by rw [HY.out trivial, List.length_append, hYl, tobe_length]
          refine ⟨_, rfl, ?_, hbel.out⟩
          rw [hlen]
          exact h1

end Go.Proofs.YtpfdaclmchcbiaaDoor.Sha