import Derived.Test.YtmngdaolgdhgmaaGreatDoorCH
namespace Go.Proofs.YtmngdaolgdhgmaaGreatDoor
open Go.RowKit

set_option maxRecDepth 100000

set_option maxHeartbeats 1000000 in
theorem sameNat_nil (a1 a2 : Option Addr) (c1 c2 : Nat) (w : World) : Calls Tryz.prog 11 #[.slice a1 0 c1, .slice a2 0 c2] w fun e w' => e = .returned (.bool true) ∧ ∃ q, w' = w.drewN q := by
  go_enter Tryz.func11, Tryz.ntmps11
  go_wp2
  go_loop [5] (fun s => s = .int .i64 0) (fun _ => 0)
  case atStart => rfl
  case round =>
    subst hrel
    go_wp2
    go_ret
    exact ⟨rfl, 0, rfl⟩

set_option maxHeartbeats 1000000 in
theorem sameNat_all (a1 a2 : Option Addr) (c1 c2 n : Nat) (xs : List Nat) (w : World) (hr1 : Rn w a1 xs) (hr2 : Rn w a2 xs) (hl : xs.length = n) (hm : n ≤ 1000000000) :
    Calls Tryz.prog 11 #[.slice a1 n c1, .slice a2 n c2] w fun e w' => e = .returned (.bool true) ∧ ∃ q, w' = w.drewN q := by
  rcases Nat.eq_zero_or_pos n with h0 | h0
  · subst h0; exact sameNat_nil a1 a2 c1 c2 w
  · obtain ⟨b1, o1, rfl, _, hc1⟩ := hr1.cell (by omega)
    obtain ⟨b2, o2, rfl, _, hc2⟩ := hr2.cell (by omega)
    have H1 : Hid (∀ j, j < n → w.cell? ⟨b1, o1 + j, none⟩ = some (.int .u32 ((xs.getD j 0 : Nat) : Int))) := fun j hj => hc1 j (by omega)
    have H2 : Hid (∀ j, j < n → w.cell? ⟨b2, o2 + j, none⟩ = some (.int .u32 ((xs.getD j 0 : Nat) : Int))) := fun j hj => hc2 j (by omega)
    clear hr1 hr2 hc1 hc2 hl h0
    go_enter Tryz.func11, Tryz.ntmps11
    go_wp2
    go_loopw [5] (fun s wr => ∃ k q : Nat, k ≤ n ∧ s = .int .i64 (k : Int) ∧ wr = w.drewN q) (fun s _ => n - (intOf s).toNat)
    case atStart => exact ⟨0, 0, Nat.zero_le _, rfl, rfl⟩
    case round =>
      obtain ⟨k, q, hk, rfl, rfl⟩ := hrel
      by_cases hlt : k < n
      · have k1 := H1.out k hlt
        have k2 := H2.out k hlt
        generalize xs.getD k 0 = x at k1 k2
        have hd : ((x : Int) != (x : Int)) = false := by simp
        have hlI : (k : Int) < (n : Int) := by omega
        go_wp2
        go_quiet (fail)
        go_wp2
        go_roundw
        case rel => exact ⟨k + 1, _, by omega, by go_num, rfl⟩
        case measure => simp [intOf]; omega
      · have hlI : ¬ (k : Int) < (n : Int) := by omega
        go_wp2
        go_ret
        exact ⟨rfl, q, rfl⟩

/-- The same limbs, of one number. -/
theorem sameNat_v (v u : Value) (V : Nat) (w : World) (hv : Nm w v (dg Bs V)) (hu : Nm w u (dg Bs V)) (hl : (dg Bs V).length ≤ 3000000) :
    Calls Tryz.prog 11 #[v, u] w fun e w' => e = .returned (.bool true) ∧ ∃ q, w' = w.drewN q := by
  obtain ⟨a1, c1, rfl, _, r1, _⟩ := hv
  obtain ⟨a2, c2, rfl, _, r2, _⟩ := hu
  exact sameNat_all a1 a2 c1 c2 _ _ w r1 r2 rfl (by omega)
theorem Mk.nm {w : World} {b : Nat} {v : Value} {V k : Nat} (h : Mk w b v V k) : Nm w v (dg Bs V) := h.1.nm (dg_sm Bs_two V)
set_option maxHeartbeats 4000000 in
theorem same_v (x y u v : Value) (X Y : Nat) (inf : Bool) (w : World) (hx : Nm w x (dg Bs X)) (hy : Nm w y (dg Bs Y)) (hu : Nm w u (dg Bs X)) (hv : Nm w v (dg Bs Y)) (lX : (dg Bs X).length ≤ 3000000) (lY : (dg Bs Y).length ≤ 3000000) :
    Calls Tryz.prog 14 #[.agg #[x, y, .bool inf], .agg #[u, v, .bool inf]] w fun e w' => e = .returned (.bool true) ∧ Below w.heap.size w w' := by
  have sx : Sl3 x := by obtain ⟨a, c, e, _⟩ := hx; exact ⟨_, _, _, e⟩
  have sy : Sl3 y := by obtain ⟨a, c, e, _⟩ := hy; exact ⟨_, _, _, e⟩
  have su : Sl3 u := by obtain ⟨a, c, e, _⟩ := hu; exact ⟨_, _, _, e⟩
  have sv : Sl3 v := by obtain ⟨a, c, e, _⟩ := hv; exact ⟨_, _, _, e⟩
  obtain ⟨x0, x1, x2, rfl⟩ := sx
  obtain ⟨y0, y1, y2, rfl⟩ := sy
  obtain ⟨u0, u1, u2, rfl⟩ := su
  obtain ⟨v0, v1, v2, rfl⟩ := sv
  have hbl := (((Fm.nil (w := w) (A := []) ar_nil).push (by simp) 26 [.slice x0 x1 x2, .slice y0 y1 y2, .bool inf]).push (by simp) 26 [.slice u0 u1 u2, .slice v0 v1 v2, .bool inf]).bel
  have C1 := sameNat_v _ _ X _ (hx.below hbl (Nat.le_refl _)) (hu.below hbl (Nat.le_refl _)) lX
  have C2 := fun q => sameNat_v _ _ Y _ ((hy.below hbl (Nat.le_refl _)).drewN q) ((hv.below hbl (Nat.le_refl _)).drewN q) lY
  have HB : Hid (Below w.heap.size w _) := hbl
  have hbi : (inf == inf) = true := by simp
  clear hx hy hu hv hbl
  go_enter Tryz.func14, Tryz.ntmps14
  go_wp2_with fail
  refine C1.mono ?_
  rintro e w1 ⟨rfl, q, rfl⟩
  clear C1
  go_wp2_with fail
  refine (C2 q).mono ?_
  rintro e w1 ⟨rfl, r, rfl⟩
  clear C2
  go_wp2
  go_ret
  exact ⟨rfl, below_drewN HB.out _⟩
end Go.Proofs.YtmngdaolgdhgmaaGreatDoor
