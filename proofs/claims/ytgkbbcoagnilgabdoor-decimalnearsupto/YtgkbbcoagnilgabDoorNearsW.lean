import Derived.Test.YtgkbbcoagnilgabDoorMidW
namespace Go.Proofs.YtgkbbcoagnilgabDoor
open Go.RowKit

/-- What stands while Nearest halves: the read number and its digits. -/
structure NSt (w : World) (nb : Nat) (m p pl : Bool) (zx xx t : List UInt8) (ox : Int) (a1 a2 : Option Addr) (c1 c2 : Nat) (W : World) : Prop where
  box : RBox W nb m (.slice a1 zx.length c1) ox p (.slice a2 xx.length c2) pl t
  r1 : RdD W a1 zx
  r2 : RdD W a2 xx
  bel : Below w.heap.size w W

theorem NSt.drew {w W : World} {nb : Nat} {m p pl : Bool} {zx xx t : List UInt8} {ox : Int} {a1 a2 : Option Addr} {c1 c2 : Nat} (h : NSt w nb m p pl zx xx t ox a1 a2 c1 c2 W) : NSt w nb m p pl zx xx t ox a1 a2 c1 c2 W.drew :=
  ⟨h.box.drew, h.r1, h.r2, h.bel.drew⟩

theorem NSt.below {w W W' : World} {nb : Nat} {m p pl : Bool} {zx xx t : List UInt8} {ox : Int} {a1 a2 : Option Addr} {c1 c2 : Nat} (h : NSt w nb m p pl zx xx t ox a1 a2 c1 c2 W) (hB : Below W.heap.size W W') : NSt w nb m p pl zx xx t ox a1 a2 c1 c2 W' :=
  ⟨h.box.below hB h.box.lt, h.r1.below hB, h.r2.below hB, Below.trans h.bel (Below.mono hB h.bel.size)⟩

theorem RdD.drew1 {W : World} {ao : Option Addr} {xs : List UInt8} (h : RdD W ao xs) : RdD W.drew ao xs := h

def SzQ (b0 mid S : Int) : Prop := (S < 0 ∨ S = 0 ∧ mid % 2 = 0) ↔ b0 ≤ mid

set_option maxHeartbeats 4000000 in
set_option maxRecDepth 4000 in
theorem rnearest_go (l : List UInt8) (m p pl : Bool) (zx xx t : List UInt8) (ox b0 I R : Int) (w : World) (hI1 : I ≤ 2139095040) (hI2 : 2139095040 ≤ I) (hb1 : 0 ≤ b0) (hb2 : b0 ≤ I) (HRv : Hid (R = if m then b0 + 2147483648 else b0))
    (Ha : Hid (∀ w : World, Calls Tryd.prog 23 #[.string ⟨l.toArray⟩] w fun e w' => ∃ a1 c1 a2 c2, e = .returned (.tuple #[.agg #[.bool m, .slice a1 zx.length c1, .int .i64 ox, .bool p, .slice a2 xx.length c2, .bool pl, .string ⟨t.toArray⟩], .bool true]) ∧ RdD w' a1 zx ∧ RdD w' a2 xx ∧ Below w.heap.size w w'))
    (Hm : Hid (∀ (M : Int) (W : World), 0 ≤ M → M < I → Calls Tryd.prog 25 #[.int .u32 M] W fun e w' => ∃ (z : List UInt8) (O : Int) (g c : Nat), e = .returned (.agg #[.bool false, .slice (some ⟨g, 0, none⟩) z.length c, .int .i64 O, .bool false, .slice none 0 0, .bool false, .string ⟨#[]⟩]) ∧ Hid (MidD M.toNat z O) ∧ Hid (RdD w' (some ⟨g, 0, none⟩) z) ∧ Hid (Below W.heap.size W w')))
    (Hs : Hid (∀ (M : Int) (z : List UInt8) (O : Int) (g c : Nat) (a1 a2 : Option Addr) (c1 c2 : Nat) (W : World), 0 ≤ M → M < I → MidD M.toNat z O → RdD W a1 zx → RdD W a2 xx → RdD W (some ⟨g, 0, none⟩) z →
      Calls Tryd.prog 24 #[.agg #[.bool m, .slice a1 zx.length c1, .int .i64 ox, .bool p, .slice a2 xx.length c2, .bool pl, .string ⟨t.toArray⟩], .agg #[.bool false, .slice (some ⟨g, 0, none⟩) z.length c, .int .i64 O, .bool false, .slice none 0 0, .bool false, .string ⟨#[]⟩]] W fun e w' => ∃ S : Int, e = .returned (.int .i64 S) ∧ -1 ≤ S ∧ S ≤ 1 ∧ Hid (SzQ b0 M S) ∧ Hid (Below W.heap.size W w'))) :
    Calls Tryd.prog 13 #[.string ⟨l.toArray⟩] w fun e w' => e = .returned (.tuple #[.int .u32 R, .int .i64 0]) ∧ Below w.heap.size w w' := by
  go_enter Tryd.func13, Tryd.ntmps13
  go_wp2_with fail
  refine (Ha.out _).mono ?_
  rintro e w2 ⟨a1, c1, a2, c2, rfl, r1, r2, hB2⟩
  obtain ⟨nb, hnb⟩ : ∃ nb, nb = w2.heap.size := ⟨_, rfl⟩
  have hnw : w.heap.size ≤ nb := by rw [hnb]; exact hB2.size
  obtain ⟨W3, hW3⟩ : ∃ W3, W3 = w2.alloc (boxR m a1 zx.length c1 ox p a2 xx.length c2 pl t) := ⟨_, rfl⟩
  have HN0 : Hid (NSt w nb m p pl zx xx t ox a1 a2 c1 c2 W3) := by
    show NSt _ _ _ _ _ _ _ _ _ _ _ _ _ _
    have bx : Below w2.heap.size w2 W3 := by rw [hW3]; exact (Below.refl _ _).alloc (Nat.le_refl _) _
    refine ⟨?_, r1.below bx, r2.below bx, Below.trans hB2 (Below.mono bx hB2.size)⟩
    rw [hW3, hnb]
    constructor <;> go_simp
  clear r1 r2 hB2
  go_wp2
  rw [← hW3, ← hnb]
  clear hW3 hnb
  go_loopw [6, 7] (fun s6 s7 wr => ∃ lo hi : Int, s6 = .int .u32 lo ∧ s7 = .int .u32 hi ∧ 0 ≤ lo ∧ lo ≤ b0 ∧ b0 ≤ hi ∧ hi ≤ I ∧ Hid (NSt w nb m p pl zx xx t ox a1 a2 c1 c2 wr)) (fun s6 s7 _ => (intOf s7 - intOf s6).toNat)
  case atStart => exact ⟨0, 2139095040, rfl, rfl, Int.le_refl _, hb1, by omega, by omega, HN0⟩
  case round =>
    obtain ⟨lo, hi, rfl, rfl, hl0, hlb, hbh, hhI, HN⟩ := hrel
    by_cases hgo : lo < hi
    · obtain ⟨D, hD⟩ : ∃ D, D = (hi - lo) / 2 := ⟨_, rfl⟩
      obtain ⟨M, hM⟩ : ∃ M, M = lo + D := ⟨_, rfl⟩
      have k1 : Int.tdiv (hi - lo) 2 = D := by rw [Int.tdiv_eq_ediv_of_nonneg (by omega)]; omega
      have k2 : (hi - lo) / 2 = D := by omega
      have k3 : lo + D = M := hM.symm
      have m0 : 0 ≤ M := by omega
      have m1 : M < hi := by omega
      have m2 : lo ≤ M := by omega
      have m3 : M < I := by omega
      have HmM : Hid (∀ W, Calls Tryd.prog 25 #[.int .u32 M] W fun e w' => ∃ (z : List UInt8) (O : Int) (g c : Nat), e = .returned (.agg #[.bool false, .slice (some ⟨g, 0, none⟩) z.length c, .int .i64 O, .bool false, .slice none 0 0, .bool false, .string ⟨#[]⟩]) ∧ Hid (MidD M.toNat z O) ∧ Hid (RdD w' (some ⟨g, 0, none⟩) z) ∧ Hid (Below W.heap.size W w')) := fun W => Hm.out M W m0 m3
      clear hD hM
      obtain ⟨x0, x1, x2, x3, x4, x5, x6, _, _, _, _, _, _, _, hlt⟩ := HN.out.box
      go_upto_region 8 with fail
      go_cut [9] from 26 to 29 (fun s wx => ∃ S : Int, s = .int .i64 S ∧ -1 ≤ S ∧ S ≤ 1 ∧ Hid (SzQ b0 M S) ∧ Hid (NSt w nb m p pl zx xx t ox a1 a2 c1 c2 wx))
      case first =>
        go_region_with (first
          | (go_at_call 25; refine (HmM.out _).mono ?_; rintro e w4 ⟨z, O, g, c, rfl, Hmd, Hrz, HB4⟩
             have HN4 : Hid (NSt w nb m p pl zx xx t ox a1 a2 c1 c2 w4) := by
               show NSt _ _ _ _ _ _ _ _ _ _ _ _ _ _
               refine NSt.below ?_ HB4.out
               repeat' (first | with_reducible exact HN.out | with_reducible apply NSt.drew)
             have y0 := HN4.out.box.c0
             have y1 := HN4.out.box.c1
             have y2 := HN4.out.box.c2
             have y3 := HN4.out.box.c3
             have y4 := HN4.out.box.c4
             have y5 := HN4.out.box.c5
             have y6 := HN4.out.box.c6
             clear HB4)
          | (go_at_call 24; refine (Hs.out M _ _ _ _ a1 a2 c1 c2 _ m0 m3 (Hid.out (by assumption)) ?_ ?_ ?_).mono ?_
             · repeat' (first | with_reducible exact NSt.r1 (Hid.out HN4) | with_reducible apply RdD.drew1)
             · repeat' (first | with_reducible exact NSt.r2 (Hid.out HN4) | with_reducible apply RdD.drew1)
             · repeat' (first | with_reducible exact Hid.out Hrz | with_reducible apply RdD.drew1)
             rintro e w5 ⟨S, rfl, S1, S2, HQ, HB5⟩
             have HN5 : Hid (NSt w nb m p pl zx xx t ox a1 a2 c1 c2 w5) := by
               show NSt _ _ _ _ _ _ _ _ _ _ _ _ _ _
               refine NSt.below ?_ HB5.out
               repeat' (first | with_reducible exact HN4.out | with_reducible apply NSt.drew)
             clear HB5))
        all_goals go_wp2_with fail
        all_goals go_meet
        all_goals refine ⟨_, rfl, S1, S2, HQ, ?_⟩
        all_goals show NSt _ _ _ _ _ _ _ _ _ _ _ _ _ _
        all_goals (repeat' (first | with_reducible exact HN5.out | with_reducible apply NSt.drew))
      case rest =>
        obtain ⟨S, rfl, S1, S2, HQ, HN5⟩ := hcut
        clear HN x0 x1 x2 x3 x4 x5 x6 hlt k1 k2 k3
        have hS : S = -1 ∨ S = 0 ∨ S = 1 := by omega
        rcases hS with rfl | rfl | rfl
        · have hbM : b0 ≤ M := HQ.out.1 (.inl (by decide))
          clear HQ S1 S2
          go_wp2
          go_roundw
          · exact ⟨lo, M, rfl, rfl, hl0, hlb, hbM, by omega, HN5⟩
          · simp [intOf]; omega
        · by_cases hr : M % 2 = 0
          · have hbM : b0 ≤ M := HQ.out.1 (.inr ⟨rfl, hr⟩)
            have hr2 : Int.tmod M 2 = 0 := by rw [Int.tmod_eq_emod_of_nonneg m0]; exact hr
            clear HQ S1 S2
            go_wp2
            go_roundw
            · exact ⟨lo, M, rfl, rfl, hl0, hlb, hbM, by omega, HN5⟩
            · simp [intOf]; omega
          · have hbM : M + 1 ≤ b0 := by
              have := HQ.out
              unfold SzQ at this
              omega
            have hr1 : M % 2 = 1 := by omega
            have hr2 : Int.tmod M 2 = 1 := by rw [Int.tmod_eq_emod_of_nonneg m0]; exact hr1
            clear HQ S1 S2 hr
            go_wp2
            go_roundw
            · exact ⟨M + 1, hi, rfl, rfl, by omega, hbM, hbh, hhI, HN5⟩
            · simp [intOf]; omega
        · have hbM : M + 1 ≤ b0 := by
            have := HQ.out
            unfold SzQ at this
            omega
          clear HQ S1 S2
          go_wp2
          go_roundw
          · exact ⟨M + 1, hi, rfl, rfl, by omega, hbM, hbh, hhI, HN5⟩
          · simp [intOf]; omega
    · have x0 := HN.out.box.c0
      have HE : Hid (lo = b0) := by show _ = _; omega
      have hlI : lo ≤ 2139095040 := by omega
      cases m
      · go_wp2
        go_ret2
        rw [HRv.out, if_neg (by decide), HE.out]
        exact ⟨rfl, HN.out.bel⟩
      · go_wp2
        go_ret2
        have e : R = lo + 2147483648 := by rw [HRv.out, HE.out]; simp
        rw [e]
        exact ⟨rfl, HN.out.bel⟩

set_option maxHeartbeats 1000000 in
theorem rnearest_none (l : List UInt8) (w : World) (h : pcut l = none) (hlen : l.length ≤ 1099511627776) :
    Calls Tryd.prog 13 #[.string ⟨l.toArray⟩] w fun e w' => e = .returned (.tuple #[.int .u32 0, .int .i64 30]) ∧ Below w.heap.size w w' := by
  have Ha : Hid (∀ w : World, Calls Tryd.prog 23 #[.string ⟨l.toArray⟩] w fun e w' => ∃ (m : Bool) (a1 : Option Addr) (n1 c1 : Nat) (o : Int) (p : Bool) (a2 : Option Addr) (n2 c2 : Nat) (pl : Bool) (t : ByteArray), e = .returned (.tuple #[.agg #[.bool m, .slice a1 n1 c1, .int .i64 o, .bool p, .slice a2 n2 c2, .bool pl, .string t], .bool false]) ∧ Below w.heap.size w w') := fun w => rread_none h w hlen
  clear h
  go_enter Tryd.func13, Tryd.ntmps13
  go_wp2_with fail
  refine (Ha.out _).mono ?_
  rintro e w2 ⟨m, a1, n1, c1, o, p, a2, n2, c2, pl, t, rfl, hB⟩
  go_wp2
  go_ret2
  refine ⟨rfl, ?_⟩
  have := hB.size
  (repeat' (first | with_reducible assumption | with_reducible exact Below.refl _ _ | with_reducible exact Nat.le_refl _ | with_reducible refine Below.setCell ?_ ?_ _ | with_reducible refine Below.alloc ?_ ?_ _ | with_reducible apply Below.drew | with_reducible apply below_drewN | omega | (simp; done) | (simp; omega)))

end Go.Proofs.YtgkbbcoagnilgabDoor
