import Derived.Test.YtgkbbcoagnilgabDoorNearsW
import Derived.Test.YtgkbbcoagnilgabDoorNearW
import Derived.Test.YtgkbbcoagnilgabDoorValM
namespace Go.Proofs.YtgkbbcoagnilgabDoor
open Go.RowKit

theorem mid_q (Ux Dx Um Dm F c : Nat) (hc : 0 < c) (hDm : 0 < Dm) (hv : 2 * (Um * c) = Dm * F) : (Ux * Dm < Um * Dx ↔ 2 * (Ux * c) < Dx * F) ∧ (Ux * Dm = Um * Dx ↔ 2 * (Ux * c) = Dx * F) := by
  have e1 : 2 * (Ux * c) * Dm = 2 * c * (Ux * Dm) := by ac_rfl
  have e2 : Dx * F * Dm = 2 * c * (Um * Dx) := by
    have : Dx * F * Dm = Dx * (Dm * F) := by ac_rfl
    rw [this, ← hv]
    ac_rfl
  have hc2 : 0 < 2 * c := by omega
  refine ⟨⟨fun h => ?_, fun h => ?_⟩, ⟨fun h => ?_, fun h => ?_⟩⟩
  · apply Nat.lt_of_mul_lt_mul_right (a := Dm)
    rw [e1, e2]
    exact Nat.mul_lt_mul_of_pos_left h hc2
  · apply Nat.lt_of_mul_lt_mul_left (a := 2 * c)
    rw [← e1, ← e2]
    exact Nat.mul_lt_mul_of_pos_right h hDm
  · apply Nat.eq_of_mul_eq_mul_right hDm
    rw [e1, e2, h]
  · apply Nat.eq_of_mul_eq_mul_left hc2
    rw [← e1, ← e2, h]

theorem sizeV_bd (za zb : List UInt8) (ap : Int) : -1 ≤ sizeV za zb ap ∧ sizeV za zb ap ≤ 1 := by
  have hb : ∀ a b : List UInt8, -1 ≤ Lib.compareBytes a b ∧ Lib.compareBytes a b ≤ 1 := by
    intro a
    induction a with
    | nil => intro b; cases b <;> simp [Lib.compareBytes]
    | cons x y ih =>
      intro b
      cases b with
      | nil => simp [Lib.compareBytes]
      | cons u v =>
        unfold Lib.compareBytes
        split
        · omega
        · split
          · omega
          · exact ih v
  have := hb za zb
  unfold sizeV
  repeat' split
  all_goals omega

theorem ev_nil : Ev false [] = 0 := by unfold Ev; rfl

/-- What Size tells of a number and a middle. -/
theorem size_mid {x : PartsM} {b0 mid : Nat} {z : List UInt8} {O : Int} (gx : Good x) (hd : allD x.2.2.2.2) (h : NearS x b0) (hM : MidD mid z O) (hm : mid < 2139095040) (h1 : -1000000000000 ≤ oof x) (h2 : oof x ≤ 1000000000000) :
    SzQ (b0 : Int) (mid : Int) (sizeV (zof x) z (apL (sd x.2.2.2.1 (tl x.2.2.2.2)) (sd false []) (oof x - O) (max (tl x.2.2.2.2).length 0) 0)) := by
  have hq := mid_q (vU (zof x) (Pof x)) (vD (zof x) (Pof x)) (vU z O) (vD z O) (FV mid + FV (mid + 1)) (2 ^ 160) (Nat.pow_pos (by decide)) (vD_pos _ _) hM.val
  have hr := rnd_halve h (vD_pos _ _) hm
  have ho1 := hM.o1
  have ho2 := hM.o2
  unfold SzQ
  by_cases hz : zof x = []
  · have e : sizeV (zof x) z (apL (sd x.2.2.2.1 (tl x.2.2.2.2)) (sd false []) (oof x - O) (max (tl x.2.2.2.2).length 0) 0) = -1 := by
      unfold sizeV
      rw [if_pos hz, if_neg hM.ne]
    rw [e]
    have hU := vU_nil x hz
    rw [hU] at hr hq
    have hp : 0 < vD (zof x) (Pof x) * (FV mid + FV (mid + 1)) := Nat.mul_pos (vD_pos _ _) (by have := FV_strict (show mid < mid + 1 by omega); omega)
    have := hr.1 (.inl (by rw [Nat.zero_mul, Nat.mul_zero]; exact hp))
    omega
  · have e1 := csz_size (zof x) x.2.2.2.1 x.2.2.2.2 z false [] (oof x) O hd (fun c hc => by cases hc) (by omega) (by omega) hz hM.ne
    have e2 := csz_key (zof x) x.2.2.2.2 z [] x.2.2.2.1 false (oof x) O hd (fun c hc => by cases hc) (by omega) (by omega)
    rw [ev_nil, Int.add_zero] at e2
    have e3 : oof x + Ev x.2.2.2.1 x.2.2.2.2 = Pof x := rfl
    rw [e3] at e2
    have e4 : sizeV (zof x) z (apL (sd x.2.2.2.1 (tl x.2.2.2.2)) (sd false []) (oof x - O) (max (tl x.2.2.2.2).length 0) 0) = ckey (Pof x) (zof x) O z := by
      rw [← e2, e1]
      rfl
    rw [e4]
    have t := ck_turn (Pof x) O (zof x) z
    have b := ck_bd (Pof x) O (zof x) z
    have l1 := ck_lt _ _ (Pof x) O gx.1 hM.dig hM.nt hM.ne hM.fst
    have l2 := ck_lt _ _ O (Pof x) hM.dig gx.1 (zof_nt x) hz (gx.2 hz)
    have l3 := ck_le _ _ (Pof x) O gx.1 hM.dig hM.ne hM.fst
    have l4 := ck_le _ _ O (Pof x) hM.dig gx.1 hz (gx.2 hz)
    rw [t] at l2 l4
    generalize ckey (Pof x) (zof x) O z = S at *
    generalize vU (zof x) (Pof x) * vD z O = A at *
    generalize vU z O * vD (zof x) (Pof x) = B at *
    generalize 2 * (vU (zof x) (Pof x) * 2 ^ 160) = P at *
    generalize vD (zof x) (Pof x) * (FV mid + FV (mid + 1)) = Q at *
    omega

theorem rnearest_some_any (l : List UInt8) (w : World) (x : PartsM) (b : Nat) (hx : pcut l = some x) (hb : NearS x b) (hlen : l.length ≤ 1073741824) :
    Calls Tryd.prog 13 #[.string ⟨l.toArray⟩] w fun e w' => e = .returned (.tuple #[.int .u32 (sbits x.1 b : Int), .int .i64 0]) ∧ Below w.heap.size w w' := by
  have gx := good_cut hx
  obtain ⟨m, g, f, p, d⟩ := x
  have hl := pcut_len hx
  obtain ⟨dg, df, dd⟩ := pcut_digs hx
  have ho := oof_bd (m, g, f, p, d) l.length (by show g.length + f.length ≤ _; omega)
  have hzl : (tr (tl (g ++ f))).length ≤ l.length := by
    have e1 := tl_len (g ++ f)
    have e2 := tl_len (tl (g ++ f)).reverse
    unfold tr
    rw [List.length_reverse] at e2 ⊢
    rw [List.length_append] at e1
    omega
  have t1 := tl_len d
  have hbI := hb.1
  refine rnearest_go l m p (f.isEmpty && d.isEmpty) (tr (tl (g ++ f))) (tl d) g (oof (m, g, f, p, d)) b 2139095040 (sbits m b : Int) w (by omega) (by omega) (by omega) (by omega) (by cases m <;> rfl)
    (fun w => rread_some hx w (by omega)) (fun M W h0 h1 => ?_) (fun M z O gg c a1 a2 c1 c2 W h0 h1 hM r1 r2 r3 => ?_)
  · obtain ⟨n, rfl⟩ := Int.eq_ofNat_of_zero_le h0
    refine (middle_any n W (by omega)).mono ?_
    rintro e w' ⟨z, O, gg, c, hM, rfl, _, g2, g3, hB⟩
    exact ⟨z, O, gg, c, rfl, hM, .inr ⟨gg, rfl, g2, g3⟩, hB⟩
  · obtain ⟨n, rfl⟩ := Int.eq_ofNat_of_zero_le h0
    have hn : n < 2139095040 := by omega
    rw [Int.toNat_natCast] at hM
    have o1 := hM.o1
    have o2 := hM.o2
    have hln := hM.len
    have hq := size_mid gx dd hb hM hn (by omega) (by omega)
    refine (size_any m p _ false false false a1 (some ⟨gg, 0, none⟩) a2 none c1 c c2 0 _ O (tr (tl (g ++ f))) z (tl d) [] g [] W (allD_tl dd) (fun c hc => by cases hc) r2 (.inl rfl) r1 r3 (by omega) (by decide) (by omega) (by omega) (by omega) (by omega) (by omega) (by omega)).mono ?_
    rintro e w' ⟨rfl, hB⟩
    have hS := sizeV_bd (tr (tl (g ++ f))) z (apL (sd p (tl d)) (sd false []) (oof (m, g, f, p, d) - O) (max (tl d).length 0) 0)
    exact ⟨_, rfl, hS.1, hS.2, hq, hB⟩

set_option maxHeartbeats 1000000 in
theorem nears_go (l : List UInt8) (d : Int) (w : World) (S : Int → Prop)
    (H1 : Hid (∀ w, Calls Tryd.prog 8 #[.string ⟨l.toArray⟩] w fun e w' => ∃ c : Int, e = .returned (.tuple #[.int .u32 c, .int .i64 d]) ∧ Hid (S c) ∧ Below w.heap.size w w'))
    (H2 : Hid (∀ (c : Int) w, S c → Calls Tryd.prog 13 #[.string ⟨l.toArray⟩] w fun e w' => e = .returned (.tuple #[.int .u32 c, .int .i64 d]) ∧ Below w.heap.size w w')) :
    Calls Tryd.prog 4 #[.string ⟨l.toArray⟩] w fun e w' => e = .returned (.bool true) ∧ Below w.heap.size w w' := by
  go_enter Tryd.func4, Tryd.ntmps4
  go_wp2_with fail
  refine (H1.out _).mono ?_
  rintro e w2 ⟨c, rfl, HS, hB2⟩
  go_wp2_with fail
  refine (H2.out c _ HS.out).mono ?_
  rintro e w3 ⟨rfl, hB3⟩
  have q1 : (c == c) = true := by simp
  have q2 : (d == d) = true := by simp
  have hL : Below w.heap.size w w3 := Below.trans hB2 (Below.mono hB3 hB2.size)
  clear hB2 hB3
  go_wp2
  go_ret
  exact ⟨rfl, hL⟩

theorem nears_law (l : List UInt8) (w : World) (hl : l.length ≤ 1048576) :
    Calls Tryd.prog 4 #[.string ⟨l.toArray⟩] w fun e w' => e = .returned (.bool true) ∧ Below w.heap.size w w' := by
  rcases h : pcut l with _ | x
  · refine nears_go l 30 w (fun c => c = 0) (fun w => ?_) (fun c w hc => ?_)
    · refine (nearest_none_any l w h (by omega)).mono ?_
      rintro e w' ⟨rfl, hB⟩
      exact ⟨0, rfl, rfl, hB⟩
    · rw [hc]
      exact rnearest_none l w h (by omega)
  · refine nears_go l 0 w (fun c => ∃ b, c = (sbits x.1 b : Int) ∧ NearS x b) (fun w => ?_) (fun c w hc => ?_)
    · refine (nearest_some_any l w x h (by omega)).mono ?_
      rintro e w' ⟨b, rfl, hb, hB⟩
      exact ⟨_, rfl, ⟨b, rfl, hb⟩, hB⟩
    · obtain ⟨b, rfl, hb⟩ := hc
      exact rnearest_some_any l w x b h hb (by omega)

end Go.Proofs.YtgkbbcoagnilgabDoor
