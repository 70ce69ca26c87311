import Derived.Test.YtkfchdmlemcjhaaDoorDcA
namespace Go.Proofs.YtkfchdmlemcjhaaDoor.Dec
open Go.RowKit

set_option maxHeartbeats 1000000 in
theorem rwhole_no (l : List UInt8) (w : World) (okb plb : Bool) (hno : (okb && plb) = false)
    (Hc : Hid (∀ w : World, Calls Tryd.prog 39 #[.string ⟨l.toArray⟩] w fun e w' => ∃ (m : Bool) (a1 : Option Addr) (n1 c1 : Nat) (o : Int) (p : Bool) (a2 : Option Addr) (n2 c2 : Nat) (pl : Bool) (t : ByteArray), e = .returned (.tuple #[.agg #[.bool m, .slice a1 n1 c1, .int .i64 o, .bool p, .slice a2 n2 c2, .bool pl, .string t], .bool okb]) ∧ (okb = true → pl = plb) ∧ Below w.heap.size w w')) :
    Calls Tryd.prog 32 #[.string ⟨l.toArray⟩] w fun e w' => e = .returned (.tuple #[.int .i64 0, .bool false]) ∧ Below w.heap.size w w' := by
  cases okb
  · go_enter Tryd.func32, Tryd.ntmps32
    go_wp2_with fail
    refine (Hc.out _).mono ?_
    rintro e w2 ⟨m, a1, n1, c1, o, p, a2, n2, c2, pl, t, rfl, _, hB2⟩
    have h1 : w.heap.size ≤ w2.heap.size := hB2.size
    go_wp2
    go_ret2
    refine ⟨rfl, ?_⟩
    (repeat' (first | with_reducible assumption | with_reducible exact Below.refl _ _ | with_reducible exact Nat.le_refl _ | with_reducible refine Below.setCell ?_ ?_ _ | with_reducible refine Below.alloc ?_ ?_ _ | with_reducible apply Below.drew | with_reducible apply below_drewN | omega | (simp; done) | (simp; omega)))
  · have hpl : plb = false := by simpa using hno
    subst hpl
    go_enter Tryd.func32, Tryd.ntmps32
    go_wp2_with fail
    refine (Hc.out _).mono ?_
    rintro e w2 ⟨m, a1, n1, c1, o, p, a2, n2, c2, pl, t, rfl, hp, hB2⟩
    obtain rfl : pl = false := by simpa using hp
    have h1 : w.heap.size ≤ w2.heap.size := hB2.size
    clear hp
    go_wp2
    go_ret2
    refine ⟨rfl, ?_⟩
    (repeat' (first | with_reducible assumption | with_reducible exact Below.refl _ _ | with_reducible exact Nat.le_refl _ | with_reducible refine Below.setCell ?_ ?_ _ | with_reducible refine Below.alloc ?_ ?_ _ | with_reducible apply Below.drew | with_reducible apply below_drewN | omega | (simp; done) | (simp; omega)))

theorem quo10 (d : Int) (h0 : 0 ≤ d) (h9 : d ≤ 9) (u : Int) (_hu : 0 ≤ u) : (-u < Int.tdiv (-9223372036854775808 + d) 10) ↔ 9223372036854775808 < 10 * u + d := by
  have e : Int.tdiv (-9223372036854775808 + d) 10 = -((9223372036854775808 - d) / 10) := by
    rw [show (-9223372036854775808 + d) = -(9223372036854775808 - d) by omega, Int.neg_tdiv, Int.tdiv_eq_ediv_of_nonneg (by omega)]
  rw [e]
  omega

set_option maxHeartbeats 2000000 in
theorem rwhole_yes (l : List UInt8) (m p : Bool) (g : List UInt8) (z x : List UInt8) (o : Int) (w : World) (hall : ∀ c ∈ g, isD c = true) (hgl : g.length ≤ 281474976710656)
    (Hc : Hid (∀ w : World, Calls Tryd.prog 39 #[.string ⟨l.toArray⟩] w fun e w' => ∃ a1 c1 a2 c2, e = .returned (.tuple #[.agg #[.bool m, .slice a1 z.length c1, .int .i64 o, .bool p, .slice a2 x.length c2, .bool true, .string ⟨g.toArray⟩], .bool true]) ∧ Below w.heap.size w w')) :
    Calls Tryd.prog 32 #[.string ⟨l.toArray⟩] w fun e w' => e = .returned (.tuple #[.int .i64 (wholeG m g).1, .bool (wholeG m g).2]) ∧ Below w.heap.size w w' := by
  have Hall : Hid (∀ c ∈ g, isD c = true) := hall
  clear hall
  go_enter Tryd.func32, Tryd.ntmps32
  go_wp2_with fail
  refine (Hc.out _).mono ?_
  rintro e w2 ⟨a1, c1, a2, c2, rfl, hB2⟩
  have h1 : w.heap.size ≤ w2.heap.size := hB2.size
  go_wp2
  go_loop [6, 7, 8] (fun s6 s7 s8 => ∃ i : Nat, s6 = .int .i64 (-(natOf 0 (g.take i) : Int)) ∧ s7 = .int .i64 (i : Int) ∧ i ≤ g.length ∧ natOf 0 (g.take i) ≤ 9223372036854775808) (fun _ s _ => g.length - (intOf s).toNat)
  case atStart => exact ⟨0, rfl, rfl, Nat.zero_le _, Nat.zero_le _⟩
  case round =>
    obtain ⟨i, rfl, rfl, hi, hu⟩ := hrel
    by_cases hlt : i < g.length
    · obtain ⟨c, hc⟩ : ∃ c, g[i] = c := ⟨_, rfl⟩
      have gx : (⟨g.toArray⟩ : ByteArray)[i]'(by show i < g.toArray.size; simpa using hlt) = c := hc
      have hcD := isD_rg (Hall.out c (by rw [← hc]; exact List.getElem_mem hlt))
      obtain ⟨hb1, hb2⟩ := hcD
      have Hnx : Hid (natOf 0 (g.take (i + 1)) = natOf 0 (g.take i) * 10 + (c.toNat - 48)) := by
        show _ = _
        rw [List.take_succ_eq_append_getElem hlt, hc, natOf_snoc]
      have Htk : Hid (natOf 0 (g.take (i + 1)) ≤ natOf 0 g) := natOf_take g (i + 1)
      have hq := quo10 ((c.toNat : Int) - 48) (by omega) (by omega) (natOf 0 (g.take i) : Int) (by omega)
      generalize natOf 0 (g.take i) = u at hu Hnx hq ⊢
      have hw0 : IntKind.u8.wrap ((c.toNat : Int) - 48) = (c.toNat : Int) - 48 := by rw [IntKind.wrap_u8]; omega
      have hw1 : IntKind.i64.wrap (-9223372036854775808 + ((c.toNat : Int) - 48)) = -9223372036854775808 + ((c.toNat : Int) - 48) := by rw [IntKind.wrap_i64]; omega
      clear hc
      by_cases hov : 9223372036854775808 < 10 * (u : Int) + ((c.toNat : Int) - 48)
      · have hd : decide (-(u : Int) < Int.tdiv (-9223372036854775808 + ((c.toNat : Int) - 48)) 10) = true := decide_eq_true (hq.2 hov)
        have Hr : Hid (wholeG m g = (0, false)) := by
          show _ = _
          unfold wholeG
          rw [if_pos]
          have h1 := Hnx.out
          have h2 := Htk.out
          omega
        clear hq
        go_wp2
        go_ret2
        rw [Hr.out]
        refine ⟨rfl, ?_⟩
        (repeat' (first | with_reducible assumption | with_reducible exact Below.refl _ _ | with_reducible exact Nat.le_refl _ | with_reducible refine Below.setCell ?_ ?_ _ | with_reducible refine Below.alloc ?_ ?_ _ | with_reducible apply Below.drew | with_reducible apply below_drewN | omega | (simp; done) | (simp; omega)))
      · have hd : decide (-(u : Int) < Int.tdiv (-9223372036854775808 + ((c.toNat : Int) - 48)) 10) = false := decide_eq_false (fun h => hov (hq.1 h))
        have hw2 : IntKind.i64.wrap (10 * -(u : Int)) = 10 * -(u : Int) := by rw [IntKind.wrap_i64]; omega
        have hw3 : IntKind.i64.wrap (10 * -(u : Int) - ((c.toNat : Int) - 48)) = 10 * -(u : Int) - ((c.toNat : Int) - 48) := by rw [IntKind.wrap_i64]; omega
        clear hq
        go_wp2
        go_round
        case rel =>
          refine ⟨i + 1, ?_, by go_num, by omega, by rw [Hnx.out]; omega⟩
          rw [Hnx.out]
          congr 1
          omega
        case measure => simp [intOf]; omega
    · have hin : i = g.length := by omega
      have Htk : Hid (natOf 0 (g.take i) = natOf 0 g) := by show _ = _; rw [hin, List.take_length]
      rw [Htk.out] at hu ⊢
      clear hin
      generalize hN : natOf 0 g = N at hu Htk ⊢
      have HN : Hid (natOf 0 g = N) := hN
      clear hN
      cases m
      · by_cases heq : N = 9223372036854775808
        · have hq : ((-(N : Int)) == -9223372036854775808) = true := by simp; omega
          have Hr : Hid (wholeG false g = (0, false)) := by
            show _ = _
            unfold wholeG
            rw [HN.out, if_neg (by omega), if_neg (by simp), if_pos heq]
          clear heq
          go_wp2
          go_ret2
          rw [Hr.out]
          refine ⟨rfl, ?_⟩
          (repeat' (first | with_reducible assumption | with_reducible exact Below.refl _ _ | with_reducible exact Nat.le_refl _ | with_reducible refine Below.setCell ?_ ?_ _ | with_reducible refine Below.alloc ?_ ?_ _ | with_reducible apply Below.drew | with_reducible apply below_drewN | omega | (simp; done) | (simp; omega)))
        · have hq : ((-(N : Int)) == -9223372036854775808) = false := by simp; omega
          have hw : IntKind.i64.wrap (-(-(N : Int))) = (N : Int) := by rw [IntKind.wrap_i64]; omega
          have hw' : IntKind.i64.wrap (N : Int) = (N : Int) := by rw [IntKind.wrap_i64]; omega
          have Hr : Hid (wholeG false g = ((N : Int), true)) := by
            show _ = _
            unfold wholeG
            rw [HN.out, if_neg (by omega), if_neg (by simp), if_neg heq]
          clear heq
          go_wp2
          go_ret2
          rw [Hr.out]
          refine ⟨rfl, ?_⟩
          (repeat' (first | with_reducible assumption | with_reducible exact Below.refl _ _ | with_reducible exact Nat.le_refl _ | with_reducible refine Below.setCell ?_ ?_ _ | with_reducible refine Below.alloc ?_ ?_ _ | with_reducible apply Below.drew | with_reducible apply below_drewN | omega | (simp; done) | (simp; omega)))
      · have Hr : Hid (wholeG true g = (-(N : Int), true)) := by
          show _ = _
          unfold wholeG
          rw [HN.out, if_neg (by omega), if_pos rfl]
        go_wp2
        go_ret2
        rw [Hr.out]
        refine ⟨rfl, ?_⟩
        (repeat' (first | with_reducible assumption | with_reducible exact Below.refl _ _ | with_reducible exact Nat.le_refl _ | with_reducible refine Below.setCell ?_ ?_ _ | with_reducible refine Below.alloc ?_ ?_ _ | with_reducible apply Below.drew | with_reducible apply below_drewN | omega | (simp; done) | (simp; omega)))

end Go.Proofs.YtkfchdmlemcjhaaDoor.Dec