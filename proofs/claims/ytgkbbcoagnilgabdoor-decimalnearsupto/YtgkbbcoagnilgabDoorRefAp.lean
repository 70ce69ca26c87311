import Derived.Test.YtgkbbcoagnilgabDoorRefA
namespace Go.Proofs.YtgkbbcoagnilgabDoor
open Go.RowKit

set_option maxHeartbeats 4000000 in
set_option maxRecDepth 4000 in
theorem apart_ge (ma pa pla mb pb plb : Bool) (sa sb ea eb : Option Addr) (n1 c1 n2 c2 ca cb : Nat) (oa ob : Int) (xa xb ta tb : List UInt8) (w : World) (hxa : allD xa) (hxb : allD xb) (hra : RdD w ea xa) (hrb : RdD w eb xb)
    (hla : xa.length ≤ 281474976710656) (hlb : xb.length ≤ 281474976710656) (hoa1 : -281474976710656 ≤ oa) (hoa2 : oa ≤ 281474976710656) (hob1 : -281474976710656 ≤ ob) (hob2 : ob ≤ 281474976710656) (hsel : xb.length ≤ xa.length) :
    Calls Tryd.prog 44 #[.agg #[.bool ma, .slice sa n1 c1, .int .i64 oa, .bool pa, .slice ea xa.length ca, .bool pla, .string ⟨ta.toArray⟩], .agg #[.bool mb, .slice sb n2 c2, .int .i64 ob, .bool pb, .slice eb xb.length cb, .bool plb, .string ⟨tb.toArray⟩]] w fun e w' =>
      e = .returned (.int .i64 (apL (sd pa xa) (sd pb xb) (oa - ob) xa.length 0)) ∧ Below w.heap.size w w' := by
  obtain ⟨W2, hW2⟩ : ∃ W2, W2 = (w.alloc (boxR ma sa n1 c1 oa pa ea xa.length ca pla ta)).alloc (boxR mb sb n2 c2 ob pb eb xb.length cb plb tb) := ⟨_, rfl⟩
  have hB2 : Below w.heap.size w W2 := by
    rw [hW2]
    (repeat' (first | with_reducible assumption | with_reducible exact Below.refl _ _ | with_reducible exact Nat.le_refl _ | with_reducible refine Below.setCell ?_ ?_ _ | with_reducible refine Below.alloc ?_ ?_ _ | with_reducible apply Below.drew | with_reducible apply below_drewN | omega | (simp; done) | (simp; omega)))
  have hra2 : Hid (RdD W2 ea xa) := hra.below hB2
  have hrb2 : Hid (RdD W2 eb xb) := hrb.below hB2
  have HB2 : Hid (Below w.heap.size w W2) := hB2
  have Ba := fun k => sd_bd pa xa k hxa
  have Bb := fun k => sd_bd pb xb k hxb
  have Ua := fun k => sd_bd false xa k hxa
  have Ub := fun k => sd_bd false xb k hxb
  have HBa : Hid (∀ k, -9 ≤ sd pa xa k ∧ sd pa xa k ≤ 9) := Ba
  have HBb : Hid (∀ k, -9 ≤ sd pb xb k ∧ sd pb xb k ≤ 9) := Bb
  have HUa : Hid (∀ k, -9 ≤ sd false xa k ∧ sd false xa k ≤ 9) := Ua
  have HUb : Hid (∀ k, -9 ≤ sd false xb k ∧ sd false xb k ≤ 9) := Ub
  clear hxa hxb hra hrb Ba Bb Ua Ub hB2
  subst hW2
  have hdec : decide (xa.length < xb.length) = false := by simp; omega
  go_enter Tryd.func44, Tryd.ntmps44
  go_wp2
  go_loopw [6, 7] (fun s6 s7 wr => ∃ (k q : Nat) (x : Int), s6 = .int .i64 x ∧ s7 = .int .i64 ((k : Int) - 1) ∧ k ≤ xa.length ∧ -1000000000000000 ≤ x ∧ x ≤ 1000000000000000 ∧ Hid (apL (sd pa xa) (sd pb xb) (oa - ob) xa.length 0 = apL (sd pa xa) (sd pb xb) (oa - ob) k x) ∧
      wr = ((w.alloc (boxR ma sa n1 c1 oa pa ea xa.length ca pla ta)).alloc (boxR mb sb n2 c2 ob pb eb xb.length cb plb tb)).drewN q) (fun _ s7 _ => (intOf s7 + 1).toNat)
  case atStart => exact ⟨xa.length, 0, 0, rfl, rfl, Nat.le_refl _, by omega, by omega, rfl, rfl⟩
  case round =>
    obtain ⟨k, q, x, rfl, rfl, hk, hx1, hx2, Hap, rfl⟩ := hrel
    rcases k with _ | n
    · have Hd0 : Hid (apL (sd pa xa) (sd pb xb) (oa - ob) xa.length 0 = x + oa - ob) := by
        show _ = _
        rw [Hap.out]; unfold apL; omega
      clear Hap
      go_wp2
      go_ret
      rw [Hd0.out]
      exact ⟨rfl, below_drewN HB2.out _⟩
    · have hn1 : ((n + 1 : Nat) : Int) - 1 = (n : Int) := by omega
      rw [hn1]
      clear hn1
      obtain ⟨ua, hua⟩ : ∃ ua, ua = sd false xa n := ⟨_, rfl⟩
      obtain ⟨ub, hub⟩ : ∃ ub, ub = sd false xb n := ⟨_, rfl⟩
      have u1 := HUa.out n
      have u2 := HUb.out n
      have b1 := HBa.out n
      have b2 := HBb.out n
      rw [← sd_sgd pa xa n] at b1
      rw [← sd_sgd pb xb n] at b2
      rw [← hua] at u1 b1
      rw [← hub] at u2 b2
      obtain ⟨av, hav⟩ : ∃ av, av = sgd pa ua := ⟨_, rfl⟩
      obtain ⟨bv, hbv⟩ : ∃ bv, bv = sgd pb ub := ⟨_, rfl⟩
      have eA : sd pa xa n = av := by rw [hav, hua, sd_sgd]
      have eB : sd pb xb n = bv := by rw [hbv, hub, sd_sgd]
      rw [← hav] at b1
      rw [← hbv] at b2
      have hwa : Hid (∀ W, RdD W ea xa → Calls Tryd.prog 74 #[.slice ea xa.length ca, .int .i64 n] W fun e w' => e = .returned (.int .i64 ua) ∧ w' = W) := fun W h => by
        rw [hua]; exact rat_any ea ca xa n W h hla (by omega)
      have hwb : Hid (∀ W, RdD W eb xb → Calls Tryd.prog 74 #[.slice eb xb.length cb, .int .i64 n] W fun e w' => e = .returned (.int .i64 ub) ∧ w' = W) := fun W h => by
        rw [hub]; exact rat_any eb cb xb n W h hlb (by omega)
      have hsa : Hid (∀ W, Calls Tryd.prog 73 #[.int .i64 ua, .bool pa] W fun e w' => e = .returned (.int .i64 av) ∧ w' = W) := fun W => by rw [hav]; exact signed_any pa ua W u1.1 u1.2
      have hsb : Hid (∀ W, Calls Tryd.prog 73 #[.int .i64 ub, .bool pb] W fun e w' => e = .returned (.int .i64 bv) ∧ w' = W) := fun W => by rw [hbv]; exact signed_any pb ub W u2.1 u2.2
      have Hhi : Hid (1000000000000000 < 10 * x + av - bv → apL (sd pa xa) (sd pb xb) (oa - ob) xa.length 0 = 1000000000000000) := fun h => by
        rw [Hap.out]; exact apL_hi _ _ _ n x (by rw [eA, eB]; exact h)
      have Hlo : Hid (¬ 1000000000000000 < 10 * x + av - bv → 10 * x + av - bv < -1000000000000000 → apL (sd pa xa) (sd pb xb) (oa - ob) xa.length 0 = -1000000000000000) := fun h h' => by
        rw [Hap.out]; exact apL_lo _ _ _ n x (by rw [eA, eB]; exact h) (by rw [eA, eB]; exact h')
      have Hin : Hid (¬ 1000000000000000 < 10 * x + av - bv → ¬ 10 * x + av - bv < -1000000000000000 → apL (sd pa xa) (sd pb xb) (oa - ob) xa.length 0 = apL (sd pa xa) (sd pb xb) (oa - ob) n (10 * x + av - bv)) := fun h h' => by
        rw [Hap.out, apL_in _ _ _ n x (by rw [eA, eB]; exact h) (by rw [eA, eB]; exact h'), eA, eB]
      obtain ⟨b11, b12⟩ := b1
      obtain ⟨b21, b22⟩ := b2
      have w1 : IntKind.i64.wrap (10 * x) = 10 * x := by rw [IntKind.wrap_i64]; omega
      have w2 : IntKind.i64.wrap (10 * x + av) = 10 * x + av := by rw [IntKind.wrap_i64]; omega
      have w3 : IntKind.i64.wrap (10 * x + av - bv) = 10 * x + av - bv := by rw [IntKind.wrap_i64]; omega
      clear hua hub hav hbv eA eB u1 u2 Hap
      by_cases h1 : 1000000000000000 < 10 * x + av - bv
      · have Hr := Hhi.out h1
        have Hr' : Hid (apL (sd pa xa) (sd pb xb) (oa - ob) xa.length 0 = 1000000000000000) := Hr
        clear Hhi Hlo Hin Hr
        go_wp2_with fail
        go_quiet (first | (go_at_call_of 74 (Value.slice ea xa.length ca); refine (hwa.out _ ?_).mono ?_; exact hra2.out; rintro e w' ⟨rfl, rfl⟩; exact ⟨rfl, _, rfl⟩) | (go_at_call_of 74 (Value.slice eb xb.length cb); refine (hwb.out _ ?_).mono ?_; exact hrb2.out; rintro e w' ⟨rfl, rfl⟩; exact ⟨rfl, _, rfl⟩) | (go_at_call_of 73 (Value.int .i64 ua); refine (hsa.out _).mono ?_; rintro e w' ⟨rfl, rfl⟩; exact ⟨rfl, _, rfl⟩) | (go_at_call_of 73 (Value.int .i64 ub); refine (hsb.out _).mono ?_; rintro e w' ⟨rfl, rfl⟩; exact ⟨rfl, _, rfl⟩))
        go_wp2
        go_ret
        rw [Hr'.out]
        refine ⟨rfl, ?_⟩
        (repeat' (first | with_reducible assumption | with_reducible exact Below.refl _ _ | with_reducible exact Nat.le_refl _ | with_reducible refine Below.setCell ?_ ?_ _ | with_reducible refine Below.alloc ?_ ?_ _ | with_reducible apply Below.drew | with_reducible apply below_drewN | omega | (simp; done) | (simp; omega)))
      · by_cases h2 : 10 * x + av - bv < -1000000000000000
        · have Hr' : Hid (apL (sd pa xa) (sd pb xb) (oa - ob) xa.length 0 = -1000000000000000) := Hlo.out h1 h2
          clear Hhi Hlo Hin
          go_wp2_with fail
          go_quiet (first | (go_at_call_of 74 (Value.slice ea xa.length ca); refine (hwa.out _ ?_).mono ?_; exact hra2.out; rintro e w' ⟨rfl, rfl⟩; exact ⟨rfl, _, rfl⟩) | (go_at_call_of 74 (Value.slice eb xb.length cb); refine (hwb.out _ ?_).mono ?_; exact hrb2.out; rintro e w' ⟨rfl, rfl⟩; exact ⟨rfl, _, rfl⟩) | (go_at_call_of 73 (Value.int .i64 ua); refine (hsa.out _).mono ?_; rintro e w' ⟨rfl, rfl⟩; exact ⟨rfl, _, rfl⟩) | (go_at_call_of 73 (Value.int .i64 ub); refine (hsb.out _).mono ?_; rintro e w' ⟨rfl, rfl⟩; exact ⟨rfl, _, rfl⟩))
          go_wp2
          go_ret
          rw [Hr'.out]
          refine ⟨rfl, ?_⟩
          (repeat' (first | with_reducible assumption | with_reducible exact Below.refl _ _ | with_reducible exact Nat.le_refl _ | with_reducible refine Below.setCell ?_ ?_ _ | with_reducible refine Below.alloc ?_ ?_ _ | with_reducible apply Below.drew | with_reducible apply below_drewN | omega | (simp; done) | (simp; omega)))
        · have Hr' : Hid (apL (sd pa xa) (sd pb xb) (oa - ob) xa.length 0 = apL (sd pa xa) (sd pb xb) (oa - ob) n (10 * x + av - bv)) := Hin.out h1 h2
          clear Hhi Hlo Hin
          go_wp2_with fail
          go_quiet (first | (go_at_call_of 74 (Value.slice ea xa.length ca); refine (hwa.out _ ?_).mono ?_; exact hra2.out; rintro e w' ⟨rfl, rfl⟩; exact ⟨rfl, _, rfl⟩) | (go_at_call_of 74 (Value.slice eb xb.length cb); refine (hwb.out _ ?_).mono ?_; exact hrb2.out; rintro e w' ⟨rfl, rfl⟩; exact ⟨rfl, _, rfl⟩) | (go_at_call_of 73 (Value.int .i64 ua); refine (hsa.out _).mono ?_; rintro e w' ⟨rfl, rfl⟩; exact ⟨rfl, _, rfl⟩) | (go_at_call_of 73 (Value.int .i64 ub); refine (hsb.out _).mono ?_; rintro e w' ⟨rfl, rfl⟩; exact ⟨rfl, _, rfl⟩))
          go_wp2
          go_roundw
          case rel => exact ⟨n, _, 10 * x + av - bv, rfl, rfl, by omega, by omega, by omega, Hr', rfl⟩
          case measure => simp [intOf] <;> omega

set_option maxHeartbeats 4000000 in
set_option maxRecDepth 4000 in
theorem apart_lt (ma pa pla mb pb plb : Bool) (sa sb ea eb : Option Addr) (n1 c1 n2 c2 ca cb : Nat) (oa ob : Int) (xa xb ta tb : List UInt8) (w : World) (hxa : allD xa) (hxb : allD xb) (hra : RdD w ea xa) (hrb : RdD w eb xb)
    (hla : xa.length ≤ 281474976710656) (hlb : xb.length ≤ 281474976710656) (hoa1 : -281474976710656 ≤ oa) (hoa2 : oa ≤ 281474976710656) (hob1 : -281474976710656 ≤ ob) (hob2 : ob ≤ 281474976710656) (hsel : xa.length < xb.length) :
    Calls Tryd.prog 44 #[.agg #[.bool ma, .slice sa n1 c1, .int .i64 oa, .bool pa, .slice ea xa.length ca, .bool pla, .string ⟨ta.toArray⟩], .agg #[.bool mb, .slice sb n2 c2, .int .i64 ob, .bool pb, .slice eb xb.length cb, .bool plb, .string ⟨tb.toArray⟩]] w fun e w' =>
      e = .returned (.int .i64 (apL (sd pa xa) (sd pb xb) (oa - ob) xb.length 0)) ∧ Below w.heap.size w w' := by
  obtain ⟨W2, hW2⟩ : ∃ W2, W2 = (w.alloc (boxR ma sa n1 c1 oa pa ea xa.length ca pla ta)).alloc (boxR mb sb n2 c2 ob pb eb xb.length cb plb tb) := ⟨_, rfl⟩
  have hB2 : Below w.heap.size w W2 := by
    rw [hW2]
    (repeat' (first | with_reducible assumption | with_reducible exact Below.refl _ _ | with_reducible exact Nat.le_refl _ | with_reducible refine Below.setCell ?_ ?_ _ | with_reducible refine Below.alloc ?_ ?_ _ | with_reducible apply Below.drew | with_reducible apply below_drewN | omega | (simp; done) | (simp; omega)))
  have hra2 : Hid (RdD W2 ea xa) := hra.below hB2
  have hrb2 : Hid (RdD W2 eb xb) := hrb.below hB2
  have HB2 : Hid (Below w.heap.size w W2) := hB2
  have Ba := fun k => sd_bd pa xa k hxa
  have Bb := fun k => sd_bd pb xb k hxb
  have Ua := fun k => sd_bd false xa k hxa
  have Ub := fun k => sd_bd false xb k hxb
  have HBa : Hid (∀ k, -9 ≤ sd pa xa k ∧ sd pa xa k ≤ 9) := Ba
  have HBb : Hid (∀ k, -9 ≤ sd pb xb k ∧ sd pb xb k ≤ 9) := Bb
  have HUa : Hid (∀ k, -9 ≤ sd false xa k ∧ sd false xa k ≤ 9) := Ua
  have HUb : Hid (∀ k, -9 ≤ sd false xb k ∧ sd false xb k ≤ 9) := Ub
  clear hxa hxb hra hrb Ba Bb Ua Ub hB2
  subst hW2
  have hdec : decide (xa.length < xb.length) = true := by simp; omega
  go_enter Tryd.func44, Tryd.ntmps44
  go_wp2
  go_loopw [6, 7] (fun s6 s7 wr => ∃ (k q : Nat) (x : Int), s6 = .int .i64 x ∧ s7 = .int .i64 ((k : Int) - 1) ∧ k ≤ xb.length ∧ -1000000000000000 ≤ x ∧ x ≤ 1000000000000000 ∧ Hid (apL (sd pa xa) (sd pb xb) (oa - ob) xb.length 0 = apL (sd pa xa) (sd pb xb) (oa - ob) k x) ∧
      wr = ((w.alloc (boxR ma sa n1 c1 oa pa ea xa.length ca pla ta)).alloc (boxR mb sb n2 c2 ob pb eb xb.length cb plb tb)).drewN q) (fun _ s7 _ => (intOf s7 + 1).toNat)
  case atStart => exact ⟨xb.length, 0, 0, rfl, rfl, Nat.le_refl _, by omega, by omega, rfl, rfl⟩
  case round =>
    obtain ⟨k, q, x, rfl, rfl, hk, hx1, hx2, Hap, rfl⟩ := hrel
    rcases k with _ | n
    · have Hd0 : Hid (apL (sd pa xa) (sd pb xb) (oa - ob) xb.length 0 = x + oa - ob) := by
        show _ = _
        rw [Hap.out]; unfold apL; omega
      clear Hap
      go_wp2
      go_ret
      rw [Hd0.out]
      exact ⟨rfl, below_drewN HB2.out _⟩
    · have hn1 : ((n + 1 : Nat) : Int) - 1 = (n : Int) := by omega
      rw [hn1]
      clear hn1
      obtain ⟨ua, hua⟩ : ∃ ua, ua = sd false xa n := ⟨_, rfl⟩
      obtain ⟨ub, hub⟩ : ∃ ub, ub = sd false xb n := ⟨_, rfl⟩
      have u1 := HUa.out n
      have u2 := HUb.out n
      have b1 := HBa.out n
      have b2 := HBb.out n
      rw [← sd_sgd pa xa n] at b1
      rw [← sd_sgd pb xb n] at b2
      rw [← hua] at u1 b1
      rw [← hub] at u2 b2
      obtain ⟨av, hav⟩ : ∃ av, av = sgd pa ua := ⟨_, rfl⟩
      obtain ⟨bv, hbv⟩ : ∃ bv, bv = sgd pb ub := ⟨_, rfl⟩
      have eA : sd pa xa n = av := by rw [hav, hua, sd_sgd]
      have eB : sd pb xb n = bv := by rw [hbv, hub, sd_sgd]
      rw [← hav] at b1
      rw [← hbv] at b2
      have hwa : Hid (∀ W, RdD W ea xa → Calls Tryd.prog 74 #[.slice ea xa.length ca, .int .i64 n] W fun e w' => e = .returned (.int .i64 ua) ∧ w' = W) := fun W h => by
        rw [hua]; exact rat_any ea ca xa n W h hla (by omega)
      have hwb : Hid (∀ W, RdD W eb xb → Calls Tryd.prog 74 #[.slice eb xb.length cb, .int .i64 n] W fun e w' => e = .returned (.int .i64 ub) ∧ w' = W) := fun W h => by
        rw [hub]; exact rat_any eb cb xb n W h hlb (by omega)
      have hsa : Hid (∀ W, Calls Tryd.prog 73 #[.int .i64 ua, .bool pa] W fun e w' => e = .returned (.int .i64 av) ∧ w' = W) := fun W => by rw [hav]; exact signed_any pa ua W u1.1 u1.2
      have hsb : Hid (∀ W, Calls Tryd.prog 73 #[.int .i64 ub, .bool pb] W fun e w' => e = .returned (.int .i64 bv) ∧ w' = W) := fun W => by rw [hbv]; exact signed_any pb ub W u2.1 u2.2
      have Hhi : Hid (1000000000000000 < 10 * x + av - bv → apL (sd pa xa) (sd pb xb) (oa - ob) xb.length 0 = 1000000000000000) := fun h => by
        rw [Hap.out]; exact apL_hi _ _ _ n x (by rw [eA, eB]; exact h)
      have Hlo : Hid (¬ 1000000000000000 < 10 * x + av - bv → 10 * x + av - bv < -1000000000000000 → apL (sd pa xa) (sd pb xb) (oa - ob) xb.length 0 = -1000000000000000) := fun h h' => by
        rw [Hap.out]; exact apL_lo _ _ _ n x (by rw [eA, eB]; exact h) (by rw [eA, eB]; exact h')
      have Hin : Hid (¬ 1000000000000000 < 10 * x + av - bv → ¬ 10 * x + av - bv < -1000000000000000 → apL (sd pa xa) (sd pb xb) (oa - ob) xb.length 0 = apL (sd pa xa) (sd pb xb) (oa - ob) n (10 * x + av - bv)) := fun h h' => by
        rw [Hap.out, apL_in _ _ _ n x (by rw [eA, eB]; exact h) (by rw [eA, eB]; exact h'), eA, eB]
      obtain ⟨b11, b12⟩ := b1
      obtain ⟨b21, b22⟩ := b2
      have w1 : IntKind.i64.wrap (10 * x) = 10 * x := by rw [IntKind.wrap_i64]; omega
      have w2 : IntKind.i64.wrap (10 * x + av) = 10 * x + av := by rw [IntKind.wrap_i64]; omega
      have w3 : IntKind.i64.wrap (10 * x + av - bv) = 10 * x + av - bv := by rw [IntKind.wrap_i64]; omega
      clear hua hub hav hbv eA eB u1 u2 Hap
      by_cases h1 : 1000000000000000 < 10 * x + av - bv
      · have Hr := Hhi.out h1
        have Hr' : Hid (apL (sd pa xa) (sd pb xb) (oa - ob) xb.length 0 = 1000000000000000) := Hr
        clear Hhi Hlo Hin Hr
        go_wp2_with fail
        go_quiet (first | (go_at_call_of 74 (Value.slice ea xa.length ca); refine (hwa.out _ ?_).mono ?_; exact hra2.out; rintro e w' ⟨rfl, rfl⟩; exact ⟨rfl, _, rfl⟩) | (go_at_call_of 74 (Value.slice eb xb.length cb); refine (hwb.out _ ?_).mono ?_; exact hrb2.out; rintro e w' ⟨rfl, rfl⟩; exact ⟨rfl, _, rfl⟩) | (go_at_call_of 73 (Value.int .i64 ua); refine (hsa.out _).mono ?_; rintro e w' ⟨rfl, rfl⟩; exact ⟨rfl, _, rfl⟩) | (go_at_call_of 73 (Value.int .i64 ub); refine (hsb.out _).mono ?_; rintro e w' ⟨rfl, rfl⟩; exact ⟨rfl, _, rfl⟩))
        go_wp2
        go_ret
        rw [Hr'.out]
        refine ⟨rfl, ?_⟩
        (repeat' (first | with_reducible assumption | with_reducible exact Below.refl _ _ | with_reducible exact Nat.le_refl _ | with_reducible refine Below.setCell ?_ ?_ _ | with_reducible refine Below.alloc ?_ ?_ _ | with_reducible apply Below.drew | with_reducible apply below_drewN | omega | (simp; done) | (simp; omega)))
      · by_cases h2 : 10 * x + av - bv < -1000000000000000
        · have Hr' : Hid (apL (sd pa xa) (sd pb xb) (oa - ob) xb.length 0 = -1000000000000000) := Hlo.out h1 h2
          clear Hhi Hlo Hin
          go_wp2_with fail
          go_quiet (first | (go_at_call_of 74 (Value.slice ea xa.length ca); refine (hwa.out _ ?_).mono ?_; exact hra2.out; rintro e w' ⟨rfl, rfl⟩; exact ⟨rfl, _, rfl⟩) | (go_at_call_of 74 (Value.slice eb xb.length cb); refine (hwb.out _ ?_).mono ?_; exact hrb2.out; rintro e w' ⟨rfl, rfl⟩; exact ⟨rfl, _, rfl⟩) | (go_at_call_of 73 (Value.int .i64 ua); refine (hsa.out _).mono ?_; rintro e w' ⟨rfl, rfl⟩; exact ⟨rfl, _, rfl⟩) | (go_at_call_of 73 (Value.int .i64 ub); refine (hsb.out _).mono ?_; rintro e w' ⟨rfl, rfl⟩; exact ⟨rfl, _, rfl⟩))
          go_wp2
          go_ret
          rw [Hr'.out]
          refine ⟨rfl, ?_⟩
          (repeat' (first | with_reducible assumption | with_reducible exact Below.refl _ _ | with_reducible exact Nat.le_refl _ | with_reducible refine Below.setCell ?_ ?_ _ | with_reducible refine Below.alloc ?_ ?_ _ | with_reducible apply Below.drew | with_reducible apply below_drewN | omega | (simp; done) | (simp; omega)))
        · have Hr' : Hid (apL (sd pa xa) (sd pb xb) (oa - ob) xb.length 0 = apL (sd pa xa) (sd pb xb) (oa - ob) n (10 * x + av - bv)) := Hin.out h1 h2
          clear Hhi Hlo Hin
          go_wp2_with fail
          go_quiet (first | (go_at_call_of 74 (Value.slice ea xa.length ca); refine (hwa.out _ ?_).mono ?_; exact hra2.out; rintro e w' ⟨rfl, rfl⟩; exact ⟨rfl, _, rfl⟩) | (go_at_call_of 74 (Value.slice eb xb.length cb); refine (hwb.out _ ?_).mono ?_; exact hrb2.out; rintro e w' ⟨rfl, rfl⟩; exact ⟨rfl, _, rfl⟩) | (go_at_call_of 73 (Value.int .i64 ua); refine (hsa.out _).mono ?_; rintro e w' ⟨rfl, rfl⟩; exact ⟨rfl, _, rfl⟩) | (go_at_call_of 73 (Value.int .i64 ub); refine (hsb.out _).mono ?_; rintro e w' ⟨rfl, rfl⟩; exact ⟨rfl, _, rfl⟩))
          go_wp2
          go_roundw
          case rel => exact ⟨n, _, 10 * x + av - bv, rfl, rfl, by omega, by omega, by omega, Hr', rfl⟩
          case measure => simp [intOf] <;> omega

theorem apart_any (ma pa pla mb pb plb : Bool) (sa sb ea eb : Option Addr) (n1 c1 n2 c2 ca cb : Nat) (oa ob : Int) (xa xb ta tb : List UInt8) (w : World) (hxa : allD xa) (hxb : allD xb) (hra : RdD w ea xa) (hrb : RdD w eb xb)
    (hla : xa.length ≤ 281474976710656) (hlb : xb.length ≤ 281474976710656) (hoa1 : -281474976710656 ≤ oa) (hoa2 : oa ≤ 281474976710656) (hob1 : -281474976710656 ≤ ob) (hob2 : ob ≤ 281474976710656) :
    Calls Tryd.prog 44 #[.agg #[.bool ma, .slice sa n1 c1, .int .i64 oa, .bool pa, .slice ea xa.length ca, .bool pla, .string ⟨ta.toArray⟩], .agg #[.bool mb, .slice sb n2 c2, .int .i64 ob, .bool pb, .slice eb xb.length cb, .bool plb, .string ⟨tb.toArray⟩]] w fun e w' =>
      e = .returned (.int .i64 (apL (sd pa xa) (sd pb xb) (oa - ob) (max xa.length xb.length) 0)) ∧ Below w.heap.size w w' := by
  rcases Nat.lt_or_ge xa.length xb.length with h | h
  · rw [Nat.max_eq_right (Nat.le_of_lt h)]
    exact apart_lt ma pa pla mb pb plb sa sb ea eb n1 c1 n2 c2 ca cb oa ob xa xb ta tb w hxa hxb hra hrb hla hlb hoa1 hoa2 hob1 hob2 h
  · rw [Nat.max_eq_left h]
    exact apart_ge ma pa pla mb pb plb sa sb ea eb n1 c1 n2 c2 ca cb oa ob xa xb ta tb w hxa hxb hra hrb hla hlb hoa1 hoa2 hob1 hob2 h

end Go.Proofs.YtgkbbcoagnilgabDoor
