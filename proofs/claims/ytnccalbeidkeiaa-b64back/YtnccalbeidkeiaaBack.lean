import Derived.Test.YtnccalbeidkeiaaBack1
import Derived.Test.YtnccalbeidkeiaaAwake
namespace Go.Proofs.Ytnccalbeidkeiaa
open Go.RowKit

/-- What the law asks of the two texts of one list of bytes. -/
structure Two (n : Nat) (S T : List UInt8) : Prop where
  four : ((T.length : Int) % 4 != 0) = false
  len : ((S.length : Int) != (8 * (n : Int) + 5) / 6) = false
  le : S.length ≤ T.length
  bound : T.length ≤ 200000000000000
  pair : ∀ k (h1 : k < S.length) (h2 : k < T.length), Pair S[k] T[k]
  filled : ∀ k (h : k < T.length), S.length ≤ k → T[k] = 61

theorem byte_ne (x c : UInt8) (h : x ≠ c) : ((x.toNat : Int) == (c.toNat : Int)) = false := by
  have : x.toNat ≠ c.toNat := fun e => h (UInt8.toNat_inj.1 e)
  simp; omega

theorem two_of (l : List UInt8) (hlen : l.length ≤ 140737488355328) : Two l.length (enc urlRow l) (enc stdRow l ++ fill l.length) := by
  have e1 := enc_length urlRow l
  have e2 := enc_length stdRow l
  have e3 := fill_length stdRow l
  have e4 : (enc stdRow l ++ fill l.length).length = (l.length + 2) / 3 * 4 := by rw [List.length_append, e3]
  refine ⟨?_, ?_, by omega, by omega, ?_, ?_⟩
  · rw [e4]; simp
  · rw [e1]; simp; omega
  · intro k h1 h2
    have h3 : k < (enc stdRow l).length := by omega
    rw [List.getElem_append_left h3]
    exact enc_pair l k h1 h3
  · intro k h hk
    rw [List.getElem_append_right (by omega)]
    simp [fill]

set_option maxHeartbeats 4000000 in
set_option maxRecDepth 100000 in
theorem back_any (ao : Option Addr) (c : Nat) (l : List UInt8) (w : World) (hrd : Rd w ao l) (hlc : l.length ≤ c) (hlen : l.length ≤ 140737488355328) :
    Calls Try.prog 5 #[.slice ao l.length c] w fun e w' => e = .returned (.bool true) ∧ Below w.heap.size w w' := by
  have H2 : Hid (Two l.length (enc urlRow l) (enc stdRow l ++ fill l.length)) := two_of l hlen
  have HU : Hid (decU (enc urlRow l) = (some l, 0, 0)) := decU_enc l
  have HS : Hid (decS (enc stdRow l ++ fill l.length) = (some l, 0, 0)) := decS_enc l
  have hR : Hid (Rd w ao l) := hrd
  clear hrd
  go_enter Try.func5, Try.ntmps5
  go_wp2_with fail
  refine (awake_any w).mono ?_
  rintro e w1 ⟨rfl, hb1⟩
  have hR1 : Hid (Rd w1 ao l) := hR.out.below hb1 (Nat.le_refl _)
  go_wp2_with fail
  refine (encode_any ao c l w1 hR1.out hlc hlen).mono ?_
  rintro e w2 ⟨rfl, hb2⟩
  have hR2 : Hid (Rd w2 ao l) := hR1.out.below hb2 (Nat.le_refl _)
  have hB2 : Below w.heap.size w w2 := hb1.trans (hb2.mono hb1.size)
  clear hR hR1 hb1 hb2
  go_wp2_with fail
  refine (encodeStd_any ao c l w2 hR2.out hlc hlen).mono ?_
  rintro e w3 ⟨rfl, hb3⟩
  have hR3 : Hid (Rd w3 ao l) := hR2.out.below hb3 (Nat.le_refl _)
  have hB3 : Below w.heap.size w w3 := hB2.trans (hb3.mono hB2.size)
  clear hR2 hB2 hb3
  generalize enc urlRow l = S at H2 HU
  generalize enc stdRow l ++ fill l.length = T at H2 HS
  have hSb : S.length ≤ 281474976710656 := by have := H2.out.le; have := H2.out.bound; omega
  have hTb : T.length ≤ 281474976710656 := by have := H2.out.bound; omega
  go_wp2_with fail
  refine (decode_any S w3 hSb).mono ?_
  rw [HU.out]
  rintro e w4 ⟨v, rfl, hv, hb4⟩
  obtain ⟨g, cap, rfl, hg, hcap, hrd⟩ := hv.rd
  have hRa : Hid (Rd w4 (some ⟨g, 0, none⟩) l) := hrd
  have hR4 : Hid (Rd w4 ao l) := hR3.out.below hb4 (Nat.le_refl _)
  have hB4 : Below w.heap.size w w4 := hB3.trans (hb4.mono hB3.size)
  clear hv hrd hR3 hB3 hb4 HU
  go_wp2_with fail
  refine (decodeStd_any T w4 hTb).mono ?_
  rw [HS.out]
  rintro e w5 ⟨v, rfl, hv, hb5⟩
  obtain ⟨g2, cap2, rfl, hg2, hcap2, hrd2⟩ := hv.rd
  have hRc : Hid (Rd w5 (some ⟨g2, 0, none⟩) l) := hrd2
  have hRb : Hid (Rd w5 (some ⟨g, 0, none⟩) l) := hRa.out.below hb5 (Nat.le_refl _)
  have hR5 : Hid (Rd w5 ao l) := hR4.out.below hb5 (Nat.le_refl _)
  have hB5 : Below w.heap.size w w5 := hB4.trans (hb5.mono hB4.size)
  clear hv hrd2 hR4 hB4 hb5 HS hRa hg hg2
  have hT4 := H2.out.four
  have hSl := H2.out.len
  have hle : ¬ (T.length : Int) < (S.length : Int) := by have := H2.out.le; omega
  go_wp2_with fail
  refine (same_any (some ⟨g, 0, none⟩) ao cap c l l w5 hRb.out hR5.out (by omega)).mono ?_
  rw [decide_eq_true (rfl : l = l)]
  rintro e w6 ⟨rfl, q, hq⟩
  have hRc6 : Hid (Rd w6 (some ⟨g2, 0, none⟩) l) := by rw [hq]; exact hRc.out
  have hR6 : Hid (Rd w6 ao l) := by rw [hq]; exact hR5.out
  have hB6 : Below w.heap.size w w6 := by rw [hq]; exact below_drewN hB5 q
  clear hq hRc hR5 hB5 hRb
  go_wp2_with fail
  refine (same_any (some ⟨g2, 0, none⟩) ao cap2 c l l w6 hRc6.out hR6.out (by omega)).mono ?_
  rw [decide_eq_true (rfl : l = l)]
  rintro e w7 ⟨rfl, q, hq⟩
  have hB7 : Below w.heap.size w w7 := by rw [hq]; exact below_drewN hB6 q
  clear hq hRc6 hR6 hB6
  go_wp2
  clear hT4 hSl
  have hle' := H2.out.le
  have hSb' : S.length ≤ 281474976710656 := hSb
  clear hle
  go_loop [11] (fun s => ∃ k : Nat, k ≤ S.length ∧ s = .int .i64 k) (fun s => S.length - (intOf s).toNat)
  case atStart => exact ⟨0, Nat.zero_le _, rfl⟩
  case round =>
    obtain ⟨k, hk, rfl⟩ := hrel
    by_cases hlt : k < S.length
    · have hlt2 : k < T.length := by omega
      have hp := H2.out.pair k hlt hlt2
      obtain ⟨x, hx⟩ : ∃ x, S[k] = x := ⟨_, rfl⟩
      obtain ⟨y, hy⟩ : ∃ y, T[k] = y := ⟨_, rfl⟩
      rw [hx, hy] at hp
      have gx : (⟨S.toArray⟩ : ByteArray)[k]'(by show k < S.toArray.size; simpa using hlt) = x := hx
      have gy : (⟨T.toArray⟩ : ByteArray)[k]'(by show k < T.toArray.size; simpa using hlt2) = y := hy
      clear hx hy
      rcases hp with ⟨rfl, rfl⟩ | ⟨rfl, rfl⟩ | ⟨rfl, n1, n2, n3, n4⟩
      · skip
        go_wp2
        go_round
        case rel => exact ⟨k + 1, by omega, by go_num⟩
        case measure => simp [intOf]; omega
      · skip
        go_wp2
        go_round
        case rel => exact ⟨k + 1, by omega, by go_num⟩
        case measure => simp [intOf]; omega
      · have d1 : ((x.toNat : Int) == 43) = false := byte_ne _ 43 n1
        have d2 : ((x.toNat : Int) == 47) = false := byte_ne _ 47 n2
        have d3 : ((x.toNat : Int) == 45) = false := byte_ne _ 45 n3
        have d4 : ((x.toNat : Int) == 95) = false := byte_ne _ 95 n4
        clear n1 n2 n3 n4
        go_wp2
        go_round
        case rel => exact ⟨k + 1, by omega, by go_num⟩
        case measure => simp [intOf]; omega
    · go_wp2
      go_loop [14] (fun s => ∃ k : Nat, S.length ≤ k ∧ k ≤ T.length ∧ s = .int .i64 k) (fun s => T.length - (intOf s).toNat)
      case atStart => exact ⟨S.length, Nat.le_refl _, hle', rfl⟩
      case round =>
        obtain ⟨k2, hk1, hk2, rfl⟩ := hrel
        by_cases hlt2 : k2 < T.length
        · have hx := H2.out.filled k2 hlt2 hk1
          have gx : (⟨T.toArray⟩ : ByteArray)[k2]'(by show k2 < T.toArray.size; simpa using hlt2) = 61 := hx
          clear hx
          go_wp2
          go_round
          case rel => exact ⟨k2 + 1, by omega, by omega, by go_num⟩
          case measure => simp [intOf]; omega
        · go_wp2
          go_ret
          exact ⟨rfl, hB7⟩

end Go.Proofs.Ytnccalbeidkeiaa
