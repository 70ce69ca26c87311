import Derived.Test.YtjehkpndchadbaaGreatDoorRX
import Derived.Lib.SlBytesConst
namespace Go.Proofs.YtjehkpndchadbaaGreatDoor
open Go.RowKit Go.Shelf

theorem ixb_hi (c : UInt8) : ∀ l : List UInt8, Lib.indexByte l c ≤ (l.length : Int) - 1
  | [] => by simp [Lib.indexByte]
  | b :: r => by
    have ih := ixb_hi c r
    unfold Lib.indexByte
    simp only [List.length_cons]
    split
    · omega
    · split
      · omega
      · omega

def smallS : List UInt8 := [48, 49, 50, 51, 52, 53, 54, 55, 56, 57, 97, 98, 99, 100, 101, 102]
def largeS : List UInt8 := [48, 49, 50, 51, 52, 53, 54, 55, 56, 57, 65, 66, 67, 68, 69, 70]
theorem hexV_eq (c : UInt8) : hexV c = max (Lib.indexByte smallS c) (Lib.indexByte largeS c) := rfl
theorem hexV_rg (c : UInt8) : -1 ≤ hexV c ∧ hexV c ≤ 15 := by
  have h1 := Lib.indexByte_ge smallS c
  have h2 := Lib.indexByte_ge largeS c
  have h3 := ixb_hi c smallS
  have h4 := ixb_hi c largeS
  have e1 : smallS.length = 16 := rfl
  have e2 : largeS.length = 16 := rfl
  rw [e1] at h3
  rw [e2] at h4
  rw [hexV_eq]
  omega

set_option maxHeartbeats 1000000 in
theorem hexadecimal_any (c : UInt8) (w : World) : Calls Tryz.prog 87 #[.int .u8 c.toNat] w fun e w' => e = .returned (.int .i32 (hexV c)) ∧ w' = w := by
  have HC1 : Hid (∀ w, Calls Tryz.prog 36 #[.string { data := #[48, 49, 50, 51, 52, 53, 54, 55, 56, 57, 97, 98, 99, 100, 101, 102] }, .int .u8 c.toNat] w fun e w' => e = .returned (.int .i64 (Lib.indexByte smallS c)) ∧ w' = w) := fun w => indexByte_any smallS c w
  have HC2 : Hid (∀ w, Calls Tryz.prog 36 #[.string { data := #[48, 49, 50, 51, 52, 53, 54, 55, 56, 57, 65, 66, 67, 68, 69, 70] }, .int .u8 c.toNat] w fun e w' => e = .returned (.int .i64 (Lib.indexByte largeS c)) ∧ w' = w) := fun w => indexByte_any largeS c w
  have h1 := Lib.indexByte_ge smallS c
  have h2 := Lib.indexByte_ge largeS c
  have h3 := ixb_hi c smallS
  have h4 := ixb_hi c largeS
  have e1 : smallS.length = 16 := rfl
  have e2 : largeS.length = 16 := rfl
  rw [e1] at h3
  rw [e2] at h4
  have HV : Hid (hexV c = max (Lib.indexByte smallS c) (Lib.indexByte largeS c)) := hexV_eq c
  clear e1 e2
  generalize Lib.indexByte smallS c = a at *
  generalize Lib.indexByte largeS c = b at *
  go_enter Tryz.func87, Tryz.ntmps87
  go_wp2_with fail
  refine (HC1.out _).mono ?_
  rintro e w1 ⟨rfl, rfl⟩
  go_wp2_with fail
  refine (HC2.out _).mono ?_
  rintro e w2 ⟨rfl, rfl⟩
  go_wp2
  go_ret
  refine ⟨?_, rfl⟩
  rw [HV.out]
  rfl

set_option maxHeartbeats 1000000 in
theorem awaited_any (a b : Int) (s : Bool) (w : World) : Calls Tryz.prog 88 #[.int .i32 a, .int .i32 b, .bool s] w fun e w' => e = .returned (.bool (awF a b s)) ∧ w' = w := by
  cases s
  · by_cases h1 : a < 56320
    · have q1 : decide (a < 56320) = true := by simpa using h1
      have hF : awF a b false = true := by unfold awF; simp [h1]
      rw [hF]
      go_enter Tryz.func88, Tryz.ntmps88
      go_wp2
      go_ret
      exact ⟨rfl, rfl⟩
    · have q1 : decide (a < 56320) = false := by simpa using h1
      have hF : awF a b false = decide (b ≥ 57344) := by unfold awF; simp [h1]
      rw [hF]
      go_enter Tryz.func88, Tryz.ntmps88
      go_wp2
      go_ret
      exact ⟨rfl, rfl⟩
  · by_cases h1 : b ≥ 56320
    · have q1 : decide (b ≥ 56320) = true := by simpa using h1
      have hF : awF a b true = decide (a < 57344) := by unfold awF; simp [h1]
      rw [hF]
      go_enter Tryz.func88, Tryz.ntmps88
      go_wp2
      go_ret
      exact ⟨rfl, rfl⟩
    · have q1 : decide (b ≥ 56320) = false := by simpa using h1
      have hF : awF a b true = false := by unfold awF; simp [h1]
      rw [hF]
      go_enter Tryz.func88, Tryz.ntmps88
      go_wp2
      go_ret
      exact ⟨rfl, rfl⟩

end Go.Proofs.YtjehkpndchadbaaGreatDoor

namespace Go.Proofs.YtjehkpndchadbaaGreatDoor
open Go.RowKit Go.Shelf

theorem i32_or_nat (a b : Nat) (ha : a < 2147483648) (hb : b < 2147483648) : bits .or .i32 (a : Int) (b : Int) = ((a ||| b : Nat) : Int) := by
  have hx : a ||| b < 2 ^ 31 := Nat.or_lt_two_pow (by omega) (by omega)
  show IntKind.i32.wrap ((BitVec.ofInt 32 (a : Int) ||| BitVec.ofInt 32 (b : Int)).toNat : Int) = _
  rw [BitVec.toNat_or, ofInt_u32 a (by omega), ofInt_u32 b (by omega)]
  generalize a ||| b = z at hx
  rw [IntKind.wrap_i32]
  omega
theorem unitF_end {t : List UInt8} {place : Nat} {second : Bool} {n : Nat} {u : Int} {p : Nat} (h : ¬ p < t.length) : unitF t place second (n + 1) u p = .bad 31 t.length := by
  unfold unitF; rw [if_neg h]
theorem unitF_neg {t : List UInt8} {place : Nat} {second : Bool} {n : Nat} {u : Int} {p : Nat} (h : p < t.length) (hd : hexV (t.getD p 0) < 0) : unitF t place second (n + 1) u p = .bad 33 place := by
  unfold unitF; rw [if_pos h]; simp only; rw [if_pos hd]
theorem unitF_go {t : List UInt8} {place : Nat} {second : Bool} {n : Nat} {u : Int} {p : Nat} (h : p < t.length) (hd : ¬ hexV (t.getD p 0) < 0) (ha : awF (u + hexV (t.getD p 0) * 16 ^ n) (u + hexV (t.getD p 0) * 16 ^ n + (16 ^ n - 1)) second = true) : unitF t place second (n + 1) u p = unitF t place second n (u + hexV (t.getD p 0) * 16 ^ n) (p + 1) := by
  conv => lhs; unfold unitF
  rw [if_pos h]; simp only; rw [if_neg hd, if_pos ha]
theorem unitF_not {t : List UInt8} {place : Nat} {second : Bool} {n : Nat} {u : Int} {p : Nat} (h : p < t.length) (hd : ¬ hexV (t.getD p 0) < 0) (ha : awF (u + hexV (t.getD p 0) * 16 ^ n) (u + hexV (t.getD p 0) * 16 ^ n + (16 ^ n - 1)) second = false) : unitF t place second (n + 1) u p = .bad 33 place := by
  unfold unitF; rw [if_pos h]; simp only; rw [if_neg hd, ha]; rfl

set_option maxRecDepth 100000 in
set_option maxHeartbeats 4000000 in
theorem unit_any (w : World) (b : Nat) (t : List UInt8) (p place : Nat) (second : Bool) (x : X5) (c q : Int) (h : RB w b t p x c q) (hp : p ≤ t.length) (ht : t.length ≤ 1073741824) :
    Calls Tryz.prog 80 #[.pointer (some ⟨b, 0, none⟩), .int .i64 (place : Int), .bool second] w fun e w' => But w w' b ∧
      (∀ u p', unitF t place second 4 0 p = .ok u p' → e = .returned (.tuple #[.int .i32 u, .bool true]) ∧ RB w' b t p' x c q) ∧
      (∀ c' p', unitF t place second 4 0 p = .bad c' p' → e = .returned (.tuple #[.int .i32 0, .bool false]) ∧ ∃ p2, RB w' b t p2 x c' p') := by
  obtain ⟨R, hR⟩ : ∃ R, unitF t place second 4 0 p = R := ⟨_, rfl⟩
  rw [hR]
  have HE : Hid (unitF t place second 4 0 p = R) := hR
  have HN : Hid (∀ (w : World) (k : Nat), RB w b t k x c q → k ≤ t.length → Calls Tryz.prog 71 #[.pointer (some ⟨b, 0, none⟩)] w fun e w' => But w w' b ∧
      (k < t.length → e = .returned (.tuple #[.int .u8 (t.getD k 0).toNat, .bool true]) ∧ RB w' b t (k + 1) x c q) ∧
      (¬ k < t.length → e = .returned (.tuple #[.int .u8 0, .bool false]) ∧ RB w' b t k x 31 k)) := fun w k h hk => next_any w b t k x c q h hk ht
  have HH : Hid (∀ (d : UInt8) (w : World), Calls Tryz.prog 87 #[.int .u8 d.toNat] w fun e w' => e = .returned (.int .i32 (hexV d)) ∧ w' = w) := fun d w => hexadecimal_any d w
  have HA : Hid (∀ (a b : Int) (w : World), Calls Tryz.prog 88 #[.int .i32 a, .int .i32 b, .bool second] w fun e w' => e = .returned (.bool (awF a b second)) ∧ w' = w) := fun a b w => awaited_any a b second w
  have HF : Hid (∀ (w : World) (k : Nat) (c' q' : Int), RB w b t k x c q → Calls Tryz.prog 37 #[.pointer (some ⟨b, 0, none⟩), .int .i64 c', .int .i64 q'] w fun e w' => e = .returned (.bool false) ∧ But w w' b ∧ RB w' b t k x c' q') := fun w k c' q' h => fail_any w b t k x c q c' q' h
  have HR0 : Hid (RB w b t p x c q) := h
  clear h hR
  go_enter Tryz.func80, Tryz.ntmps80
  go_wp2
  go_loopw [8, 9] (fun s8 s9 wx => ∃ (n : Nat) (u : Nat) (k : Nat), n ≤ 4 ∧ s9 = .int .i64 (4 * (n : Int) - 4) ∧ s8 = .int .i32 (u : Int) ∧ u < 65536 ∧ u % 16 ^ n = 0 ∧ k ≤ t.length ∧ But w wx b ∧ unitF t place second n (u : Int) k = R ∧ RB wx b t k x c q) (fun _ s _ => (intOf s + 4).toNat)
  case atStart => exact ⟨4, 0, p, by omega, rfl, rfl, by omega, rfl, hp, But.refl _ _, HE.out, HR0.out⟩
  case round =>
    obtain ⟨n, u, k, hn, rfl, rfl, hu, hum, hk, hb, he, hr⟩ := hrel
    have HB : Hid (But w wr b) := hb
    have HRk : Hid (RB wr b t k x c q) := hr
    have HEk : Hid (unitF t place second n (u : Int) k = R) := he
    clear hb he hr
    match n, hn, hum, HEk with
    | 0, _, hum, HEk =>
      have Hz : Hid (R = .ok (u : Int) k) := HEk.out.symm
      clear HEk
      go_wp2
      go_ret2
      refine ⟨HB.out, ?_, ?_⟩
      · intro u' p' e; rw [Hz.out] at e; cases e; exact ⟨rfl, HRk.out⟩
      · intro c' p' e; rw [Hz.out] at e; cases e
    | 1, _, hum, HEk =>
      have C := HN.out wr k HRk.out hk
      by_cases hl : k < t.length
      · go_wp2_with fail
        refine C.mono ?_
        rintro e w1 ⟨hB1, h1, _⟩
        obtain ⟨rfl, hR1⟩ := h1 hl
        have HB1 : Hid (But w w1 b) := HB.out.trans hB1
        have HR1 : Hid (RB w1 b t (k + 1) x c q) := hR1
        clear hB1 hR1 h1
        obtain ⟨d, hd⟩ : ∃ d, t.getD k 0 = d := ⟨_, rfl⟩
        have Hd : Hid (t.getD k 0 = d) := hd
        rw [hd]
        clear hd
        have hrg := hexV_rg d
        have C2 := HH.out d w1
        go_wp2_with fail
        refine C2.mono ?_
        rintro e w2 ⟨rfl, rfl⟩
        clear C2
        obtain ⟨D, hD⟩ : ∃ D, hexV d = D := ⟨_, rfl⟩
        rw [hD] at hrg ⊢
        have HD : Hid (hexV (t.getD k 0) = D) := by show _ = _; rw [Hd.out]; exact hD
        clear hD
        have hr1 := hrg.1
        have hr2 := hrg.2
        by_cases hneg : D < 0
        · have hD1 : D = -1 := by omega
          subst hD1
          have Hz : Hid (R = .bad 33 place) := by show _ = _; rw [← HEk.out]; exact unitF_neg hl (by rw [HD.out]; omega)
          clear HEk
          have C3 := HF.out w2 (k + 1) 33 (place : Int) HR1.out
          go_wp2_with fail
          refine C3.mono ?_
          rintro e w3 ⟨rfl, hB3, hR3⟩
          go_wp2
          go_ret2
          refine ⟨HB1.out.trans hB3, ?_, ?_⟩
          · intro u' p' e; rw [Hz.out] at e; cases e
          · intro c' p' e; rw [Hz.out] at e; cases e; exact ⟨rfl, _, hR3⟩
        · obtain ⟨e0, rfl⟩ : ∃ e0 : Nat, D = (e0 : Int) := ⟨D.toNat, by omega⟩
          have he0 : e0 ≤ 15 := by omega
          have hum2 : u % 16 = 0 := hum
          obtain ⟨V, hV⟩ : ∃ V : Nat, V = u + e0 * 1 := ⟨_, rfl⟩
          have hor1 : bits .or .i32 (u : Int) (e0 : Int) = (V : Int) := by
            have h9 := i32_or_nat u (e0 * 1) (by omega) (by omega)
            rw [nat_join 4 u (e0 * 1) (by omega) (by omega), ← hV] at h9
            simpa using h9
          have hor2 : bits .or .i32 (V : Int) 0 = (V : Int) + 0 := by
            have h9 := i32_or_nat V 0 (by omega) (by omega)
            rw [nat_join 0 V 0 (by omega) (by omega)] at h9
            simpa using h9
          have hVl : V < 65536 := by omega
          have hVm : V % 1 = 0 := by omega
          have HV : Hid ((u : Int) + hexV (t.getD k 0) * 16 ^ 0 = (V : Int)) := by show _ = _; rw [HD.out, hV]; omega
          have HDn : Hid (0 ≤ hexV (t.getD k 0)) := by show _ ≤ _; rw [HD.out]; omega
          have HAv := HA.out (V : Int) ((V : Int) + 0) w2
          obtain ⟨A, hA⟩ : ∃ A, awF (V : Int) ((V : Int) + 0) second = A := ⟨_, rfl⟩
          rw [hA] at HAv
          have HA2 : Hid (awF ((u : Int) + hexV (t.getD k 0) * 16 ^ 0) ((u : Int) + hexV (t.getD k 0) * 16 ^ 0 + (16 ^ 0 - 1)) second = A) := by show _ = _; rw [HV.out]; exact hA
          clear hV hA hum hum2
          go_wp2_with fail
          refine HAv.mono ?_
          rintro e w3 ⟨rfl, rfl⟩
          clear HAv
          cases A
          · have Hz : Hid (R = .bad 33 place) := by show _ = _; rw [← HEk.out]; exact unitF_not hl (by have := HDn.out; omega) HA2.out
            clear HEk HA2
            have C3 := HF.out w3 (k + 1) 33 (place : Int) HR1.out
            go_wp2_with fail
            refine C3.mono ?_
            rintro e w4 ⟨rfl, hB3, hR3⟩
            go_wp2
            go_ret2
            refine ⟨HB1.out.trans hB3, ?_, ?_⟩
            · intro u' p' e; rw [Hz.out] at e; cases e
            · intro c' p' e; rw [Hz.out] at e; cases e; exact ⟨rfl, _, hR3⟩
          · have Hz : Hid (unitF t place second 0 (V : Int) (k + 1) = R) := by show _ = _; rw [← HEk.out, unitF_go hl (by have := HDn.out; omega) HA2.out, HV.out]
            clear HEk HA2 HV
            go_wp2
            go_roundw
            case rel => exact ⟨0, V, k + 1, by omega, by go_num, rfl, hVl, by simpa using hVm, by omega, HB1.out, Hz.out, HR1.out⟩
            case measure => simp [intOf]
      · have Hz : Hid (R = .bad 31 t.length) := by show _ = _; rw [← HEk.out]; exact unitF_end hl
        clear HEk
        go_wp2_with fail
        refine C.mono ?_
        rintro e w1 ⟨hB1, _, h1⟩
        obtain ⟨rfl, hR1⟩ := h1 hl
        have HB1 : Hid (But w w1 b) := HB.out.trans hB1
        have HR1 : Hid (RB w1 b t k x 31 k) := hR1
        have hkt : k = t.length := by omega
        have HKt : Hid (k = t.length) := hkt
        clear hB1 hR1 h1 hkt C
        go_wp2
        go_ret2
        refine ⟨HB1.out, ?_, ?_⟩
        · intro u' p' e; rw [Hz.out] at e; cases e
        · intro c' p' e; rw [Hz.out] at e; cases e; exact ⟨rfl, k, by have := HR1.out; rw [HKt.out] at this ⊢; exact this⟩
    | 2, _, hum, HEk =>
      have C := HN.out wr k HRk.out hk
      by_cases hl : k < t.length
      · go_wp2_with fail
        refine C.mono ?_
        rintro e w1 ⟨hB1, h1, _⟩
        obtain ⟨rfl, hR1⟩ := h1 hl
        have HB1 : Hid (But w w1 b) := HB.out.trans hB1
        have HR1 : Hid (RB w1 b t (k + 1) x c q) := hR1
        clear hB1 hR1 h1
        obtain ⟨d, hd⟩ : ∃ d, t.getD k 0 = d := ⟨_, rfl⟩
        have Hd : Hid (t.getD k 0 = d) := hd
        rw [hd]
        clear hd
        have hrg := hexV_rg d
        have C2 := HH.out d w1
        go_wp2_with fail
        refine C2.mono ?_
        rintro e w2 ⟨rfl, rfl⟩
        clear C2
        obtain ⟨D, hD⟩ : ∃ D, hexV d = D := ⟨_, rfl⟩
        rw [hD] at hrg ⊢
        have HD : Hid (hexV (t.getD k 0) = D) := by show _ = _; rw [Hd.out]; exact hD
        clear hD
        have hr1 := hrg.1
        have hr2 := hrg.2
        by_cases hneg : D < 0
        · have hD1 : D = -1 := by omega
          subst hD1
          have Hz : Hid (R = .bad 33 place) := by show _ = _; rw [← HEk.out]; exact unitF_neg hl (by rw [HD.out]; omega)
          clear HEk
          have C3 := HF.out w2 (k + 1) 33 (place : Int) HR1.out
          go_wp2_with fail
          refine C3.mono ?_
          rintro e w3 ⟨rfl, hB3, hR3⟩
          go_wp2
          go_ret2
          refine ⟨HB1.out.trans hB3, ?_, ?_⟩
          · intro u' p' e; rw [Hz.out] at e; cases e
          · intro c' p' e; rw [Hz.out] at e; cases e; exact ⟨rfl, _, hR3⟩
        · obtain ⟨e0, rfl⟩ : ∃ e0 : Nat, D = (e0 : Int) := ⟨D.toNat, by omega⟩
          have he0 : e0 ≤ 15 := by omega
          have hum2 : u % 256 = 0 := hum
          obtain ⟨V, hV⟩ : ∃ V : Nat, V = u + e0 * 16 := ⟨_, rfl⟩
          have hor1 : bits .or .i32 (u : Int) ((e0 : Int) * 16) = (V : Int) := by
            have h9 := i32_or_nat u (e0 * 16) (by omega) (by omega)
            rw [nat_join 8 u (e0 * 16) (by omega) (by omega), ← hV] at h9
            exact_mod_cast h9
          have hor2 : bits .or .i32 (V : Int) 15 = (V : Int) + 15 := by
            have h9 := i32_or_nat V 15 (by omega) (by omega)
            rw [nat_join 4 V 15 (by omega) (by omega)] at h9
            exact_mod_cast h9
          have hVl : V < 65536 := by omega
          have hVm : V % 16 = 0 := by omega
          have HV : Hid ((u : Int) + hexV (t.getD k 0) * 16 ^ 1 = (V : Int)) := by show _ = _; rw [HD.out, hV]; omega
          have HDn : Hid (0 ≤ hexV (t.getD k 0)) := by show _ ≤ _; rw [HD.out]; omega
          have HAv := HA.out (V : Int) ((V : Int) + 15) w2
          obtain ⟨A, hA⟩ : ∃ A, awF (V : Int) ((V : Int) + 15) second = A := ⟨_, rfl⟩
          rw [hA] at HAv
          have HA2 : Hid (awF ((u : Int) + hexV (t.getD k 0) * 16 ^ 1) ((u : Int) + hexV (t.getD k 0) * 16 ^ 1 + (16 ^ 1 - 1)) second = A) := by show _ = _; rw [HV.out]; exact hA
          clear hV hA hum hum2
          go_wp2_with fail
          refine HAv.mono ?_
          rintro e w3 ⟨rfl, rfl⟩
          clear HAv
          cases A
          · have Hz : Hid (R = .bad 33 place) := by show _ = _; rw [← HEk.out]; exact unitF_not hl (by have := HDn.out; omega) HA2.out
            clear HEk HA2
            have C3 := HF.out w3 (k + 1) 33 (place : Int) HR1.out
            go_wp2_with fail
            refine C3.mono ?_
            rintro e w4 ⟨rfl, hB3, hR3⟩
            go_wp2
            go_ret2
            refine ⟨HB1.out.trans hB3, ?_, ?_⟩
            · intro u' p' e; rw [Hz.out] at e; cases e
            · intro c' p' e; rw [Hz.out] at e; cases e; exact ⟨rfl, _, hR3⟩
          · have Hz : Hid (unitF t place second 1 (V : Int) (k + 1) = R) := by show _ = _; rw [← HEk.out, unitF_go hl (by have := HDn.out; omega) HA2.out, HV.out]
            clear HEk HA2 HV
            go_wp2
            go_roundw
            case rel => exact ⟨1, V, k + 1, by omega, by go_num, rfl, hVl, by simpa using hVm, by omega, HB1.out, Hz.out, HR1.out⟩
            case measure => simp [intOf]
      · have Hz : Hid (R = .bad 31 t.length) := by show _ = _; rw [← HEk.out]; exact unitF_end hl
        clear HEk
        go_wp2_with fail
        refine C.mono ?_
        rintro e w1 ⟨hB1, _, h1⟩
        obtain ⟨rfl, hR1⟩ := h1 hl
        have HB1 : Hid (But w w1 b) := HB.out.trans hB1
        have HR1 : Hid (RB w1 b t k x 31 k) := hR1
        have hkt : k = t.length := by omega
        have HKt : Hid (k = t.length) := hkt
        clear hB1 hR1 h1 hkt C
        go_wp2
        go_ret2
        refine ⟨HB1.out, ?_, ?_⟩
        · intro u' p' e; rw [Hz.out] at e; cases e
        · intro c' p' e; rw [Hz.out] at e; cases e; exact ⟨rfl, k, by have := HR1.out; rw [HKt.out] at this ⊢; exact this⟩
    | 3, _, hum, HEk =>
      have C := HN.out wr k HRk.out hk
      by_cases hl : k < t.length
      · go_wp2_with fail
        refine C.mono ?_
        rintro e w1 ⟨hB1, h1, _⟩
        obtain ⟨rfl, hR1⟩ := h1 hl
        have HB1 : Hid (But w w1 b) := HB.out.trans hB1
        have HR1 : Hid (RB w1 b t (k + 1) x c q) := hR1
        clear hB1 hR1 h1
        obtain ⟨d, hd⟩ : ∃ d, t.getD k 0 = d := ⟨_, rfl⟩
        have Hd : Hid (t.getD k 0 = d) := hd
        rw [hd]
        clear hd
        have hrg := hexV_rg d
        have C2 := HH.out d w1
        go_wp2_with fail
        refine C2.mono ?_
        rintro e w2 ⟨rfl, rfl⟩
        clear C2
        obtain ⟨D, hD⟩ : ∃ D, hexV d = D := ⟨_, rfl⟩
        rw [hD] at hrg ⊢
        have HD : Hid (hexV (t.getD k 0) = D) := by show _ = _; rw [Hd.out]; exact hD
        clear hD
        have hr1 := hrg.1
        have hr2 := hrg.2
        by_cases hneg : D < 0
        · have hD1 : D = -1 := by omega
          subst hD1
          have Hz : Hid (R = .bad 33 place) := by show _ = _; rw [← HEk.out]; exact unitF_neg hl (by rw [HD.out]; omega)
          clear HEk
          have C3 := HF.out w2 (k + 1) 33 (place : Int) HR1.out
          go_wp2_with fail
          refine C3.mono ?_
          rintro e w3 ⟨rfl, hB3, hR3⟩
          go_wp2
          go_ret2
          refine ⟨HB1.out.trans hB3, ?_, ?_⟩
          · intro u' p' e; rw [Hz.out] at e; cases e
          · intro c' p' e; rw [Hz.out] at e; cases e; exact ⟨rfl, _, hR3⟩
        · obtain ⟨e0, rfl⟩ : ∃ e0 : Nat, D = (e0 : Int) := ⟨D.toNat, by omega⟩
          have he0 : e0 ≤ 15 := by omega
          have hum2 : u % 4096 = 0 := hum
          obtain ⟨V, hV⟩ : ∃ V : Nat, V = u + e0 * 256 := ⟨_, rfl⟩
          have hor1 : bits .or .i32 (u : Int) ((e0 : Int) * 256) = (V : Int) := by
            have h9 := i32_or_nat u (e0 * 256) (by omega) (by omega)
            rw [nat_join 12 u (e0 * 256) (by omega) (by omega), ← hV] at h9
            exact_mod_cast h9
          have hor2 : bits .or .i32 (V : Int) 255 = (V : Int) + 255 := by
            have h9 := i32_or_nat V 255 (by omega) (by omega)
            rw [nat_join 8 V 255 (by omega) (by omega)] at h9
            exact_mod_cast h9
          have hVl : V < 65536 := by omega
          have hVm : V % 256 = 0 := by omega
          have HV : Hid ((u : Int) + hexV (t.getD k 0) * 16 ^ 2 = (V : Int)) := by show _ = _; rw [HD.out, hV]; omega
          have HDn : Hid (0 ≤ hexV (t.getD k 0)) := by show _ ≤ _; rw [HD.out]; omega
          have HAv := HA.out (V : Int) ((V : Int) + 255) w2
          obtain ⟨A, hA⟩ : ∃ A, awF (V : Int) ((V : Int) + 255) second = A := ⟨_, rfl⟩
          rw [hA] at HAv
          have HA2 : Hid (awF ((u : Int) + hexV (t.getD k 0) * 16 ^ 2) ((u : Int) + hexV (t.getD k 0) * 16 ^ 2 + (16 ^ 2 - 1)) second = A) := by show _ = _; rw [HV.out]; exact hA
          clear hV hA hum hum2
          go_wp2_with fail
          refine HAv.mono ?_
          rintro e w3 ⟨rfl, rfl⟩
          clear HAv
          cases A
          · have Hz : Hid (R = .bad 33 place) := by show _ = _; rw [← HEk.out]; exact unitF_not hl (by have := HDn.out; omega) HA2.out
            clear HEk HA2
            have C3 := HF.out w3 (k + 1) 33 (place : Int) HR1.out
            go_wp2_with fail
            refine C3.mono ?_
            rintro e w4 ⟨rfl, hB3, hR3⟩
            go_wp2
            go_ret2
            refine ⟨HB1.out.trans hB3, ?_, ?_⟩
            · intro u' p' e; rw [Hz.out] at e; cases e
            · intro c' p' e; rw [Hz.out] at e; cases e; exact ⟨rfl, _, hR3⟩
          · have Hz : Hid (unitF t place second 2 (V : Int) (k + 1) = R) := by show _ = _; rw [← HEk.out, unitF_go hl (by have := HDn.out; omega) HA2.out, HV.out]
            clear HEk HA2 HV
            go_wp2
            go_roundw
            case rel => exact ⟨2, V, k + 1, by omega, by go_num, rfl, hVl, by simpa using hVm, by omega, HB1.out, Hz.out, HR1.out⟩
            case measure => simp [intOf]
      · have Hz : Hid (R = .bad 31 t.length) := by show _ = _; rw [← HEk.out]; exact unitF_end hl
        clear HEk
        go_wp2_with fail
        refine C.mono ?_
        rintro e w1 ⟨hB1, _, h1⟩
        obtain ⟨rfl, hR1⟩ := h1 hl
        have HB1 : Hid (But w w1 b) := HB.out.trans hB1
        have HR1 : Hid (RB w1 b t k x 31 k) := hR1
        have hkt : k = t.length := by omega
        have HKt : Hid (k = t.length) := hkt
        clear hB1 hR1 h1 hkt C
        go_wp2
        go_ret2
        refine ⟨HB1.out, ?_, ?_⟩
        · intro u' p' e; rw [Hz.out] at e; cases e
        · intro c' p' e; rw [Hz.out] at e; cases e; exact ⟨rfl, k, by have := HR1.out; rw [HKt.out] at this ⊢; exact this⟩
    | 4, _, hum, HEk =>
      have C := HN.out wr k HRk.out hk
      by_cases hl : k < t.length
      · go_wp2_with fail
        refine C.mono ?_
        rintro e w1 ⟨hB1, h1, _⟩
        obtain ⟨rfl, hR1⟩ := h1 hl
        have HB1 : Hid (But w w1 b) := HB.out.trans hB1
        have HR1 : Hid (RB w1 b t (k + 1) x c q) := hR1
        clear hB1 hR1 h1
        obtain ⟨d, hd⟩ : ∃ d, t.getD k 0 = d := ⟨_, rfl⟩
        have Hd : Hid (t.getD k 0 = d) := hd
        rw [hd]
        clear hd
        have hrg := hexV_rg d
        have C2 := HH.out d w1
        go_wp2_with fail
        refine C2.mono ?_
        rintro e w2 ⟨rfl, rfl⟩
        clear C2
        obtain ⟨D, hD⟩ : ∃ D, hexV d = D := ⟨_, rfl⟩
        rw [hD] at hrg ⊢
        have HD : Hid (hexV (t.getD k 0) = D) := by show _ = _; rw [Hd.out]; exact hD
        clear hD
        have hr1 := hrg.1
        have hr2 := hrg.2
        by_cases hneg : D < 0
        · have hD1 : D = -1 := by omega
          subst hD1
          have Hz : Hid (R = .bad 33 place) := by show _ = _; rw [← HEk.out]; exact unitF_neg hl (by rw [HD.out]; omega)
          clear HEk
          have C3 := HF.out w2 (k + 1) 33 (place : Int) HR1.out
          go_wp2_with fail
          refine C3.mono ?_
          rintro e w3 ⟨rfl, hB3, hR3⟩
          go_wp2
          go_ret2
          refine ⟨HB1.out.trans hB3, ?_, ?_⟩
          · intro u' p' e; rw [Hz.out] at e; cases e
          · intro c' p' e; rw [Hz.out] at e; cases e; exact ⟨rfl, _, hR3⟩
        · obtain ⟨e0, rfl⟩ : ∃ e0 : Nat, D = (e0 : Int) := ⟨D.toNat, by omega⟩
          have he0 : e0 ≤ 15 := by omega
          have hum2 : u % 65536 = 0 := hum
          obtain ⟨V, hV⟩ : ∃ V : Nat, V = u + e0 * 4096 := ⟨_, rfl⟩
          have hor1 : bits .or .i32 (u : Int) ((e0 : Int) * 4096) = (V : Int) := by
            have h9 := i32_or_nat u (e0 * 4096) (by omega) (by omega)
            rw [nat_join 16 u (e0 * 4096) (by omega) (by omega), ← hV] at h9
            exact_mod_cast h9
          have hor2 : bits .or .i32 (V : Int) 4095 = (V : Int) + 4095 := by
            have h9 := i32_or_nat V 4095 (by omega) (by omega)
            rw [nat_join 12 V 4095 (by omega) (by omega)] at h9
            exact_mod_cast h9
          have hVl : V < 65536 := by omega
          have hVm : V % 4096 = 0 := by omega
          have HV : Hid ((u : Int) + hexV (t.getD k 0) * 16 ^ 3 = (V : Int)) := by show _ = _; rw [HD.out, hV]; omega
          have HDn : Hid (0 ≤ hexV (t.getD k 0)) := by show _ ≤ _; rw [HD.out]; omega
          have HAv := HA.out (V : Int) ((V : Int) + 4095) w2
          obtain ⟨A, hA⟩ : ∃ A, awF (V : Int) ((V : Int) + 4095) second = A := ⟨_, rfl⟩
          rw [hA] at HAv
          have HA2 : Hid (awF ((u : Int) + hexV (t.getD k 0) * 16 ^ 3) ((u : Int) + hexV (t.getD k 0) * 16 ^ 3 + (16 ^ 3 - 1)) second = A) := by show _ = _; rw [HV.out]; exact hA
          clear hV hA hum hum2
          go_wp2_with fail
          refine HAv.mono ?_
          rintro e w3 ⟨rfl, rfl⟩
          clear HAv
          cases A
          · have Hz : Hid (R = .bad 33 place) := by show _ = _; rw [← HEk.out]; exact unitF_not hl (by have := HDn.out; omega) HA2.out
            clear HEk HA2
            have C3 := HF.out w3 (k + 1) 33 (place : Int) HR1.out
            go_wp2_with fail
            refine C3.mono ?_
            rintro e w4 ⟨rfl, hB3, hR3⟩
            go_wp2
            go_ret2
            refine ⟨HB1.out.trans hB3, ?_, ?_⟩
            · intro u' p' e; rw [Hz.out] at e; cases e
            · intro c' p' e; rw [Hz.out] at e; cases e; exact ⟨rfl, _, hR3⟩
          · have Hz : Hid (unitF t place second 3 (V : Int) (k + 1) = R) := by show _ = _; rw [← HEk.out, unitF_go hl (by have := HDn.out; omega) HA2.out, HV.out]
            clear HEk HA2 HV
            go_wp2
            go_roundw
            case rel => exact ⟨3, V, k + 1, by omega, by go_num, rfl, hVl, by simpa using hVm, by omega, HB1.out, Hz.out, HR1.out⟩
            case measure => simp [intOf]
      · have Hz : Hid (R = .bad 31 t.length) := by show _ = _; rw [← HEk.out]; exact unitF_end hl
        clear HEk
        go_wp2_with fail
        refine C.mono ?_
        rintro e w1 ⟨hB1, _, h1⟩
        obtain ⟨rfl, hR1⟩ := h1 hl
        have HB1 : Hid (But w w1 b) := HB.out.trans hB1
        have HR1 : Hid (RB w1 b t k x 31 k) := hR1
        have hkt : k = t.length := by omega
        have HKt : Hid (k = t.length) := hkt
        clear hB1 hR1 h1 hkt C
        go_wp2
        go_ret2
        refine ⟨HB1.out, ?_, ?_⟩
        · intro u' p' e; rw [Hz.out] at e; cases e
        · intro c' p' e; rw [Hz.out] at e; cases e; exact ⟨rfl, k, by have := HR1.out; rw [HKt.out] at this ⊢; exact this⟩
    | n + 5, hn, _, _ => omega

end Go.Proofs.YtjehkpndchadbaaGreatDoor

namespace Go.Proofs.YtjehkpndchadbaaGreatDoor
open Go.RowKit Go.Shelf

theorem unitF_rg {t : List UInt8} {place : Nat} {second : Bool} : ∀ (n : Nat) (u : Int) (p : Nat) (v : Int) (q : Nat), unitF t place second n u p = .ok v q → u ≤ v ∧ v < u + 16 ^ n ∧ (1 ≤ n → awF v v second = true)
  | 0, u, p, v, q, h => by
    unfold unitF at h
    cases h
    exact ⟨Int.le_refl _, by simp; omega, fun h => by omega⟩
  | n + 1, u, p, v, q, h => by
    unfold unitF at h
    split at h
    · simp only at h
      split at h
      · cases h
      · rename_i hd
        split at h
        · rename_i ha
          have hr := hexV_rg (t.getD p 0)
          generalize hexV (t.getD p 0) = d at hd ha h hr
          have ih := unitF_rg n _ (p + 1) v q h
          have hpow : (16 : Int) ^ (n + 1) = 16 * 16 ^ n := by rw [Int.pow_succ, Int.mul_comm]
          have hpos : (0 : Int) < 16 ^ n := Int.pow_pos (by omega)
          have hz1 : n = 0 → (16 : Int) ^ n = 1 := by intro h; rw [h]; rfl
          rw [hpow]
          generalize (16 : Int) ^ n = z at *
          have h1 : d * z ≤ 15 * z := Int.mul_le_mul_of_nonneg_right hr.2 (by omega)
          have h0 : 0 ≤ d * z := Int.mul_nonneg (by omega) (by omega)
          refine ⟨by omega, by omega, fun _ => ?_⟩
          rcases Nat.eq_zero_or_pos n with hn | hn
          · subst hn
            unfold unitF at h
            cases h
            have hz : z = 1 := hz1 rfl
            subst hz
            simpa using ha
          · exact ih.2.2 hn
        · cases h
    · cases h

theorem awF_second {v : Int} (h : awF v v true = true) : 56320 ≤ v ∧ v < 57344 := by
  unfold awF at h
  simp at h
  omega

theorem slashU_no0 {t : List UInt8} {place p : Nat} (h : ¬ p < t.length) : slashU t place p = .bad 31 t.length := by unfold slashU; rw [if_neg h]
theorem slashU_bad0 {t : List UInt8} {place p : Nat} (h : p < t.length) (h2 : t.getD p 0 ≠ 92) : slashU t place p = .bad 33 place := by unfold slashU; rw [if_pos h, if_neg h2]
theorem slashU_no1 {t : List UInt8} {place p : Nat} (h : p < t.length) (h2 : t.getD p 0 = 92) (h3 : ¬ p + 1 < t.length) : slashU t place p = .bad 31 t.length := by unfold slashU; rw [if_pos h, if_pos h2, if_neg h3]
theorem slashU_bad1 {t : List UInt8} {place p : Nat} (h : p < t.length) (h2 : t.getD p 0 = 92) (h3 : p + 1 < t.length) (h4 : t.getD (p + 1) 0 ≠ 117) : slashU t place p = .bad 33 place := by unfold slashU; rw [if_pos h, if_pos h2, if_pos h3, if_neg h4]
theorem slashU_good {t : List UInt8} {place p : Nat} (h : p < t.length) (h2 : t.getD p 0 = 92) (h3 : p + 1 < t.length) (h4 : t.getD (p + 1) 0 = 117) : slashU t place p = .ok () (p + 2) := by unfold slashU; rw [if_pos h, if_pos h2, if_pos h3, if_pos h4]

/-- The two signs that are ranged over. -/
def Two (w : World) (g : Nat) : Prop := w.cell? ⟨g, 0, none⟩ = some (.int .u8 92) ∧ w.cell? ⟨g, 1, none⟩ = some (.int .u8 117)
theorem two_alloc (w : World) (f : Nat × Nat) : Two (w.alloc (Obj.cells #[Value.int IntKind.u8 92, Value.int IntKind.u8 117] 5 f)) w.heap.size := by
  have h : (w.alloc (Obj.cells #[Value.int IntKind.u8 92, Value.int IntKind.u8 117] 5 f)).heap[w.heap.size]? = some (Obj.cells #[Value.int IntKind.u8 92, Value.int IntKind.u8 117] 5 f) := by unfold World.alloc; simp
  refine ⟨?_, ?_⟩ <;> simp only [World.cell?, h] <;> rfl
theorem Two.but {w w' : World} {g b : Nat} (h : Two w g) (hb : But w w' b) (hne : g ≠ b) : Two w' g :=
  ⟨cell_but h.1 fun hg => hb.block g hg hne, cell_but h.2 fun hg => hb.block g hg hne⟩

set_option maxRecDepth 100000 in
set_option maxHeartbeats 4000000 in
theorem codePoint_any (w : World) (b : Nat) (t : List UInt8) (p place : Nat) (x : X5) (c q : Int) (h : RB w b t p x c q) (hp : p ≤ t.length) (ht : t.length ≤ 1073741824) :
    Calls Tryz.prog 72 #[.pointer (some ⟨b, 0, none⟩), .int .i64 (place : Int)] w fun e w' => But w w' b ∧
      (∀ u p', pointF t place p = .ok u p' → e = .returned (.tuple #[.int .i32 u, .bool true]) ∧ RB w' b t p' x c q) ∧
      (∀ c' p', pointF t place p = .bad c' p' → ∃ v, e = .returned (.tuple #[.int .i32 v, .bool false]) ∧ ∃ p2, RB w' b t p2 x c' p') := by
  obtain ⟨R, hR⟩ : ∃ R, pointF t place p = R := ⟨_, rfl⟩
  rw [hR]
  have HE : Hid (pointF t place p = R) := hR
  have HU : Hid (∀ (w : World) (k : Nat) (second : Bool), RB w b t k x c q → k ≤ t.length → Calls Tryz.prog 80 #[.pointer (some ⟨b, 0, none⟩), .int .i64 (place : Int), .bool second] w fun e w' => But w w' b ∧
      (∀ u p', unitF t place second 4 0 k = .ok u p' → e = .returned (.tuple #[.int .i32 u, .bool true]) ∧ RB w' b t p' x c q) ∧
      (∀ c' p', unitF t place second 4 0 k = .bad c' p' → e = .returned (.tuple #[.int .i32 0, .bool false]) ∧ ∃ p2, RB w' b t p2 x c' p')) := fun w k s h hk => unit_any w b t k place s x c q h hk ht
  have HN : Hid (∀ (w : World) (k : Nat), RB w b t k x c q → k ≤ t.length → Calls Tryz.prog 71 #[.pointer (some ⟨b, 0, none⟩)] w fun e w' => But w w' b ∧
      (k < t.length → e = .returned (.tuple #[.int .u8 (t.getD k 0).toNat, .bool true]) ∧ RB w' b t (k + 1) x c q) ∧
      (¬ k < t.length → e = .returned (.tuple #[.int .u8 0, .bool false]) ∧ RB w' b t k x 31 k)) := fun w k h hk => next_any w b t k x c q h hk ht
  have HF : Hid (∀ (w : World) (k : Nat) (c' q' : Int), RB w b t k x c q → Calls Tryz.prog 37 #[.pointer (some ⟨b, 0, none⟩), .int .i64 c', .int .i64 q'] w fun e w' => e = .returned (.bool false) ∧ But w w' b ∧ RB w' b t k x c' q') := fun w k c' q' h => fail_any w b t k x c q c' q' h
  have C := HU.out w p false h hp
  clear h hR
  go_enter Tryz.func72, Tryz.ntmps72
  cases hu : unitF t place false 4 0 p with
  | bad c1 q1 =>
    have Hz : Hid (R = .bad c1 q1) := by show _ = _; rw [← HE.out]; unfold pointF; rw [hu]
    rw [hu] at C
    clear hu HE
    go_wp2_with fail
    refine C.mono ?_
    rintro e w1 ⟨hB1, _, h1⟩
    obtain ⟨rfl, p2, hR1⟩ := h1 c1 q1 rfl
    clear h1
    go_wp2
    go_ret2
    refine ⟨hB1, ?_, ?_⟩
    · intro u' p' e; rw [Hz.out] at e; cases e
    · intro c' p' e; rw [Hz.out] at e; cases e; exact ⟨0, rfl, p2, hR1⟩
  | ok hi p1 =>
    have hrg := unitF_rg 4 0 p hi p1 hu
    have hi0 := hrg.1
    have hi1 : hi < 65536 := by have := hrg.2.1; omega
    have hpk := unitF_ok 4 0 p hi p1 hp hu
    have hp1 := hpk.2
    have Hpt : Hid ((if hi < 55296 ∨ 56320 ≤ hi then Lx.ok hi p1 else pairF t place hi p1) = R) := by show _ = _; rw [← HE.out]; unfold pointF; rw [hu]
    rw [hu] at C
    clear hu HE hrg hpk
    go_wp2_with fail
    refine C.mono ?_
    clear C
    rintro e w1 ⟨hB1, h1, _⟩
    obtain ⟨rfl, hR1⟩ := h1 hi p1 rfl
    have HB1 : Hid (But w w1 b) := hB1
    have HR1 : Hid (RB w1 b t p1 x c q) := hR1
    clear h1 hB1 hR1
    by_cases hlo : hi < 55296
    · have q1 : decide (hi < 55296) = true := by simpa using hlo
      have Hz : Hid (R = .ok hi p1) := by show _ = _; rw [← Hpt.out, if_pos (Or.inl hlo)]
      clear Hpt
      go_wp2
      go_ret2
      refine ⟨HB1.out, ?_, ?_⟩
      · intro u' p' e; rw [Hz.out] at e; cases e; exact ⟨rfl, HR1.out⟩
      · intro c' p' e; rw [Hz.out] at e; cases e
    · have q1 : decide (hi < 55296) = false := by simpa using hlo
      by_cases hhi : 56320 ≤ hi
      · have q2 : decide (hi ≥ 56320) = true := by simpa using hhi
        have Hz : Hid (R = .ok hi p1) := by show _ = _; rw [← Hpt.out, if_pos (Or.inr hhi)]
        clear Hpt
        go_wp2
        go_ret2
        refine ⟨HB1.out, ?_, ?_⟩
        · intro u' p' e; rw [Hz.out] at e; cases e; exact ⟨rfl, HR1.out⟩
        · intro c' p' e; rw [Hz.out] at e; cases e
      · have q2 : decide (hi ≥ 56320) = false := by simpa using hhi
        have HP : Hid (pairF t place hi p1 = R) := by show _ = _; rw [← Hpt.out, if_neg (by omega)]
        clear Hpt
        have kc := fun (w : World) (C : Array Value) (n c : Nat) => Lib.run_convert_bytes_const (P := Tryz.prog) w 95 5 C n c Tryz.underlying95 Tryz.underlying5
        have HA : Hid (Two (w1.alloc (Obj.cells #[Value.int IntKind.u8 92, Value.int IntKind.u8 117] 5 (2, 3))) w1.heap.size) := two_alloc _ _
        have HB2 : Hid (But w (w1.alloc (Obj.cells #[Value.int IntKind.u8 92, Value.int IntKind.u8 117] 5 (2, 3))) b) := HB1.out.trans (But.of_below (alloc_below _ _))
        have HR2 : Hid (RB (w1.alloc (Obj.cells #[Value.int IntKind.u8 92, Value.int IntKind.u8 117] 5 (2, 3))) b t p1 x c q) := HR1.out.below (alloc_below _ _) (Nat.le_refl _)
        have hbn : w1.heap.size ≠ b := by have := HR1.out.lt; omega
        clear HB1
        go_wp2
        go_loopw [34] (fun s wx => ∃ i : Nat, s = .int .i64 i ∧ i ≤ 2 ∧ p1 + i ≤ t.length ∧ (1 ≤ i → p1 < t.length ∧ t.getD p1 0 = 92) ∧ (2 ≤ i → p1 + 1 < t.length ∧ t.getD (p1 + 1) 0 = 117) ∧ But w wx b ∧ Two wx w1.heap.size ∧ RB wx b t (p1 + i) x c q) (fun s _ => 2 - (intOf s).toNat)
        case atStart => exact ⟨0, rfl, by omega, hp1, fun h => by omega, fun h => by omega, HB2.out, HA.out, HR2.out⟩
        case round =>
          obtain ⟨i, rfl, hi2, hil, hz1, hz2, hb, hbl, hr⟩ := hrel
          have HB3 : Hid (But w wr b) := hb
          have HA3 : Hid (Two wr w1.heap.size) := hbl
          have HR3 : Hid (RB wr b t (p1 + i) x c q) := hr
          have c0 := hbl.1
          have c1 := hbl.2
          have HZ1 : Hid (1 ≤ i → p1 < t.length ∧ t.getD p1 0 = 92) := hz1
          have HZ2 : Hid (2 ≤ i → p1 + 1 < t.length ∧ t.getD (p1 + 1) 0 = 117) := hz2
          have C := HN.out wr (p1 + i) hr hil
          clear hb hbl hr hz1 hz2
          match i, hi2, hil, HZ1, HZ2, HR3, C with
          | 0, _, hil, HZ1, HZ2, HR3, C =>
            have HR3 : Hid (RB wr b t p1 x c q) := HR3
            by_cases hl : p1 < t.length
            · go_wp2_with fail
              refine C.mono ?_
              clear C
              rintro e w2 ⟨hB2, h1, _⟩
              obtain ⟨rfl, hR4⟩ := h1 hl
              clear h1
              have HB4 : Hid (But w w2 b) := HB3.out.trans hB2
              have HA4 : Hid (Two w2 w1.heap.size) := HA3.out.but hB2 hbn
              have HR4 : Hid (RB w2 b t (p1 + 1) x c q) := hR4
              clear hB2 hR4
              obtain ⟨d, hd⟩ : ∃ d, t.getD p1 0 = d := ⟨_, rfl⟩
              have Hd : Hid (t.getD p1 0 = d) := hd
              simp only [Nat.add_zero]
              rw [hd]
              clear hd
              by_cases hd92 : d = 92
              · subst hd92
                go_wp2
                go_roundw
                case rel => exact ⟨1, by go_num, by omega, by omega, fun _ => ⟨hl, Hd.out⟩, fun h => by omega, HB4.out, HA4.out, HR4.out⟩
                case measure => simp [intOf]
              · have hdn : ((d.toNat : Int) == 92) = false := by
                  have : d.toNat ≠ 92 := fun e => hd92 (UInt8.toNat_inj.1 e)
                  simp; omega
                have Hz : Hid (R = .bad 33 place) := by show _ = _; rw [← HP.out]; unfold pairF; rw [slashU_bad0 hl (by rw [Hd.out]; exact hd92)]
                have C3 := HF.out w2 (p1 + 1) 33 (place : Int) HR4.out
                clear HP hd92
                go_wp2_with fail
                refine C3.mono ?_
                rintro e w3 ⟨rfl, hB5, hR5⟩
                go_wp2
                go_ret2
                refine ⟨HB4.out.trans hB5, ?_, ?_⟩
                · intro u' p' e; rw [Hz.out] at e; cases e
                · intro c' p' e; rw [Hz.out] at e; cases e; exact ⟨0, rfl, _, hR5⟩
            · have Hz : Hid (R = .bad 31 t.length) := by show _ = _; rw [← HP.out]; unfold pairF; rw [slashU_no0 hl]
              clear HP
              go_wp2_with fail
              refine C.mono ?_
              clear C
              rintro e w2 ⟨hB2, _, h1⟩
              obtain ⟨rfl, hR4⟩ := h1 hl
              clear h1
              have hpe : p1 = t.length := by omega
              have Hpe : Hid (p1 = t.length) := hpe
              clear hpe
              go_wp2
              go_ret2
              refine ⟨HB3.out.trans hB2, ?_, ?_⟩
              · intro u' p' e; rw [Hz.out] at e; cases e
              · intro c' p' e; rw [Hz.out] at e; cases e; exact ⟨0, rfl, _, by rw [← Hpe.out]; exact hR4⟩
          | 1, _, hil, HZ1, HZ2, HR3, C =>
            have h92 := HZ1.out (by omega)
            have H92 : Hid (p1 < t.length ∧ t.getD p1 0 = 92) := h92
            clear h92 HZ1
            by_cases hl : p1 + 1 < t.length
            · go_wp2_with fail
              refine C.mono ?_
              clear C
              rintro e w2 ⟨hB2, h1, _⟩
              obtain ⟨rfl, hR4⟩ := h1 hl
              clear h1
              have HB4 : Hid (But w w2 b) := HB3.out.trans hB2
              have HA4 : Hid (Two w2 w1.heap.size) := HA3.out.but hB2 hbn
              have HR4 : Hid (RB w2 b t (p1 + 1 + 1) x c q) := hR4
              clear hB2 hR4
              obtain ⟨d, hd⟩ : ∃ d, t.getD (p1 + 1) 0 = d := ⟨_, rfl⟩
              have Hd : Hid (t.getD (p1 + 1) 0 = d) := hd
              rw [hd]
              clear hd
              by_cases hd92 : d = 117
              · subst hd92
                go_wp2
                go_roundw
                case rel => exact ⟨2, by go_num, by omega, by omega, fun _ => H92.out, fun _ => ⟨hl, Hd.out⟩, HB4.out, HA4.out, HR4.out⟩
                case measure => simp [intOf]
              · have hdn : ((d.toNat : Int) == 117) = false := by
                  have : d.toNat ≠ 117 := fun e => hd92 (UInt8.toNat_inj.1 e)
                  simp; omega
                have Hz : Hid (R = .bad 33 place) := by show _ = _; rw [← HP.out]; unfold pairF; rw [slashU_bad1 H92.out.1 H92.out.2 hl (by rw [Hd.out]; exact hd92)]
                have C3 := HF.out w2 (p1 + 1 + 1) 33 (place : Int) HR4.out
                clear HP hd92
                go_wp2_with fail
                refine C3.mono ?_
                rintro e w3 ⟨rfl, hB5, hR5⟩
                go_wp2
                go_ret2
                refine ⟨HB4.out.trans hB5, ?_, ?_⟩
                · intro u' p' e; rw [Hz.out] at e; cases e
                · intro c' p' e; rw [Hz.out] at e; cases e; exact ⟨0, rfl, _, hR5⟩
            · have Hz : Hid (R = .bad 31 t.length) := by show _ = _; rw [← HP.out]; unfold pairF; rw [slashU_no1 H92.out.1 H92.out.2 hl]
              clear HP
              go_wp2_with fail
              refine C.mono ?_
              clear C
              rintro e w2 ⟨hB2, _, h1⟩
              obtain ⟨rfl, hR4⟩ := h1 hl
              clear h1
              have hpe : p1 + 1 = t.length := by omega
              have Hpe : Hid (p1 + 1 = t.length) := hpe
              clear hpe
              go_wp2
              go_ret2
              refine ⟨HB3.out.trans hB2, ?_, ?_⟩
              · intro u' p' e; rw [Hz.out] at e; cases e
              · intro c' p' e; rw [Hz.out] at e; cases e; exact ⟨0, rfl, _, by rw [← Hpe.out]; exact hR4⟩
          | 2, _, hil, HZ1, HZ2, HR3, C =>
            have h92 := HZ1.out (by omega)
            have h117 := HZ2.out (by omega)
            have HP2 : Hid ((match unitF t place true 4 0 (p1 + 2) with
              | .bad c q => Lx.bad c q
              | .ok low q => Lx.ok (65536 + (hi - 55296) * 1024 + (low - 56320)) q) = R) := by show _ = _; rw [← HP.out]; unfold pairF; rw [slashU_good h92.1 h92.2 h117.1 h117.2]; rfl
            clear HP h92 h117 C HZ1 HZ2
            have C := HU.out wr (p1 + 2) true HR3.out hil
            cases hu : unitF t place true 4 0 (p1 + 2) with
            | bad c1 q1 =>
              have Hz : Hid (R = .bad c1 q1) := by show _ = _; rw [← HP2.out, hu]
              rw [hu] at C
              clear hu HP2
              go_wp2_with fail
              refine C.mono ?_
              rintro e w2 ⟨hB2, _, h1⟩
              obtain ⟨rfl, p2, hR4⟩ := h1 c1 q1 rfl
              clear h1
              go_wp2
              go_ret2
              refine ⟨HB3.out.trans hB2, ?_, ?_⟩
              · intro u' p' e; rw [Hz.out] at e; cases e
              · intro c' p' e; rw [Hz.out] at e; cases e; exact ⟨_, rfl, p2, hR4⟩
            | ok lo p3 =>
              have hrg := unitF_rg 4 0 (p1 + 2) lo p3 hu
              have haw := awF_second (hrg.2.2 (by omega))
              have hl0 := haw.1
              have hl1 := haw.2
              have Hz : Hid (R = .ok (65536 + (hi - 55296) * 1024 + (lo - 56320)) p3) := by show _ = _; rw [← HP2.out, hu]
              rw [hu] at C
              clear hu HP2 hrg haw
              have hh : hi - 55296 ≤ 1023 := by omega
              go_wp2_with fail
              refine C.mono ?_
              clear C
              rintro e w2 ⟨hB2, h1, _⟩
              obtain ⟨rfl, hR4⟩ := h1 lo p3 rfl
              clear h1
              go_wp2
              go_ret2
              refine ⟨HB3.out.trans hB2, ?_, ?_⟩
              · intro u' p' e; rw [Hz.out] at e; cases e; exact ⟨rfl, hR4⟩
              · intro c' p' e; rw [Hz.out] at e; cases e
          | i + 3, hi2, _, _, _, _, _ => omega

end Go.Proofs.YtjehkpndchadbaaGreatDoor

namespace Go.Proofs.YtjehkpndchadbaaGreatDoor
open Go.RowKit Go.Shelf

set_option maxRecDepth 100000 in
set_option maxHeartbeats 4000000 in
theorem escape_any (w : World) (b : Nat) (t : List UInt8) (p : Nat) (x : X5) (c q : Int) (h : RB w b t p x c q) (hp : p < t.length) (ht : t.length ≤ 1073741824) :
    Calls Tryz.prog 64 #[.pointer (some ⟨b, 0, none⟩)] w fun e w' => But w w' b ∧
      (∀ u p', escF t p = .ok u p' → e = .returned (.tuple #[.int .i32 u, .bool true]) ∧ RB w' b t p' x c q) ∧
      (∀ c' p', escF t p = .bad c' p' → ∃ v, e = .returned (.tuple #[.int .i32 v, .bool false]) ∧ ∃ p2, RB w' b t p2 x c' p') := by
  obtain ⟨R, hR⟩ : ∃ R, escF t p = R := ⟨_, rfl⟩
  rw [hR]
  have HE : Hid (escF t p = R) := hR
  have c1 := h.c1
  have f1 := h.fz 1
  have HB1 : Hid (But w (w.setCell ⟨b, 1, none⟩ (.int .i64 (p + 1 : Nat))) b) := (But.refl _ _).set _ _
  have HR1 : Hid (RB (w.setCell ⟨b, 1, none⟩ (.int .i64 (p + 1 : Nat))) b t (p + 1) x c q) := h.pos (p + 1)
  have HC : Hid (∀ (w : World) (k : Nat), RB w b t k x c q → k ≤ t.length → Calls Tryz.prog 72 #[.pointer (some ⟨b, 0, none⟩), .int .i64 (p : Int)] w fun e w' => But w w' b ∧
      (∀ u p', pointF t p k = .ok u p' → e = .returned (.tuple #[.int .i32 u, .bool true]) ∧ RB w' b t p' x c q) ∧
      (∀ c' p', pointF t p k = .bad c' p' → ∃ v, e = .returned (.tuple #[.int .i32 v, .bool false]) ∧ ∃ p2, RB w' b t p2 x c' p')) := fun w k h hk => codePoint_any w b t k p x c q h hk ht
  have C := next_any _ b t (p + 1) x c q HR1.out (by omega) ht
  have HF : Hid (∀ (w : World) (k : Nat) (c' q' : Int), RB w b t k x c q → Calls Tryz.prog 37 #[.pointer (some ⟨b, 0, none⟩), .int .i64 c', .int .i64 q'] w fun e w' => e = .returned (.bool false) ∧ But w w' b ∧ RB w' b t k x c' q') := fun w k c' q' h => fail_any w b t k x c q c' q' h
  have HI : Hid (∀ (d : UInt8) (w : World), Calls Tryz.prog 36 #[.string { data := #[34, 92, 98, 102, 110, 114, 116] }, .int .u8 d.toNat] w fun e w' => e = .returned (.int .i64 (Lib.indexByte escS d)) ∧ w' = w) := fun d w => indexByte_any escS d w
  clear h hR
  by_cases hl : p + 1 < t.length
  · obtain ⟨d, hd⟩ : ∃ d, t.getD (p + 1) 0 = d := ⟨_, rfl⟩
    have Hd : Hid (t.getD (p + 1) 0 = d) := hd
    rw [hd] at C
    clear hd
    have hdl : d.toNat < 256 := d.toNat_lt
    by_cases hu : d = 117
    · subst hu
      have Hz : Hid (pointF t p (p + 2) = R) := by show _ = _; rw [← HE.out]; unfold escF; rw [if_pos hl]; simp only; rw [Hd.out]; rfl
      clear HE
      go_enter Tryz.func64, Tryz.ntmps64
      go_wp2_with fail
      refine C.mono ?_
      clear C
      rintro e w1 ⟨hB1, h1, _⟩
      obtain ⟨rfl, hR1⟩ := h1 hl
      clear h1
      have HB2 : Hid (But w w1 b) := HB1.out.trans hB1
      have C2 := HC.out w1 (p + 2) hR1 (by omega)
      rw [Hz.out] at C2
      clear hB1 hR1
      go_wp2_with fail
      refine C2.mono ?_
      clear C2
      rintro e w2 ⟨hB2, h2, h3⟩
      have HP2 : Hid (∀ u p', R = .ok u p' → e = .returned (.tuple #[.int .i32 u, .bool true]) ∧ RB w2 b t p' x c q) := h2
      have HP3 : Hid (∀ c' p', R = .bad c' p' → ∃ v, e = .returned (.tuple #[.int .i32 v, .bool false]) ∧ ∃ p2, RB w2 b t p2 x c' p') := h3
      clear h2 h3
      cases hRR : R with
      | ok u p' =>
        obtain ⟨rfl, hR3⟩ := HP2.out u p' hRR
        have HRR : Hid (R = .ok u p') := hRR
        clear HP2 HP3 hRR
        go_wp2
        go_ret2
        refine ⟨HB2.out.trans hB2, ?_, ?_⟩
        · intro u' p' e; rw [HRR.out] at e; cases e; exact ⟨rfl, hR3⟩
        · intro c' p' e; rw [HRR.out] at e; cases e
      | bad c' p' =>
        obtain ⟨v, rfl, p2, hR3⟩ := HP3.out c' p' hRR
        have HRR : Hid (R = .bad c' p') := hRR
        clear HP2 HP3 hRR
        go_wp2
        go_ret2
        refine ⟨HB2.out.trans hB2, ?_, ?_⟩
        · intro u' p' e; rw [HRR.out] at e; cases e
        · intro c' p' e; rw [HRR.out] at e; cases e; exact ⟨v, rfl, p2, hR3⟩
    · have hun : ((d.toNat : Int) == 117) = false := by
        have : d.toNat ≠ 117 := fun e => hu (UInt8.toNat_inj.1 e)
        simp; omega
      by_cases hs : d = 47
      · subst hs
        have Hz : Hid (R = .ok 47 (p + 2)) := by show _ = _; rw [← HE.out]; unfold escF; rw [if_pos hl]; simp only; rw [Hd.out]; rfl
        clear HE
        go_enter Tryz.func64, Tryz.ntmps64
        go_wp2_with fail
        refine C.mono ?_
        clear C
        rintro e w1 ⟨hB1, h1, _⟩
        obtain ⟨rfl, hR1⟩ := h1 hl
        clear h1
        go_wp2
        go_ret2
        refine ⟨HB1.out.trans hB1, ?_, ?_⟩
        · intro u' p' e; rw [Hz.out] at e; cases e; exact ⟨rfl, hR1⟩
        · intro c' p' e; rw [Hz.out] at e; cases e
      · have hsn : ((d.toNat : Int) == 47) = false := by
          have : d.toNat ≠ 47 := fun e => hs (UInt8.toNat_inj.1 e)
          simp; omega
        have Hz : Hid ((match escL d with
          | some r => Lx.ok r (p + 2)
          | none => Lx.bad 33 p) = R) := by show _ = _; rw [← HE.out]; unfold escF; rw [if_pos hl]; simp only; rw [Hd.out, if_neg hu, if_neg hs]; rfl
        have hge := Lib.indexByte_ge escS d
        have hhi := ixb_hi d escS
        have hlen : escS.length = 7 := rfl
        rw [hlen] at hhi
        have HIx := fun w => HI.out d w
        have HL : Hid (escL d = if Lib.indexByte escS d < 0 then none else some ((escB.getD (Lib.indexByte escS d).toNat 0).toNat : Int)) := rfl
        clear HE hu hs hlen
        generalize Lib.indexByte escS d = ix at *
        by_cases hix : ix < 0
        · have hixb : decide (ix ≥ 0) = false := by simp; omega
          have Hz2 : Hid (R = .bad 33 p) := by show _ = _; rw [← Hz.out, HL.out, if_pos hix]
          clear Hz HL
          go_enter Tryz.func64, Tryz.ntmps64
          go_wp2_with fail
          refine C.mono ?_
          clear C
          rintro e w1 ⟨hB1, h1, _⟩
          obtain ⟨rfl, hR1⟩ := h1 hl
          clear h1
          have HB2 : Hid (But w w1 b) := HB1.out.trans hB1
          have C3 := HF.out w1 (p + 1 + 1) 33 (p : Int) hR1
          clear hB1 hR1
          go_wp2_with fail
          refine (HIx w1).mono ?_
          rintro e w2 ⟨rfl, rfl⟩
          go_wp2_with fail
          refine C3.mono ?_
          rintro e w3 ⟨rfl, hB3, hR3⟩
          go_wp2
          go_ret2
          refine ⟨HB2.out.trans hB3, ?_, ?_⟩
          · intro u' p' e; rw [Hz2.out] at e; cases e
          · intro c' p' e; rw [Hz2.out] at e; cases e; exact ⟨0, rfl, _, hR3⟩
        · obtain ⟨k, rfl⟩ : ∃ k : Nat, ix = (k : Int) := ⟨ix.toNat, by omega⟩
          have hk7 : k < 7 := by omega
          have hixb : decide ((k : Int) ≥ 0) = true := by simp
          obtain ⟨g, hg⟩ : ∃ g, escB.getD k 0 = g := ⟨_, rfl⟩
          have gx : ({ data := #[34, 92, 8, 12, 10, 13, 9] } : ByteArray)[k]'(by show k < 7; exact hk7) = g := by
            rw [← hg]
            match k, hk7 with
            | 0, _ => rfl
            | 1, _ => rfl
            | 2, _ => rfl
            | 3, _ => rfl
            | 4, _ => rfl
            | 5, _ => rfl
            | 6, _ => rfl
          have hgl : g.toNat < 256 := g.toNat_lt
          have Hz2 : Hid (R = .ok (g.toNat : Int) (p + 2)) := by show _ = _; rw [← Hz.out, HL.out, if_neg hix, Int.toNat_natCast, hg]
          clear Hz HL hg hix
          go_enter Tryz.func64, Tryz.ntmps64
          go_wp2_with fail
          refine C.mono ?_
          clear C
          rintro e w1 ⟨hB1, h1, _⟩
          obtain ⟨rfl, hR1⟩ := h1 hl
          clear h1
          have HB2 : Hid (But w w1 b) := HB1.out.trans hB1
          have HR2 : Hid (RB w1 b t (p + 2) x c q) := hR1
          clear hB1 hR1
          go_wp2_with fail
          refine (HIx w1).mono ?_
          rintro e w2 ⟨rfl, rfl⟩
          go_wp2
          go_ret2
          refine ⟨HB2.out, ?_, ?_⟩
          · intro u' p' e; rw [Hz2.out] at e; cases e; exact ⟨rfl, HR2.out⟩
          · intro c' p' e; rw [Hz2.out] at e; cases e
  · have Hz : Hid (R = .bad 31 t.length) := by show _ = _; rw [← HE.out]; unfold escF; rw [if_neg hl]
    have hpe : p + 1 = t.length := by omega
    have Hpe : Hid (p + 1 = t.length) := hpe
    clear HE hpe
    go_enter Tryz.func64, Tryz.ntmps64
    go_wp2_with fail
    refine C.mono ?_
    clear C
    rintro e w1 ⟨hB1, _, h1⟩
    obtain ⟨rfl, hR1⟩ := h1 hl
    clear h1
    go_wp2
    go_ret2
    refine ⟨HB1.out.trans hB1, ?_, ?_⟩
    · intro u' p' e; rw [Hz.out] at e; cases e
    · intro c' p' e; rw [Hz.out] at e; cases e; exact ⟨0, rfl, _, by rw [← Hpe.out]; exact hR1⟩

end Go.Proofs.YtjehkpndchadbaaGreatDoor
