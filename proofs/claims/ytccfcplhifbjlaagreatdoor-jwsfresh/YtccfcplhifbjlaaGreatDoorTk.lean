import Derived.Test.YtccfcplhifbjlaaGreatDoorTc
import Derived.Deep.RegionWith
import Derived.Deep.Cut
namespace Go.Proofs.YtccfcplhifbjlaaGreatDoor
open Go.RowKit
set_option maxRecDepth 100000

set_option maxHeartbeats 2000000 in
/-- Check under a secret that is long enough. -/
theorem check_hs (a : Int) (ak az : Option Addr) (ck cs : Nat) (key data sig : List UInt8) (w : World) (T : Sha.Tb w) (ha : a = 1 ∨ a = 2 ∨ a = 3) (hk : Rd w ak key) (hs : Rd w az sig) (hck : key.length ≤ ck) (hck2 : ck ≤ 9223372036854775807) (h1 : Sha.siz a ≤ key.length) (h2 : key.length ≤ 4096) (hdl : data.length ≤ 1000000000) (hsl : sig.length ≤ 1000000000) :
    Calls Tryz.prog 13 #[.int .i64 a, kV ak key.length ck, .string ⟨data.toArray⟩, .slice az sig.length cs] w fun e w' => e = .returned (.int .i64 (if Sha.tagF a key data = sig then 0 else 91)) ∧ Below w.heap.size w w' := by
  have h32 : 32 ≤ Sha.siz a := by rcases ha with rfl | rfl | rfl <;> decide
  have C1 := family_hs a
  have C2 : Hid (∀ w, Calls Tryz.prog 12 #[.int .i64 a, kV ak key.length ck] w fun e w' => e = .returned (.bool true) ∧ Below w.heap.size w w') := fun w => fits_hs a ak key.length ck w ha
  have C3 : Hid (∀ w, Calls Tryz.prog 23 #[kV ak key.length ck] w fun e w' => e = .returned (.int .i64 0) ∧ Below w.heap.size w w') := fun w => spcheck_ok ak key.length ck w (by omega) h2
  have C4 := Sha.size_any a
  have HT : Hid (Sha.Tb w) := T
  have HK : Hid (Rd w ak key) := hk
  have HZ : Hid (Rd w az sig) := hs
  have d1 : decide ((key.length : Int) < (Sha.siz a : Int)) = false := decide_eq_false (by omega)
  clear T hk hs
  unfold kV at C2 C3 ⊢
  go_enter Tryz.func13, Tryz.ntmps13
  go_wp2_with fail
  refine (C1 _ ha).mono ?_
  rintro e w1 ⟨rfl, rfl⟩
  go_wp2_with fail
  refine (C2.out _).mono ?_
  rintro e w2 ⟨rfl, B2⟩
  obtain ⟨b0, hb0⟩ : ∃ b0, w.heap.size = b0 := ⟨_, rfl⟩
  have HK2 : Hid (Bl 32 w2 b0 (kC ak key.length ck)) := by
    rw [← hb0]
    exact (alloc_bl w (kC ak key.length ck) 32).below B2 (by rw [alloc_size]; omega)
  have HB2 : Hid (Below w.heap.size w w2) := (alloc_below w _).trans (B2.mono (by rw [alloc_size]; omega))
  clear B2
  rw [hb0]
  have c0 : w2.cell? ⟨b0, 0, none⟩ = some (.int .i64 1) := HK2.out.cell 0 (by simp [kC])
  have c1 : w2.cell? ⟨b0, 1, none⟩ = some (.int .i64 0) := HK2.out.cell 1 (by simp [kC])
  have c2 : w2.cell? ⟨b0, 2, none⟩ = some (.slice ak key.length ck) := HK2.out.cell 2 (by simp [kC])
  have c3 : w2.cell? ⟨b0, 3, none⟩ = some (.slice none 0 0) := HK2.out.cell 3 (by simp [kC])
  have c4 : w2.cell? ⟨b0, 4, none⟩ = some (.slice none 0 0) := HK2.out.cell 4 (by simp [kC])
  have c5 : w2.cell? ⟨b0, 5, none⟩ = some (.slice none 0 0) := HK2.out.cell 5 (by simp [kC])
  have c6 : w2.cell? ⟨b0, 6, none⟩ = some (.slice none 0 0) := HK2.out.cell 6 (by simp [kC])
  go_wp2_with fail
  go_region_with (first
    | (go_at_call 23; refine (C3.out _).mono ?_; rintro e w3 ⟨rfl, B3⟩; have HB3 : Hid (Below w.heap.size w w3) := (below_drewN HB2.out 1).trans (B3.mono (show w.heap.size ≤ w2.heap.size from HB2.out.size)); have HK3 : Hid (Bl 32 w3 b0 (kC ak key.length ck)) := (show Bl 32 w2.drew b0 (kC ak key.length ck) from HK2.out).below B3 HK2.out.lt; clear B3; have g2 : w3.cell? ⟨b0, 2, none⟩ = some (.slice ak key.length ck) := HK3.out.cell 2 (by simp [kC]))
    | (go_at_call 35; refine (C4 _).mono ?_; rintro e w4 ⟨rfl, rfl⟩))
  all_goals clear c0 c1 c2 c3 c4 c5 c6 HK2 HB2 C1 C2 C3 C4
  all_goals
    have c0 : w4.cell? ⟨b0, 0, none⟩ = some (.int .i64 1) := HK3.out.cell 0 (by simp [kC])
    have c1 : w4.cell? ⟨b0, 1, none⟩ = some (.int .i64 0) := HK3.out.cell 1 (by simp [kC])
    have c3 : w4.cell? ⟨b0, 3, none⟩ = some (.slice none 0 0) := HK3.out.cell 3 (by simp [kC])
    have c4 : w4.cell? ⟨b0, 4, none⟩ = some (.slice none 0 0) := HK3.out.cell 4 (by simp [kC])
    have c5 : w4.cell? ⟨b0, 5, none⟩ = some (.slice none 0 0) := HK3.out.cell 5 (by simp [kC])
    have c6 : w4.cell? ⟨b0, 6, none⟩ = some (.slice none 0 0) := HK3.out.cell 6 (by simp [kC])
    obtain ⟨cd, W1, hcv, hrd, hcd, hcd2, hB4⟩ := conv_bytes data w4 (by omega)
    have HB5 : Hid (Below w.heap.size w W1) := HB3.out.trans (hB4.mono HB3.out.size)
    have C5 := holds_hs a ak (some ⟨w4.heap.size, 0, none⟩) az ck cd cs key data sig W1 (HT.out.below HB5.out) (HK.out.below HB5.out (Nat.le_refl _)) hrd (HZ.out.below HB5.out (Nat.le_refl _)) hck hck2 hcd hcd2 hdl hsl (by omega)
    unfold kV at C5
    have hsz : 0 < Sha.siz a := by omega
    clear hrd hB4
    go_wp2_with fail
    refine C5.mono ?_
    rintro e W2 ⟨rfl, B6⟩
    have HB6 : Hid (Below w.heap.size w W2) := HB5.out.trans (B6.mono HB5.out.size)
    clear B6 C5
    by_cases hq : Sha.tagF a key data = sig
    · have d2 : decide (0 < Sha.siz a ∧ Sha.tagF a key data = sig) = true := decide_eq_true ⟨hsz, hq⟩
      rw [d2]
      go_wp2
      go_ret
      exact ⟨rfl, by first | exact HB6.out | (rw [← hb0]; exact HB6.out)⟩
    · have d2 : decide (0 < Sha.siz a ∧ Sha.tagF a key data = sig) = false := decide_eq_false fun h => hq h.2
      rw [d2]
      go_wp2
      go_ret
      exact ⟨rfl, by first | exact HB6.out | (rw [← hb0]; exact HB6.out)⟩

end Go.Proofs.YtccfcplhifbjlaaGreatDoor
