import Derived.Test.YtcdcfgkgighmhaaGreatDoorRb
import Derived.Deep.LoopGhost
namespace Go.Proofs.YtcdcfgkgighmhaaGreatDoor
open Go.RowKit

set_option maxHeartbeats 1000000 in
theorem next_any (w : World) (b : Nat) (t : List UInt8) (p : Nat) (x : X5) (c q : Int) (h : RB w b t p x c q) (hp : p ≤ t.length) (ht : t.length ≤ 1073741824) :
    Calls Tryz.prog 103 #[.pointer (some ⟨b, 0, none⟩)] w fun e w' => But w w' b ∧
      (p < t.length → e = .returned (.tuple #[.int .u8 (t.getD p 0).toNat, .bool true]) ∧ RB w' b t (p + 1) x c q) ∧
      (¬ p < t.length → e = .returned (.tuple #[.int .u8 0, .bool false]) ∧ RB w' b t p x 31 p) := by
  have c0 := h.c0
  have c1 := h.c1
  have f1 := h.fz 1
  have HW : Hid (∀ n, Calls Tryz.prog 43 #[.pointer (some ⟨b, 0, none⟩)] (w.drewN n) fun e w' => e = .returned (.bool false) ∧ But (w.drewN n) w' b ∧ RB w' b t p x 31 p) := fun n => wrong_any _ b t p x c q h
  have H : Hid (RB w b t p x c q) := h
  have HP : Hid (RB (w.setCell ⟨b, 1, none⟩ (.int .i64 (p + 1 : Nat))) b t (p + 1) x c q) := h.pos (p + 1)
  have c01 : (w.setCell ⟨b, 1, none⟩ (.int .i64 ((p : Int) + 1))).cell? ⟨b, 0, none⟩ = some (.string ⟨t.toArray⟩) := (h.pos (p + 1)).c0
  have c11 : (w.setCell ⟨b, 1, none⟩ (.int .i64 ((p : Int) + 1))).cell? ⟨b, 1, none⟩ = some (.int .i64 ((p : Int) + 1)) := (h.pos (p + 1)).c1
  clear h
  rcases Nat.lt_or_ge p t.length with hl | hl
  · obtain ⟨d, hd⟩ : ∃ d, t.getD p 0 = d := ⟨_, rfl⟩
    have gx : (⟨t.toArray⟩ : ByteArray)[p]'(by show p < t.toArray.size; simpa using hl) = d := by
      rw [← hd]; show t.toArray[p] = _; simp [List.getD_eq_getElem?_getD, hl]
    have q1 : (((p : Nat) : Int) == ((t.length : Nat) : Int)) = false := by simp; omega
    have Hd : Hid (t.getD p 0 = d) := hd
    clear hd
    go_enter Tryz.func103, Tryz.ntmps103
    go_wp2
    go_quiet (fail)
    go_wp2
    go_quiet (fail)
    go_wp2
    go_ret2
    refine ⟨?_, fun _ => ⟨?_, ?_⟩, fun h => absurd hl h⟩
    · exact (((But.refl _ _).drewN _).set _ _).drewN _
    · rw [Hd.out]; rfl
    · exact ((H.out.drewN _).pos _).drewN _
  · have q1 : (((p : Nat) : Int) == ((t.length : Nat) : Int)) = true := by simp; omega
    go_enter Tryz.func103, Tryz.ntmps103
    go_wp2
    go_quiet (fail)
    go_wp2_with fail
    refine (HW.out _).mono ?_
    rintro e w1 ⟨rfl, hB, hR⟩
    go_wp2
    go_ret2
    exact ⟨((But.refl _ _).drewN _).trans hB, fun h => by omega, fun _ => ⟨rfl, hR⟩⟩

set_option maxHeartbeats 1000000 in
theorem digits_any (w : World) (b : Nat) (t : List UInt8) (p : Nat) (x : X5) (c q : Int) (h : RB w b t p x c q) (hp : p ≤ t.length) (ht : t.length ≤ 1073741824) :
    Calls Tryz.prog 78 #[.pointer (some ⟨b, 0, none⟩)] w fun e w' => e = .returned (.bool (tk t digitsS p)) ∧ But w w' b ∧ RB w' b t (skp t digitsS p) x c q := by
  have c1 := h.c1
  have HR0 : Hid (RB w b t p x c q) := h
  have HG : Hid (p < skp t digitsS p ↔ tk t digitsS p = true) := skp_gt
  obtain ⟨E, hE⟩ : ∃ E, skp t digitsS p = E := ⟨_, rfl⟩
  rw [hE] at HG ⊢
  have HE : Hid (skp t digitsS p = E) := hE
  have HT : Hid (∀ (w : World) (k : Nat), RB w b t k x c q → k ≤ t.length → Calls Tryz.prog 42 #[.pointer (some ⟨b, 0, none⟩), .string { data := #[48, 49, 50, 51, 52, 53, 54, 55, 56, 57] }] w fun e w' => e = .returned (.bool (tk t digitsS k)) ∧ But w w' b ∧ RB w' b t (stp (tk t digitsS k) k) x c q) := fun w k h hk => take_any w b t digitsS k x c q h hk ht
  clear h hE
  go_enter Tryz.func78, Tryz.ntmps78
  go_wp2
  go_loopg [] (t.length + 1) (fun gk wx => But w wx b ∧ ∃ k : Nat, k ≤ t.length ∧ p ≤ k ∧ t.length + 1 ≤ gk + k ∧ skp t digitsS k = E ∧ RB wx b t k x c q)
  case atStart => exact ⟨But.refl _ _, p, hp, Nat.le_refl _, by omega, HE.out, HR0.out⟩
  case round =>
    obtain ⟨hb, k, hk, hpk, hg, he, hr⟩ := hrel
    have HB : Hid (But w wr b) := hb
    have HEk : Hid (skp t digitsS k = E) := he
    have C := HT.out wr k hr hk
    clear hb he hr
    cases htk : tk t digitsS k
    · rw [htk] at C
      have HK : Hid (tk t digitsS k = false) := htk
      clear htk
      go_wp2_with fail
      refine C.mono ?_
      rintro e w1 ⟨rfl, hB1, hR1⟩
      have hR1 : RB w1 b t k x c q := hR1
      have c1' := hR1.c1
      have hEk : E = k := by rw [← HEk.out, skp_stop HK.out]
      subst hEk
      have hgt : decide (p < E) = tk t digitsS p := by
        cases h2 : tk t digitsS p
        · have : ¬ p < E := fun h => by rw [HG.out.1 h] at h2; cases h2
          simp; omega
        · have := HG.out.2 h2
          simp; omega
      have HGt : Hid (decide (p < E) = tk t digitsS p) := hgt
      have HR1 : Hid (RB w1 b t E x c q) := hR1
      clear hgt hR1
      go_wp2
      go_ret
      refine ⟨?_, HB.out.trans hB1, HR1.out⟩
      rw [← HGt.out]; rfl
    · rw [htk] at C
      have HK : Hid (tk t digitsS k = true) := htk
      have hlk := tk_lt htk
      clear htk
      obtain ⟨g', rfl⟩ : ∃ g', gk = g' + 1 := ⟨gk - 1, by omega⟩
      go_wp2_with fail
      refine C.mono ?_
      rintro e w1 ⟨rfl, hB1, hR1⟩
      have hR1 : RB w1 b t (k + 1) x c q := hR1
      go_wp2
      go_roundg g'
      case measure => omega
      case rel =>
        refine ⟨HB.out.trans hB1, k + 1, by omega, by omega, by omega, ?_, hR1⟩
        rw [← skp_step HK.out]
        exact HEk.out

end Go.Proofs.YtcdcfgkgighmhaaGreatDoor
