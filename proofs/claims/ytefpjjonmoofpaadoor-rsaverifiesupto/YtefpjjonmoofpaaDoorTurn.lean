import Derived.Test.YtefpjjonmoofpaaDoorLent
namespace Go.Proofs.YtefpjjonmoofpaaDoor
open Go.RowKit

set_option maxHeartbeats 1000000 in
theorem turned_any (B0 g cap : Nat) (l : List UInt8) (w : World) (hL : Ln w B0 g cap l) (hl : l.length ≤ 100000000) :
    Calls Tryd.prog 17 #[.slice (some ⟨g, 0, none⟩) l.length cap] w fun e w' => e = .returned (.tuple #[]) ∧ (∃ l' : List UInt8, l'.length = l.length ∧ Ln w' B0 g cap l') ∧ But w w' g := by
  by_cases h0 : l.length = 0
  · have HL : Hid (Ln w B0 g cap l) := hL
    clear hL
    have h1 : decide ((l.length : Int) > 0) = false := decide_eq_false (by omega)
    go_enter Tryd.func17, Tryd.ntmps17
    go_wp2
    go_end0
    exact ⟨rfl, ⟨l, rfl, HL.out⟩, But.refl _ _⟩
  · have h1 : decide ((l.length : Int) > 0) = true := decide_eq_true (by omega)
    obtain ⟨i, hi⟩ : ∃ i : Nat, i = l.length - 1 := ⟨_, rfl⟩
    obtain ⟨j, hj⟩ : ∃ j : Nat, j = l.length / 2 := ⟨_, rfl⟩
    have eI : (l.length : Int) - 1 = (i : Int) := by omega
    have eJ : (l.length : Int) / 2 = (j : Int) := by omega
    have eJ2 : Int.tdiv (l.length : Int) 2 = (j : Int) := by rw [Int.tdiv_eq_ediv_of_nonneg (by omega)]; exact eJ
    have hil : i < l.length := by omega
    have hjl : j < l.length := by omega
    have gi := hL.cell i hil
    have gj := hL.cell j hjl
    obtain ⟨_, _, _, _, r, hbl, _⟩ := hL.parts
    have fi := hbl.frozen i
    have fj := hbl.frozen j
    have HC : Hid (∀ x y : UInt8, ∃ l' : List UInt8, l'.length = l.length ∧ Ln ((w.setCell ⟨g, i, none⟩ (B x)).setCell ⟨g, j, none⟩ (B y)) B0 g cap l') := fun x y => ⟨(l.set i x).set j y, by simp, (hL.set i hil x).set j (by simpa using hjl) y⟩
    clear hbl hL
    by_cases hij : j = i
    · subst hij
      generalize l.getD j 0 = x at *
      obtain ⟨x2, hx⟩ : ∃ z : UInt8, bits .xor .u8 (x.toNat : Int) 2 = (z.toNat : Int) := ⟨_, xor_b x 2⟩
      obtain ⟨y2, hy⟩ : ∃ z : UInt8, bits .xor .u8 (x2.toNat : Int) 16 = (z.toNat : Int) := ⟨_, xor_b x2 16⟩
      clear hi hj h0 eJ
      go_enter Tryd.func17, Tryd.ntmps17
      go_wp2
      go_end0
      exact ⟨rfl, HC.out x2 y2, ((But.refl _ _).set _ _).set _ _⟩
    · have hij2 : i ≠ j := fun e => hij e.symm
      generalize l.getD i 0 = x at *
      generalize l.getD j 0 = y at *
      obtain ⟨x2, hx⟩ : ∃ z : UInt8, bits .xor .u8 (x.toNat : Int) 2 = (z.toNat : Int) := ⟨_, xor_b x 2⟩
      obtain ⟨y2, hy⟩ : ∃ z : UInt8, bits .xor .u8 (y.toNat : Int) 16 = (z.toNat : Int) := ⟨_, xor_b y 16⟩
      clear hi hj h0
      go_enter Tryd.func17, Tryd.ntmps17
      go_wp2
      go_end0
      exact ⟨rfl, HC.out x2 y2, ((But.refl _ _).set _ _).set _ _⟩

end Go.Proofs.YtefpjjonmoofpaaDoor
