import Derived.Test.YtidmjojlhcgedaaRl
namespace Go.Proofs.Ytidmjojlhcgedaa
open Go.RowKit Go.Maps
set_option maxRecDepth 100000

theorem conv_str {w : World} {ao : Option Addr} {c : Nat} {l : List UInt8} (h : Rd w ao l) : (convert 30 9 (.slice ao l.length c)).run Try.prog w = .ok (.string ⟨l.toArray⟩) w := by
  cases ao with
  | none =>
    rcases h with h | ⟨g, off, e, _⟩
    · subst h; exact run_convert_bytes_nil w 30 5 Try.underlying30 Try.underlying5 0 c 9 Try.underlying9
    · cases e
  | some a =>
    refine run_convert_bytes_back w 30 9 5 a c l Try.underlying30 Try.underlying5 Try.underlying9 fun j hj => ?_
    rcases h with h | ⟨g, off, e, _, hc⟩
    · subst h; simp at hj
    · cases e
      rw [Addr.add_lit, hc j hj, getD_eq _ _ hj]
      rfl

/-- A name that stands there, or the place of what cannot be. -/
def nameR (l : List UInt8) (nx : Nat) : Except Nat (List UInt8) :=
  match numF l nx 2 with
  | none => .error nx
  | some s => if 1024 < s then .error nx else if nx + 2 + s ≤ l.length then .ok (pieceF l (nx + 2) s) else .error (nx + 2)

def nameP (w : World) (rb : Nat) (ao : Option Addr) (cap : Nat) (l : List UInt8) (nx : Nat) (e : Ending) (w' : World) : Except Nat (List UInt8) → Prop
  | .error k => e = .returned (.tuple #[.string ⟨#[]⟩, .bool false]) ∧ ∃ nx', Rdr w' rb ao cap l k nx' ∧ Chf (fun k => k = rb) w w'
  | .ok nm => e = .returned (.tuple #[.string ⟨nm.toArray⟩, .bool true]) ∧ Rdr w' rb ao cap l (nx + 2) (nx + 2 + nm.length) ∧ Chf (fun k => k = rb) w w'

set_option maxHeartbeats 2000000 in
theorem name_any (rb : Nat) (ao : Option Addr) (cap : Nat) (l : List UInt8) (p nx : Nat) (w : World) (h : Rdr w rb ao cap l p nx) (hl : l.length ≤ 1000000000000) :
    Calls Try.prog 53 #[.pointer (some ⟨rb, 0, none⟩)] w fun e w' => nameP w rb ao cap l nx e w' (nameR l nx) := by
  by_cases k0 : nx + 2 ≤ l.length
  case neg =>
    have HP : Hid (nameR l nx = .error nx) := by show _ = _; unfold nameR; rw [numF_none k0]
    generalize nameR l nx = R at HP ⊢
    have N1 := number_no rb ao cap l p nx 2 w h hl (by omega) (by omega)
    clear h k0 hl
    go_enter Try.func53, Try.ntmps53
    go_wp2_with fail
    refine N1.mono ?_
    rintro e w1 ⟨rfl, hR1, hC1⟩
    go_wp2_with fail
    go_ret2
    rw [HP.out]
    exact ⟨rfl, _, hR1, hC1⟩
  have N1 := number_ok rb ao cap l p nx 2 w h hl k0 (by omega)
  have E0 := numF_some k0
  have L0 := be_lt (pieceF l nx 2)
  rw [pieceF_length k0] at L0
  generalize be (pieceF l nx 2) = s at N1 E0 L0
  by_cases b0 : 1024 < s
  case pos =>
    have HP : Hid (nameR l nx = .error nx) := by show _ = _; unfold nameR; rw [E0]; exact if_pos b0
    generalize nameR l nx = R at HP ⊢
    have q : decide ((s : Int) > 1024) = true := by simp; omega
    clear E0 h k0 hl
    go_enter Try.func53, Try.ntmps53
    go_wp2_with fail
    refine N1.mono ?_
    rintro e w1 ⟨rfl, hR1, hC1⟩
    go_wp2_with fail
    go_ret2
    rw [HP.out]
    exact ⟨rfl, _, hR1, hC1⟩
  have q : decide ((s : Int) > 1024) = false := by simp; omega
  by_cases k1 : nx + 2 + s ≤ l.length
  case neg =>
    have HP : Hid (nameR l nx = .error (nx + 2)) := by show _ = _; unfold nameR; rw [E0]; dsimp only; rw [if_neg b0, if_neg k1]
    generalize nameR l nx = R at HP ⊢
    have N2 := fun w1 hR => part_no rb ao cap l nx (nx + 2) s w1 hR hl (by omega) (by omega)
    clear E0 h k0 hl k1
    go_enter Try.func53, Try.ntmps53
    go_wp2_with fail
    refine N1.mono ?_
    rintro e w1 ⟨rfl, hR1, hC1⟩
    go_wp2_with fail
    refine (N2 w1 hR1).mono ?_
    rintro e w2 ⟨rfl, hR2, hC2⟩
    have hcs : (convert 30 9 (.slice none 0 0)).run Try.prog w2 = .ok (.string ⟨#[]⟩) w2 := conv_str (l := []) (.inl rfl)
    have hC3 : Hid (Chf (fun k => k = rb) w w2) := hC1.trans hC2
    clear hC1 hC2 hR1 N1 N2
    go_wp2_with fail
    go_ret2
    rw [HP.out]
    exact ⟨rfl, _, hR2, hC3.out⟩
  have HP : Hid (nameR l nx = .ok (pieceF l (nx + 2) s)) := by show _ = _; unfold nameR; rw [E0]; dsimp only; rw [if_neg b0, if_pos k1]
  generalize nameR l nx = R at HP ⊢
  have N2 := fun w1 hR => part_ok rb ao cap l nx (nx + 2) s w1 hR hl k1
  have hpl := pieceF_length k1
  change ∀ w1, Rdr w1 rb ao cap l nx (nx + 2) → Calls _ _ _ w1 (fun e w' => (∃ ao' c', e = .returned (.tuple #[.slice ao' s c', .bool true]) ∧ Rd w' ao' (pieceF l (nx + 2) s) ∧ s ≤ c') ∧ Rdr w' rb ao cap l (nx + 2) (nx + 2 + s) ∧ Chf (fun k => k = rb) w1 w') at N2
  generalize pieceF l (nx + 2) s = nm at N2 hpl HP
  clear E0 h k0 hl k1
  go_enter Try.func53, Try.ntmps53
  go_wp2_with fail
  refine N1.mono ?_
  rintro e w1 ⟨rfl, hR1, hC1⟩
  go_wp2_with fail
  refine (N2 w1 hR1).mono ?_
  rintro e w2 ⟨⟨ao2, c2, rfl, hrd, hc2⟩, hR2, hC2⟩
  subst hpl
  have hcs := conv_str (c := c2) hrd
  have hC3 : Hid (Chf (fun k => k = rb) w w2) := hC1.trans hC2
  have hR2h : Hid (Rdr w2 rb ao cap l (nx + 2) (nx + 2 + nm.length)) := hR2
  clear hC1 hC2 hR1 N1 N2 hR2 hrd hc2
  go_wp2_with fail
  go_ret2
  rw [HP.out]
  exact ⟨rfl, hR2h.out, hC3.out⟩

end Go.Proofs.Ytidmjojlhcgedaa
