import Derived.Test.YtidmjojlhcgedaaRn
namespace Go.Proofs.Ytidmjojlhcgedaa
open Go.RowKit Go.Maps
set_option maxRecDepth 100000

/-- The sum, and nothing behind it. -/
def endR (l : List UInt8) (k : Nat) : Except Nat Unit :=
  match numF l k 8 with
  | none => .error k
  | some s => if s ≠ sumF (l.take k) then .error k else if k + 8 = l.length then .ok () else .error (k + 8)

def endP (w : World) (rb : Nat) (ao : Option Addr) (cap : Nat) (l : List UInt8) (e : Ending) (w' : World) : Except Nat Unit → Prop
  | .error k => e = .returned (.bool false) ∧ ∃ nx, Rdr w' rb ao cap l k nx ∧ Chf (fun k => k = rb) w w'
  | .ok () => e = .returned (.bool true) ∧ Chf (fun k => k = rb) w w'

theorem chf_at {w w1 : World} {rb : Nat} (h : Chf (fun k => k = rb) w w1) (j : Nat) (v : Value) : Chf (fun k => k = rb) w (w1.setCell ⟨rb, j, none⟩ v) := h.set (.inl rfl) _
theorem Rdr.at' {w : World} {rb : Nat} {ao : Option Addr} {cap : Nat} {l : List UInt8} {p nx : Nat} (h : Rdr w rb ao cap l p nx) (p' : Nat) : Rdr (w.setCell ⟨rb, 1, none⟩ (.int .i64 (p' : Int))) rb ao cap l p' nx :=
  h.put p' nx h.hnx (h.cells.set 1 _) (chf_at (Chf.refl _ w) 1 _)

set_option maxHeartbeats 4000000 in
theorem end_any (rb : Nat) (ao : Option Addr) (cap : Nat) (l : List UInt8) (p k : Nat) (w : World) (h : Rdr w rb ao cap l p k) (hl : l.length ≤ 1000000000) :
    Calls Try.prog 38 #[.pointer (some ⟨rb, 0, none⟩)] w fun e w' => endP w rb ao cap l e w' (endR l k) := by
  by_cases k0 : k + 8 ≤ l.length
  case neg =>
    have HP : Hid (endR l k = .error k) := by show _ = _; unfold endR; rw [numF_none k0]
    generalize endR l k = R at HP ⊢
    have N1 := number_no rb ao cap l p k 8 w h (by omega) (by omega) (by omega)
    clear h k0 hl
    go_enter Try.func38, Try.ntmps38
    go_wp2_with fail
    refine N1.mono ?_
    rintro e w1 ⟨rfl, hR1, hC1⟩
    have hR1h : Hid (Rdr w1 rb ao cap l k k) := hR1
    have hC1h : Hid (Chf (fun k => k = rb) w w1) := hC1
    clear hR1 hC1 N1
    go_wp2_with fail
    go_quiet (fail)
    go_wp2_with fail
    go_ret
    rw [HP.out]
    exact ⟨rfl, _, hR1h.out.drewN _, hC1h.out.drewN _⟩
  have N1 := number_ok rb ao cap l p k 8 w h (by omega) k0 (by omega)
  have E0 := numF_some k0
  generalize be (pieceF l k 8) = s at N1 E0
  have htk : (l.take k).length = k := by rw [List.length_take]; omega
  have SC : ∀ w1, Rd w1 ao l → Calls Try.prog 35 #[.slice ao k cap] w1 fun e w' => e = .returned (.int .u64 (sumF (l.take k))) ∧ w' = w1 := fun w1 hr => by
    have := sumOf_any ao (l.take k) cap w1 (Rd.take hr k) (by omega)
    rw [htk] at this; exact this
  obtain ⟨n, hn⟩ : ∃ n, l.length = n := ⟨_, rfl⟩
  have hnh : Hid (l.length = n) := hn
  by_cases b0 : s = sumF (l.take k)
  case neg =>
    have HP : Hid (endR l k = .error k) := by show _ = _; unfold endR; rw [E0]; exact if_pos b0
    generalize endR l k = R at HP ⊢
    generalize sumF (l.take k) = S at SC b0
    have q : ((s : Int) != (S : Int)) = true := by simp; omega
    clear E0 h b0 htk hl
    go_enter Try.func38, Try.ntmps38
    go_wp2_with fail
    refine N1.mono ?_
    rintro e w1 ⟨rfl, hR1, hC1⟩
    have hR1h : Hid (Rdr w1 rb ao cap l k (k + 8)) := hR1
    have hC1h : Hid (Chf (fun k => k = rb) w w1) := hC1
    have c0 := hR1.cells.cell 0 (by simp)
    have c1 := hR1.cells.cell 1 (by simp)
    simp only [List.getElem_cons_zero, List.getElem_cons_succ] at c0 c1
    rw [hn] at c0 k0
    have SC1 : Hid (∀ q, Calls Try.prog 35 #[.slice ao k cap] (w1.drewN q) fun e w' => e = .returned (.int .u64 (S : Int)) ∧ w' = w1.drewN q) := fun q => SC (w1.drewN q) hR1.rd
    have hcap := hR1.hcap
    rw [hn] at hcap
    clear hR1 hC1 N1 SC hn
    go_wp2_with fail
    go_quiet (exact Calls.quiet_of_same (SC1.out _))
    go_wp2_with fail
    go_ret
    rw [HP.out]
    exact ⟨rfl, _, hR1h.out.drewN _, hC1h.out.drewN _⟩
  by_cases b1 : k + 8 = l.length
  case pos =>
    have HP : Hid (endR l k = .ok ()) := by show _ = _; unfold endR; rw [E0]; dsimp only; rw [if_neg (fun h => h b0), if_pos b1]
    generalize endR l k = R at HP ⊢
    rw [← b0] at SC
    have q5 : (((k + 8 : Nat) : Int) == (n : Int)) = true := by rw [← hn]; simp; omega
    clear E0 h htk hl b0
    go_enter Try.func38, Try.ntmps38
    go_wp2_with fail
    refine N1.mono ?_
    rintro e w1 ⟨rfl, hR1, hC1⟩
    have hR1h : Hid (Rdr w1 rb ao cap l k (k + 8)) := hR1
    have hC1h : Hid (Chf (fun k => k = rb) w w1) := hC1
    have c0 := hR1.cells.cell 0 (by simp)
    have c1 := hR1.cells.cell 1 (by simp)
    have c2 := hR1.cells.cell 2 (by simp)
    simp only [List.getElem_cons_zero, List.getElem_cons_succ] at c0 c1 c2
    have f1 := hR1.cells.frozen 1
    rw [hn] at c0 k0
    have SC1 : Hid (∀ q, Calls Try.prog 35 #[.slice ao k cap] (w1.drewN q) fun e w' => e = .returned (.int .u64 (s : Int)) ∧ w' = w1.drewN q) := fun q => SC (w1.drewN q) hR1.rd
    have hcap := hR1.hcap
    rw [hn] at hcap
    obtain ⟨k8, hk8⟩ : ∃ k8, k + 8 = k8 := ⟨_, rfl⟩
    have hk8h : Hid (k + 8 = k8) := hk8
    rw [hk8] at c2 q5
    clear hR1 hC1 N1 SC hn hk8 b1
    go_wp2_with fail
    go_quiet (exact Calls.quiet_of_same (SC1.out _))
    go_wp2_with fail
    go_quiet (fail)
    go_wp2_with fail
    go_ret
    rw [HP.out]
    exact ⟨rfl, (chf_at (hC1h.out.drewN _) 1 _).drewN _⟩
  case neg =>
    have HP : Hid (endR l k = .error (k + 8)) := by show _ = _; unfold endR; rw [E0]; dsimp only; rw [if_neg (fun h => h b0), if_neg b1]
    generalize endR l k = R at HP ⊢
    rw [← b0] at SC
    have q5 : (((k + 8 : Nat) : Int) == (n : Int)) = false := by rw [← hn]; simp; omega
    clear E0 h htk hl b0
    go_enter Try.func38, Try.ntmps38
    go_wp2_with fail
    refine N1.mono ?_
    rintro e w1 ⟨rfl, hR1, hC1⟩
    have hR1h : Hid (Rdr w1 rb ao cap l k (k + 8)) := hR1
    have hC1h : Hid (Chf (fun k => k = rb) w w1) := hC1
    have c0 := hR1.cells.cell 0 (by simp)
    have c1 := hR1.cells.cell 1 (by simp)
    have c2 := hR1.cells.cell 2 (by simp)
    simp only [List.getElem_cons_zero, List.getElem_cons_succ] at c0 c1 c2
    have f1 := hR1.cells.frozen 1
    rw [hn] at c0 k0
    have SC1 : Hid (∀ q, Calls Try.prog 35 #[.slice ao k cap] (w1.drewN q) fun e w' => e = .returned (.int .u64 (s : Int)) ∧ w' = w1.drewN q) := fun q => SC (w1.drewN q) hR1.rd
    have hcap := hR1.hcap
    rw [hn] at hcap
    obtain ⟨k8, hk8⟩ : ∃ k8, k + 8 = k8 := ⟨_, rfl⟩
    have hk8h : Hid (k + 8 = k8) := hk8
    rw [hk8] at c2 q5
    clear hR1 hC1 N1 SC hn hk8 b1
    go_wp2_with fail
    go_quiet (exact Calls.quiet_of_same (SC1.out _))
    go_wp2_with fail
    go_quiet (fail)
    go_wp2_with fail
    go_ret
    rw [HP.out]
    rw [hk8h.out]
    exact ⟨rfl, _, ((hR1h.out.drewN _).at' k8).drewN _, (chf_at (hC1h.out.drewN _) 1 _).drewN _⟩

end Go.Proofs.Ytidmjojlhcgedaa
