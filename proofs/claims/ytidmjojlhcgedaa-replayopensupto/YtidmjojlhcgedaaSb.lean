import Derived.Test.YtidmjojlhcgedaaSa
namespace Go.Proofs.Ytidmjojlhcgedaa
open Go.RowKit Go.Maps
set_option maxRecDepth 100000

def en0 : En := ([], 0)
/-- A list of names and ends in memory. -/
def RdE (w : World) (ao : Option Addr) (l : List En) : Prop :=
  l = [] ∨ ∃ g : Nat, ao = some ⟨g, 0, none⟩ ∧ g < w.heap.size ∧ ∀ i, i < l.length → w.cell? ⟨g, i * 2, none⟩ = some (.string ⟨(l.getD i en0).1.toArray⟩) ∧ w.cell? ⟨g, i * 2 + 1, none⟩ = some (.int .i64 (l.getD i en0).2)

set_option maxHeartbeats 1000000 in
theorem live_any (ao : Option Addr) (cap : Nat) (l : List En) (k : List UInt8) (now : Int) (w : World) (hr0 : RdE w ao l) (hl : l.length ≤ 1000000000) :
    Calls Try.prog 20 #[.slice ao l.length cap, .string ⟨k.toArray⟩, .int .i64 now] w fun e w' => e = .returned (.bool (liveF l k now)) ∧ w' = w := by
  have hr : Hid (RdE w ao l) := hr0
  clear hr0
  have HX : Hid (∃ x, liveF l k now = x) := ⟨_, rfl⟩
  obtain ⟨x, hx⟩ := HX.out
  have HQ : Hid (liveF l k now = x) := hx
  rw [hx]
  clear hx HX
  go_enter Try.func20, Try.ntmps20
  go_wp2_with fail
  go_loopw [7] (fun s wr => ∃ j : Nat, s = .int .i64 ((j : Int) - 1) ∧ j ≤ l.length ∧ Hid (liveF (l.take j) k now = x) ∧ wr = w) (fun s _ => (intOf s + 1).toNat)
  case atStart => exact ⟨l.length, by go_num, Nat.le_refl _, by rw [List.take_length]; exact HQ.out, rfl⟩
  case round =>
    obtain ⟨j, rfl, hj, hq, rfl⟩ := hrel
    cases j with
    | zero =>
      have e : x = false := by rw [← hq.out]; rfl
      subst e
      clear hq HQ
      go_wp2_with fail
      go_ret
      exact ⟨rfl, rfl⟩
    | succ m =>
      have hm : m < l.length := by omega
      have hq2 := hq.out
      rw [List.take_succ_eq_append_getElem hm, liveF_snoc] at hq2
      rcases hr.out with h0 | ⟨g, rfl, _, hc⟩
      · rw [h0] at hm; simp at hm
      obtain ⟨c0, c1⟩ := hc m hm
      rw [getD_eq _ _ hm] at c0 c1
      generalize l[m] = p at c0 c1 hq2
      obtain ⟨nm, en⟩ := p
      simp only at c0 c1 hq2
      have hqh : Hid ((if (nm == k) = true then decide (now ≤ en) else liveF (l.take m) k now) = x) := hq2
      have hmi : (m : Int) < (l.length : Int) := by omega
      rw [show (((m + 1 : Nat) : Int) - 1) = (m : Int) by omega]
      clear hq hq2 hc hr HQ
      by_cases hk : nm = k
      · subst hk
        go_wp2_with fail
        go_ret
        have := hqh.out
        rw [if_pos (by simp)] at this
        exact ⟨by rw [this]; rfl, rfl⟩
      · have qs : (nm == k) = false := by simpa using hk
        go_wp2_with fail
        go_roundw
        case rel => exact ⟨m, by go_num, by omega, by have := hqh.out; rw [if_neg (by simpa using hk)] at this; exact this, trivial⟩
        case measure => simp [intOf]

set_option maxHeartbeats 2000000 in
theorem count_any (ao : Option Addr) (cap : Nat) (l : List En) (now : Int) (w : World) (hr0 : RdE w ao l) (hl : l.length ≤ 1000000000) :
    Calls Try.prog 21 #[.slice ao l.length cap, .int .i64 now] w fun e w' => e = .returned (.int .i64 (livF now (lastOnes l)).length) ∧ ∃ q, w' = w.drewN q := by
  have hr : Hid (RdE w ao l) := hr0
  clear hr0
  obtain ⟨T, hT⟩ : ∃ T, (livF now (lastOnes l)).length = T := ⟨_, rfl⟩
  have HT : Hid ((livF now (lastOnes l)).length = T) := hT
  have hTl : T ≤ l.length := by
    rw [← hT]
    refine Nat.le_trans (livF_le _ _) ?_
    clear hT HT hr hl
    induction l with
    | nil => exact Nat.le_refl _
    | cons p r ih => unfold lastOnes; split <;> simp only [List.length_cons] <;> omega
  rw [hT]
  clear hT
  go_enter Try.func21, Try.ntmps21
  go_wp2_with fail
  go_loopw [5, 6] (fun s5 s wr => ∃ i n q : Nat, s = .int .i64 (i : Int) ∧ s5 = .int .i64 (n : Int) ∧ i ≤ l.length ∧ n + (livF now (lastOnes (l.drop i))).length = T ∧ wr = w.drewN q) (fun _ s _ => l.length - (intOf s).toNat)
  case atStart => exact ⟨0, 0, 0, rfl, rfl, Nat.zero_le _, by rw [List.drop_zero, HT.out]; omega, rfl⟩
  case round =>
    obtain ⟨i, n, q, rfl, rfl, hi, hn, rfl⟩ := hrel
    by_cases hlt : i < l.length
    · rcases hr.out with h0 | ⟨g, rfl, _, hc⟩
      · rw [h0] at hlt; simp at hlt
      obtain ⟨c0, c1⟩ := hc i hlt
      rw [getD_eq _ _ hlt] at c0 c1
      rw [List.drop_eq_getElem_cons hlt] at hn
      have hch : Hid (∀ i, i < l.length → w.cell? ⟨g, i * 2, none⟩ = some (.string ⟨(l.getD i en0).1.toArray⟩) ∧ w.cell? ⟨g, i * 2 + 1, none⟩ = some (.int .i64 (l.getD i en0).2)) := hc
      generalize l[i] = p at c0 c1 hn
      obtain ⟨nm, en⟩ := p
      simp only at c0 c1
      have hnh : Hid (n + (livF now (lastOnes ((nm, en) :: l.drop (i + 1)))).length = T) := hn
      have hnT : n ≤ T := by omega
      clear hn hc hr
      have hii : (i : Int) < (l.length : Int) := by omega
      obtain ⟨B0, hB0⟩ : ∃ b, hasF nm (l.drop (i + 1)) = b := ⟨_, rfl⟩
      have hBh : Hid (hasF nm (l.drop (i + 1)) = B0) := hB0
      clear hB0
      go_wp2_with fail
      go_loopw [7, 8] (fun s7 s wx => ∃ (k q : Nat) (b : Bool), s = .int .i64 (k : Int) ∧ s7 = .bool b ∧ i < k ∧ k ≤ l.length ∧ Hid ((!b || hasF nm (l.drop k)) = B0) ∧ wx = w.drewN q) (fun _ s _ => l.length - (intOf s).toNat)
      case atStart => exact ⟨i + 1, q, true, by go_num, rfl, by omega, by omega, (show (!true || hasF nm (l.drop (i + 1))) = B0 by simpa using hBh.out), rfl⟩
      case round =>
        obtain ⟨k, q2, b, rfl, rfl, hik, hkl, hb, rfl⟩ := hrel
        by_cases hlk : k < l.length
        · obtain ⟨d0, d1⟩ := hch.out k hlk
          rw [getD_eq _ _ hlk] at d0 d1
          have hb2 := hb.out
          rw [List.drop_eq_getElem_cons hlk] at hb2
          generalize l[k] = p at d0 d1 hb2
          obtain ⟨nm2, en2⟩ := p
          simp only at d0 d1
          have hbh : Hid ((!b || hasF nm ((nm2, en2) :: l.drop (k + 1))) = B0) := hb2
          clear hb hb2 d1
          have hkk : (k : Int) < (l.length : Int) := by omega
          by_cases hk : nm2 = nm
          · subst hk
            go_wp2_with fail
            go_quiet (fail)
            go_wp2_with fail
            go_roundw
            case rel => exact ⟨k + 1, _, false, by go_num, rfl, by omega, by omega, (show (!false || hasF nm2 (l.drop (k + 1))) = B0 by have := hbh.out; simpa [hasF] using this), rfl⟩
            case measure => simp [intOf]; omega
          · have qs : (nm2 == nm) = false := by simpa using hk
            go_wp2_with fail
            go_quiet (fail)
            go_wp2_with fail
            go_roundw
            case rel => exact ⟨k + 1, _, b, by go_num, rfl, by omega, by omega, (show (!b || hasF nm (l.drop (k + 1))) = B0 by have := hbh.out; simpa [hasF, beq_eq_false_iff_ne.2 hk] using this), rfl⟩
            case measure => simp [intOf]; omega
        · obtain rfl : k = l.length := by omega
          have hb2 := hb.out
          rw [List.drop_length] at hb2
          have hb3 : B0 = !b := by rw [← hb2]; simp [hasF]
          have hn2 := hnh.out
          unfold lastOnes at hn2
          rw [hBh.out, hb3] at hn2
          clear hb hb2 hb3 hBh hnh
          cases b with
          | false =>
            simp only [Bool.not_false, if_true] at hn2
            go_wp2_with fail
            go_roundw
            case rel => exact ⟨i + 1, n, _, by go_num, rfl, by omega, hn2, rfl⟩
            case measure => simp [intOf]; omega
          | true =>
            simp only [Bool.not_true, Bool.false_eq_true, if_false] at hn2
            by_cases hne : now ≤ en
            · have e : livF now ((nm, en) :: lastOnes (l.drop (i + 1))) = (nm, en) :: livF now (lastOnes (l.drop (i + 1))) := by simp [livF, hne]
              rw [e, List.length_cons] at hn2
              go_wp2_with fail
              go_roundw
              case rel => exact ⟨i + 1, n + 1, _, by go_num, by go_num, by omega, by omega, rfl⟩
              case measure => simp [intOf]; omega
            · have e : livF now ((nm, en) :: lastOnes (l.drop (i + 1))) = livF now (lastOnes (l.drop (i + 1))) := by simp [livF, hne]
              rw [e] at hn2
              have qd : decide (now ≤ en) = false := by simpa using hne
              go_wp2_with fail
              go_roundw
              case rel => exact ⟨i + 1, n, _, by go_num, rfl, by omega, hn2, rfl⟩
              case measure => simp [intOf]; omega
    · obtain rfl : i = l.length := by omega
      rw [List.drop_length] at hn
      have e : n = T := by simpa [lastOnes, livF] using hn
      subst e
      go_wp2_with fail
      go_ret
      exact ⟨rfl, _, rfl⟩

end Go.Proofs.Ytidmjojlhcgedaa
