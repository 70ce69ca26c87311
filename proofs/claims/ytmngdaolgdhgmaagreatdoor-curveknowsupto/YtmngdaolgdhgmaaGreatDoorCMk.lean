import Derived.Test.YtmngdaolgdhgmaaGreatDoorCSl
import Derived.Test.YtmngdaolgdhgmaaGreatDoorCSm
namespace Go.Proofs.YtmngdaolgdhgmaaGreatDoor
open Go.RowKit

set_option maxRecDepth 100000

theorem row_below' {w w' : World} {e : TypeId} {b0 : Nat} {v : Value} {n k : Nat} {xs : List Value} (h : w.ownsRow b0 e 1 v n xs) (hb : Below k w w') (hk : w.heap.size ≤ k) : w'.ownsRow b0 e 1 v n xs := by
  refine ⟨h.1, ?_⟩
  rcases h.2 with h1 | ⟨g, cap, cur, e1, hg, hh, hr⟩
  · exact .inl h1
  · refine .inr ⟨g, cap, cur, e1, hg, ?_, hr⟩
    rw [hb.block g (by have := (Array.getElem?_eq_some_iff.1 hh).1; omega)]
    exact hh
/-- The marks behind a copy. -/
def mkL (k : Nat) : List Nat := (List.range k).map fun i => 7000 + i
theorem mkL_length (k : Nat) : (mkL k).length = k := by simp [mkL]
theorem mkL_succ (k : Nat) : mkL (k + 1) = mkL k ++ [7000 + k] := by simp [mkL, List.range_succ]
/-- A copy with forty marks behind it. -/
def Lk (w : World) (base g cap : Nat) (xs : List Nat) : Prop := w.ownsRow base 51 1 (.slice (some ⟨g, 0, none⟩) (xs.length + 40) cap) (xs.length + 40) ((xs ++ mkL 40).map U)
theorem Lk.lt {w : World} {base g cap : Nat} {xs : List Nat} (h : Lk w base g cap xs) : base ≤ g ∧ g < w.heap.size := World.ownsRow.lt h g rfl
theorem Lk.cell {w : World} {base g cap : Nat} {xs : List Nat} (h : Lk w base g cap xs) (i : Nat) (hi : i < xs.length + 40) : w.cell? ⟨g, i, none⟩ = some (U ((xs ++ mkL 40).getD i 0)) := by
  rw [World.ownsRow.cellAt h i (by omega), List.getElem?_map, List.getElem?_eq_getElem (by rw [List.length_append, mkL_length]; exact hi), List.getD_eq_getElem?_getD, List.getElem?_eq_getElem (by rw [List.length_append, mkL_length]; exact hi)]
  rfl
theorem Lk.rn {w : World} {base g cap : Nat} {xs : List Nat} (h : Lk w base g cap xs) : Rn w (some ⟨g, 0, none⟩) xs := by
  refine .inr ⟨g, 0, rfl, h.lt.2, fun j hj => ?_⟩
  rw [Nat.zero_add, h.cell j (by omega), List.getD_eq_getElem?_getD, List.getD_eq_getElem?_getD, List.getElem?_append_left hj]
theorem Lk.mark {w : World} {base g cap : Nat} {xs : List Nat} (h : Lk w base g cap xs) (i : Nat) (hi : i < 40) : w.cell? ⟨g, xs.length + i, none⟩ = some (.int .u32 (7000 + (i : Int))) := by
  rw [h.cell _ (by omega), List.getD_eq_getElem?_getD, List.getElem?_append_right (by omega), Nat.add_sub_cancel_left, List.getElem?_eq_getElem (by rw [mkL_length]; exact hi)]
  simp [mkL, U]
theorem Lk.below {w w' : World} {base g cap k : Nat} {xs : List Nat} (h : Lk w base g cap xs) (hb : Below k w w') (hn : w.heap.size ≤ k) : Lk w' base g cap xs := row_below' h hb hn
theorem Lk.chf {f : Nat → Prop} {w w' : World} {base g cap : Nat} {xs : List Nat} (h : Lk w base g cap xs) (hc : Chf f w w') (hf : ¬ f g) : Lk w' base g cap xs := own_chf h hc (fun g' e => by injection e with e; subst e; exact hf)
theorem Lk.cap {w : World} {base g cap : Nat} {xs : List Nat} (h : Lk w base g cap xs) : xs.length + 40 ≤ cap ∧ cap ≤ maxLen := by
  rcases h.2 with ⟨e, _⟩ | ⟨g', cap', cur, e, _, _, hr⟩
  · cases e
  · injection e with e1 e2 e3
    subst e3
    exact ⟨hr.1, hr.2.1⟩
set_option maxHeartbeats 4000000 in
theorem marked_v (ao : Option Addr) (c : Nat) (xs : List Nat) (w : World) (hr : Rn w ao xs) (hl : xs.length ≤ 3000000) :
    Calls Tryz.prog 35 #[.slice ao xs.length c] w fun e w' => ∃ g cap, e = .returned (.slice (some ⟨g, 0, none⟩) xs.length cap) ∧ Lk w' w.heap.size g cap xs ∧ Below w.heap.size w w' := by
  have HR : Hid (Rn w ao xs) := hr
  have HO0 : Hid (OB w.heap.size w w (.slice none 0 0) (xs.take 0)) := OB.nil w
  clear hr
  go_enter Tryz.func35, Tryz.ntmps35
  go_wp2
  go_loopw [3, 4] (fun s3 s4 wr => ∃ i : Nat, s4 = .int .i64 (i : Int) ∧ i ≤ xs.length ∧ Hid (OB w.heap.size w wr s3 (xs.take i))) (fun _ s _ => xs.length - (intOf s).toNat)
  case atStart => exact ⟨0, rfl, Nat.zero_le _, HO0⟩
  case round =>
    clear HO0
    obtain ⟨i, rfl, hi, HI⟩ := hrel
    by_cases hlt : i < xs.length
    · obtain ⟨g, off, rfl, _, hcell⟩ := (HR.out.below HI.out.bel (Nat.le_refl _)).cell (by omega)
      have gc := hcell i hlt
      obtain ⟨y, Hy⟩ : ∃ y, Hid (xs.getD i 0 = y) := ⟨_, rfl⟩
      rw [Hy.out] at gc
      have HL : Hid ((xs.take i).length ≤ 1000000000) := by show _ ≤ _; rw [List.length_take]; omega
      clear hcell
      go_wp2_with (at_builtin; refine append_one (w := w) rfl (.tmp 12) (.tmp 17) rfl w.heap.size _ (xs.take i) y rfl HI.out rfl HL.out (Nat.le_refl _) ?_; intro v5 w5 h5)
      have HO : Hid (OB w.heap.size w w5 v5 (xs.take (i + 1))) := by
        rw [List.take_succ_eq_append_getElem hlt, ← getD_eq _ _ hlt, Hy.out]; exact h5
      clear h5
      go_wp2
      go_roundw
      case rel => exact ⟨i + 1, by go_num, by omega, HO⟩
      case measure => simp [intOf]; omega
    · have HO1 : Hid (OB w.heap.size w wr u3 (xs ++ mkL 0)) := by
        have := HI.out
        rw [List.take_of_length_le (by omega)] at this
        rw [show mkL 0 = [] from rfl, List.append_nil]
        exact this
      clear HI
      go_wp2
      go_loopw [3, 5] (fun s3 s5 wq => ∃ k : Nat, s5 = .int .i64 (k : Int) ∧ k ≤ 40 ∧ Hid (OB w.heap.size w wq s3 (xs ++ mkL k))) (fun _ s _ => 40 - (intOf s).toNat)
      case atStart => exact ⟨0, rfl, Nat.zero_le _, HO1⟩
      case round =>
        clear HO1
        obtain ⟨m, rfl, hm, HI⟩ := hrel
        by_cases hml : m < 40
        · have HL : Hid ((xs ++ mkL m).length ≤ 1000000000) := by show _ ≤ _; rw [List.length_append, mkL_length]; omega
          go_wp2_with (at_builtin; refine append_one (w := w) rfl (.tmp 23) (.tmp 27) rfl w.heap.size _ (xs ++ mkL m) (7000 + m) rfl HI.out rfl HL.out (Nat.le_refl _) ?_; intro v5 w5 h5)
          have HO : Hid (OB w.heap.size w w5 v5 (xs ++ mkL (m + 1))) := by
            rw [mkL_succ, ← List.append_assoc]; exact h5
          clear h5
          go_wp2
          go_roundw
          case rel => exact ⟨m + 1, by go_num, by omega, HO⟩
          case measure => simp [intOf]; omega
        · obtain rfl : m = 40 := by omega
          have hown := HI.out.own
          have hlen : (xs ++ mkL 40).length = xs.length + 40 := by rw [List.length_append, mkL_length]
          unfold Ow at hown
          rw [hlen] at hown
          obtain ⟨g, cap, eu⟩ : ∃ g cap, u3 = .slice (some ⟨g, 0, none⟩) (xs.length + 40) cap := by
            rcases hown.2 with ⟨_, h0⟩ | ⟨g, cap, cur, e, _⟩
            · omega
            · exact ⟨g, cap, e⟩
          subst eu
          have HK : Hid (Lk wr w.heap.size g cap xs ∧ Below w.heap.size w wr) := ⟨hown, HI.out.bel⟩
          have hcap := HK.out.1.cap.1
          clear hown hlen HI
          go_wp2
          go_ret
          exact ⟨_, _, rfl, HK.out⟩
set_option maxHeartbeats 4000000 in
theorem whole_v (base g cap : Nat) (ao : Option Addr) (c : Nat) (xs : List Nat) (w : World) (h : Lk w base g cap xs) (hr : Rn w ao xs) (hl : xs.length ≤ 3000000) :
    Calls Tryz.prog 40 #[.slice (some ⟨g, 0, none⟩) xs.length cap, .slice ao xs.length c] w fun e w' => e = .returned (.bool true) ∧ ∃ q, w' = w.drewN q := by
  have HK : Hid (Lk w base g cap xs) := h
  have HR : Hid (Rn w ao xs) := hr
  have hcap := h.cap.1
  have C := sameNat_all (some ⟨g, 0, none⟩) ao cap c xs.length xs w h.rn hr rfl (by omega)
  clear h hr
  go_enter Tryz.func40, Tryz.ntmps40
  go_wp2
  go_loop [6] (fun s => ∃ m : Nat, s = .int .i64 (m : Int) ∧ m ≤ 40) (fun s => 40 - (intOf s).toNat)
  case atStart => exact ⟨0, rfl, Nat.zero_le _⟩
  case round =>
    obtain ⟨m, rfl, hm⟩ := hrel
    by_cases hml : m < 40
    · have gc := HK.out.mark m hml
      go_wp2
      go_round
      case rel => exact ⟨m + 1, by go_num, by omega⟩
      case measure => simp [intOf]; omega
    · obtain rfl : m = 40 := by omega
      go_wp2_with fail
      refine C.mono ?_
      rintro e w1 ⟨rfl, q, hq⟩
      go_wp2
      go_ret
      first | exact ⟨rfl, q, hq⟩ | exact ⟨rfl, q, rfl⟩
end Go.Proofs.YtmngdaolgdhgmaaGreatDoor
