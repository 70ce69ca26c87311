import Derived.Test.YtibgpcheembdkaaDoorHmR
namespace Go.Proofs.YtibgpcheembdkaaDoor
open Go.RowKit

/-- A row of bytes, and what lies behind them in its block. -/
theorem clr_rd {w : World} {g : Nat} {l : List UInt8} {r : List Value} (h : Cl w g (l.map B ++ r)) : Rd w (some ⟨g, 0, none⟩) l := by
  refine .inr ⟨g, 0, rfl, h.lt, fun j hj => ?_⟩
  rw [Nat.zero_add, h.cell j (by simp; omega), List.getElem_append_left (by simpa using hj), List.getElem_map, List.getD_eq_getElem?_getD, List.getElem?_eq_getElem hj]
  rfl
theorem clr_cell {w : World} {g : Nat} {l : List UInt8} {r : List Value} (h : Cl w g (l.map B ++ r)) (j : Nat) (hj : j < l.length) : w.cell? ⟨g, j, none⟩ = some (B (l.getD j 0)) := by
  rw [h.cell j (by simp; omega), List.getElem_append_left (by simpa using hj), List.getElem_map, List.getD_eq_getElem?_getD, List.getElem?_eq_getElem hj]
  rfl
theorem clr_set {w : World} {g : Nat} {l : List UInt8} {r : List Value} (h : Cl w g (l.map B ++ r)) (j : Nat) (hj : j < l.length) (x : UInt8) : Cl (w.setCell ⟨g, j, none⟩ (B x)) g ((l.set j x).map B ++ r) := by
  have h1 := h.set j (B x)
  rw [List.set_append_left _ _ (by simpa using hj), ← List.map_set] at h1
  exact h1
/-- A row of one's own that is not empty. -/
theorem own_clr {w : World} {base n : Nat} {v : Value} {l : List UInt8} (h : w.ownsRow base 5 1 v n (l.map B)) (hn : 0 < n) : ∃ g cap r, v = .slice (some ⟨g, 0, none⟩) n cap ∧ base ≤ g ∧ n ≤ cap ∧ cap ≤ maxLen ∧ Cl w g (l.map B ++ r) := by
  rcases h.2 with ⟨_, h0⟩ | ⟨g, cap, cur, rfl, hg, hh, hnc, hcm, hs, ht⟩
  · omega
  · refine ⟨g, cap, cur.toList.drop (n * 1), rfl, hg, hnc, hcm, 5, ?_⟩
    rw [hh, ← ht, List.take_append_drop]

set_option maxRecDepth 100000 in
set_option maxHeartbeats 1000000 in
theorem turned5_any (g cap : Nat) (l : List UInt8) (r : List Value) (w : World) (hc : Cl w g (l.map B ++ r)) (hl : l.length ≤ 1000000000) :
    Calls Tryd.prog 42 #[.slice (some ⟨g, 0, none⟩) l.length cap] w fun e w' => e = .returned (.tuple #[]) ∧ (∃ l' : List UInt8, l'.length = l.length ∧ Cl w' g (l'.map B ++ r)) ∧ But w w' g := by
  have HC : Hid (∃ l' : List UInt8, l'.length = l.length ∧ Cl w g (l'.map B ++ r)) := ⟨l, rfl, hc⟩
  clear hc
  generalize l.length = n at *
  obtain ⟨H, hH⟩ : ∃ H, H = n / 2 := ⟨_, rfl⟩
  have hq : (n : Int) / 2 = (H : Int) := by omega
  have hq2 : 2 * H ≤ n := by omega
  clear hH
  go_enter Tryd.func42, Tryd.ntmps42
  go_wp2
  go_loopw [2] (fun s ws => ∃ i : Nat, s = .int .i64 (i : Int) ∧ i ≤ H ∧ Hid (∃ l' : List UInt8, l'.length = n ∧ Cl ws g (l'.map B ++ r)) ∧ Hid (But w ws g)) (fun s _ => H - (intOf s).toNat)
  case atStart => exact ⟨0, rfl, by omega, HC, But.refl _ _⟩
  case round =>
    clear HC
    obtain ⟨i, rfl, hi, hcl, hbut⟩ := hrel
    by_cases hlt : i < H
    · obtain ⟨l', hl', hc'⟩ := hcl.out
      obtain ⟨j, hj⟩ : ∃ j : Nat, j = n - 1 - i := ⟨_, rfl⟩
      have hjI : (n : Int) - 1 - (i : Int) = (j : Int) := by omega
      have hjn : j < n := by omega
      have hij : i < j := by omega
      have hin : i < n := by omega
      have gi := clr_cell hc' i (by omega)
      have gj := clr_cell hc' j (by omega)
      have fi := hc'.frozen i
      have fj := hc'.frozen j
      have HC2 : Hid (∀ x y : UInt8, ∃ l'' : List UInt8, l''.length = n ∧ Cl ((wr.setCell ⟨g, i, none⟩ (B x)).setCell ⟨g, j, none⟩ (B y)) g (l''.map B ++ r)) := fun x y => ⟨(l'.set i x).set j y, by simp [hl'], clr_set (clr_set hc' i (by omega) x) j (by simp; omega) y⟩
      unfold B at gi gj
      generalize l'.getD i 0 = x at *
      generalize l'.getD j 0 = y at *
      clear hc' hj hcl hl'
      go_wp2
      refine ⟨⟨i + 1, by go_num, by omega, ?_, (hbut.out.set _ _).set _ _⟩, by simp [intOf]; omega⟩
      exact HC2.out y x
    · obtain rfl : i = H := by omega
      clear hi hlt
      go_wp2
      clear hq
      go_loopw [4] (fun s ws => ∃ k : Nat, s = .int .i64 (k : Int) ∧ k ≤ n ∧ Hid (∃ l' : List UInt8, l'.length = n ∧ Cl ws g (l'.map B ++ r)) ∧ Hid (But w ws g)) (fun s _ => n - (intOf s).toNat)
      case atStart => exact ⟨0, rfl, by omega, hcl, hbut⟩
      case round =>
        clear hcl hbut
        obtain ⟨k, rfl, hk, hcl, hbut⟩ := hrel
        by_cases hlt : k < n
        · obtain ⟨l', hl', hc'⟩ := hcl.out
          have gi := clr_cell hc' k (by omega)
          have fi := hc'.frozen k
          have HC2 : Hid (∀ x : UInt8, ∃ l'' : List UInt8, l''.length = n ∧ Cl (wr.setCell ⟨g, k, none⟩ (B x)) g (l''.map B ++ r)) := fun x => ⟨l'.set k x, by simp [hl'], clr_set hc' k (by omega) x⟩
          unfold B at gi
          generalize l'.getD k 0 = x at *
          have hwk : IntKind.u8.wrap ((k : Int) + 1) = ((UInt8.ofNat (k + 1)).toNat : Int) := by rw [IntKind.wrap_u8', UInt8.toNat_ofNat']; omega
          generalize UInt8.ofNat (k + 1) = y at *
          have hx := xorB x y
          clear hc' hcl hl'
          go_wp2
          refine ⟨⟨k + 1, by go_num, by omega, ?_, hbut.out.set _ _⟩, by simp [intOf]; omega⟩
          exact HC2.out (x ^^^ y)
        · obtain rfl : k = n := by omega
          go_wp2
          go_end0
          exact ⟨rfl, hcl.out, hbut.out⟩

set_option maxRecDepth 100000 in
set_option maxHeartbeats 1000000 in
theorem whole5_any (g cap c : Nat) (ao : Option Addr) (l : List UInt8) (r : List Value) (w : World) (hc : Cl w g ((l ++ mrk).map B ++ r)) (hr : Rd w ao l) (hl : l.length ≤ 1000000000) (hcap : l.length + 200 ≤ cap) :
    Calls Tryd.prog 41 #[.slice (some ⟨g, 0, none⟩) (l.length + 200) cap, .slice ao l.length c] w fun e w' => e = .returned (.bool true) ∧ ∃ q, w' = w.drewN q := by
  have HM : Hid (∀ i, i < 200 → w.cell? ⟨g, l.length + i, none⟩ = some (.int .u8 ((UInt8.ofNat (7 + i)).toNat : Int))) := fun i hi => by
    rw [clr_cell hc (l.length + i) (by rw [List.length_append, mrk_length]; omega), List.getD_eq_getElem?_getD, List.getElem?_append_right (by omega), Nat.add_sub_cancel_left]
    unfold mrk B
    rw [List.getElem?_map, List.getElem?_range hi]
    rfl
  have C := same5_any (some ⟨g, 0, none⟩) ao cap c l l w (clr_rd (r := mrk.map B ++ r) (by rw [← List.append_assoc, ← List.map_append]; exact hc)) hr (by omega)
  rw [decide_eq_true rfl] at C
  have hs : ∀ W, (Instr.sliceAt 23 (.slice (some ⟨g, 0, none⟩) (l.length + 200) cap) none (some (.int .i64 (l.length : Int))) none).run Tryd.prog W = .ok (.slice (some ⟨g, 0, none⟩) l.length cap) W := fun W => slice_high _ _ _ _ W (by omega)
  clear hc hr
  generalize l.length = n at *
  go_enter Tryd.func41, Tryd.ntmps41
  go_wp2
  go_loop [5] (fun s => ∃ k : Nat, k ≤ 200 ∧ s = .int .i64 (k : Int)) (fun s => 200 - (intOf s).toNat)
  case atStart => exact ⟨0, by omega, rfl⟩
  case round =>
    obtain ⟨k, hk, rfl⟩ := hrel
    by_cases hlt : k < 200
    · have gk := HM.out k hlt
      have hwk : IntKind.u8.wrap (7 + (k : Int)) = ((UInt8.ofNat (7 + k)).toNat : Int) := by rw [IntKind.wrap_u8', UInt8.toNat_ofNat']; omega
      generalize UInt8.ofNat (7 + k) = y at *
      go_wp2
      go_round
      case rel => exact ⟨k + 1, by omega, by go_num⟩
      case measure => simp [intOf]; omega
    · clear HM
      go_wp2_with fail
      refine C.mono ?_
      rintro e w' ⟨rfl, q, hq⟩
      have HQ : Hid (w' = w.drewN q) := hq
      clear C hq
      go_wp2
      go_ret
      exact ⟨rfl, q, HQ.out⟩

end Go.Proofs.YtibgpcheembdkaaDoor
