import Derived.Test.YtbgooffhikchmaaDoorTb
namespace Go.Proofs.YtbgooffhikchmaaDoor
open Go.RowKit
set_option maxRecDepth 100000

theorem set_bl {t : TypeId} {w : World} {b : Nat} {old new : List Value} (h : Bl t w b old) : Bl t (w.setRow b new.toArray) b new := setRow_heap _ _ _ _ _ _ h
theorem setRow_below {w0 w : World} {b : Nat} (new : Array Value) (h : Below w0.heap.size w0 w) (hb : w0.heap.size ≤ b) : Below w0.heap.size w0 (w.setRow b new) := ⟨h.os, h.tape, h.output, by simpa [World.setRow] using h.size, fun k hk => (setRow_other w b k _ (by omega)).trans (h.block k hk)⟩
/-- What is told of the row found. -/
def FdOk (a l m : Int) (f : Bool) : Prop := if a = 1 ∨ a = 2 ∨ a = 3 then f = true ∧ m = 1 ∧ l = a else f = false ∨ m ≠ 1
theorem results_row {fn : Func} {p q : Tmp} (h : fn.results = #[.cell p 38, .tmp q]) (tmps : Array Value) (w : World) (b : Nat) (i j k l m : Int) (hp : tmps.getD p undef = .pointer (some ⟨b, 0, none⟩)) (hb : Bl 38 w b (rwC i j k l m)) :
    (results fn tmps).run Tryd.prog w = .ok (.tuple #[rwV i j k l m, tmps.getD q undef]) w := by
  have hr : (loadVar 38 ⟨b, 0, none⟩).run Tryd.prog w = .ok (rwV i j k l m) w := by
    refine run_loadVar_mid w b 0 38 (rwC i j k l m) _ ?_ Tryd.underlying38 rfl (by kernel_rfl)
    intro j v hv
    obtain ⟨hj, e⟩ := List.getElem?_eq_some_iff.1 hv
    rw [Nat.zero_add, ← e]
    exact hb.cell j hj
  have hp' : tmps[p]?.getD undef = .pointer (some ⟨b, 0, none⟩) := by simpa [Array.getD_eq_getD_getElem?] using hp
  simp [results, h, asAddr, hp', hr, Result.andThen]

set_option maxRecDepth 100000 in
set_option maxHeartbeats 4000000 in
theorem rfind_any (a : Int) (w : World) : Calls Tryd.prog 13 #[.int .i64 a] w fun e w' => (∃ i j k l m f, e = .returned (.tuple #[rwV i j k l m, .bool f]) ∧ FdOk a l m f) ∧ Below w.heap.size w w' := by
  go_enter Tryd.func13, Tryd.ntmps13
  have HZ : Hid (Bl 38 (w.alloc (.cells #[.int .i64 0, .int .i64 0, .int .i64 0, .int .i64 0, .int .i64 0] 38)) w.heap.size (rwC 0 0 0 0 0)) := alloc_bl w (rwC 0 0 0 0 0) 38
  have HB0 : Hid (Below w.heap.size w (w.alloc (.cells #[.int .i64 0, .int .i64 0, .int .i64 0, .int .i64 0, .int .i64 0] 38))) := alloc_below w _
  go_wp2_with fail
  refine (rrows_any _).mono ?_
  rintro e w1 ⟨rfl, hc, B1⟩
  have hbn : w.heap.size < (w.alloc (.cells #[.int .i64 0, .int .i64 0, .int .i64 0, .int .i64 0, .int .i64 0] 38)).heap.size := HZ.out.lt
  generalize w.alloc (.cells #[.int .i64 0, .int .i64 0, .int .i64 0, .int .i64 0, .int .i64 0] 38) = w0 at *
  obtain ⟨b, hb⟩ : ∃ b, w0.heap.size = b := ⟨_, rfl⟩
  have HZ1 : Hid (Bl 38 w1 w.heap.size (rwC 0 0 0 0 0)) := HZ.out.below B1 hbn
  have HB1 : Hid (Below w.heap.size w w1) := HB0.out.trans (B1.mono (by omega))
  rw [hb] at hc
  have HR : Hid (∀ (j : Nat) v, rowsC[j]? = some v → w1.cell? ⟨b, j, none⟩ = some v) := hc
  have hbw : b ≠ w.heap.size := by omega
  rw [hb]
  clear HZ HB0 B1 hc hb hbn
  go_wp2
  go_loopw [5] (fun s wr => ∃ k : Nat, s = .int .i64 (k : Int) ∧ k ≤ 12 ∧ (∀ j, j < k → a ≠ ((j + 1 : Nat) : Int)) ∧ wr = w1) (fun s _ => 12 - (intOf s).toNat)
  case atStart => exact ⟨0, rfl, by omega, fun j hj => by omega, rfl⟩
  case round =>
    obtain ⟨k, rfl, hk, hne, rfl⟩ := hrel
    rcases (show k = 0 ∨ k = 1 ∨ k = 2 ∨ k = 3 ∨ k = 4 ∨ k = 5 ∨ k = 6 ∨ k = 7 ∨ k = 8 ∨ k = 9 ∨ k = 10 ∨ k = 11 ∨ k = 12 by omega) with rfl | rfl | rfl | rfl | rfl | rfl | rfl | rfl | rfl | rfl | rfl | rfl | rfl
    · by_cases hq : a = 1
      · subst hq
        have c0 : wr.cell? ⟨b, 0, none⟩ = some (.int .i64 1) := HR.out 0 _ rfl
        have c1 : wr.cell? ⟨b, 1, none⟩ = some (.int .i64 1) := HR.out 1 _ rfl
        have c2 : wr.cell? ⟨b, 2, none⟩ = some (.int .i64 0) := HR.out 2 _ rfl
        have c3 : wr.cell? ⟨b, 3, none⟩ = some (.int .i64 1) := HR.out 3 _ rfl
        have c4 : wr.cell? ⟨b, 4, none⟩ = some (.int .i64 1) := HR.out 4 _ rfl
        have hra : wr.rangeAt b 0 (rwC 1 1 0 1 1) := fun j v hv => by
          match j, hv with
          | 0, hv => cases hv; exact c0
          | 1, hv => cases hv; exact c1
          | 2, hv => cases hv; exact c2
          | 3, hv => cases hv; exact c3
          | 4, hv => cases hv; exact c4
        clear hne hra
        obtain ⟨wz, hwz⟩ : ∃ wz, wr.setRow w.heap.size (rwC 1 1 0 1 1).toArray = wz := ⟨_, rfl⟩
        have HBz : Hid (Bl 38 wz w.heap.size (rwC 1 1 0 1 1)) := by rw [← hwz]; exact set_bl HZ1.out
        have Hz : Hid (Below w.heap.size w wz) := by rw [← hwz]; exact setRow_below _ HB1.out (Nat.le_refl _)
        have HWz : Hid (wr.setRow w.heap.size (rwC 1 1 0 1 1).toArray = wz) := hwz
        have hgi : (Tryd.prog.info? 38).map (·.size) = some 5 := by kernel_rfl
        clear hwz
        go_wp2_with (refine wpList_store_row rfl 38 (.tmp 2) (.tmp 23) rfl w.heap.size (rwC 1 1 0 1 1).toArray rfl rfl 38 (rwC 0 0 0 0 0).toArray HZ1.out hgi rfl (by simp [rwC, zI, Value.oneCell']) ?_; rw [HWz.out]; clear HWz hgi)
        (try simp only [Exit.inBlock, Exit.then])
        refine bodyPost_ret (results_row (p := 2) (q := 3) rfl _ wz w.heap.size 1 1 0 1 1 rfl HBz.out) rfl ⟨⟨1, 1, 0, 1, 1, true, rfl, ?_⟩, Hz.out⟩
        unfold FdOk
        rw [if_pos (by decide)]
        exact ⟨rfl, rfl, rfl⟩
      · have q1 : ((1 : Int) == a) = false := beq_eq_false_iff_ne.2 (fun e => hq e.symm)
        have c0 : wr.cell? ⟨b, 0, none⟩ = some (.int .i64 1) := HR.out 0 _ rfl
        have hne2 : ∀ j, j < 1 → a ≠ ((j + 1 : Nat) : Int) := fun j hj => by
          rcases Nat.lt_or_ge j 0 with h | h
          · exact hne j h
          · obtain rfl : j = 0 := by omega
            exact hq
        clear hne hq
        go_wp2
        go_roundw
        case rel => exact ⟨1, by first | rfl | go_num, by omega, hne2, by first | rfl | trivial⟩
        case measure => simp [intOf]
    · by_cases hq : a = 2
      · subst hq
        have c0 : wr.cell? ⟨b, 5, none⟩ = some (.int .i64 2) := HR.out 5 _ rfl
        have c1 : wr.cell? ⟨b, 6, none⟩ = some (.int .i64 1) := HR.out 6 _ rfl
        have c2 : wr.cell? ⟨b, 7, none⟩ = some (.int .i64 0) := HR.out 7 _ rfl
        have c3 : wr.cell? ⟨b, 8, none⟩ = some (.int .i64 2) := HR.out 8 _ rfl
        have c4 : wr.cell? ⟨b, 9, none⟩ = some (.int .i64 1) := HR.out 9 _ rfl
        have hra : wr.rangeAt b 5 (rwC 2 1 0 2 1) := fun j v hv => by
          match j, hv with
          | 0, hv => cases hv; exact c0
          | 1, hv => cases hv; exact c1
          | 2, hv => cases hv; exact c2
          | 3, hv => cases hv; exact c3
          | 4, hv => cases hv; exact c4
        clear hne hra
        obtain ⟨wz, hwz⟩ : ∃ wz, wr.setRow w.heap.size (rwC 2 1 0 2 1).toArray = wz := ⟨_, rfl⟩
        have HBz : Hid (Bl 38 wz w.heap.size (rwC 2 1 0 2 1)) := by rw [← hwz]; exact set_bl HZ1.out
        have Hz : Hid (Below w.heap.size w wz) := by rw [← hwz]; exact setRow_below _ HB1.out (Nat.le_refl _)
        have HWz : Hid (wr.setRow w.heap.size (rwC 2 1 0 2 1).toArray = wz) := hwz
        have hgi : (Tryd.prog.info? 38).map (·.size) = some 5 := by kernel_rfl
        clear hwz
        go_wp2_with (refine wpList_store_row rfl 38 (.tmp 2) (.tmp 23) rfl w.heap.size (rwC 2 1 0 2 1).toArray rfl rfl 38 (rwC 0 0 0 0 0).toArray HZ1.out hgi rfl (by simp [rwC, zI, Value.oneCell']) ?_; rw [HWz.out]; clear HWz hgi)
        (try simp only [Exit.inBlock, Exit.then])
        refine bodyPost_ret (results_row (p := 2) (q := 3) rfl _ wz w.heap.size 2 1 0 2 1 rfl HBz.out) rfl ⟨⟨2, 1, 0, 2, 1, true, rfl, ?_⟩, Hz.out⟩
        unfold FdOk
        rw [if_pos (by decide)]
        exact ⟨rfl, rfl, rfl⟩
      · have q1 : ((2 : Int) == a) = false := beq_eq_false_iff_ne.2 (fun e => hq e.symm)
        have c0 : wr.cell? ⟨b, 5, none⟩ = some (.int .i64 2) := HR.out 5 _ rfl
        have hne2 : ∀ j, j < 2 → a ≠ ((j + 1 : Nat) : Int) := fun j hj => by
          rcases Nat.lt_or_ge j 1 with h | h
          · exact hne j h
          · obtain rfl : j = 1 := by omega
            exact hq
        clear hne hq
        go_wp2
        go_roundw
        case rel => exact ⟨2, by first | rfl | go_num, by omega, hne2, by first | rfl | trivial⟩
        case measure => simp [intOf]
    · by_cases hq : a = 3
      · subst hq
        have c0 : wr.cell? ⟨b, 10, none⟩ = some (.int .i64 3) := HR.out 10 _ rfl
        have c1 : wr.cell? ⟨b, 11, none⟩ = some (.int .i64 1) := HR.out 11 _ rfl
        have c2 : wr.cell? ⟨b, 12, none⟩ = some (.int .i64 0) := HR.out 12 _ rfl
        have c3 : wr.cell? ⟨b, 13, none⟩ = some (.int .i64 3) := HR.out 13 _ rfl
        have c4 : wr.cell? ⟨b, 14, none⟩ = some (.int .i64 1) := HR.out 14 _ rfl
        have hra : wr.rangeAt b 10 (rwC 3 1 0 3 1) := fun j v hv => by
          match j, hv with
          | 0, hv => cases hv; exact c0
          | 1, hv => cases hv; exact c1
          | 2, hv => cases hv; exact c2
          | 3, hv => cases hv; exact c3
          | 4, hv => cases hv; exact c4
        clear hne hra
        obtain ⟨wz, hwz⟩ : ∃ wz, wr.setRow w.heap.size (rwC 3 1 0 3 1).toArray = wz := ⟨_, rfl⟩
        have HBz : Hid (Bl 38 wz w.heap.size (rwC 3 1 0 3 1)) := by rw [← hwz]; exact set_bl HZ1.out
        have Hz : Hid (Below w.heap.size w wz) := by rw [← hwz]; exact setRow_below _ HB1.out (Nat.le_refl _)
        have HWz : Hid (wr.setRow w.heap.size (rwC 3 1 0 3 1).toArray = wz) := hwz
        have hgi : (Tryd.prog.info? 38).map (·.size) = some 5 := by kernel_rfl
        clear hwz
        go_wp2_with (refine wpList_store_row rfl 38 (.tmp 2) (.tmp 23) rfl w.heap.size (rwC 3 1 0 3 1).toArray rfl rfl 38 (rwC 0 0 0 0 0).toArray HZ1.out hgi rfl (by simp [rwC, zI, Value.oneCell']) ?_; rw [HWz.out]; clear HWz hgi)
        (try simp only [Exit.inBlock, Exit.then])
        refine bodyPost_ret (results_row (p := 2) (q := 3) rfl _ wz w.heap.size 3 1 0 3 1 rfl HBz.out) rfl ⟨⟨3, 1, 0, 3, 1, true, rfl, ?_⟩, Hz.out⟩
        unfold FdOk
        rw [if_pos (by decide)]
        exact ⟨rfl, rfl, rfl⟩
      · have q1 : ((3 : Int) == a) = false := beq_eq_false_iff_ne.2 (fun e => hq e.symm)
        have c0 : wr.cell? ⟨b, 10, none⟩ = some (.int .i64 3) := HR.out 10 _ rfl
        have hne2 : ∀ j, j < 3 → a ≠ ((j + 1 : Nat) : Int) := fun j hj => by
          rcases Nat.lt_or_ge j 2 with h | h
          · exact hne j h
          · obtain rfl : j = 2 := by omega
            exact hq
        clear hne hq
        go_wp2
        go_roundw
        case rel => exact ⟨3, by first | rfl | go_num, by omega, hne2, by first | rfl | trivial⟩
        case measure => simp [intOf]
    · by_cases hq : a = 4
      · subst hq
        have c0 : wr.cell? ⟨b, 15, none⟩ = some (.int .i64 4) := HR.out 15 _ rfl
        have c1 : wr.cell? ⟨b, 16, none⟩ = some (.int .i64 2) := HR.out 16 _ rfl
        have c2 : wr.cell? ⟨b, 17, none⟩ = some (.int .i64 0) := HR.out 17 _ rfl
        have c3 : wr.cell? ⟨b, 18, none⟩ = some (.int .i64 1) := HR.out 18 _ rfl
        have c4 : wr.cell? ⟨b, 19, none⟩ = some (.int .i64 2) := HR.out 19 _ rfl
        have hra : wr.rangeAt b 15 (rwC 4 2 0 1 2) := fun j v hv => by
          match j, hv with
          | 0, hv => cases hv; exact c0
          | 1, hv => cases hv; exact c1
          | 2, hv => cases hv; exact c2
          | 3, hv => cases hv; exact c3
          | 4, hv => cases hv; exact c4
        clear hne hra
        obtain ⟨wz, hwz⟩ : ∃ wz, wr.setRow w.heap.size (rwC 4 2 0 1 2).toArray = wz := ⟨_, rfl⟩
        have HBz : Hid (Bl 38 wz w.heap.size (rwC 4 2 0 1 2)) := by rw [← hwz]; exact set_bl HZ1.out
        have Hz : Hid (Below w.heap.size w wz) := by rw [← hwz]; exact setRow_below _ HB1.out (Nat.le_refl _)
        have HWz : Hid (wr.setRow w.heap.size (rwC 4 2 0 1 2).toArray = wz) := hwz
        have hgi : (Tryd.prog.info? 38).map (·.size) = some 5 := by kernel_rfl
        clear hwz
        go_wp2_with (refine wpList_store_row rfl 38 (.tmp 2) (.tmp 23) rfl w.heap.size (rwC 4 2 0 1 2).toArray rfl rfl 38 (rwC 0 0 0 0 0).toArray HZ1.out hgi rfl (by simp [rwC, zI, Value.oneCell']) ?_; rw [HWz.out]; clear HWz hgi)
        (try simp only [Exit.inBlock, Exit.then])
        refine bodyPost_ret (results_row (p := 2) (q := 3) rfl _ wz w.heap.size 4 2 0 1 2 rfl HBz.out) rfl ⟨⟨4, 2, 0, 1, 2, true, rfl, ?_⟩, Hz.out⟩
        unfold FdOk
        rw [if_neg (by decide)]
        exact .inr (by decide)
      · have q1 : ((4 : Int) == a) = false := beq_eq_false_iff_ne.2 (fun e => hq e.symm)
        have c0 : wr.cell? ⟨b, 15, none⟩ = some (.int .i64 4) := HR.out 15 _ rfl
        have hne2 : ∀ j, j < 4 → a ≠ ((j + 1 : Nat) : Int) := fun j hj => by
          rcases Nat.lt_or_ge j 3 with h | h
          · exact hne j h
          · obtain rfl : j = 3 := by omega
            exact hq
        clear hne hq
        go_wp2
        go_roundw
        case rel => exact ⟨4, by first | rfl | go_num, by omega, hne2, by first | rfl | trivial⟩
        case measure => simp [intOf]
    · by_cases hq : a = 5
      · subst hq
        have c0 : wr.cell? ⟨b, 20, none⟩ = some (.int .i64 5) := HR.out 20 _ rfl
        have c1 : wr.cell? ⟨b, 21, none⟩ = some (.int .i64 2) := HR.out 21 _ rfl
        have c2 : wr.cell? ⟨b, 22, none⟩ = some (.int .i64 0) := HR.out 22 _ rfl
        have c3 : wr.cell? ⟨b, 23, none⟩ = some (.int .i64 2) := HR.out 23 _ rfl
        have c4 : wr.cell? ⟨b, 24, none⟩ = some (.int .i64 2) := HR.out 24 _ rfl
        have hra : wr.rangeAt b 20 (rwC 5 2 0 2 2) := fun j v hv => by
          match j, hv with
          | 0, hv => cases hv; exact c0
          | 1, hv => cases hv; exact c1
          | 2, hv => cases hv; exact c2
          | 3, hv => cases hv; exact c3
          | 4, hv => cases hv; exact c4
        clear hne hra
        obtain ⟨wz, hwz⟩ : ∃ wz, wr.setRow w.heap.size (rwC 5 2 0 2 2).toArray = wz := ⟨_, rfl⟩
        have HBz : Hid (Bl 38 wz w.heap.size (rwC 5 2 0 2 2)) := by rw [← hwz]; exact set_bl HZ1.out
        have Hz : Hid (Below w.heap.size w wz) := by rw [← hwz]; exact setRow_below _ HB1.out (Nat.le_refl _)
        have HWz : Hid (wr.setRow w.heap.size (rwC 5 2 0 2 2).toArray = wz) := hwz
        have hgi : (Tryd.prog.info? 38).map (·.size) = some 5 := by kernel_rfl
        clear hwz
        go_wp2_with (refine wpList_store_row rfl 38 (.tmp 2) (.tmp 23) rfl w.heap.size (rwC 5 2 0 2 2).toArray rfl rfl 38 (rwC 0 0 0 0 0).toArray HZ1.out hgi rfl (by simp [rwC, zI, Value.oneCell']) ?_; rw [HWz.out]; clear HWz hgi)
        (try simp only [Exit.inBlock, Exit.then])
        refine bodyPost_ret (results_row (p := 2) (q := 3) rfl _ wz w.heap.size 5 2 0 2 2 rfl HBz.out) rfl ⟨⟨5, 2, 0, 2, 2, true, rfl, ?_⟩, Hz.out⟩
        unfold FdOk
        rw [if_neg (by decide)]
        exact .inr (by decide)
      · have q1 : ((5 : Int) == a) = false := beq_eq_false_iff_ne.2 (fun e => hq e.symm)
        have c0 : wr.cell? ⟨b, 20, none⟩ = some (.int .i64 5) := HR.out 20 _ rfl
        have hne2 : ∀ j, j < 5 → a ≠ ((j + 1 : Nat) : Int) := fun j hj => by
          rcases Nat.lt_or_ge j 4 with h | h
          · exact hne j h
          · obtain rfl : j = 4 := by omega
            exact hq
        clear hne hq
        go_wp2
        go_roundw
        case rel => exact ⟨5, by first | rfl | go_num, by omega, hne2, by first | rfl | trivial⟩
        case measure => simp [intOf]
    · by_cases hq : a = 6
      · subst hq
        have c0 : wr.cell? ⟨b, 25, none⟩ = some (.int .i64 6) := HR.out 25 _ rfl
        have c1 : wr.cell? ⟨b, 26, none⟩ = some (.int .i64 2) := HR.out 26 _ rfl
        have c2 : wr.cell? ⟨b, 27, none⟩ = some (.int .i64 0) := HR.out 27 _ rfl
        have c3 : wr.cell? ⟨b, 28, none⟩ = some (.int .i64 3) := HR.out 28 _ rfl
        have c4 : wr.cell? ⟨b, 29, none⟩ = some (.int .i64 2) := HR.out 29 _ rfl
        have hra : wr.rangeAt b 25 (rwC 6 2 0 3 2) := fun j v hv => by
          match j, hv with
          | 0, hv => cases hv; exact c0
          | 1, hv => cases hv; exact c1
          | 2, hv => cases hv; exact c2
          | 3, hv => cases hv; exact c3
          | 4, hv => cases hv; exact c4
        clear hne hra
        obtain ⟨wz, hwz⟩ : ∃ wz, wr.setRow w.heap.size (rwC 6 2 0 3 2).toArray = wz := ⟨_, rfl⟩
        have HBz : Hid (Bl 38 wz w.heap.size (rwC 6 2 0 3 2)) := by rw [← hwz]; exact set_bl HZ1.out
        have Hz : Hid (Below w.heap.size w wz) := by rw [← hwz]; exact setRow_below _ HB1.out (Nat.le_refl _)
        have HWz : Hid (wr.setRow w.heap.size (rwC 6 2 0 3 2).toArray = wz) := hwz
        have hgi : (Tryd.prog.info? 38).map (·.size) = some 5 := by kernel_rfl
        clear hwz
        go_wp2_with (refine wpList_store_row rfl 38 (.tmp 2) (.tmp 23) rfl w.heap.size (rwC 6 2 0 3 2).toArray rfl rfl 38 (rwC 0 0 0 0 0).toArray HZ1.out hgi rfl (by simp [rwC, zI, Value.oneCell']) ?_; rw [HWz.out]; clear HWz hgi)
        (try simp only [Exit.inBlock, Exit.then])
        refine bodyPost_ret (results_row (p := 2) (q := 3) rfl _ wz w.heap.size 6 2 0 3 2 rfl HBz.out) rfl ⟨⟨6, 2, 0, 3, 2, true, rfl, ?_⟩, Hz.out⟩
        unfold FdOk
        rw [if_neg (by decide)]
        exact .inr (by decide)
      · have q1 : ((6 : Int) == a) = false := beq_eq_false_iff_ne.2 (fun e => hq e.symm)
        have c0 : wr.cell? ⟨b, 25, none⟩ = some (.int .i64 6) := HR.out 25 _ rfl
        have hne2 : ∀ j, j < 6 → a ≠ ((j + 1 : Nat) : Int) := fun j hj => by
          rcases Nat.lt_or_ge j 5 with h | h
          · exact hne j h
          · obtain rfl : j = 5 := by omega
            exact hq
        clear hne hq
        go_wp2
        go_roundw
        case rel => exact ⟨6, by first | rfl | go_num, by omega, hne2, by first | rfl | trivial⟩
        case measure => simp [intOf]
    · by_cases hq : a = 7
      · subst hq
        have c0 : wr.cell? ⟨b, 30, none⟩ = some (.int .i64 7) := HR.out 30 _ rfl
        have c1 : wr.cell? ⟨b, 31, none⟩ = some (.int .i64 2) := HR.out 31 _ rfl
        have c2 : wr.cell? ⟨b, 32, none⟩ = some (.int .i64 0) := HR.out 32 _ rfl
        have c3 : wr.cell? ⟨b, 33, none⟩ = some (.int .i64 1) := HR.out 33 _ rfl
        have c4 : wr.cell? ⟨b, 34, none⟩ = some (.int .i64 3) := HR.out 34 _ rfl
        have hra : wr.rangeAt b 30 (rwC 7 2 0 1 3) := fun j v hv => by
          match j, hv with
          | 0, hv => cases hv; exact c0
          | 1, hv => cases hv; exact c1
          | 2, hv => cases hv; exact c2
          | 3, hv => cases hv; exact c3
          | 4, hv => cases hv; exact c4
        clear hne hra
        obtain ⟨wz, hwz⟩ : ∃ wz, wr.setRow w.heap.size (rwC 7 2 0 1 3).toArray = wz := ⟨_, rfl⟩
        have HBz : Hid (Bl 38 wz w.heap.size (rwC 7 2 0 1 3)) := by rw [← hwz]; exact set_bl HZ1.out
        have Hz : Hid (Below w.heap.size w wz) := by rw [← hwz]; exact setRow_below _ HB1.out (Nat.le_refl _)
        have HWz : Hid (wr.setRow w.heap.size (rwC 7 2 0 1 3).toArray = wz) := hwz
        have hgi : (Tryd.prog.info? 38).map (·.size) = some 5 := by kernel_rfl
        clear hwz
        go_wp2_with (refine wpList_store_row rfl 38 (.tmp 2) (.tmp 23) rfl w.heap.size (rwC 7 2 0 1 3).toArray rfl rfl 38 (rwC 0 0 0 0 0).toArray HZ1.out hgi rfl (by simp [rwC, zI, Value.oneCell']) ?_; rw [HWz.out]; clear HWz hgi)
        (try simp only [Exit.inBlock, Exit.then])
        refine bodyPost_ret (results_row (p := 2) (q := 3) rfl _ wz w.heap.size 7 2 0 1 3 rfl HBz.out) rfl ⟨⟨7, 2, 0, 1, 3, true, rfl, ?_⟩, Hz.out⟩
        unfold FdOk
        rw [if_neg (by decide)]
        exact .inr (by decide)
      · have q1 : ((7 : Int) == a) = false := beq_eq_false_iff_ne.2 (fun e => hq e.symm)
        have c0 : wr.cell? ⟨b, 30, none⟩ = some (.int .i64 7) := HR.out 30 _ rfl
        have hne2 : ∀ j, j < 7 → a ≠ ((j + 1 : Nat) : Int) := fun j hj => by
          rcases Nat.lt_or_ge j 6 with h | h
          · exact hne j h
          · obtain rfl : j = 6 := by omega
            exact hq
        clear hne hq
        go_wp2
        go_roundw
        case rel => exact ⟨7, by first | rfl | go_num, by omega, hne2, by first | rfl | trivial⟩
        case measure => simp [intOf]
    · by_cases hq : a = 8
      · subst hq
        have c0 : wr.cell? ⟨b, 35, none⟩ = some (.int .i64 8) := HR.out 35 _ rfl
        have c1 : wr.cell? ⟨b, 36, none⟩ = some (.int .i64 2) := HR.out 36 _ rfl
        have c2 : wr.cell? ⟨b, 37, none⟩ = some (.int .i64 0) := HR.out 37 _ rfl
        have c3 : wr.cell? ⟨b, 38, none⟩ = some (.int .i64 2) := HR.out 38 _ rfl
        have c4 : wr.cell? ⟨b, 39, none⟩ = some (.int .i64 3) := HR.out 39 _ rfl
        have hra : wr.rangeAt b 35 (rwC 8 2 0 2 3) := fun j v hv => by
          match j, hv with
          | 0, hv => cases hv; exact c0
          | 1, hv => cases hv; exact c1
          | 2, hv => cases hv; exact c2
          | 3, hv => cases hv; exact c3
          | 4, hv => cases hv; exact c4
        clear hne hra
        obtain ⟨wz, hwz⟩ : ∃ wz, wr.setRow w.heap.size (rwC 8 2 0 2 3).toArray = wz := ⟨_, rfl⟩
        have HBz : Hid (Bl 38 wz w.heap.size (rwC 8 2 0 2 3)) := by rw [← hwz]; exact set_bl HZ1.out
        have Hz : Hid (Below w.heap.size w wz) := by rw [← hwz]; exact setRow_below _ HB1.out (Nat.le_refl _)
        have HWz : Hid (wr.setRow w.heap.size (rwC 8 2 0 2 3).toArray = wz) := hwz
        have hgi : (Tryd.prog.info? 38).map (·.size) = some 5 := by kernel_rfl
        clear hwz
        go_wp2_with (refine wpList_store_row rfl 38 (.tmp 2) (.tmp 23) rfl w.heap.size (rwC 8 2 0 2 3).toArray rfl rfl 38 (rwC 0 0 0 0 0).toArray HZ1.out hgi rfl (by simp [rwC, zI, Value.oneCell']) ?_; rw [HWz.out]; clear HWz hgi)
        (try simp only [Exit.inBlock, Exit.then])
        refine bodyPost_ret (results_row (p := 2) (q := 3) rfl _ wz w.heap.size 8 2 0 2 3 rfl HBz.out) rfl ⟨⟨8, 2, 0, 2, 3, true, rfl, ?_⟩, Hz.out⟩
        unfold FdOk
        rw [if_neg (by decide)]
        exact .inr (by decide)
      · have q1 : ((8 : Int) == a) = false := beq_eq_false_iff_ne.2 (fun e => hq e.symm)
        have c0 : wr.cell? ⟨b, 35, none⟩ = some (.int .i64 8) := HR.out 35 _ rfl
        have hne2 : ∀ j, j < 8 → a ≠ ((j + 1 : Nat) : Int) := fun j hj => by
          rcases Nat.lt_or_ge j 7 with h | h
          · exact hne j h
          · obtain rfl : j = 7 := by omega
            exact hq
        clear hne hq
        go_wp2
        go_roundw
        case rel => exact ⟨8, by first | rfl | go_num, by omega, hne2, by first | rfl | trivial⟩
        case measure => simp [intOf]
    · by_cases hq : a = 9
      · subst hq
        have c0 : wr.cell? ⟨b, 40, none⟩ = some (.int .i64 9) := HR.out 40 _ rfl
        have c1 : wr.cell? ⟨b, 41, none⟩ = some (.int .i64 2) := HR.out 41 _ rfl
        have c2 : wr.cell? ⟨b, 42, none⟩ = some (.int .i64 0) := HR.out 42 _ rfl
        have c3 : wr.cell? ⟨b, 43, none⟩ = some (.int .i64 3) := HR.out 43 _ rfl
        have c4 : wr.cell? ⟨b, 44, none⟩ = some (.int .i64 3) := HR.out 44 _ rfl
        have hra : wr.rangeAt b 40 (rwC 9 2 0 3 3) := fun j v hv => by
          match j, hv with
          | 0, hv => cases hv; exact c0
          | 1, hv => cases hv; exact c1
          | 2, hv => cases hv; exact c2
          | 3, hv => cases hv; exact c3
          | 4, hv => cases hv; exact c4
        clear hne hra
        obtain ⟨wz, hwz⟩ : ∃ wz, wr.setRow w.heap.size (rwC 9 2 0 3 3).toArray = wz := ⟨_, rfl⟩
        have HBz : Hid (Bl 38 wz w.heap.size (rwC 9 2 0 3 3)) := by rw [← hwz]; exact set_bl HZ1.out
        have Hz : Hid (Below w.heap.size w wz) := by rw [← hwz]; exact setRow_below _ HB1.out (Nat.le_refl _)
        have HWz : Hid (wr.setRow w.heap.size (rwC 9 2 0 3 3).toArray = wz) := hwz
        have hgi : (Tryd.prog.info? 38).map (·.size) = some 5 := by kernel_rfl
        clear hwz
        go_wp2_with (refine wpList_store_row rfl 38 (.tmp 2) (.tmp 23) rfl w.heap.size (rwC 9 2 0 3 3).toArray rfl rfl 38 (rwC 0 0 0 0 0).toArray HZ1.out hgi rfl (by simp [rwC, zI, Value.oneCell']) ?_; rw [HWz.out]; clear HWz hgi)
        (try simp only [Exit.inBlock, Exit.then])
        refine bodyPost_ret (results_row (p := 2) (q := 3) rfl _ wz w.heap.size 9 2 0 3 3 rfl HBz.out) rfl ⟨⟨9, 2, 0, 3, 3, true, rfl, ?_⟩, Hz.out⟩
        unfold FdOk
        rw [if_neg (by decide)]
        exact .inr (by decide)
      · have q1 : ((9 : Int) == a) = false := beq_eq_false_iff_ne.2 (fun e => hq e.symm)
        have c0 : wr.cell? ⟨b, 40, none⟩ = some (.int .i64 9) := HR.out 40 _ rfl
        have hne2 : ∀ j, j < 9 → a ≠ ((j + 1 : Nat) : Int) := fun j hj => by
          rcases Nat.lt_or_ge j 8 with h | h
          · exact hne j h
          · obtain rfl : j = 8 := by omega
            exact hq
        clear hne hq
        go_wp2
        go_roundw
        case rel => exact ⟨9, by first | rfl | go_num, by omega, hne2, by first | rfl | trivial⟩
        case measure => simp [intOf]
    · by_cases hq : a = 10
      · subst hq
        have c0 : wr.cell? ⟨b, 45, none⟩ = some (.int .i64 10) := HR.out 45 _ rfl
        have c1 : wr.cell? ⟨b, 46, none⟩ = some (.int .i64 3) := HR.out 46 _ rfl
        have c2 : wr.cell? ⟨b, 47, none⟩ = some (.int .i64 1) := HR.out 47 _ rfl
        have c3 : wr.cell? ⟨b, 48, none⟩ = some (.int .i64 1) := HR.out 48 _ rfl
        have c4 : wr.cell? ⟨b, 49, none⟩ = some (.int .i64 4) := HR.out 49 _ rfl
        have hra : wr.rangeAt b 45 (rwC 10 3 1 1 4) := fun j v hv => by
          match j, hv with
          | 0, hv => cases hv; exact c0
          | 1, hv => cases hv; exact c1
          | 2, hv => cases hv; exact c2
          | 3, hv => cases hv; exact c3
          | 4, hv => cases hv; exact c4
        clear hne hra
        obtain ⟨wz, hwz⟩ : ∃ wz, wr.setRow w.heap.size (rwC 10 3 1 1 4).toArray = wz := ⟨_, rfl⟩
        have HBz : Hid (Bl 38 wz w.heap.size (rwC 10 3 1 1 4)) := by rw [← hwz]; exact set_bl HZ1.out
        have Hz : Hid (Below w.heap.size w wz) := by rw [← hwz]; exact setRow_below _ HB1.out (Nat.le_refl _)
        have HWz : Hid (wr.setRow w.heap.size (rwC 10 3 1 1 4).toArray = wz) := hwz
        have hgi : (Tryd.prog.info? 38).map (·.size) = some 5 := by kernel_rfl
        clear hwz
        go_wp2_with (refine wpList_store_row rfl 38 (.tmp 2) (.tmp 23) rfl w.heap.size (rwC 10 3 1 1 4).toArray rfl rfl 38 (rwC 0 0 0 0 0).toArray HZ1.out hgi rfl (by simp [rwC, zI, Value.oneCell']) ?_; rw [HWz.out]; clear HWz hgi)
        (try simp only [Exit.inBlock, Exit.then])
        refine bodyPost_ret (results_row (p := 2) (q := 3) rfl _ wz w.heap.size 10 3 1 1 4 rfl HBz.out) rfl ⟨⟨10, 3, 1, 1, 4, true, rfl, ?_⟩, Hz.out⟩
        unfold FdOk
        rw [if_neg (by decide)]
        exact .inr (by decide)
      · have q1 : ((10 : Int) == a) = false := beq_eq_false_iff_ne.2 (fun e => hq e.symm)
        have c0 : wr.cell? ⟨b, 45, none⟩ = some (.int .i64 10) := HR.out 45 _ rfl
        have hne2 : ∀ j, j < 10 → a ≠ ((j + 1 : Nat) : Int) := fun j hj => by
          rcases Nat.lt_or_ge j 9 with h | h
          · exact hne j h
          · obtain rfl : j = 9 := by omega
            exact hq
        clear hne hq
        go_wp2
        go_roundw
        case rel => exact ⟨10, by first | rfl | go_num, by omega, hne2, by first | rfl | trivial⟩
        case measure => simp [intOf]
    · by_cases hq : a = 11
      · subst hq
        have c0 : wr.cell? ⟨b, 50, none⟩ = some (.int .i64 11) := HR.out 50 _ rfl
        have c1 : wr.cell? ⟨b, 51, none⟩ = some (.int .i64 3) := HR.out 51 _ rfl
        have c2 : wr.cell? ⟨b, 52, none⟩ = some (.int .i64 2) := HR.out 52 _ rfl
        have c3 : wr.cell? ⟨b, 53, none⟩ = some (.int .i64 2) := HR.out 53 _ rfl
        have c4 : wr.cell? ⟨b, 54, none⟩ = some (.int .i64 4) := HR.out 54 _ rfl
        have hra : wr.rangeAt b 50 (rwC 11 3 2 2 4) := fun j v hv => by
          match j, hv with
          | 0, hv => cases hv; exact c0
          | 1, hv => cases hv; exact c1
          | 2, hv => cases hv; exact c2
          | 3, hv => cases hv; exact c3
          | 4, hv => cases hv; exact c4
        clear hne hra
        obtain ⟨wz, hwz⟩ : ∃ wz, wr.setRow w.heap.size (rwC 11 3 2 2 4).toArray = wz := ⟨_, rfl⟩
        have HBz : Hid (Bl 38 wz w.heap.size (rwC 11 3 2 2 4)) := by rw [← hwz]; exact set_bl HZ1.out
        have Hz : Hid (Below w.heap.size w wz) := by rw [← hwz]; exact setRow_below _ HB1.out (Nat.le_refl _)
        have HWz : Hid (wr.setRow w.heap.size (rwC 11 3 2 2 4).toArray = wz) := hwz
        have hgi : (Tryd.prog.info? 38).map (·.size) = some 5 := by kernel_rfl
        clear hwz
        go_wp2_with (refine wpList_store_row rfl 38 (.tmp 2) (.tmp 23) rfl w.heap.size (rwC 11 3 2 2 4).toArray rfl rfl 38 (rwC 0 0 0 0 0).toArray HZ1.out hgi rfl (by simp [rwC, zI, Value.oneCell']) ?_; rw [HWz.out]; clear HWz hgi)
        (try simp only [Exit.inBlock, Exit.then])
        refine bodyPost_ret (results_row (p := 2) (q := 3) rfl _ wz w.heap.size 11 3 2 2 4 rfl HBz.out) rfl ⟨⟨11, 3, 2, 2, 4, true, rfl, ?_⟩, Hz.out⟩
        unfold FdOk
        rw [if_neg (by decide)]
        exact .inr (by decide)
      · have q1 : ((11 : Int) == a) = false := beq_eq_false_iff_ne.2 (fun e => hq e.symm)
        have c0 : wr.cell? ⟨b, 50, none⟩ = some (.int .i64 11) := HR.out 50 _ rfl
        have hne2 : ∀ j, j < 11 → a ≠ ((j + 1 : Nat) : Int) := fun j hj => by
          rcases Nat.lt_or_ge j 10 with h | h
          · exact hne j h
          · obtain rfl : j = 10 := by omega
            exact hq
        clear hne hq
        go_wp2
        go_roundw
        case rel => exact ⟨11, by first | rfl | go_num, by omega, hne2, by first | rfl | trivial⟩
        case measure => simp [intOf]
    · by_cases hq : a = 12
      · subst hq
        have c0 : wr.cell? ⟨b, 55, none⟩ = some (.int .i64 12) := HR.out 55 _ rfl
        have c1 : wr.cell? ⟨b, 56, none⟩ = some (.int .i64 4) := HR.out 56 _ rfl
        have c2 : wr.cell? ⟨b, 57, none⟩ = some (.int .i64 3) := HR.out 57 _ rfl
        have c3 : wr.cell? ⟨b, 58, none⟩ = some (.int .i64 0) := HR.out 58 _ rfl
        have c4 : wr.cell? ⟨b, 59, none⟩ = some (.int .i64 5) := HR.out 59 _ rfl
        have hra : wr.rangeAt b 55 (rwC 12 4 3 0 5) := fun j v hv => by
          match j, hv with
          | 0, hv => cases hv; exact c0
          | 1, hv => cases hv; exact c1
          | 2, hv => cases hv; exact c2
          | 3, hv => cases hv; exact c3
          | 4, hv => cases hv; exact c4
        clear hne hra
        obtain ⟨wz, hwz⟩ : ∃ wz, wr.setRow w.heap.size (rwC 12 4 3 0 5).toArray = wz := ⟨_, rfl⟩
        have HBz : Hid (Bl 38 wz w.heap.size (rwC 12 4 3 0 5)) := by rw [← hwz]; exact set_bl HZ1.out
        have Hz : Hid (Below w.heap.size w wz) := by rw [← hwz]; exact setRow_below _ HB1.out (Nat.le_refl _)
        have HWz : Hid (wr.setRow w.heap.size (rwC 12 4 3 0 5).toArray = wz) := hwz
        have hgi : (Tryd.prog.info? 38).map (·.size) = some 5 := by kernel_rfl
        clear hwz
        go_wp2_with (refine wpList_store_row rfl 38 (.tmp 2) (.tmp 23) rfl w.heap.size (rwC 12 4 3 0 5).toArray rfl rfl 38 (rwC 0 0 0 0 0).toArray HZ1.out hgi rfl (by simp [rwC, zI, Value.oneCell']) ?_; rw [HWz.out]; clear HWz hgi)
        (try simp only [Exit.inBlock, Exit.then])
        refine bodyPost_ret (results_row (p := 2) (q := 3) rfl _ wz w.heap.size 12 4 3 0 5 rfl HBz.out) rfl ⟨⟨12, 4, 3, 0, 5, true, rfl, ?_⟩, Hz.out⟩
        unfold FdOk
        rw [if_neg (by decide)]
        exact .inr (by decide)
      · have q1 : ((12 : Int) == a) = false := beq_eq_false_iff_ne.2 (fun e => hq e.symm)
        have c0 : wr.cell? ⟨b, 55, none⟩ = some (.int .i64 12) := HR.out 55 _ rfl
        have hne2 : ∀ j, j < 12 → a ≠ ((j + 1 : Nat) : Int) := fun j hj => by
          rcases Nat.lt_or_ge j 11 with h | h
          · exact hne j h
          · obtain rfl : j = 11 := by omega
            exact hq
        clear hne hq
        go_wp2
        go_roundw
        case rel => exact ⟨12, by first | rfl | go_num, by omega, hne2, by first | rfl | trivial⟩
        case measure => simp [intOf]
    · have HF : Hid (¬ (a = 1 ∨ a = 2 ∨ a = 3)) := fun h => by
        rcases h with rfl | rfl | rfl
        · exact hne 0 (by omega) rfl
        · exact hne 1 (by omega) rfl
        · exact hne 2 (by omega) rfl
      clear hne
      obtain ⟨wz, hwz⟩ : ∃ wz, wr.setRow w.heap.size (rwC 0 0 0 0 0).toArray = wz := ⟨_, rfl⟩
      have HBz : Hid (Bl 38 wz w.heap.size (rwC 0 0 0 0 0)) := by rw [← hwz]; exact set_bl HZ1.out
      have Hz : Hid (Below w.heap.size w wz) := by rw [← hwz]; exact setRow_below _ HB1.out (Nat.le_refl _)
      have HWz : Hid (wr.setRow w.heap.size (rwC 0 0 0 0 0).toArray = wz) := hwz
      have hgi : (Tryd.prog.info? 38).map (·.size) = some 5 := by kernel_rfl
      clear hwz
      go_wp2_with (refine wpList_store_row rfl 38 (.tmp 2) (.tmp 24) rfl w.heap.size (rwC 0 0 0 0 0).toArray rfl rfl 38 (rwC 0 0 0 0 0).toArray HZ1.out hgi rfl (by simp [rwC, zI, Value.oneCell']) ?_; rw [HWz.out]; clear HWz hgi)
      (try simp only [Exit.inBlock, Exit.then])
      refine bodyPost_ret (results_row (p := 2) (q := 3) rfl _ wz w.heap.size 0 0 0 0 0 rfl HBz.out) rfl ⟨⟨0, 0, 0, 0, 0, false, rfl, ?_⟩, Hz.out⟩
      unfold FdOk
      rw [if_neg HF.out]
      exact .inl rfl

end Go.Proofs.YtbgooffhikchmaaDoor
