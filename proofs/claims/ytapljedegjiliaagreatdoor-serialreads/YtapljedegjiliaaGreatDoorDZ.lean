import Derived.Test.YtapljedegjiliaaGreatDoorYZ
import Derived.Test.YtapljedegjiliaaGreatDoorWZ
import Derived.Laws.Tables
import Derived.Lib.AppendStr
namespace Go.Proofs.YtapljedegjiliaaGreatDoor
open Go.RowKit Go.Shelf

/-- What the document's functions hand on. -/
def gotC (at_ : Int) (L : Value) (S : List UInt8) (c b : Int) : List Value := [.int .i64 at_, L, .string ⟨S.toArray⟩, .int .i64 c, .int .i64 b]
def gotV (at_ : Int) (L : Value) (S : List UInt8) (c b : Int) : Value := .agg (gotC at_ L S c b).toArray
def nilV : Value := .slice none 0 0

theorem results_got {fn : Func} {p : Tmp} (h : fn.results = #[.cell p 50]) (tmps : Array Value) (w : World) (b : Nat) (at_ : Int) (L : Value) (S : List UInt8) (c d : Int) (hp : tmps.getD p undef = .pointer (some ⟨b, 0, none⟩)) (hb : Bl 50 w b (gotC at_ L S c d)) :
    (results fn tmps).run Tryz.prog w = .ok (gotV at_ L S c d) w := by
  have hr : (loadVar 50 ⟨b, 0, none⟩).run Tryz.prog w = .ok (gotV at_ L S c d) w := by
    refine run_loadVar_mid w b 0 50 (gotC at_ L S c d) _ ?_ Tryz.underlying50 rfl (by kernel_rfl)
    intro j v hv
    obtain ⟨hj, e⟩ := List.getElem?_eq_some_iff.1 hv
    rw [Nat.zero_add, ← e]
    exact hb.cell j hj
  rw [results_cell h, hp]
  unfold asAddr
  simp only [Sem.run_pure, Result.andThen_ok]
  exact hr

theorem set_bl {t : TypeId} {w : World} {b : Nat} {old new : List Value} (h : Bl t w b old) : Bl t (w.setRow b new.toArray) b new := setRow_heap _ _ _ _ _ _ h
theorem setRow_below {w0 w : World} {b : Nat} (new : Array Value) (h : Below w0.heap.size w0 w) (hb : w0.heap.size ≤ b) : Below w0.heap.size w0 (w.setRow b new) := ⟨h.os, h.tape, h.output, by simpa [World.setRow] using h.size, fun k hk => (setRow_other w b k _ (by omega)).trans (h.block k hk)⟩
theorem bl_below {t : TypeId} {w w' : World} {b : Nat} {vs : List Value} (h : Bl t w b vs) (hb : Below w.heap.size w w') : Bl t w' b vs := by
  unfold Bl at *
  rw [hb.block b (by
    have := h
    rcases Nat.lt_or_ge b w.heap.size with hl | hl
    · exact hl
    · rw [Array.getElem?_eq_none hl] at this; cases this)]
  exact h

/-- The byte at a place. -/
def bat (t : List UInt8) (p : Nat) : Int := if p < t.length then ((t.getD p 0).toNat : Int) else -1

set_option maxRecDepth 100000 in
theorem byteAt_any (t : List UInt8) (p : Nat) (w : World) (_hp : p ≤ 4000000000) : Calls Tryz.prog 27 #[.string ⟨t.toArray⟩, .int .i64 p] w fun e w' => e = .returned (.int .i64 (bat t p)) ∧ w' = w := by
  by_cases h : p < t.length
  · have HF : Hid (bat t p = ((t.getD p 0).toNat : Int)) := by show _ = _; unfold bat; rw [if_pos h]
    have q0 : decide ((p : Int) ≥ (t.length : Int)) = false := decide_eq_false (by omega)
    obtain ⟨c, hc⟩ : ∃ c, t.getD p 0 = c := ⟨_, rfl⟩
    have gx : (⟨t.toArray⟩ : ByteArray)[p]'(by show p < t.toArray.size; simpa using h) = c := by rw [← hc]; simp [List.getD_eq_getElem?_getD, h]; rfl
    rw [hc] at HF
    have hw : wrap64 (c.toNat : Int) = (c.toNat : Int) := wrap_small (by omega) (by have := c.toNat_lt; omega)
    clear hc
    go_enter Tryz.func27, Tryz.ntmps27
    go_wp2
    go_ret
    rw [HF.out]
    refine ⟨?_, rfl⟩
    show Ending.returned (.int .i64 (wrap64 (c.toNat : Int))) = _
    rw [hw]
  · have HF : Hid (bat t p = -1) := by show _ = _; unfold bat; rw [if_neg h]
    have q0 : decide ((p : Int) ≥ (t.length : Int)) = true := decide_eq_true (by omega)
    go_enter Tryz.func27, Tryz.ntmps27
    go_wp2
    go_ret
    rw [HF.out]
    exact ⟨rfl, rfl⟩

set_option maxRecDepth 100000 in
theorem fault_any (c b : Int) (w : World) : Calls Tryz.prog 28 #[.int .i64 c, .int .i64 b] w fun e w' => e = .returned (gotV 0 nilV [] c b) ∧ Below w.heap.size w w' := by
  have HB : Hid (Below w.heap.size w (w.alloc (.cells (gotC 0 nilV [] c b).toArray 50))) := alloc_below _ _
  have HBl : Hid (Bl 50 (w.alloc (.cells (gotC 0 nilV [] c b).toArray 50)) w.heap.size (gotC 0 nilV [] c b)) := alloc_bl _ _ _
  go_enter Tryz.func28, Tryz.ntmps28
  go_wp2
  (try simp only [Exit.inBlock, Exit.then])
  exact bodyPost_ret (v := gotV 0 nilV [] c b) (results_got rfl _ _ w.heap.size 0 nilV [] c b rfl HBl.out) rfl ⟨rfl, HB.out⟩

/-- What a hexadecimal digit says. -/
def hxF (c : Int) : Int := if 48 ≤ c ∧ c ≤ 57 then c - 48 else if 97 ≤ c ∧ c ≤ 102 then c - 97 + 10 else if 65 ≤ c ∧ c ≤ 70 then c - 65 + 10 else -1
set_option maxRecDepth 100000 in
theorem hexOf_any (c : Int) (w : World) (hc : -1 ≤ c ∧ c ≤ 255) : Calls Tryz.prog 72 #[.int .i64 c] w fun e w' => e = .returned (.int .i64 (hxF c)) ∧ w' = w := by
  have hd : ∀ n : Int, decide (c ≥ n) = decide (n ≤ c) := fun n => rfl
  by_cases h1 : 48 ≤ c ∧ c ≤ 57
  · have HF : Hid (hxF c = c - 48) := by show _ = _; unfold hxF; rw [if_pos h1]
    have q1 : decide (c ≥ 48) = true := decide_eq_true h1.1
    have q2 : decide (c ≤ 57) = true := decide_eq_true h1.2
    go_enter Tryz.func72, Tryz.ntmps72
    go_wp2
    go_ret
    rw [HF.out]
    exact ⟨rfl, rfl⟩
  · have q1 : decide (c ≥ 48) = true → decide (c ≤ 57) = false := fun h => decide_eq_false (fun h2 => h1 ⟨of_decide_eq_true h, h2⟩)
    by_cases h2 : 97 ≤ c ∧ c ≤ 102
    · have HF : Hid (hxF c = c - 97 + 10) := by show _ = _; unfold hxF; rw [if_neg h1, if_pos h2]
      have q2 : decide (c ≥ 48) = true := decide_eq_true (by omega)
      have q3 := q1 q2
      have q4 : decide (c ≥ 97) = true := decide_eq_true h2.1
      have q5 : decide (c ≤ 102) = true := decide_eq_true h2.2
      clear q1
      go_enter Tryz.func72, Tryz.ntmps72
      go_wp2
      go_ret
      rw [HF.out]
      exact ⟨rfl, rfl⟩
    · by_cases h3 : 65 ≤ c ∧ c ≤ 70
      · have HF : Hid (hxF c = c - 65 + 10) := by show _ = _; unfold hxF; rw [if_neg h1, if_neg h2, if_pos h3]
        have q2 : decide (c ≥ 48) = true := decide_eq_true (by omega)
        have q3 := q1 q2
        have q4 : decide (c ≥ 97) = false := decide_eq_false (by omega)
        have q5 : decide (c ≥ 65) = true := decide_eq_true h3.1
        have q6 : decide (c ≤ 70) = true := decide_eq_true h3.2
        clear q1
        go_enter Tryz.func72, Tryz.ntmps72
        go_wp2
        go_ret
        rw [HF.out]
        exact ⟨rfl, rfl⟩
      · have HF : Hid (hxF c = -1) := by show _ = _; unfold hxF; rw [if_neg h1, if_neg h2, if_neg h3]
        rcases (show c < 48 ∨ (58 ≤ c ∧ c < 65) ∨ (71 ≤ c ∧ c < 97) ∨ 103 ≤ c by omega) with h | h | h | h
        · have p1 : decide (c ≥ 48) = false := decide_eq_false (by omega)
          have p2 : decide (c ≥ 97) = false := decide_eq_false (by omega)
          have p3 : decide (c ≥ 65) = false := decide_eq_false (by omega)
          clear q1
          go_enter Tryz.func72, Tryz.ntmps72
          go_wp2
          go_ret
          rw [HF.out]
          exact ⟨rfl, rfl⟩
        · have p1 : decide (c ≥ 48) = true := decide_eq_true (by omega)
          have p4 := q1 p1
          have p2 : decide (c ≥ 97) = false := decide_eq_false (by omega)
          have p3 : decide (c ≥ 65) = false := decide_eq_false (by omega)
          clear q1
          go_enter Tryz.func72, Tryz.ntmps72
          go_wp2
          go_ret
          rw [HF.out]
          exact ⟨rfl, rfl⟩
        · have p1 : decide (c ≥ 48) = true := decide_eq_true (by omega)
          have p4 := q1 p1
          have p2 : decide (c ≥ 97) = false := decide_eq_false (by omega)
          have p3 : decide (c ≥ 65) = true := decide_eq_true (by omega)
          have p5 : decide (c ≤ 70) = false := decide_eq_false (by omega)
          clear q1
          go_enter Tryz.func72, Tryz.ntmps72
          go_wp2
          go_ret
          rw [HF.out]
          exact ⟨rfl, rfl⟩
        · have p1 : decide (c ≥ 48) = true := decide_eq_true (by omega)
          have p4 := q1 p1
          have p2 : decide (c ≥ 97) = true := decide_eq_true (by omega)
          have p6 : decide (c ≤ 102) = false := decide_eq_false (by omega)
          have p3 : decide (c ≥ 65) = true := decide_eq_true (by omega)
          have p5 : decide (c ≤ 70) = false := decide_eq_false (by omega)
          clear q1
          go_enter Tryz.func72, Tryz.ntmps72
          go_wp2
          go_ret
          rw [HF.out]
          exact ⟨rfl, rfl⟩

/-- Of a sequence that begins with a byte: how many follow, and where the first of these may lie. -/
def bdF (c : Nat) : Int × Nat × Nat := if c < 194 ∨ 244 < c then (-1, 0, 0) else if c < 224 then (1, 128, 191) else if c = 224 then (2, 160, 191) else if c = 237 then (2, 128, 159) else if c < 240 then (2, 128, 191) else if c = 240 then (3, 144, 191) else if c = 244 then (3, 128, 143) else (3, 128, 191)
set_option maxRecDepth 100000 in
set_option maxHeartbeats 2000000 in
theorem bounds_any (c : Nat) (w : World) (hc : c ≤ 255) : Calls Tryz.prog 61 #[.int .i64 c] w fun e w' => e = .returned (.tuple #[.int .i64 (bdF c).1, .int .i64 ((bdF c).2.1 : Int), .int .i64 ((bdF c).2.2 : Int)]) ∧ w' = w := by
  have a1 : ∀ n : Nat, decide ((c : Int) < (n : Int)) = decide (c < n) := fun n => by simp
  have a2 : ∀ n : Nat, ((c : Int) == (n : Int)) = (c == n) := fun n => by rw [Bool.eq_iff_iff]; simp; omega
  have go : ∀ (n : Int) (lo hi : Nat), bdF c = (n, lo, hi) → (Calls Tryz.prog 61 #[.int .i64 c] w fun e w' => e = .returned (.tuple #[.int .i64 n, .int .i64 (lo : Int), .int .i64 (hi : Int)]) ∧ w' = w) → Calls Tryz.prog 61 #[.int .i64 c] w fun e w' => e = .returned (.tuple #[.int .i64 (bdF c).1, .int .i64 ((bdF c).2.1 : Int), .int .i64 ((bdF c).2.2 : Int)]) ∧ w' = w := fun n lo hi e h => by rw [e]; exact h
  clear a1 a2
  rcases (show c < 194 ∨ 244 < c ∨ (194 ≤ c ∧ c < 224) ∨ c = 224 ∨ c = 237 ∨ ((225 ≤ c ∧ c < 237) ∨ (238 ≤ c ∧ c < 240)) ∨ c = 240 ∨ c = 244 ∨ (241 ≤ c ∧ c < 244) by omega) with h | h | h | h | h | h | h | h | h
  · refine go (-1) 0 0 (by unfold bdF; rw [if_pos (by omega)]) ?_
    have p1 : decide ((c : Int) < 194) = true := decide_eq_true (by omega)
    clear go
    go_enter Tryz.func61, Tryz.ntmps61
    go_wp2
    go_ret3
    exact ⟨rfl, rfl⟩
  · refine go (-1) 0 0 (by unfold bdF; rw [if_pos (by omega)]) ?_
    have p1 : decide ((c : Int) < 194) = false := decide_eq_false (by omega)
    have p2 : decide ((c : Int) > 244) = true := decide_eq_true (by omega)
    clear go
    go_enter Tryz.func61, Tryz.ntmps61
    go_wp2
    go_ret3
    exact ⟨rfl, rfl⟩
  · refine go 1 128 191 (by unfold bdF; rw [if_neg (by omega), if_pos (by omega)]) ?_
    have p1 : decide ((c : Int) < 194) = false := decide_eq_false (by omega)
    have p2 : decide ((c : Int) > 244) = false := decide_eq_false (by omega)
    have p3 : decide ((c : Int) < 224) = true := decide_eq_true (by omega)
    clear go
    go_enter Tryz.func61, Tryz.ntmps61
    go_wp2
    go_ret3
    exact ⟨rfl, rfl⟩
  · subst h
    refine go 2 160 191 rfl ?_
    clear go
    go_enter Tryz.func61, Tryz.ntmps61
    go_wp2
    go_ret3
    exact ⟨rfl, rfl⟩
  · subst h
    refine go 2 128 159 rfl ?_
    clear go
    go_enter Tryz.func61, Tryz.ntmps61
    go_wp2
    go_ret3
    exact ⟨rfl, rfl⟩
  · refine go 2 128 191 (by unfold bdF; rw [if_neg (by omega), if_neg (by omega), if_neg (by omega), if_neg (by omega), if_pos (by omega)]) ?_
    have p1 : decide ((c : Int) < 194) = false := decide_eq_false (by omega)
    have p2 : decide ((c : Int) > 244) = false := decide_eq_false (by omega)
    have p3 : decide ((c : Int) < 224) = false := decide_eq_false (by omega)
    have p4 : ((c : Int) == 224) = false := by simp; omega
    have p5 : ((c : Int) == 237) = false := by simp; omega
    have p6 : decide ((c : Int) < 240) = true := decide_eq_true (by omega)
    clear go
    go_enter Tryz.func61, Tryz.ntmps61
    go_wp2
    go_ret3
    exact ⟨rfl, rfl⟩
  · subst h
    refine go 3 144 191 rfl ?_
    clear go
    go_enter Tryz.func61, Tryz.ntmps61
    go_wp2
    go_ret3
    exact ⟨rfl, rfl⟩
  · subst h
    refine go 3 128 143 rfl ?_
    clear go
    go_enter Tryz.func61, Tryz.ntmps61
    go_wp2
    go_ret3
    exact ⟨rfl, rfl⟩
  · refine go 3 128 191 (by unfold bdF; rw [if_neg (by omega), if_neg (by omega), if_neg (by omega), if_neg (by omega), if_neg (by omega), if_neg (by omega), if_neg (by omega)]) ?_
    have p1 : decide ((c : Int) < 194) = false := decide_eq_false (by omega)
    have p2 : decide ((c : Int) > 244) = false := decide_eq_false (by omega)
    have p3 : decide ((c : Int) < 224) = false := decide_eq_false (by omega)
    have p4 : ((c : Int) == 224) = false := by simp; omega
    have p5 : ((c : Int) == 237) = false := by simp; omega
    have p6 : decide ((c : Int) < 240) = false := decide_eq_false (by omega)
    have p7 : ((c : Int) == 240) = false := by simp; omega
    have p8 : ((c : Int) == 244) = false := by simp; omega
    clear go
    go_enter Tryz.func61, Tryz.ntmps61
    go_wp2
    go_ret3
    exact ⟨rfl, rfl⟩

set_option maxRecDepth 100000 in
set_option maxHeartbeats 2000000 in
theorem skip_any (t : List UInt8) (p : Nat) (w : World) (hp : p ≤ t.length) (ht : t.length ≤ 1000000000) : Calls Tryz.prog 18 #[.string ⟨t.toArray⟩, .int .i64 p] w fun e w' => e = .returned (.int .i64 (skp t blanksS p)) ∧ w' = w := by
  obtain ⟨z, hz⟩ : ∃ z, skp t blanksS p = z := ⟨_, rfl⟩
  have HZ : Hid (skp t blanksS p = z) := hz
  rw [hz]
  clear hz
  go_enter Tryz.func18, Tryz.ntmps18
  go_wp2
  go_loopw [1] (fun s1 wx => ∃ k : Nat, s1 = .int .i64 k ∧ k ≤ t.length ∧ wx = w ∧ Hid (skp t blanksS k = z)) (fun s _ => t.length - (intOf s).toNat)
  case atStart => exact ⟨p, rfl, hp, rfl, HZ⟩
  case round =>
    obtain ⟨k, rfl, hk, rfl, HK⟩ := hrel
    clear HZ hp
    by_cases hlt : k < t.length
    · have q0 : decide ((k : Int) < (t.length : Int)) = true := decide_eq_true (by omega)
      obtain ⟨c, hc⟩ : ∃ c, t.getD k 0 = c := ⟨_, rfl⟩
      have gx : (⟨t.toArray⟩ : ByteArray)[k]'(by show k < t.toArray.size; simpa using hlt) = c := by rw [← hc]; simp [List.getD_eq_getElem?_getD, hlt]; rfl
      cases hb : blanksS.contains c
      · have HK2 : Hid (k = z) := by
          have h := HK.out
          rw [skp_stop (by unfold tk; rw [hc, hb]; simp)] at h
          exact h
        have hne : ∀ x : UInt8, blanksS.contains x = true → ((c.toNat : Int) == (x.toNat : Int)) = false := fun x hx => by
          have : c ≠ x := fun e => by rw [e, hx] at hb; cases hb
          simp only [beq_eq_false_iff_ne, ne_eq, Int.natCast_inj]
          exact fun e => this (UInt8.toNat_inj.1 e)
        have p1 : ((c.toNat : Int) == 32) = false := hne 32 (by decide)
        have p2 : ((c.toNat : Int) == 9) = false := hne 9 (by decide)
        have p3 : ((c.toNat : Int) == 10) = false := hne 10 (by decide)
        have p4 : ((c.toNat : Int) == 13) = false := hne 13 (by decide)
        clear hne hc hb HK
        go_wp2
        go_ret
        have hz := HK2.out
        subst hz
        exact ⟨rfl, rfl⟩
      · have HK2 : Hid (skp t blanksS (k + 1) = z) := by
          have h := HK.out
          rw [skp_step (by unfold tk; rw [hc, hb, decide_eq_true hlt]; rfl)] at h
          exact h
        have hm : c = 32 ∨ c = 9 ∨ c = 10 ∨ c = 13 := by simpa [blanksS] using hb
        clear hc hb HK
        rcases hm with rfl | rfl | rfl | rfl
        all_goals
          go_wp2
          go_roundw
          case rel => exact ⟨k + 1, by go_num, by omega, trivial, HK2⟩
          case measure => simp [intOf]; omega
    · have q0 : decide ((k : Int) < (t.length : Int)) = false := decide_eq_false (by omega)
      have HK2 : Hid (k = z) := by
        have h := HK.out
        rw [skp_stop (by unfold tk; simp; omega)] at h
        exact h
      go_wp2
      go_ret
      have hz := HK2.out
      subst hz
      exact ⟨rfl, rfl⟩

end Go.Proofs.YtapljedegjiliaaGreatDoor

namespace Go.Proofs.YtapljedegjiliaaGreatDoor
open Go.RowKit Go.Shelf

/-- A char beyond the plain ones, by its bytes as numbers. -/
theorem chr_high {t : List UInt8} {p : Nat} (h128 : 128 ≤ (t.getD p 0).toNat) : chrF t p =
    (if fullN (t.length - p) (t.getD p 0).toNat (t.getD (p + 1) 0).toNat (t.getD (p + 2) 0).toNat = false then .bad 31 t.length
     else if (Lib.decodeN (t.length - p) (t.getD p 0).toNat (t.getD (p + 1) 0).toNat (t.getD (p + 2) 0).toNat (t.getD (p + 3) 0).toNat).1 = 65533 ∧ (Lib.decodeN (t.length - p) (t.getD p 0).toNat (t.getD (p + 1) 0).toNat (t.getD (p + 2) 0).toNat (t.getD (p + 3) 0).toNat).2 = 1 then .bad 32 p
     else .ok ((Lib.decodeN (t.length - p) (t.getD p 0).toNat (t.getD (p + 1) 0).toNat (t.getD (p + 2) 0).toNat (t.getD (p + 3) 0).toNat).1 : Int) (p + (Lib.decodeN (t.length - p) (t.getD p 0).toNat (t.getD (p + 1) 0).toNat (t.getD (p + 2) 0).toNat (t.getD (p + 3) 0).toNat).2)) := by
  unfold chrF fullR
  simp only
  rw [Lib.decodeL_N, List.length_drop, Lib.getD_dropU, Lib.getD_dropU, Lib.getD_dropU, Lib.getD_dropU, Nat.add_zero]
  rw [if_neg (c := t.getD p 0 = 92) (fun e => by rw [e] at h128; revert h128; decide), if_neg (c := t.getD p 0 < 32) (fun e => by have e2 : (t.getD p 0).toNat < 32 := e; omega)]

theorem bd_cases {b : Nat} (h : (bdF b).1 ≠ -1) :
    (194 ≤ b ∧ b < 224 ∧ bdF b = (1, 128, 191)) ∨ (b = 224 ∧ bdF b = (2, 160, 191)) ∨ (b = 237 ∧ bdF b = (2, 128, 159)) ∨ (((225 ≤ b ∧ b < 237) ∨ (238 ≤ b ∧ b < 240)) ∧ bdF b = (2, 128, 191)) ∨ (b = 240 ∧ bdF b = (3, 144, 191)) ∨ (b = 244 ∧ bdF b = (3, 128, 143)) ∨ (241 ≤ b ∧ b < 244 ∧ bdF b = (3, 128, 191)) := by
  rcases (show (b < 194 ∨ 244 < b) ∨ (194 ≤ b ∧ b < 224) ∨ b = 224 ∨ b = 237 ∨ ((225 ≤ b ∧ b < 237) ∨ (238 ≤ b ∧ b < 240)) ∨ b = 240 ∨ b = 244 ∨ (241 ≤ b ∧ b < 244) by omega) with c | c | c | c | c | c | c | c
  · exact absurd (by unfold bdF; rw [if_pos c]) h
  · exact .inl ⟨c.1, c.2, by unfold bdF; rw [if_neg (by omega), if_pos (by omega)]⟩
  · exact .inr (.inl ⟨c, by rw [c]; rfl⟩)
  · exact .inr (.inr (.inl ⟨c, by rw [c]; rfl⟩))
  · exact .inr (.inr (.inr (.inl ⟨c, by unfold bdF; rw [if_neg (by omega), if_neg (by omega), if_neg (by omega), if_neg (by omega), if_pos (by omega)]⟩)))
  · exact .inr (.inr (.inr (.inr (.inl ⟨c, by rw [c]; rfl⟩))))
  · exact .inr (.inr (.inr (.inr (.inr (.inl ⟨c, by rw [c]; rfl⟩)))))
  · exact .inr (.inr (.inr (.inr (.inr (.inr ⟨c.1, c.2, by unfold bdF; rw [if_neg (by omega), if_neg (by omega), if_neg (by omega), if_neg (by omega), if_neg (by omega), if_neg (by omega), if_neg (by omega)]⟩)))))
theorem bd_first {b : Nat} (h : (bdF b).1 ≠ -1) : ((Lib.firstT b % 8 : Nat) : Int) = (bdF b).1 + 1 ∧ Lib.accLo (Lib.firstT b / 16) = (bdF b).2.1 ∧ Lib.accHi (Lib.firstT b / 16) = (bdF b).2.2 := by
  rcases bd_cases h with ⟨c1, c2, e⟩ | ⟨c, e⟩ | ⟨c, e⟩ | ⟨c, e⟩ | ⟨c, e⟩ | ⟨c, e⟩ | ⟨c1, c2, e⟩
  · have f : Lib.firstT b = 2 := by unfold Lib.firstT; rw [if_neg (by omega), if_neg (by omega), if_pos (by omega)]
    rw [e, f]; exact ⟨rfl, rfl, rfl⟩
  · rw [e, c]; exact ⟨rfl, rfl, rfl⟩
  · rw [e, c]; exact ⟨rfl, rfl, rfl⟩
  · have f : Lib.firstT b = 3 := by
      unfold Lib.firstT
      rcases c with c | c
      · rw [if_neg (by omega), if_neg (by omega), if_neg (by omega), if_neg (by omega), if_pos (by omega)]
      · rw [if_neg (by omega), if_neg (by omega), if_neg (by omega), if_neg (by omega), if_neg (by omega), if_neg (by omega), if_pos (by omega)]
    rw [e, f]; exact ⟨rfl, rfl, rfl⟩
  · rw [e, c]; exact ⟨rfl, rfl, rfl⟩
  · rw [e, c]; exact ⟨rfl, rfl, rfl⟩
  · have f : Lib.firstT b = 4 := by
      unfold Lib.firstT
      rw [if_neg (by omega), if_neg (by omega), if_neg (by omega), if_neg (by omega), if_neg (by omega), if_neg (by omega), if_neg (by omega), if_neg (by omega), if_pos (by omega)]
    rw [e, f]; exact ⟨rfl, rfl, rfl⟩
theorem bd_none {b : Nat} (h0 : 128 ≤ b) (h : (bdF b).1 = -1) : Lib.firstT b % 8 = 1 ∧ (b < 194 ∨ 244 < b) := by
  have hb : b < 194 ∨ 244 < b := by
    unfold bdF at h
    split at h
    · assumption
    · repeat' split at h
      all_goals simp at h
  refine ⟨?_, hb⟩
  unfold Lib.firstT
  repeat' split
  all_goals omega

theorem seq_none {t : List UInt8} {p : Nat} (hp : p < t.length) (h128 : 128 ≤ (t.getD p 0).toNat) (h : (bdF (t.getD p 0).toNat).1 = -1) : chrF t p = .bad 32 p := by
  obtain ⟨h1, h2⟩ := bd_none h128 h
  have k0 := (t.getD p 0).toNat_lt
  have k1 := (t.getD (p + 1) 0).toNat_lt
  have k2 := (t.getD (p + 2) 0).toNat_lt
  have k3 := (t.getD (p + 3) 0).toNat_lt
  rw [chr_high h128]
  generalize (t.getD p 0).toNat = b0 at *
  generalize (t.getD (p + 1) 0).toNat = b1 at *
  generalize (t.getD (p + 2) 0).toNat = b2 at *
  generalize (t.getD (p + 3) 0).toNat = b3 at *
  have hf : fullN (t.length - p) b0 b1 b2 = true := by
    unfold fullN
    rw [if_neg (by omega), if_pos (by omega)]
  have hd : Lib.decodeN (t.length - p) b0 b1 b2 b3 = (65533, 1) := by
    unfold Lib.decodeN
    repeat' split
    all_goals first | rfl | omega
  rw [hf, if_neg (by decide), hd, if_pos ⟨rfl, rfl⟩]

/-- Where the i-th byte behind the first may lie. -/
def rgL (b : Nat) (i : Nat) : Nat := if i = 1 then (bdF b).2.1 else 128
def rgH (b : Nat) (i : Nat) : Nat := if i = 1 then (bdF b).2.2 else 191

set_option maxHeartbeats 2000000 in
theorem seq_end {t : List UInt8} {p i : Nat} (hp : p < t.length) (h128 : 128 ≤ (t.getD p 0).toNat) (h : (bdF (t.getD p 0).toNat).1 ≠ -1) (hi1 : 1 ≤ i) (hi : (i : Int) ≤ (bdF (t.getD p 0).toNat).1) (hl : t.length ≤ p + i) (hr : ∀ j, 1 ≤ j → j < i → rgL (t.getD p 0).toNat j ≤ (t.getD (p + j) 0).toNat ∧ (t.getD (p + j) 0).toNat ≤ rgH (t.getD p 0).toNat j) : chrF t p = .bad 31 t.length := by
  obtain ⟨f1, f2, f3⟩ := bd_first h
  have hc := bd_cases h
  rw [chr_high h128]
  have hf : fullN (t.length - p) (t.getD p 0).toNat (t.getD (p + 1) 0).toNat (t.getD (p + 2) 0).toNat = false := by
    unfold fullN
    rw [f2, f3, if_neg (by omega), if_neg (by omega)]
    have hn : (bdF (t.getD p 0).toNat).1 ≤ 3 := by rcases hc with ⟨_, _, e⟩ | ⟨_, e⟩ | ⟨_, e⟩ | ⟨_, e⟩ | ⟨_, e⟩ | ⟨_, e⟩ | ⟨_, _, e⟩ <;> rw [e] <;> simp
    rw [if_neg (fun hx => ?_)]
    · refine decide_eq_false (fun hx => ?_)
      have := hr 2 (by omega) (by omega)
      unfold rgL rgH at this
      rw [if_neg (by omega), if_neg (by omega)] at this
      omega
    · have := hr 1 (by omega) (by omega)
      unfold rgL rgH at this
      rw [if_pos rfl, if_pos rfl] at this
      omega
  rw [hf, if_pos rfl]

set_option maxHeartbeats 4000000 in
theorem seq_bad {t : List UInt8} {p i : Nat} (hp : p < t.length) (h128 : 128 ≤ (t.getD p 0).toNat) (h : (bdF (t.getD p 0).toNat).1 ≠ -1) (hi1 : 1 ≤ i) (hi : (i : Int) ≤ (bdF (t.getD p 0).toNat).1) (hl : p + i < t.length) (hr : ∀ j, 1 ≤ j → j < i → rgL (t.getD p 0).toNat j ≤ (t.getD (p + j) 0).toNat ∧ (t.getD (p + j) 0).toNat ≤ rgH (t.getD p 0).toNat j)
    (hb : ¬ (rgL (t.getD p 0).toNat i ≤ (t.getD (p + i) 0).toNat ∧ (t.getD (p + i) 0).toNat ≤ rgH (t.getD p 0).toNat i)) : chrF t p = .bad 32 p := by
  obtain ⟨f1, f2, f3⟩ := bd_first h
  have hc := bd_cases h
  have k0 := (t.getD p 0).toNat_lt
  have k1 := (t.getD (p + 1) 0).toNat_lt
  have k2 := (t.getD (p + 2) 0).toNat_lt
  have k3 := (t.getD (p + 3) 0).toNat_lt
  have hn : (bdF (t.getD p 0).toNat).1 ≤ 3 := by rcases hc with ⟨_, _, e⟩ | ⟨_, e⟩ | ⟨_, e⟩ | ⟨_, e⟩ | ⟨_, e⟩ | ⟨_, e⟩ | ⟨_, _, e⟩ <;> rw [e] <;> simp
  have hi3 : i = 1 ∨ i = 2 ∨ i = 3 := by omega
  have hb2 : i = 2 ∨ i = 3 → ¬ (128 ≤ (t.getD (p + i) 0).toNat ∧ (t.getD (p + i) 0).toNat ≤ 191) := fun hi2 => by
    unfold rgL rgH at hb
    rwa [if_neg (by omega), if_neg (by omega)] at hb
  have hb1 : i = 1 → ¬ ((bdF (t.getD p 0).toNat).2.1 ≤ (t.getD (p + 1) 0).toNat ∧ (t.getD (p + 1) 0).toNat ≤ (bdF (t.getD p 0).toNat).2.2) := fun hi2 => by
    subst hi2
    unfold rgL rgH at hb
    rwa [if_pos rfl, if_pos rfl] at hb
  rw [chr_high h128]
  have hf : fullN (t.length - p) (t.getD p 0).toNat (t.getD (p + 1) 0).toNat (t.getD (p + 2) 0).toNat = true := by
    unfold fullN
    rw [f2, f3, if_neg (by omega)]
    rcases hi3 with rfl | rfl | rfl
    · split
      · rfl
      · rw [if_pos (by have := hb1 rfl; omega)]
    · split
      · rfl
      · split
        · rfl
        · exact decide_eq_true (by have := hb2 (.inl rfl); omega)
    · rw [if_pos (by omega)]
  have hd : Lib.decodeN (t.length - p) (t.getD p 0).toNat (t.getD (p + 1) 0).toNat (t.getD (p + 2) 0).toNat (t.getD (p + 3) 0).toNat = (65533, 1) := by
    rcases hi3 with rfl | rfl | rfl
    · have hb := hb1 rfl
      clear hb1 hb2 hf hr f1 f2 f3
      generalize (t.getD p 0).toNat = b0 at *
      generalize (t.getD (p + 1) 0).toNat = b1 at *
      generalize (t.getD (p + 2) 0).toNat = b2 at *
      generalize (t.getD (p + 3) 0).toNat = b3 at *
      rcases hc with ⟨c1, c2, e⟩ | ⟨c1, e⟩ | ⟨c1, e⟩ | ⟨c1, e⟩ | ⟨c1, e⟩ | ⟨c1, e⟩ | ⟨c1, c2, e⟩
      all_goals
        rw [e] at hb
        simp only at hb
        unfold Lib.decodeN
        repeat' split
        all_goals first | rfl | omega
    · have hb := hb2 (.inl rfl)
      have hn2 : 2 ≤ (bdF (t.getD p 0).toNat).1 := by omega
      clear hb1 hb2 hf hr f1 f2 f3
      generalize (t.getD p 0).toNat = b0 at *
      generalize (t.getD (p + 1) 0).toNat = b1 at *
      generalize (t.getD (p + 2) 0).toNat = b2 at *
      generalize (t.getD (p + 3) 0).toNat = b3 at *
      have hb0 : 224 ≤ b0 := by
        rcases hc with ⟨c1, c2, e⟩ | ⟨c1, e⟩ | ⟨c1, e⟩ | ⟨c1, e⟩ | ⟨c1, e⟩ | ⟨c1, e⟩ | ⟨c1, c2, e⟩
        · rw [e] at hn2; simp at hn2
        all_goals omega
      unfold Lib.decodeN
      repeat' split
      all_goals first | rfl | omega
    · have hb := hb2 (.inr rfl)
      have hn2 : 3 ≤ (bdF (t.getD p 0).toNat).1 := by omega
      clear hb1 hb2 hf hr f1 f2 f3
      generalize (t.getD p 0).toNat = b0 at *
      generalize (t.getD (p + 1) 0).toNat = b1 at *
      generalize (t.getD (p + 2) 0).toNat = b2 at *
      generalize (t.getD (p + 3) 0).toNat = b3 at *
      have hb0 : 240 ≤ b0 := by
        rcases hc with ⟨c1, c2, e⟩ | ⟨c1, e⟩ | ⟨c1, e⟩ | ⟨c1, e⟩ | ⟨c1, e⟩ | ⟨c1, e⟩ | ⟨c1, c2, e⟩
        · rw [e] at hn2; simp at hn2
        · rw [e] at hn2; simp at hn2
        · rw [e] at hn2; simp at hn2
        · rw [e] at hn2; simp at hn2
        all_goals omega
      unfold Lib.decodeN
      repeat' split
      all_goals first | rfl | omega
  rw [hf, if_neg (by decide), hd, if_pos ⟨rfl, rfl⟩]

set_option maxHeartbeats 4000000 in
theorem seq_ok {t : List UInt8} {p n : Nat} (hp : p < t.length) (h128 : 128 ≤ (t.getD p 0).toNat) (hn : (bdF (t.getD p 0).toNat).1 = (n : Int)) (hl : p + n < t.length) (hr : ∀ j, 1 ≤ j → j ≤ n → rgL (t.getD p 0).toNat j ≤ (t.getD (p + j) 0).toNat ∧ (t.getD (p + j) 0).toNat ≤ rgH (t.getD p 0).toNat j) :
    ∃ r, chrF t p = .ok r (p + n + 1) ∧ Lib.encodeRune r = sgl t p (p + n + 1) := by
  have h : (bdF (t.getD p 0).toNat).1 ≠ -1 := by omega
  obtain ⟨f1, f2, f3⟩ := bd_first h
  have hc := bd_cases h
  have k0 := (t.getD p 0).toNat_lt
  have k1 := (t.getD (p + 1) 0).toNat_lt
  have k2 := (t.getD (p + 2) 0).toNat_lt
  have k3 := (t.getD (p + 3) 0).toNat_lt
  have hN := Lib.decodeL_N (t.drop p)
  rw [List.length_drop, Lib.getD_dropU, Lib.getD_dropU, Lib.getD_dropU, Lib.getD_dropU, Nat.add_zero] at hN
  have hf : fullN (t.length - p) (t.getD p 0).toNat (t.getD (p + 1) 0).toNat (t.getD (p + 2) 0).toNat = true := by
    unfold fullN
    rw [if_neg (by omega), if_pos (by omega)]
  have hr1 : 1 ≤ n → (bdF (t.getD p 0).toNat).2.1 ≤ (t.getD (p + 1) 0).toNat ∧ (t.getD (p + 1) 0).toNat ≤ (bdF (t.getD p 0).toNat).2.2 := fun h1 => by
    have := hr 1 (by omega) h1
    unfold rgL rgH at this
    rwa [if_pos rfl, if_pos rfl] at this
  have hr2 : 2 ≤ n → 128 ≤ (t.getD (p + 2) 0).toNat ∧ (t.getD (p + 2) 0).toNat ≤ 191 := fun h1 => by
    have := hr 2 (by omega) h1
    unfold rgL rgH at this
    rwa [if_neg (by omega), if_neg (by omega)] at this
  have hr3 : 3 ≤ n → 128 ≤ (t.getD (p + 3) 0).toNat ∧ (t.getD (p + 3) 0).toNat ≤ 191 := fun h1 => by
    have := hr 3 (by omega) h1
    unfold rgL rgH at this
    rwa [if_neg (by omega), if_neg (by omega)] at this
  have hd : (Lib.decodeL (t.drop p)).2 = n + 1 := by
    rw [hN]
    clear hN hf hr f1 f2 f3
    generalize (t.getD p 0).toNat = b0 at *
    generalize (t.getD (p + 1) 0).toNat = b1 at *
    generalize (t.getD (p + 2) 0).toNat = b2 at *
    generalize (t.getD (p + 3) 0).toNat = b3 at *
    rcases hc with ⟨c1, c2, e⟩ | ⟨c1, e⟩ | ⟨c1, e⟩ | ⟨c1, e⟩ | ⟨c1, e⟩ | ⟨c1, e⟩ | ⟨c1, c2, e⟩
    · rw [e] at hn hr1
      simp only at hn hr1
      obtain rfl : n = 1 := by omega
      have g1 := hr1 (by omega)
      unfold Lib.decodeN
      rw [if_neg (by omega), if_pos (by omega), if_pos (by omega)]
    · rw [e] at hn hr1
      simp only at hn hr1
      obtain rfl : n = 2 := by omega
      have g1 := hr1 (by omega)
      have g2 := hr2 (by omega)
      unfold Lib.decodeN
      rw [if_neg (by omega), if_neg (by omega), if_pos (by omega), if_pos (by omega)]
    · rw [e] at hn hr1
      simp only at hn hr1
      obtain rfl : n = 2 := by omega
      have g1 := hr1 (by omega)
      have g2 := hr2 (by omega)
      unfold Lib.decodeN
      rw [if_neg (by omega), if_neg (by omega), if_pos (by omega), if_pos (by omega)]
    · rw [e] at hn hr1
      simp only at hn hr1
      obtain rfl : n = 2 := by omega
      have g1 := hr1 (by omega)
      have g2 := hr2 (by omega)
      unfold Lib.decodeN
      rw [if_neg (by omega), if_neg (by omega), if_pos (by omega), if_pos (by omega)]
    · rw [e] at hn hr1
      simp only at hn hr1
      obtain rfl : n = 3 := by omega
      have g1 := hr1 (by omega)
      have g2 := hr2 (by omega)
      have g3 := hr3 (by omega)
      unfold Lib.decodeN
      rw [if_neg (by omega), if_neg (by omega), if_neg (by omega), if_pos (by omega), if_pos (by omega)]
    · rw [e] at hn hr1
      simp only at hn hr1
      obtain rfl : n = 3 := by omega
      have g1 := hr1 (by omega)
      have g2 := hr2 (by omega)
      have g3 := hr3 (by omega)
      unfold Lib.decodeN
      rw [if_neg (by omega), if_neg (by omega), if_neg (by omega), if_pos (by omega), if_pos (by omega)]
    · rw [e] at hn hr1
      simp only at hn hr1
      obtain rfl : n = 3 := by omega
      have g1 := hr1 (by omega)
      have g2 := hr2 (by omega)
      have g3 := hr3 (by omega)
      unfold Lib.decodeN
      rw [if_neg (by omega), if_neg (by omega), if_neg (by omega), if_pos (by omega), if_pos (by omega)]
  have hn1 : 1 ≤ n := by rcases hc with ⟨_, _, e⟩ | ⟨_, e⟩ | ⟨_, e⟩ | ⟨_, e⟩ | ⟨_, e⟩ | ⟨_, e⟩ | ⟨_, _, e⟩ <;> rw [e] at hn <;> simp at hn <;> omega
  have hne : t.drop p ≠ [] := fun e => by have := congrArg List.length e; simp at this; omega
  have hv : ¬ ((Lib.decodeL (t.drop p)).1 = 65533 ∧ (Lib.decodeL (t.drop p)).2 = 1) := by rw [hd]; omega
  refine ⟨((Lib.decodeL (t.drop p)).1 : Int), ?_, ?_⟩
  · rw [chr_high h128, hf, if_neg (by decide), ← hN, if_neg hv, hd]
    rfl
  · rw [Lib.encode_decode _ hne hv, hd]
    unfold sgl
    rw [show p + n + 1 - p = n + 1 by omega]

end Go.Proofs.YtapljedegjiliaaGreatDoor

namespace Go.Proofs.YtapljedegjiliaaGreatDoor
open Go.RowKit Go.Shelf

/-- A char, as the bytes that it says. -/
def chF (t : List UInt8) (p : Nat) : Lx (List UInt8) := match chrF t p with
  | .ok r q => .ok (Lib.encodeRune r) q
  | .bad c b => .bad c b
/-- What is told of a text. -/
def GotS (x : Lx (List UInt8)) (v : Value) : Prop := match x with
  | .ok S q => v = gotV (q : Int) nilV S 0 0
  | .bad c b => ∃ a S, v = gotV a nilV S (c : Int) (b : Int)

set_option maxRecDepth 100000 in
set_option maxHeartbeats 4000000 in
theorem sequence_any (t : List UInt8) (p : Nat) (w : World) (hp : p < t.length) (h128 : 128 ≤ (t.getD p 0).toNat) (ht : t.length ≤ 1000000000) :
    Calls Tryz.prog 44 #[.string ⟨t.toArray⟩, .int .i64 p] w fun e w' => (∃ v, e = .returned v ∧ GotS (chF t p) v) ∧ Below w.heap.size w w' := by
  obtain ⟨c, hc⟩ : ∃ c, t.getD p 0 = c := ⟨_, rfl⟩
  have gx : (⟨t.toArray⟩ : ByteArray)[p]'(by show p < t.toArray.size; simpa using hp) = c := by rw [← hc]; simp [List.getD_eq_getElem?_getD, hp]; rfl
  have hw : wrap64 (c.toNat : Int) = (c.toNat : Int) := wrap_small (by omega) (by have := c.toNat_lt; omega)
  have H1 : Hid (∀ wq, Calls Tryz.prog 61 #[.int .i64 (wrap64 (c.toNat : Int))] wq fun e w' => e = .returned (.tuple #[.int .i64 (bdF c.toNat).1, .int .i64 ((bdF c.toNat).2.1 : Int), .int .i64 ((bdF c.toNat).2.2 : Int)]) ∧ w' = wq) := fun wq => by rw [hw]; exact bounds_any c.toNat wq (by have := c.toNat_lt; omega)
  have HN : Hid ((bdF c.toNat).1 = -1 → chF t p = .bad 32 p) := fun h => by unfold chF; rw [seq_none hp h128 (by rw [hc]; exact h)]
  have HE : Hid (∀ i : Nat, (bdF c.toNat).1 ≠ -1 → 1 ≤ i → (i : Int) ≤ (bdF c.toNat).1 → t.length ≤ p + i → (∀ j, 1 ≤ j → j < i → rgL c.toNat j ≤ (t.getD (p + j) 0).toNat ∧ (t.getD (p + j) 0).toNat ≤ rgH c.toNat j) → chF t p = .bad 31 t.length) := fun i h1 h2 h3 h4 h5 => by unfold chF; rw [seq_end (i := i) hp h128 (by rw [hc]; exact h1) h2 (by rw [hc]; exact h3) h4 (by rw [hc]; exact h5)]
  have HBd : Hid (∀ i : Nat, (bdF c.toNat).1 ≠ -1 → 1 ≤ i → (i : Int) ≤ (bdF c.toNat).1 → p + i < t.length → (∀ j, 1 ≤ j → j < i → rgL c.toNat j ≤ (t.getD (p + j) 0).toNat ∧ (t.getD (p + j) 0).toNat ≤ rgH c.toNat j) → ¬ (rgL c.toNat i ≤ (t.getD (p + i) 0).toNat ∧ (t.getD (p + i) 0).toNat ≤ rgH c.toNat i) → chF t p = .bad 32 p) := fun i h1 h2 h3 h4 h5 h6 => by unfold chF; rw [seq_bad (i := i) hp h128 (by rw [hc]; exact h1) h2 (by rw [hc]; exact h3) h4 (by rw [hc]; exact h5) (by rw [hc]; exact h6)]
  have HO : Hid (∀ n : Nat, (bdF c.toNat).1 = (n : Int) → p + n < t.length → (∀ j, 1 ≤ j → j ≤ n → rgL c.toNat j ≤ (t.getD (p + j) 0).toNat ∧ (t.getD (p + j) 0).toNat ≤ rgH c.toNat j) → chF t p = .ok (sgl t p (p + n + 1)) (p + n + 1)) := fun n h1 h2 h3 => by
    obtain ⟨r, e1, e2⟩ := seq_ok (n := n) hp h128 (by rw [hc]; exact h1) h2 (by rw [hc]; exact h3)
    unfold chF
    rw [e1]
    simp only
    rw [e2]
  obtain ⟨X, hX⟩ : ∃ X, chF t p = X := ⟨_, rfl⟩
  rw [hX] at HN HE HBd HO ⊢
  have HLo : Hid (rgL c.toNat 1 = (bdF c.toNat).2.1 ∧ rgH c.toNat 1 = (bdF c.toNat).2.2) := ⟨rfl, rfl⟩
  have HLn : Hid (∀ i, 1 ≤ i → rgL c.toNat (i + 1) = 128 ∧ rgH c.toNat (i + 1) = 191) := fun i hi => by unfold rgL rgH; rw [if_neg (by omega), if_neg (by omega)]; exact ⟨rfl, rfl⟩
  have HBox : Hid (Bl 50 (w.alloc (.cells (gotC 0 nilV [] 0 0).toArray 50)) w.heap.size (gotC 0 nilV [] 0 0)) := alloc_bl _ _ _
  have HB : Hid (Below w.heap.size w (w.alloc (.cells (gotC 0 nilV [] 0 0).toArray 50))) := alloc_below _ _
  have hnb : (bdF c.toNat).1 = -1 ∨ ∃ n : Nat, (bdF c.toNat).1 = (n : Int) ∧ n ≤ 3 := by
    by_cases h : (bdF c.toNat).1 = -1
    · exact .inl h
    · right
      rcases bd_cases h with ⟨_, _, e⟩ | ⟨_, e⟩ | ⟨_, e⟩ | ⟨_, e⟩ | ⟨_, e⟩ | ⟨_, e⟩ | ⟨_, _, e⟩ <;> rw [e]
      · exact ⟨1, rfl, by omega⟩
      · exact ⟨2, rfl, by omega⟩
      · exact ⟨2, rfl, by omega⟩
      · exact ⟨2, rfl, by omega⟩
      · exact ⟨3, rfl, by omega⟩
      · exact ⟨3, rfl, by omega⟩
      · exact ⟨3, rfl, by omega⟩
  generalize hrl : rgL c.toNat = RL at *
  generalize hrh : rgH c.toNat = RH at *
  generalize hbd : bdF c.toNat = bd at *
  obtain ⟨n, lo, hi⟩ := bd
  simp only at *
  clear hc hX hrl hrh hbd h128 hw
  go_enter Tryz.func44, Tryz.ntmps44
  go_wp2_with fail
  have C0 := H1.out (w.alloc (.cells (gotC 0 nilV [] 0 0).toArray 50))
  refine C0.mono ?_
  clear C0 H1
  rintro e w1 ⟨rfl, rfl⟩
  have hbs : (w.alloc (.cells (gotC 0 nilV [] 0 0).toArray 50)).heap.size = w.heap.size + 1 := alloc_size _ _
  have HSz : Hid (w.heap.size < (w.alloc (.cells (gotC 0 nilV [] 0 0).toArray 50)).heap.size) := by show _ < _; omega
  clear hbs
  generalize hw1 : w.alloc (.cells (gotC 0 nilV [] 0 0).toArray 50) = w1 at HBox HB HSz ⊢
  clear hw1
  rcases hnb with rfl | ⟨n, rfl, hn3⟩
  · have HX : Hid (X = .bad 32 p) := HN.out rfl
    have C1 := fault_any 32 (p : Int) w1
    go_wp2_with fail
    refine C1.mono ?_
    clear C1
    rintro e w2 ⟨rfl, hB2⟩
    have HBox2 : Hid (Bl 50 w2 w.heap.size (gotC 0 nilV [] 0 0)) := bl_below HBox.out hB2
    have HB2 : Hid (Below w.heap.size w w2) := HB.out.trans (hB2.mono HB.out.size)
    clear hB2
    obtain ⟨wz, hwz⟩ : ∃ wz, w2.setRow w.heap.size (gotC 0 nilV [] 32 (p : Int)).toArray = wz := ⟨_, rfl⟩
    have HBz : Hid (Bl 50 wz w.heap.size (gotC 0 nilV [] 32 (p : Int))) := by rw [← hwz]; exact set_bl HBox2.out
    have Hz : Hid (Below w.heap.size w wz) := by rw [← hwz]; exact setRow_below _ HB2.out (Nat.le_refl _)
    have HWz : Hid (w2.setRow w.heap.size (gotC 0 nilV [] 32 (p : Int)).toArray = wz) := hwz
    have hgi : (Tryz.prog.info? 50).map (·.size) = some 5 := by kernel_rfl
    clear hwz
    go_wp2_with (refine wpList_store_row rfl 50 (.tmp 4) (.tmp 22) rfl w.heap.size (gotC 0 nilV [] 32 (p : Int)).toArray rfl rfl 50 (gotC 0 nilV [] 0 0).toArray HBox2.out hgi rfl (by simp [gotC, nilV, Value.oneCell']) ?_; rw [HWz.out]; clear HWz hgi)
    (try simp only [Exit.inBlock, Exit.then])
    exact bodyPost_ret (v := gotV 0 nilV [] 32 (p : Int)) (results_got rfl _ _ w.heap.size 0 nilV [] 32 (p : Int) rfl HBz.out) rfl ⟨⟨_, rfl, by rw [HX.out]; exact ⟨_, _, rfl⟩⟩, Hz.out⟩
  · have q0 : decide ((n : Int) < 0) = false := decide_eq_false (by omega)
    obtain ⟨hlo, hhi⟩ := HLo.out
    have HLo1 : Hid (lo = RL 1 ∧ hi = RH 1) := ⟨hlo.symm, hhi.symm⟩
    clear hlo hhi HLo
    go_wp2
    go_loopw [6, 7, 8] (fun s6 s7 s8 wx => ∃ i : Nat, s8 = .int .i64 i ∧ 1 ≤ i ∧ i ≤ n + 1 ∧ s6 = .int .i64 (RL i) ∧ s7 = .int .i64 (RH i) ∧ wx = w1 ∧ ∀ j, 1 ≤ j → j < i → p + j < t.length ∧ RL j ≤ (t.getD (p + j) 0).toNat ∧ (t.getD (p + j) 0).toNat ≤ RH j) (fun _ _ s _ => n + 1 - (intOf s).toNat)
    case atStart => exact ⟨1, rfl, by omega, by omega, by rw [HLo1.out.1], by rw [HLo1.out.2], rfl, fun j h1 h2 => by omega⟩
    case round =>
      obtain ⟨i, rfl, hi1, hin, rfl, rfl, rfl, hall⟩ := hrel
      have HA : Hid (∀ j, 1 ≤ j → j < i → p + j < t.length ∧ RL j ≤ (t.getD (p + j) 0).toNat ∧ (t.getD (p + j) 0).toNat ≤ RH j) := hall
      clear hall
      by_cases hlt : i ≤ n
      · have q1 : decide ((i : Int) ≤ (n : Int)) = true := decide_eq_true (by omega)
        have C1 := byteAt_any t (p + i) wr (by omega)
        rw [show ((p + i : Nat) : Int) = (p : Int) + (i : Int) by omega] at C1
        go_wp2_with fail
        refine C1.mono ?_
        clear C1
        rintro e w2 ⟨rfl, rfl⟩
        by_cases hend : t.length ≤ p + i
        · have HX : Hid (X = .bad 31 t.length) := HE.out i (by omega) hi1 (by omega) hend (fun j h1 h2 => (HA.out j h1 h2).2)
          have hbt : bat t (p + i) = -1 := by unfold bat; rw [if_neg (by omega)]
          rw [hbt]
          clear hbt
          have C2 := fault_any 31 (t.length : Int) w2
          go_wp2_with fail
          refine C2.mono ?_
          clear C2
          rintro e w3 ⟨rfl, hB3⟩
          have HBox2 : Hid (Bl 50 w3 w.heap.size (gotC 0 nilV [] 0 0)) := bl_below HBox.out hB3
          have HB3 : Hid (Below w.heap.size w w3) := HB.out.trans (hB3.mono HB.out.size)
          clear hB3
          obtain ⟨wz, hwz⟩ : ∃ wz, w3.setRow w.heap.size (gotC 0 nilV [] 31 (t.length : Int)).toArray = wz := ⟨_, rfl⟩
          have HBz : Hid (Bl 50 wz w.heap.size (gotC 0 nilV [] 31 (t.length : Int))) := by rw [← hwz]; exact set_bl HBox2.out
          have Hz : Hid (Below w.heap.size w wz) := by rw [← hwz]; exact setRow_below _ HB3.out (Nat.le_refl _)
          have HWz : Hid (w3.setRow w.heap.size (gotC 0 nilV [] 31 (t.length : Int)).toArray = wz) := hwz
          have hgi : (Tryz.prog.info? 50).map (·.size) = some 5 := by kernel_rfl
          clear hwz
          go_wp2_with (refine wpList_store_row rfl 50 (.tmp 4) (.tmp 37) rfl w.heap.size (gotC 0 nilV [] 31 (t.length : Int)).toArray rfl rfl 50 (gotC 0 nilV [] 0 0).toArray HBox2.out hgi rfl (by simp [gotC, nilV, Value.oneCell']) ?_; rw [HWz.out]; clear HWz hgi)
          (try simp only [Exit.inBlock, Exit.then])
          exact bodyPost_ret (v := gotV 0 nilV [] 31 (t.length : Int)) (results_got rfl _ _ w.heap.size 0 nilV [] 31 (t.length : Int) rfl HBz.out) rfl ⟨⟨_, rfl, by rw [HX.out]; exact ⟨_, _, rfl⟩⟩, Hz.out⟩
        · obtain ⟨d, hd⟩ : ∃ d, (t.getD (p + i) 0).toNat = d := ⟨_, rfl⟩
          have hbt : bat t (p + i) = (d : Int) := by unfold bat; rw [if_pos (by omega), hd]
          rw [hbt]
          have q2 : decide ((d : Int) < 0) = false := decide_eq_false (by omega)
          clear hbt
          by_cases hin2 : RL i ≤ d ∧ d ≤ RH i
          · have q3 : decide ((d : Int) < (RL i : Int)) = false := decide_eq_false (by omega)
            have q4 : decide ((d : Int) > (RH i : Int)) = false := decide_eq_false (by omega)
            have HA2 : Hid (∀ j, 1 ≤ j → j < i + 1 → p + j < t.length ∧ RL j ≤ (t.getD (p + j) 0).toNat ∧ (t.getD (p + j) 0).toNat ≤ RH j) := fun j h1 h2 => by
              rcases Nat.lt_or_ge j i with h | h
              · exact HA.out j h1 h
              · obtain rfl : j = i := by omega
                exact ⟨by omega, by rw [hd]; exact hin2⟩
            have HLi := HLn.out i hi1
            have HLi2 : Hid (128 = RL (i + 1) ∧ 191 = RH (i + 1)) := ⟨HLi.1.symm, HLi.2.symm⟩
            clear HLi hd HA
            go_wp2
            go_roundw
            case rel => exact ⟨i + 1, by go_num, by omega, by omega, by rw [← HLi2.out.1]; rfl, by rw [← HLi2.out.2]; rfl, trivial, HA2.out⟩
            case measure => simp [intOf]; omega
          · have HX : Hid (X = .bad 32 p) := HBd.out i (by omega) hi1 (by omega) (by omega) (fun j h1 h2 => (HA.out j h1 h2).2) (by rw [hd]; exact hin2)
            have C2 := fault_any 32 (p : Int) w2
            have HBR : Hid (∀ w3 : World, Below w2.heap.size w2 w3 → Bl 50 w3 w.heap.size (gotC 0 nilV [] 0 0) ∧ Below w.heap.size w w3) := fun w3 h3 => ⟨bl_below HBox.out h3, HB.out.trans (h3.mono HB.out.size)⟩
            rcases (show d < RL i ∨ (RL i ≤ d ∧ RH i < d) by omega) with hd2 | hd2
            · have q3 : decide ((d : Int) < (RL i : Int)) = true := decide_eq_true (by omega)
              go_wp2_with fail
              refine C2.mono ?_
              clear C2
              rintro e w3 ⟨rfl, hB3⟩
              have HBox2 : Hid (Bl 50 w3 w.heap.size (gotC 0 nilV [] 0 0)) := (HBR.out w3 hB3).1
              have HB3 : Hid (Below w.heap.size w w3) := (HBR.out w3 hB3).2
              clear hB3 HBR
              obtain ⟨wz, hwz⟩ : ∃ wz, w3.setRow w.heap.size (gotC 0 nilV [] 32 (p : Int)).toArray = wz := ⟨_, rfl⟩
              have HBz : Hid (Bl 50 wz w.heap.size (gotC 0 nilV [] 32 (p : Int))) := by rw [← hwz]; exact set_bl HBox2.out
              have Hz : Hid (Below w.heap.size w wz) := by rw [← hwz]; exact setRow_below _ HB3.out (Nat.le_refl _)
              have HWz : Hid (w3.setRow w.heap.size (gotC 0 nilV [] 32 (p : Int)).toArray = wz) := hwz
              have hgi : (Tryz.prog.info? 50).map (·.size) = some 5 := by kernel_rfl
              clear hwz
              go_wp2_with (refine wpList_store_row rfl 50 (.tmp 4) (.tmp 47) rfl w.heap.size (gotC 0 nilV [] 32 (p : Int)).toArray rfl rfl 50 (gotC 0 nilV [] 0 0).toArray HBox2.out hgi rfl (by simp [gotC, nilV, Value.oneCell']) ?_; rw [HWz.out]; clear HWz hgi)
              (try simp only [Exit.inBlock, Exit.then])
              exact bodyPost_ret (v := gotV 0 nilV [] 32 (p : Int)) (results_got rfl _ _ w.heap.size 0 nilV [] 32 (p : Int) rfl HBz.out) rfl ⟨⟨_, rfl, by rw [HX.out]; exact ⟨_, _, rfl⟩⟩, Hz.out⟩
            · have q3 : decide ((d : Int) < (RL i : Int)) = false := decide_eq_false (by omega)
              have q4 : decide ((d : Int) > (RH i : Int)) = true := decide_eq_true (by omega)
              go_wp2_with fail
              refine C2.mono ?_
              clear C2
              rintro e w3 ⟨rfl, hB3⟩
              have HBox2 : Hid (Bl 50 w3 w.heap.size (gotC 0 nilV [] 0 0)) := (HBR.out w3 hB3).1
              have HB3 : Hid (Below w.heap.size w w3) := (HBR.out w3 hB3).2
              clear hB3 HBR
              obtain ⟨wz, hwz⟩ : ∃ wz, w3.setRow w.heap.size (gotC 0 nilV [] 32 (p : Int)).toArray = wz := ⟨_, rfl⟩
              have HBz : Hid (Bl 50 wz w.heap.size (gotC 0 nilV [] 32 (p : Int))) := by rw [← hwz]; exact set_bl HBox2.out
              have Hz : Hid (Below w.heap.size w wz) := by rw [← hwz]; exact setRow_below _ HB3.out (Nat.le_refl _)
              have HWz : Hid (w3.setRow w.heap.size (gotC 0 nilV [] 32 (p : Int)).toArray = wz) := hwz
              have hgi : (Tryz.prog.info? 50).map (·.size) = some 5 := by kernel_rfl
              clear hwz
              go_wp2_with (refine wpList_store_row rfl 50 (.tmp 4) (.tmp 47) rfl w.heap.size (gotC 0 nilV [] 32 (p : Int)).toArray rfl rfl 50 (gotC 0 nilV [] 0 0).toArray HBox2.out hgi rfl (by simp [gotC, nilV, Value.oneCell']) ?_; rw [HWz.out]; clear HWz hgi)
              (try simp only [Exit.inBlock, Exit.then])
              exact bodyPost_ret (v := gotV 0 nilV [] 32 (p : Int)) (results_got rfl _ _ w.heap.size 0 nilV [] 32 (p : Int) rfl HBz.out) rfl ⟨⟨_, rfl, by rw [HX.out]; exact ⟨_, _, rfl⟩⟩, Hz.out⟩
      · have q1 : decide ((i : Int) ≤ (n : Int)) = false := decide_eq_false (by omega)
        obtain rfl : i = n + 1 := by omega
        have hln : p + n < t.length := by
          rcases Nat.eq_zero_or_pos n with rfl | h0
          · omega
          · exact (HA.out n h0 (by omega)).1
        have HX : Hid (X = .ok (sgl t p (p + n + 1)) (p + n + 1)) := HO.out n rfl hln (fun j h1 h2 => (HA.out j h1 (by omega)).2)
        obtain ⟨z, hz⟩ : ∃ z, p + n + 1 = z := ⟨_, rfl⟩
        rw [hz] at HX
        have Hsl : Hid ((⟨t.toArray⟩ : ByteArray).extract p z = ⟨(sgl t p z).toArray⟩) := ext_sgl t p z
        generalize sgl t p z = S at HX Hsl
        have q5 : ((p : Int) + (n : Int) + 1) = (z : Int) := by omega
        have hsl := Hsl.out
        have q6 : z ≤ t.length := by omega
        have q7 : p ≤ z := by omega
        clear hz
        obtain ⟨wz, hwz⟩ : ∃ wz, wr.setRow w.heap.size (gotC (z : Int) nilV S 0 0).toArray = wz := ⟨_, rfl⟩
        have HBz : Hid (Bl 50 wz w.heap.size (gotC (z : Int) nilV S 0 0)) := by rw [← hwz]; exact set_bl HBox.out
        have Hz : Hid (Below w.heap.size w wz) := by rw [← hwz]; exact setRow_below _ HB.out (Nat.le_refl _)
        have HWz : Hid (wr.setRow w.heap.size (gotC (z : Int) nilV S 0 0).toArray = wz) := hwz
        have hgi : (Tryz.prog.info? 50).map (·.size) = some 5 := by kernel_rfl
        clear hwz
        go_wp2_with (refine wpList_store_row rfl 50 (.tmp 4) (.tmp 59) rfl w.heap.size (gotC (z : Int) nilV S 0 0).toArray rfl rfl 50 (gotC 0 nilV [] 0 0).toArray HBox.out hgi rfl (by simp [gotC, nilV, Value.oneCell']) ?_; rw [HWz.out]; clear HWz hgi)
        (try simp only [Exit.inBlock, Exit.then])
        exact bodyPost_ret (v := gotV (z : Int) nilV S 0 0) (results_got rfl _ _ w.heap.size (z : Int) nilV S 0 0 rfl HBz.out) rfl ⟨⟨_, rfl, by rw [HX.out]; rfl⟩, Hz.out⟩

end Go.Proofs.YtapljedegjiliaaGreatDoor

namespace Go.Proofs.YtapljedegjiliaaGreatDoor
open Go.RowKit Go.Shelf

theorem results_tgot {fn : Func} {u p : Tmp} (h : fn.results = #[.tmp u, .cell p 50]) (tmps : Array Value) (w : World) (b : Nat) (at_ : Int) (L : Value) (S : List UInt8) (c d : Int) (x : Value) (hu : tmps.getD u undef = x) (hp : tmps.getD p undef = .pointer (some ⟨b, 0, none⟩)) (hb : Bl 50 w b (gotC at_ L S c d)) :
    (results fn tmps).run Tryz.prog w = .ok (.tuple #[x, gotV at_ L S c d]) w := by
  have hr : (loadVar 50 ⟨b, 0, none⟩).run Tryz.prog w = .ok (gotV at_ L S c d) w := by
    refine run_loadVar_mid w b 0 50 (gotC at_ L S c d) _ ?_ Tryz.underlying50 rfl (by kernel_rfl)
    intro j v hv
    obtain ⟨hj, e⟩ := List.getElem?_eq_some_iff.1 hv
    rw [Nat.zero_add, ← e]
    exact hb.cell j hj
  have hr2 : (results fn tmps).run Tryz.prog w = ((asAddr (tmps.getD p undef)).run Tryz.prog w).andThen fun a w₁ => ((loadVar 50 a).run Tryz.prog w₁).andThen fun v w₂ => .ok (.tuple #[tmps.getD u undef, v]) w₂ := by
    simp only [results, h]
    simp [Sem.run_bind, Result.andThen]
  rw [hr2, hp]
  unfold asAddr
  simp only [Sem.run_pure, Result.andThen_ok]
  rw [hr, hu]
  rfl

set_option maxRecDepth 100000 in
/-- The digits of both. -/
theorem hex_eq (c : UInt8) : hexV c = hxF (c.toNat : Int) := by
  unfold hxF
  have hn : ∀ l : List UInt8, c ∉ l → Lib.indexByte l c = -1 := fun l h => ix_out h
  by_cases h1 : 48 ≤ c.toNat ∧ c.toNat ≤ 57
  · rw [if_pos (by omega)]
    rcases (show c.toNat = 48 ∨ c.toNat = 49 ∨ c.toNat = 50 ∨ c.toNat = 51 ∨ c.toNat = 52 ∨ c.toNat = 53 ∨ c.toNat = 54 ∨ c.toNat = 55 ∨ c.toNat = 56 ∨ c.toNat = 57 by omega) with h | h | h | h | h | h | h | h | h | h
    · obtain rfl : c = 48 := UInt8.toNat_inj.1 (show c.toNat = (48 : UInt8).toNat from h)
      decide +kernel
    · obtain rfl : c = 49 := UInt8.toNat_inj.1 (show c.toNat = (49 : UInt8).toNat from h)
      decide +kernel
    · obtain rfl : c = 50 := UInt8.toNat_inj.1 (show c.toNat = (50 : UInt8).toNat from h)
      decide +kernel
    · obtain rfl : c = 51 := UInt8.toNat_inj.1 (show c.toNat = (51 : UInt8).toNat from h)
      decide +kernel
    · obtain rfl : c = 52 := UInt8.toNat_inj.1 (show c.toNat = (52 : UInt8).toNat from h)
      decide +kernel
    · obtain rfl : c = 53 := UInt8.toNat_inj.1 (show c.toNat = (53 : UInt8).toNat from h)
      decide +kernel
    · obtain rfl : c = 54 := UInt8.toNat_inj.1 (show c.toNat = (54 : UInt8).toNat from h)
      decide +kernel
    · obtain rfl : c = 55 := UInt8.toNat_inj.1 (show c.toNat = (55 : UInt8).toNat from h)
      decide +kernel
    · obtain rfl : c = 56 := UInt8.toNat_inj.1 (show c.toNat = (56 : UInt8).toNat from h)
      decide +kernel
    · obtain rfl : c = 57 := UInt8.toNat_inj.1 (show c.toNat = (57 : UInt8).toNat from h)
      decide +kernel
  · rw [if_neg (by omega)]
    by_cases h2 : 97 ≤ c.toNat ∧ c.toNat ≤ 102
    · rw [if_pos (by omega)]
      rcases (show c.toNat = 97 ∨ c.toNat = 98 ∨ c.toNat = 99 ∨ c.toNat = 100 ∨ c.toNat = 101 ∨ c.toNat = 102 by omega) with h | h | h | h | h | h
      · obtain rfl : c = 97 := UInt8.toNat_inj.1 (show c.toNat = (97 : UInt8).toNat from h)
        decide +kernel
      · obtain rfl : c = 98 := UInt8.toNat_inj.1 (show c.toNat = (98 : UInt8).toNat from h)
        decide +kernel
      · obtain rfl : c = 99 := UInt8.toNat_inj.1 (show c.toNat = (99 : UInt8).toNat from h)
        decide +kernel
      · obtain rfl : c = 100 := UInt8.toNat_inj.1 (show c.toNat = (100 : UInt8).toNat from h)
        decide +kernel
      · obtain rfl : c = 101 := UInt8.toNat_inj.1 (show c.toNat = (101 : UInt8).toNat from h)
        decide +kernel
      · obtain rfl : c = 102 := UInt8.toNat_inj.1 (show c.toNat = (102 : UInt8).toNat from h)
        decide +kernel
    · rw [if_neg (by omega)]
      by_cases h3 : 65 ≤ c.toNat ∧ c.toNat ≤ 70
      · rw [if_pos (by omega)]
        rcases (show c.toNat = 65 ∨ c.toNat = 66 ∨ c.toNat = 67 ∨ c.toNat = 68 ∨ c.toNat = 69 ∨ c.toNat = 70 by omega) with h | h | h | h | h | h
        · obtain rfl : c = 65 := UInt8.toNat_inj.1 (show c.toNat = (65 : UInt8).toNat from h)
          decide +kernel
        · obtain rfl : c = 66 := UInt8.toNat_inj.1 (show c.toNat = (66 : UInt8).toNat from h)
          decide +kernel
        · obtain rfl : c = 67 := UInt8.toNat_inj.1 (show c.toNat = (67 : UInt8).toNat from h)
          decide +kernel
        · obtain rfl : c = 68 := UInt8.toNat_inj.1 (show c.toNat = (68 : UInt8).toNat from h)
          decide +kernel
        · obtain rfl : c = 69 := UInt8.toNat_inj.1 (show c.toNat = (69 : UInt8).toNat from h)
          decide +kernel
        · obtain rfl : c = 70 := UInt8.toNat_inj.1 (show c.toNat = (70 : UInt8).toNat from h)
          decide +kernel
      · rw [if_neg (by omega)]
        unfold hexV
        have hm : ∀ x : UInt8, c = x → c.toNat = x.toNat := fun x e => by rw [e]
        rw [hn _ (by simp only [List.mem_cons, List.not_mem_nil, or_false]; rintro (h | h | h | h | h | h | h | h | h | h | h | h | h | h | h | h) <;> (have := hm _ h; simp at this; omega)), hn _ (by simp only [List.mem_cons, List.not_mem_nil, or_false]; rintro (h | h | h | h | h | h | h | h | h | h | h | h | h | h | h | h) <;> (have := hm _ h; simp at this; omega))]
        rfl
theorem hx_le (c : Int) : -1 ≤ hxF c ∧ hxF c ≤ 15 := by
  unfold hxF
  repeat' split
  all_goals omega

/-- What is told of four digits. -/
def Got4 (x : Lx Int) (v : Value) : Prop := match x with
  | .ok u q => v = .tuple #[.int .i64 u, gotV (q : Int) nilV [] 0 0]
  | .bad c b => v = .tuple #[.int .i64 0, gotV 0 nilV [] (c : Int) (b : Int)]

theorem unit_end {t : List UInt8} {pl p n : Nat} {sc : Bool} {U : Int} (h : ¬ p < t.length) : unitF t pl sc (n + 1) U p = .bad 31 t.length := by
  unfold unitF
  rw [if_neg h]
theorem unit_no {t : List UInt8} {pl p n : Nat} {sc : Bool} {U : Int} (h : p < t.length) (hd : hexV (t.getD p 0) < 0) : unitF t pl sc (n + 1) U p = .bad 33 pl := by
  unfold unitF
  rw [if_pos h]
  simp only
  rw [if_pos hd]
theorem unit_out {t : List UInt8} {pl p n : Nat} {sc : Bool} {U d : Int} (h : p < t.length) (hd : hexV (t.getD p 0) = d) (h0 : 0 ≤ d) (ha : awF (U + d * 16 ^ n) (U + d * 16 ^ n + (16 ^ n - 1)) sc = false) : unitF t pl sc (n + 1) U p = .bad 33 pl := by
  unfold unitF
  rw [if_pos h]
  simp only
  rw [hd, if_neg (by omega), ha, if_neg (by decide)]
theorem unit_in {t : List UInt8} {pl p n : Nat} {sc : Bool} {U d : Int} (h : p < t.length) (hd : hexV (t.getD p 0) = d) (h0 : 0 ≤ d) (ha : awF (U + d * 16 ^ n) (U + d * 16 ^ n + (16 ^ n - 1)) sc = true) : unitF t pl sc (n + 1) U p = unitF t pl sc n (U + d * 16 ^ n) (p + 1) := by
  conv => lhs; unfold unitF
  rw [if_pos h]
  simp only
  rw [hd, if_neg (by omega), ha, if_pos rfl]

/-- What the digits so far may be. -/
def Fst (i : Nat) (u : Int) : Prop := 0 ≤ u ∧ (i = 0 → u = 0) ∧ (i = 1 → u ≤ 15) ∧ (i = 2 → u ≤ 255 ∧ (u < 220 ∨ 224 ≤ u)) ∧ (i = 3 → u ≤ 4095 ∧ (u < 3520 ∨ 3584 ≤ u)) ∧ u ≤ 65535
def Snd (i : Nat) (u : Int) : Prop := 0 ≤ u ∧ (i = 0 → u = 0) ∧ (i = 1 → u = 13) ∧ (i = 2 → 220 ≤ u ∧ u < 224) ∧ (i = 3 → 3520 ≤ u ∧ u < 3584) ∧ u ≤ 65535

/-- The next digit. -/
theorem first_step {t : List UInt8} {pl p : Nat} {i : Nat} {u d : Int} {R : Lx Int} (hi : i < 4) (hI : Fst i u) (hR : unitF t pl false (4 - i) (u * 16 ^ (4 - i)) p = R) (h : p < t.length) (hd : hexV (t.getD p 0) = d) (h0 : 0 ≤ d) (h15 : d ≤ 15) :
    (i = 1 ∧ u = 13 ∧ 12 ≤ d → R = .bad 33 pl) ∧ (¬ (i = 1 ∧ u = 13 ∧ 12 ≤ d) → Fst (i + 1) (16 * u + d) ∧ unitF t pl false (4 - (i + 1)) ((16 * u + d) * 16 ^ (4 - (i + 1))) (p + 1) = R) := by
  unfold Fst at hI ⊢
  rcases (show i = 0 ∨ i = 1 ∨ i = 2 ∨ i = 3 by omega) with rfl | rfl | rfl | rfl
  · have hR : unitF t pl false (3 + 1) (u * 65536) p = R := hR
    refine ⟨fun hb => ?_, fun hb => ⟨?_, ?_⟩⟩
    · rw [← hR]
      exact unit_out h hd h0 (by unfold awF; simp; omega)
    · simp at hb ⊢
      omega
    · rw [← hR, unit_in h hd h0 (by unfold awF; simp; simp at hb; omega)]
      show unitF t pl false 3 _ _ = unitF t pl false 3 _ _
      congr 1
      show (16 * u + d) * 16 ^ 3 = u * 65536 + d * 16 ^ 3
      omega
  · have hR : unitF t pl false (2 + 1) (u * 4096) p = R := hR
    refine ⟨fun hb => ?_, fun hb => ⟨?_, ?_⟩⟩
    · rw [← hR]
      exact unit_out h hd h0 (by unfold awF; simp; omega)
    · simp at hb ⊢
      omega
    · rw [← hR, unit_in h hd h0 (by unfold awF; simp; simp at hb; omega)]
      show unitF t pl false 2 _ _ = unitF t pl false 2 _ _
      congr 1
      show (16 * u + d) * 16 ^ 2 = u * 4096 + d * 16 ^ 2
      omega
  · have hR : unitF t pl false (1 + 1) (u * 256) p = R := hR
    refine ⟨fun hb => ?_, fun hb => ⟨?_, ?_⟩⟩
    · rw [← hR]
      exact unit_out h hd h0 (by unfold awF; simp; omega)
    · simp at hb ⊢
      omega
    · rw [← hR, unit_in h hd h0 (by unfold awF; simp; simp at hb; omega)]
      show unitF t pl false 1 _ _ = unitF t pl false 1 _ _
      congr 1
      show (16 * u + d) * 16 ^ 1 = u * 256 + d * 16 ^ 1
      omega
  · have hR : unitF t pl false (0 + 1) (u * 16) p = R := hR
    refine ⟨fun hb => ?_, fun hb => ⟨?_, ?_⟩⟩
    · rw [← hR]
      exact unit_out h hd h0 (by unfold awF; simp; omega)
    · simp at hb ⊢
      omega
    · rw [← hR, unit_in h hd h0 (by unfold awF; simp; simp at hb; omega)]
      show unitF t pl false 0 _ _ = unitF t pl false 0 _ _
      congr 1
      show (16 * u + d) * 16 ^ 0 = u * 16 + d * 16 ^ 0
      omega
/-- The next digit. -/
theorem second_step {t : List UInt8} {pl p : Nat} {i : Nat} {u d : Int} {R : Lx Int} (hi : i < 4) (hI : Snd i u) (hR : unitF t pl true (4 - i) (u * 16 ^ (4 - i)) p = R) (h : p < t.length) (hd : hexV (t.getD p 0) = d) (h0 : 0 ≤ d) (h15 : d ≤ 15) :
    ((i = 0 ∧ d ≠ 13) ∨ (i = 1 ∧ d < 12) → R = .bad 33 pl) ∧ (¬ ((i = 0 ∧ d ≠ 13) ∨ (i = 1 ∧ d < 12)) → Snd (i + 1) (16 * u + d) ∧ unitF t pl true (4 - (i + 1)) ((16 * u + d) * 16 ^ (4 - (i + 1))) (p + 1) = R) := by
  unfold Snd at hI ⊢
  rcases (show i = 0 ∨ i = 1 ∨ i = 2 ∨ i = 3 by omega) with rfl | rfl | rfl | rfl
  · have hR : unitF t pl true (3 + 1) (u * 65536) p = R := hR
    refine ⟨fun hb => ?_, fun hb => ⟨?_, ?_⟩⟩
    · rw [← hR]
      exact unit_out h hd h0 (by unfold awF; simp; omega)
    · simp at hb ⊢
      omega
    · rw [← hR, unit_in h hd h0 (by unfold awF; simp; simp at hb; omega)]
      show unitF t pl true 3 _ _ = unitF t pl true 3 _ _
      congr 1
      show (16 * u + d) * 16 ^ 3 = u * 65536 + d * 16 ^ 3
      omega
  · have hR : unitF t pl true (2 + 1) (u * 4096) p = R := hR
    refine ⟨fun hb => ?_, fun hb => ⟨?_, ?_⟩⟩
    · rw [← hR]
      exact unit_out h hd h0 (by unfold awF; simp; omega)
    · simp at hb ⊢
      omega
    · rw [← hR, unit_in h hd h0 (by unfold awF; simp; simp at hb; omega)]
      show unitF t pl true 2 _ _ = unitF t pl true 2 _ _
      congr 1
      show (16 * u + d) * 16 ^ 2 = u * 4096 + d * 16 ^ 2
      omega
  · have hR : unitF t pl true (1 + 1) (u * 256) p = R := hR
    refine ⟨fun hb => ?_, fun hb => ⟨?_, ?_⟩⟩
    · rw [← hR]
      exact unit_out h hd h0 (by unfold awF; simp; omega)
    · simp at hb ⊢
      omega
    · rw [← hR, unit_in h hd h0 (by unfold awF; simp; simp at hb; omega)]
      show unitF t pl true 1 _ _ = unitF t pl true 1 _ _
      congr 1
      show (16 * u + d) * 16 ^ 1 = u * 256 + d * 16 ^ 1
      omega
  · have hR : unitF t pl true (0 + 1) (u * 16) p = R := hR
    refine ⟨fun hb => ?_, fun hb => ⟨?_, ?_⟩⟩
    · rw [← hR]
      exact unit_out h hd h0 (by unfold awF; simp; omega)
    · simp at hb ⊢
      omega
    · rw [← hR, unit_in h hd h0 (by unfold awF; simp; simp at hb; omega)]
      show unitF t pl true 0 _ _ = unitF t pl true 0 _ _
      congr 1
      show (16 * u + d) * 16 ^ 0 = u * 16 + d * 16 ^ 0
      omega

end Go.Proofs.YtapljedegjiliaaGreatDoor

namespace Go.Proofs.YtapljedegjiliaaGreatDoor
open Go.RowKit Go.Shelf

set_option maxRecDepth 100000 in
set_option maxHeartbeats 8000000 in
theorem four_first (t : List UInt8) (p pl : Nat) (w : World) (hp : p ≤ 2000000000) :
    Calls Tryz.prog 59 #[.string ⟨t.toArray⟩, .int .i64 p, .int .i64 0, .int .i64 pl] w fun e w' => (∃ v, e = .returned v ∧ Got4 (unitF t pl false 4 0 p) v) ∧ Below w.heap.size w w' := by
  obtain ⟨R, hR⟩ : ∃ R, unitF t pl false 4 0 p = R := ⟨_, rfl⟩
  have HR0 : Hid (unitF t pl false (4 - 0) (0 * 16 ^ (4 - 0)) (p + 0) = R) := by rw [← hR]; rfl
  rw [hR]
  clear hR
  have HBox : Hid (Bl 50 (w.alloc (.cells (gotC 0 nilV [] 0 0).toArray 50)) w.heap.size (gotC 0 nilV [] 0 0)) := alloc_bl _ _ _
  have HB : Hid (Below w.heap.size w (w.alloc (.cells (gotC 0 nilV [] 0 0).toArray 50))) := alloc_below _ _
  obtain ⟨w1, hw1⟩ : ∃ w1, w.alloc (.cells (gotC 0 nilV [] 0 0).toArray 50) = w1 := ⟨_, rfl⟩
  rw [hw1] at HBox HB
  have HW1 : Hid (w.alloc (.cells (gotC 0 nilV [] 0 0).toArray 50) = w1) := hw1
  clear hw1
  have HBR : Hid (∀ w3 : World, Below w1.heap.size w1 w3 → Bl 50 w3 w.heap.size (gotC 0 nilV [] 0 0) ∧ Below w.heap.size w w3) := fun w3 h3 => ⟨bl_below HBox.out h3, HB.out.trans (h3.mono HB.out.size)⟩
  go_enter Tryz.func59, Tryz.ntmps59
  go_wp2
  go_loopw [10, 11] (fun s10 s11 wx => ∃ (i : Nat) (u : Int), s10 = .int .i64 u ∧ s11 = .int .i64 i ∧ i ≤ 4 ∧ Fst i u ∧ wx = w1 ∧ Hid (unitF t pl false (4 - i) (u * 16 ^ (4 - i)) (p + i) = R)) (fun _ s _ => 4 - (intOf s).toNat)
  case atStart => exact ⟨0, 0, rfl, rfl, by omega, by unfold Fst; simp, HW1.out, HR0⟩
  case round =>
    obtain ⟨i, u, rfl, rfl, hi, hI, rfl, HU⟩ := hrel
    clear HR0
    have hI2 := hI
    unfold Fst at hI2
    obtain ⟨hu0, -, -, -, -, hu9⟩ := hI2
    have HI : Hid (Fst i u) := hI
    clear hI
    by_cases hlt : i < 4
    · have C1 := byteAt_any t (p + i) wr (by omega)
      by_cases hend : p + i < t.length
      · obtain ⟨c, hc⟩ : ∃ c, t.getD (p + i) 0 = c := ⟨_, rfl⟩
        have hbt : bat t (p + i) = (c.toNat : Int) := by unfold bat; rw [if_pos hend, hc]
        rw [hbt] at C1
        have hcl := c.toNat_lt
        have C2 := hexOf_any (c.toNat : Int) wr ⟨by omega, by omega⟩
        have q2 : decide ((c.toNat : Int) < 0) = false := decide_eq_false (by omega)
        obtain ⟨d, hd⟩ : ∃ d, hxF (c.toNat : Int) = d := ⟨_, rfl⟩
        have hdb := hx_le (c.toNat : Int)
        rw [hd] at C2 hdb
        have HD : Hid (hexV (t.getD (p + i) 0) = d) := by show _ = _; rw [hc, hex_eq, hd]
        clear hc hbt hd
        by_cases hd0 : d < 0
        · have HX : Hid (R = .bad 33 pl) := by
            show _ = _
            rw [← HU.out, show 4 - i = (3 - i) + 1 by omega]
            exact unit_no hend (by rw [HD.out]; exact hd0)
          have q3 : decide (d < 0) = true := decide_eq_true hd0
          have q4 : decide (d ≥ 12) = false := decide_eq_false (by omega)
          have q5 : decide (d < 12) = true := decide_eq_true (by omega)
          have q6 : (d != 13) = true := by simp; omega
          clear HU HD HI
          rcases (show i = 0 ∨ i = 1 ∨ i = 2 ∨ i = 3 by omega) with rfl | rfl | rfl | rfl
          · rw [Nat.add_zero] at C1
            go_wp2_with fail
            refine C1.mono ?_
            clear C1
            rintro e w2 ⟨rfl, rfl⟩
            go_wp2_with fail
            refine C2.mono ?_
            clear C2
            rintro e w3 ⟨rfl, rfl⟩
            have C3 := fault_any 33 (pl : Int) w3
            go_wp2_with fail
            refine C3.mono ?_
            clear C3
            rintro e w4 ⟨rfl, hB3⟩
            have HBox2 : Hid (Bl 50 w4 w.heap.size (gotC 0 nilV [] 0 0)) := (HBR.out w4 hB3).1
            have HB3 : Hid (Below w.heap.size w w4) := (HBR.out w4 hB3).2
            clear hB3 HBR
            obtain ⟨wz, hwz⟩ : ∃ wz, w4.setRow w.heap.size (gotC 0 nilV [] 33 (pl : Int)).toArray = wz := ⟨_, rfl⟩
            have HBz : Hid (Bl 50 wz w.heap.size (gotC 0 nilV [] 33 (pl : Int))) := by rw [← hwz]; exact set_bl HBox2.out
            have Hz : Hid (Below w.heap.size w wz) := by rw [← hwz]; exact setRow_below _ HB3.out (Nat.le_refl _)
            have HWz : Hid (w4.setRow w.heap.size (gotC 0 nilV [] 33 (pl : Int)).toArray = wz) := hwz
            have hgi : (Tryz.prog.info? 50).map (·.size) = some 5 := by kernel_rfl
            clear hwz
            go_wp2_with (refine wpList_store_row rfl 50 (.tmp 9) (.tmp 67) rfl w.heap.size (gotC 0 nilV [] 33 (pl : Int)).toArray rfl rfl 50 (gotC 0 nilV [] 0 0).toArray HBox2.out hgi rfl (by simp [gotC, nilV, Value.oneCell']) ?_; rw [HWz.out]; clear HWz hgi)
            (try simp only [Exit.inBlock, Exit.then])
            exact bodyPost_ret (v := .tuple #[.int .i64 0, gotV 0 nilV [] 33 (pl : Int)]) (results_tgot rfl _ _ w.heap.size 0 nilV [] 33 (pl : Int) _ rfl rfl HBz.out) rfl ⟨⟨_, rfl, by rw [HX.out]; rfl⟩, Hz.out⟩
          · by_cases hu13 : u = 13
            · subst hu13
              rw [show ((p + 1 : Nat) : Int) = (p : Int) + 1 by omega] at C1
              go_wp2_with fail
              refine C1.mono ?_
              clear C1
              rintro e w2 ⟨rfl, rfl⟩
              go_wp2_with fail
              refine C2.mono ?_
              clear C2
              rintro e w3 ⟨rfl, rfl⟩
              have C3 := fault_any 33 (pl : Int) w3
              go_wp2_with fail
              refine C3.mono ?_
              clear C3
              rintro e w4 ⟨rfl, hB3⟩
              have HBox2 : Hid (Bl 50 w4 w.heap.size (gotC 0 nilV [] 0 0)) := (HBR.out w4 hB3).1
              have HB3 : Hid (Below w.heap.size w w4) := (HBR.out w4 hB3).2
              clear hB3 HBR
              obtain ⟨wz, hwz⟩ : ∃ wz, w4.setRow w.heap.size (gotC 0 nilV [] 33 (pl : Int)).toArray = wz := ⟨_, rfl⟩
              have HBz : Hid (Bl 50 wz w.heap.size (gotC 0 nilV [] 33 (pl : Int))) := by rw [← hwz]; exact set_bl HBox2.out
              have Hz : Hid (Below w.heap.size w wz) := by rw [← hwz]; exact setRow_below _ HB3.out (Nat.le_refl _)
              have HWz : Hid (w4.setRow w.heap.size (gotC 0 nilV [] 33 (pl : Int)).toArray = wz) := hwz
              have hgi : (Tryz.prog.info? 50).map (·.size) = some 5 := by kernel_rfl
              clear hwz
              go_wp2_with (refine wpList_store_row rfl 50 (.tmp 9) (.tmp 67) rfl w.heap.size (gotC 0 nilV [] 33 (pl : Int)).toArray rfl rfl 50 (gotC 0 nilV [] 0 0).toArray HBox2.out hgi rfl (by simp [gotC, nilV, Value.oneCell']) ?_; rw [HWz.out]; clear HWz hgi)
              (try simp only [Exit.inBlock, Exit.then])
              exact bodyPost_ret (v := .tuple #[.int .i64 0, gotV 0 nilV [] 33 (pl : Int)]) (results_tgot rfl _ _ w.heap.size 0 nilV [] 33 (pl : Int) _ rfl rfl HBz.out) rfl ⟨⟨_, rfl, by rw [HX.out]; rfl⟩, Hz.out⟩
            · have q7 : (u == 13) = false := by simpa using hu13
              rw [show ((p + 1 : Nat) : Int) = (p : Int) + 1 by omega] at C1
              go_wp2_with fail
              refine C1.mono ?_
              clear C1
              rintro e w2 ⟨rfl, rfl⟩
              go_wp2_with fail
              refine C2.mono ?_
              clear C2
              rintro e w3 ⟨rfl, rfl⟩
              have C3 := fault_any 33 (pl : Int) w3
              go_wp2_with fail
              refine C3.mono ?_
              clear C3
              rintro e w4 ⟨rfl, hB3⟩
              have HBox2 : Hid (Bl 50 w4 w.heap.size (gotC 0 nilV [] 0 0)) := (HBR.out w4 hB3).1
              have HB3 : Hid (Below w.heap.size w w4) := (HBR.out w4 hB3).2
              clear hB3 HBR
              obtain ⟨wz, hwz⟩ : ∃ wz, w4.setRow w.heap.size (gotC 0 nilV [] 33 (pl : Int)).toArray = wz := ⟨_, rfl⟩
              have HBz : Hid (Bl 50 wz w.heap.size (gotC 0 nilV [] 33 (pl : Int))) := by rw [← hwz]; exact set_bl HBox2.out
              have Hz : Hid (Below w.heap.size w wz) := by rw [← hwz]; exact setRow_below _ HB3.out (Nat.le_refl _)
              have HWz : Hid (w4.setRow w.heap.size (gotC 0 nilV [] 33 (pl : Int)).toArray = wz) := hwz
              have hgi : (Tryz.prog.info? 50).map (·.size) = some 5 := by kernel_rfl
              clear hwz
              go_wp2_with (refine wpList_store_row rfl 50 (.tmp 9) (.tmp 67) rfl w.heap.size (gotC 0 nilV [] 33 (pl : Int)).toArray rfl rfl 50 (gotC 0 nilV [] 0 0).toArray HBox2.out hgi rfl (by simp [gotC, nilV, Value.oneCell']) ?_; rw [HWz.out]; clear HWz hgi)
              (try simp only [Exit.inBlock, Exit.then])
              exact bodyPost_ret (v := .tuple #[.int .i64 0, gotV 0 nilV [] 33 (pl : Int)]) (results_tgot rfl _ _ w.heap.size 0 nilV [] 33 (pl : Int) _ rfl rfl HBz.out) rfl ⟨⟨_, rfl, by rw [HX.out]; rfl⟩, Hz.out⟩
          · rw [show ((p + 2 : Nat) : Int) = (p : Int) + 2 by omega] at C1
            go_wp2_with fail
            refine C1.mono ?_
            clear C1
            rintro e w2 ⟨rfl, rfl⟩
            go_wp2_with fail
            refine C2.mono ?_
            clear C2
            rintro e w3 ⟨rfl, rfl⟩
            have C3 := fault_any 33 (pl : Int) w3
            go_wp2_with fail
            refine C3.mono ?_
            clear C3
            rintro e w4 ⟨rfl, hB3⟩
            have HBox2 : Hid (Bl 50 w4 w.heap.size (gotC 0 nilV [] 0 0)) := (HBR.out w4 hB3).1
            have HB3 : Hid (Below w.heap.size w w4) := (HBR.out w4 hB3).2
            clear hB3 HBR
            obtain ⟨wz, hwz⟩ : ∃ wz, w4.setRow w.heap.size (gotC 0 nilV [] 33 (pl : Int)).toArray = wz := ⟨_, rfl⟩
            have HBz : Hid (Bl 50 wz w.heap.size (gotC 0 nilV [] 33 (pl : Int))) := by rw [← hwz]; exact set_bl HBox2.out
            have Hz : Hid (Below w.heap.size w wz) := by rw [← hwz]; exact setRow_below _ HB3.out (Nat.le_refl _)
            have HWz : Hid (w4.setRow w.heap.size (gotC 0 nilV [] 33 (pl : Int)).toArray = wz) := hwz
            have hgi : (Tryz.prog.info? 50).map (·.size) = some 5 := by kernel_rfl
            clear hwz
            go_wp2_with (refine wpList_store_row rfl 50 (.tmp 9) (.tmp 67) rfl w.heap.size (gotC 0 nilV [] 33 (pl : Int)).toArray rfl rfl 50 (gotC 0 nilV [] 0 0).toArray HBox2.out hgi rfl (by simp [gotC, nilV, Value.oneCell']) ?_; rw [HWz.out]; clear HWz hgi)
            (try simp only [Exit.inBlock, Exit.then])
            exact bodyPost_ret (v := .tuple #[.int .i64 0, gotV 0 nilV [] 33 (pl : Int)]) (results_tgot rfl _ _ w.heap.size 0 nilV [] 33 (pl : Int) _ rfl rfl HBz.out) rfl ⟨⟨_, rfl, by rw [HX.out]; rfl⟩, Hz.out⟩
          · rw [show ((p + 3 : Nat) : Int) = (p : Int) + 3 by omega] at C1
            go_wp2_with fail
            refine C1.mono ?_
            clear C1
            rintro e w2 ⟨rfl, rfl⟩
            go_wp2_with fail
            refine C2.mono ?_
            clear C2
            rintro e w3 ⟨rfl, rfl⟩
            have C3 := fault_any 33 (pl : Int) w3
            go_wp2_with fail
            refine C3.mono ?_
            clear C3
            rintro e w4 ⟨rfl, hB3⟩
            have HBox2 : Hid (Bl 50 w4 w.heap.size (gotC 0 nilV [] 0 0)) := (HBR.out w4 hB3).1
            have HB3 : Hid (Below w.heap.size w w4) := (HBR.out w4 hB3).2
            clear hB3 HBR
            obtain ⟨wz, hwz⟩ : ∃ wz, w4.setRow w.heap.size (gotC 0 nilV [] 33 (pl : Int)).toArray = wz := ⟨_, rfl⟩
            have HBz : Hid (Bl 50 wz w.heap.size (gotC 0 nilV [] 33 (pl : Int))) := by rw [← hwz]; exact set_bl HBox2.out
            have Hz : Hid (Below w.heap.size w wz) := by rw [← hwz]; exact setRow_below _ HB3.out (Nat.le_refl _)
            have HWz : Hid (w4.setRow w.heap.size (gotC 0 nilV [] 33 (pl : Int)).toArray = wz) := hwz
            have hgi : (Tryz.prog.info? 50).map (·.size) = some 5 := by kernel_rfl
            clear hwz
            go_wp2_with (refine wpList_store_row rfl 50 (.tmp 9) (.tmp 67) rfl w.heap.size (gotC 0 nilV [] 33 (pl : Int)).toArray rfl rfl 50 (gotC 0 nilV [] 0 0).toArray HBox2.out hgi rfl (by simp [gotC, nilV, Value.oneCell']) ?_; rw [HWz.out]; clear HWz hgi)
            (try simp only [Exit.inBlock, Exit.then])
            exact bodyPost_ret (v := .tuple #[.int .i64 0, gotV 0 nilV [] 33 (pl : Int)]) (results_tgot rfl _ _ w.heap.size 0 nilV [] 33 (pl : Int) _ rfl rfl HBz.out) rfl ⟨⟨_, rfl, by rw [HX.out]; rfl⟩, Hz.out⟩
        · have hst := first_step hlt HI.out HU.out hend HD.out (by omega) hdb.2
          have q3 : decide (d < 0) = false := decide_eq_false hd0
          have HS1 : Hid (i = 1 ∧ u = 13 ∧ 12 ≤ d → R = .bad 33 pl) := hst.1
          have HS2 : Hid (¬ (i = 1 ∧ u = 13 ∧ 12 ≤ d) → Fst (i + 1) (16 * u + d) ∧ unitF t pl false (4 - (i + 1)) ((16 * u + d) * 16 ^ (4 - (i + 1))) (p + i + 1) = R) := hst.2
          clear hst HU HD HI
          rcases (show i = 0 ∨ i = 1 ∨ i = 2 ∨ i = 3 by omega) with rfl | rfl | rfl | rfl
          · obtain ⟨hI3, hU3⟩ := HS2.out (by omega)
            have HI3 : Hid (Fst 1 (16 * u + d)) := hI3
            have HU3 : Hid (unitF t pl false (4 - 1) ((16 * u + d) * 16 ^ (4 - 1)) (p + 1) = R) := hU3
            clear hI3 hU3 HS1 HS2
            rw [Nat.add_zero] at C1
            go_wp2_with fail
            refine C1.mono ?_
            clear C1
            rintro e w2 ⟨rfl, rfl⟩
            go_wp2_with fail
            refine C2.mono ?_
            clear C2
            rintro e w3 ⟨rfl, rfl⟩
            go_wp2
            go_roundw
            case rel => exact ⟨1, 16 * u + d, by go_num, by go_num, by omega, HI3.out, trivial, HU3⟩
            case measure => simp [intOf]
          · by_cases hu13 : u = 13
            · subst hu13
              by_cases hd12 : 12 ≤ d
              · have HX : Hid (R = .bad 33 pl) := HS1.out (by omega)
                clear HS1 HS2
                have q4 : decide (d ≥ 12) = true := decide_eq_true hd12
                rw [show ((p + 1 : Nat) : Int) = (p : Int) + 1 by omega] at C1
                go_wp2_with fail
                refine C1.mono ?_
                clear C1
                rintro e w2 ⟨rfl, rfl⟩
                go_wp2_with fail
                refine C2.mono ?_
                clear C2
                rintro e w3 ⟨rfl, rfl⟩
                have C3 := fault_any 33 (pl : Int) w3
                go_wp2_with fail
                refine C3.mono ?_
                clear C3
                rintro e w4 ⟨rfl, hB3⟩
                have HBox2 : Hid (Bl 50 w4 w.heap.size (gotC 0 nilV [] 0 0)) := (HBR.out w4 hB3).1
                have HB3 : Hid (Below w.heap.size w w4) := (HBR.out w4 hB3).2
                clear hB3 HBR
                obtain ⟨wz, hwz⟩ : ∃ wz, w4.setRow w.heap.size (gotC 0 nilV [] 33 (pl : Int)).toArray = wz := ⟨_, rfl⟩
                have HBz : Hid (Bl 50 wz w.heap.size (gotC 0 nilV [] 33 (pl : Int))) := by rw [← hwz]; exact set_bl HBox2.out
                have Hz : Hid (Below w.heap.size w wz) := by rw [← hwz]; exact setRow_below _ HB3.out (Nat.le_refl _)
                have HWz : Hid (w4.setRow w.heap.size (gotC 0 nilV [] 33 (pl : Int)).toArray = wz) := hwz
                have hgi : (Tryz.prog.info? 50).map (·.size) = some 5 := by kernel_rfl
                clear hwz
                go_wp2_with (refine wpList_store_row rfl 50 (.tmp 9) (.tmp 67) rfl w.heap.size (gotC 0 nilV [] 33 (pl : Int)).toArray rfl rfl 50 (gotC 0 nilV [] 0 0).toArray HBox2.out hgi rfl (by simp [gotC, nilV, Value.oneCell']) ?_; rw [HWz.out]; clear HWz hgi)
                (try simp only [Exit.inBlock, Exit.then])
                exact bodyPost_ret (v := .tuple #[.int .i64 0, gotV 0 nilV [] 33 (pl : Int)]) (results_tgot rfl _ _ w.heap.size 0 nilV [] 33 (pl : Int) _ rfl rfl HBz.out) rfl ⟨⟨_, rfl, by rw [HX.out]; rfl⟩, Hz.out⟩
              · obtain ⟨hI3, hU3⟩ := HS2.out (by omega)
                have HI3 : Hid (Fst 2 (16 * 13 + d)) := hI3
                have HU3 : Hid (unitF t pl false (4 - 2) ((16 * 13 + d) * 16 ^ (4 - 2)) (p + 2) = R) := hU3
                clear hI3 hU3 HS1 HS2
                have q4 : decide (d ≥ 12) = false := decide_eq_false hd12
                rw [show ((p + 1 : Nat) : Int) = (p : Int) + 1 by omega] at C1
                go_wp2_with fail
                refine C1.mono ?_
                clear C1
                rintro e w2 ⟨rfl, rfl⟩
                go_wp2_with fail
                refine C2.mono ?_
                clear C2
                rintro e w3 ⟨rfl, rfl⟩
                go_wp2
                go_roundw
                case rel => exact ⟨2, 16 * 13 + d, by go_num, by go_num, by omega, HI3.out, trivial, HU3⟩
                case measure => simp [intOf]
            · obtain ⟨hI3, hU3⟩ := HS2.out (by omega)
              have HI3 : Hid (Fst 2 (16 * u + d)) := hI3
              have HU3 : Hid (unitF t pl false (4 - 2) ((16 * u + d) * 16 ^ (4 - 2)) (p + 2) = R) := hU3
              clear hI3 hU3 HS1 HS2
              have q7 : (u == 13) = false := by simpa using hu13
              rw [show ((p + 1 : Nat) : Int) = (p : Int) + 1 by omega] at C1
              go_wp2_with fail
              refine C1.mono ?_
              clear C1
              rintro e w2 ⟨rfl, rfl⟩
              go_wp2_with fail
              refine C2.mono ?_
              clear C2
              rintro e w3 ⟨rfl, rfl⟩
              go_wp2
              go_roundw
              case rel => exact ⟨2, 16 * u + d, by go_num, by go_num, by omega, HI3.out, trivial, HU3⟩
              case measure => simp [intOf]
          · obtain ⟨hI3, hU3⟩ := HS2.out (by omega)
            have HI3 : Hid (Fst 3 (16 * u + d)) := hI3
            have HU3 : Hid (unitF t pl false (4 - 3) ((16 * u + d) * 16 ^ (4 - 3)) (p + 3) = R) := hU3
            clear hI3 hU3 HS1 HS2
            rw [show ((p + 2 : Nat) : Int) = (p : Int) + 2 by omega] at C1
            go_wp2_with fail
            refine C1.mono ?_
            clear C1
            rintro e w2 ⟨rfl, rfl⟩
            go_wp2_with fail
            refine C2.mono ?_
            clear C2
            rintro e w3 ⟨rfl, rfl⟩
            go_wp2
            go_roundw
            case rel => exact ⟨3, 16 * u + d, by go_num, by go_num, by omega, HI3.out, trivial, HU3⟩
            case measure => simp [intOf]
          · obtain ⟨hI3, hU3⟩ := HS2.out (by omega)
            have HI3 : Hid (Fst 4 (16 * u + d)) := hI3
            have HU3 : Hid (unitF t pl false (4 - 4) ((16 * u + d) * 16 ^ (4 - 4)) (p + 4) = R) := hU3
            clear hI3 hU3 HS1 HS2
            rw [show ((p + 3 : Nat) : Int) = (p : Int) + 3 by omega] at C1
            go_wp2_with fail
            refine C1.mono ?_
            clear C1
            rintro e w2 ⟨rfl, rfl⟩
            go_wp2_with fail
            refine C2.mono ?_
            clear C2
            rintro e w3 ⟨rfl, rfl⟩
            go_wp2
            go_roundw
            case rel => exact ⟨4, 16 * u + d, by go_num, by go_num, by omega, HI3.out, trivial, HU3⟩
            case measure => simp [intOf]
      · have hbt : bat t (p + i) = -1 := by unfold bat; rw [if_neg hend]
        rw [hbt] at C1
        have HX : Hid (R = .bad 31 t.length) := by
          show _ = _
          rw [← HU.out, show 4 - i = (3 - i) + 1 by omega]
          exact unit_end hend
        have q1 : decide ((i : Int) < 4) = true := decide_eq_true (by omega)
        rw [show ((p + i : Nat) : Int) = (p : Int) + (i : Int) by omega] at C1
        clear HU HI hbt
        go_wp2_with fail
        refine C1.mono ?_
        clear C1
        rintro e w2 ⟨rfl, rfl⟩
        have C3 := fault_any 31 (t.length : Int) w2
        go_wp2_with fail
        refine C3.mono ?_
        clear C3
        rintro e w4 ⟨rfl, hB3⟩
        have HBox2 : Hid (Bl 50 w4 w.heap.size (gotC 0 nilV [] 0 0)) := (HBR.out w4 hB3).1
        have HB3 : Hid (Below w.heap.size w w4) := (HBR.out w4 hB3).2
        clear hB3 HBR
        obtain ⟨wz, hwz⟩ : ∃ wz, w4.setRow w.heap.size (gotC 0 nilV [] 31 (t.length : Int)).toArray = wz := ⟨_, rfl⟩
        have HBz : Hid (Bl 50 wz w.heap.size (gotC 0 nilV [] 31 (t.length : Int))) := by rw [← hwz]; exact set_bl HBox2.out
        have Hz : Hid (Below w.heap.size w wz) := by rw [← hwz]; exact setRow_below _ HB3.out (Nat.le_refl _)
        have HWz : Hid (w4.setRow w.heap.size (gotC 0 nilV [] 31 (t.length : Int)).toArray = wz) := hwz
        have hgi : (Tryz.prog.info? 50).map (·.size) = some 5 := by kernel_rfl
        clear hwz
        go_wp2_with (refine wpList_store_row rfl 50 (.tmp 9) (.tmp 28) rfl w.heap.size (gotC 0 nilV [] 31 (t.length : Int)).toArray rfl rfl 50 (gotC 0 nilV [] 0 0).toArray HBox2.out hgi rfl (by simp [gotC, nilV, Value.oneCell']) ?_; rw [HWz.out]; clear HWz hgi)
        (try simp only [Exit.inBlock, Exit.then])
        exact bodyPost_ret (v := .tuple #[.int .i64 0, gotV 0 nilV [] 31 (t.length : Int)]) (results_tgot rfl _ _ w.heap.size 0 nilV [] 31 (t.length : Int) _ rfl rfl HBz.out) rfl ⟨⟨_, rfl, by rw [HX.out]; rfl⟩, Hz.out⟩
    · obtain rfl : i = 4 := by omega
      have HX : Hid (R = .ok u (p + 4)) := by
        show _ = _
        rw [← HU.out]
        show Lx.ok _ _ = _
        congr 1
        show u * 16 ^ 0 = u
        omega
      clear HU HI
      obtain ⟨wz, hwz⟩ : ∃ wz, wr.setRow w.heap.size (gotC ((p : Int) + 4) nilV [] 0 0).toArray = wz := ⟨_, rfl⟩
      have HBz : Hid (Bl 50 wz w.heap.size (gotC ((p : Int) + 4) nilV [] 0 0)) := by rw [← hwz]; exact set_bl HBox.out
      have Hz : Hid (Below w.heap.size w wz) := by rw [← hwz]; exact setRow_below _ HB.out (Nat.le_refl _)
      have HWz : Hid (wr.setRow w.heap.size (gotC ((p : Int) + 4) nilV [] 0 0).toArray = wz) := hwz
      have hgi : (Tryz.prog.info? 50).map (·.size) = some 5 := by kernel_rfl
      clear hwz
      go_wp2_with (refine wpList_store_row rfl 50 (.tmp 9) (.tmp 75) rfl w.heap.size (gotC ((p : Int) + 4) nilV [] 0 0).toArray rfl rfl 50 (gotC 0 nilV [] 0 0).toArray HBox.out hgi rfl (by simp [gotC, nilV, Value.oneCell']) ?_; rw [HWz.out]; clear HWz hgi)
      (try simp only [Exit.inBlock, Exit.then])
      exact bodyPost_ret (v := .tuple #[.int .i64 u, gotV ((p : Int) + 4) nilV [] 0 0]) (results_tgot rfl _ _ w.heap.size ((p : Int) + 4) nilV [] 0 0 _ rfl rfl HBz.out) rfl ⟨⟨_, rfl, by rw [HX.out]; rfl⟩, Hz.out⟩

set_option maxRecDepth 100000 in
set_option maxHeartbeats 8000000 in
theorem four_second (t : List UInt8) (p pl : Nat) (w : World) (hp : p ≤ 2000000000) :
    Calls Tryz.prog 59 #[.string ⟨t.toArray⟩, .int .i64 p, .int .i64 2, .int .i64 pl] w fun e w' => (∃ v, e = .returned v ∧ Got4 (unitF t pl true 4 0 p) v) ∧ Below w.heap.size w w' := by
  obtain ⟨R, hR⟩ : ∃ R, unitF t pl true 4 0 p = R := ⟨_, rfl⟩
  have HR0 : Hid (unitF t pl true (4 - 0) (0 * 16 ^ (4 - 0)) (p + 0) = R) := by rw [← hR]; rfl
  rw [hR]
  clear hR
  have HBox : Hid (Bl 50 (w.alloc (.cells (gotC 0 nilV [] 0 0).toArray 50)) w.heap.size (gotC 0 nilV [] 0 0)) := alloc_bl _ _ _
  have HB : Hid (Below w.heap.size w (w.alloc (.cells (gotC 0 nilV [] 0 0).toArray 50))) := alloc_below _ _
  obtain ⟨w1, hw1⟩ : ∃ w1, w.alloc (.cells (gotC 0 nilV [] 0 0).toArray 50) = w1 := ⟨_, rfl⟩
  rw [hw1] at HBox HB
  have HW1 : Hid (w.alloc (.cells (gotC 0 nilV [] 0 0).toArray 50) = w1) := hw1
  clear hw1
  have HBR : Hid (∀ w3 : World, Below w1.heap.size w1 w3 → Bl 50 w3 w.heap.size (gotC 0 nilV [] 0 0) ∧ Below w.heap.size w w3) := fun w3 h3 => ⟨bl_below HBox.out h3, HB.out.trans (h3.mono HB.out.size)⟩
  go_enter Tryz.func59, Tryz.ntmps59
  go_wp2
  go_loopw [10, 11] (fun s10 s11 wx => ∃ (i : Nat) (u : Int), s10 = .int .i64 u ∧ s11 = .int .i64 i ∧ i ≤ 4 ∧ Snd i u ∧ wx = w1 ∧ Hid (unitF t pl true (4 - i) (u * 16 ^ (4 - i)) (p + i) = R)) (fun _ s _ => 4 - (intOf s).toNat)
  case atStart => exact ⟨0, 0, rfl, rfl, by omega, by unfold Snd; simp, HW1.out, HR0⟩
  case round =>
    obtain ⟨i, u, rfl, rfl, hi, hI, rfl, HU⟩ := hrel
    clear HR0
    have hI2 := hI
    unfold Snd at hI2
    obtain ⟨hu0, -, -, -, -, hu9⟩ := hI2
    have HI : Hid (Snd i u) := hI
    clear hI
    by_cases hlt : i < 4
    · have C1 := byteAt_any t (p + i) wr (by omega)
      by_cases hend : p + i < t.length
      · obtain ⟨c, hc⟩ : ∃ c, t.getD (p + i) 0 = c := ⟨_, rfl⟩
        have hbt : bat t (p + i) = (c.toNat : Int) := by unfold bat; rw [if_pos hend, hc]
        rw [hbt] at C1
        have hcl := c.toNat_lt
        have C2 := hexOf_any (c.toNat : Int) wr ⟨by omega, by omega⟩
        have q2 : decide ((c.toNat : Int) < 0) = false := decide_eq_false (by omega)
        obtain ⟨d, hd⟩ : ∃ d, hxF (c.toNat : Int) = d := ⟨_, rfl⟩
        have hdb := hx_le (c.toNat : Int)
        rw [hd] at C2 hdb
        have HD : Hid (hexV (t.getD (p + i) 0) = d) := by show _ = _; rw [hc, hex_eq, hd]
        clear hc hbt hd
        by_cases hd0 : d < 0
        · have HX : Hid (R = .bad 33 pl) := by
            show _ = _
            rw [← HU.out, show 4 - i = (3 - i) + 1 by omega]
            exact unit_no hend (by rw [HD.out]; exact hd0)
          have q3 : decide (d < 0) = true := decide_eq_true hd0
          have q4 : decide (d ≥ 12) = false := decide_eq_false (by omega)
          have q5 : decide (d < 12) = true := decide_eq_true (by omega)
          have q6 : (d != 13) = true := by simp; omega
          clear HU HD HI
          rcases (show i = 0 ∨ i = 1 ∨ i = 2 ∨ i = 3 by omega) with rfl | rfl | rfl | rfl
          · rw [Nat.add_zero] at C1
            go_wp2_with fail
            refine C1.mono ?_
            clear C1
            rintro e w2 ⟨rfl, rfl⟩
            go_wp2_with fail
            refine C2.mono ?_
            clear C2
            rintro e w3 ⟨rfl, rfl⟩
            have C3 := fault_any 33 (pl : Int) w3
            go_wp2_with fail
            refine C3.mono ?_
            clear C3
            rintro e w4 ⟨rfl, hB3⟩
            have HBox2 : Hid (Bl 50 w4 w.heap.size (gotC 0 nilV [] 0 0)) := (HBR.out w4 hB3).1
            have HB3 : Hid (Below w.heap.size w w4) := (HBR.out w4 hB3).2
            clear hB3 HBR
            obtain ⟨wz, hwz⟩ : ∃ wz, w4.setRow w.heap.size (gotC 0 nilV [] 33 (pl : Int)).toArray = wz := ⟨_, rfl⟩
            have HBz : Hid (Bl 50 wz w.heap.size (gotC 0 nilV [] 33 (pl : Int))) := by rw [← hwz]; exact set_bl HBox2.out
            have Hz : Hid (Below w.heap.size w wz) := by rw [← hwz]; exact setRow_below _ HB3.out (Nat.le_refl _)
            have HWz : Hid (w4.setRow w.heap.size (gotC 0 nilV [] 33 (pl : Int)).toArray = wz) := hwz
            have hgi : (Tryz.prog.info? 50).map (·.size) = some 5 := by kernel_rfl
            clear hwz
            go_wp2_with (refine wpList_store_row rfl 50 (.tmp 9) (.tmp 67) rfl w.heap.size (gotC 0 nilV [] 33 (pl : Int)).toArray rfl rfl 50 (gotC 0 nilV [] 0 0).toArray HBox2.out hgi rfl (by simp [gotC, nilV, Value.oneCell']) ?_; rw [HWz.out]; clear HWz hgi)
            (try simp only [Exit.inBlock, Exit.then])
            exact bodyPost_ret (v := .tuple #[.int .i64 0, gotV 0 nilV [] 33 (pl : Int)]) (results_tgot rfl _ _ w.heap.size 0 nilV [] 33 (pl : Int) _ rfl rfl HBz.out) rfl ⟨⟨_, rfl, by rw [HX.out]; rfl⟩, Hz.out⟩
          · rw [show ((p + 1 : Nat) : Int) = (p : Int) + 1 by omega] at C1
            go_wp2_with fail
            refine C1.mono ?_
            clear C1
            rintro e w2 ⟨rfl, rfl⟩
            go_wp2_with fail
            refine C2.mono ?_
            clear C2
            rintro e w3 ⟨rfl, rfl⟩
            have C3 := fault_any 33 (pl : Int) w3
            go_wp2_with fail
            refine C3.mono ?_
            clear C3
            rintro e w4 ⟨rfl, hB3⟩
            have HBox2 : Hid (Bl 50 w4 w.heap.size (gotC 0 nilV [] 0 0)) := (HBR.out w4 hB3).1
            have HB3 : Hid (Below w.heap.size w w4) := (HBR.out w4 hB3).2
            clear hB3 HBR
            obtain ⟨wz, hwz⟩ : ∃ wz, w4.setRow w.heap.size (gotC 0 nilV [] 33 (pl : Int)).toArray = wz := ⟨_, rfl⟩
            have HBz : Hid (Bl 50 wz w.heap.size (gotC 0 nilV [] 33 (pl : Int))) := by rw [← hwz]; exact set_bl HBox2.out
            have Hz : Hid (Below w.heap.size w wz) := by rw [← hwz]; exact setRow_below _ HB3.out (Nat.le_refl _)
            have HWz : Hid (w4.setRow w.heap.size (gotC 0 nilV [] 33 (pl : Int)).toArray = wz) := hwz
            have hgi : (Tryz.prog.info? 50).map (·.size) = some 5 := by kernel_rfl
            clear hwz
            go_wp2_with (refine wpList_store_row rfl 50 (.tmp 9) (.tmp 67) rfl w.heap.size (gotC 0 nilV [] 33 (pl : Int)).toArray rfl rfl 50 (gotC 0 nilV [] 0 0).toArray HBox2.out hgi rfl (by simp [gotC, nilV, Value.oneCell']) ?_; rw [HWz.out]; clear HWz hgi)
            (try simp only [Exit.inBlock, Exit.then])
            exact bodyPost_ret (v := .tuple #[.int .i64 0, gotV 0 nilV [] 33 (pl : Int)]) (results_tgot rfl _ _ w.heap.size 0 nilV [] 33 (pl : Int) _ rfl rfl HBz.out) rfl ⟨⟨_, rfl, by rw [HX.out]; rfl⟩, Hz.out⟩
          · rw [show ((p + 2 : Nat) : Int) = (p : Int) + 2 by omega] at C1
            go_wp2_with fail
            refine C1.mono ?_
            clear C1
            rintro e w2 ⟨rfl, rfl⟩
            go_wp2_with fail
            refine C2.mono ?_
            clear C2
            rintro e w3 ⟨rfl, rfl⟩
            have C3 := fault_any 33 (pl : Int) w3
            go_wp2_with fail
            refine C3.mono ?_
            clear C3
            rintro e w4 ⟨rfl, hB3⟩
            have HBox2 : Hid (Bl 50 w4 w.heap.size (gotC 0 nilV [] 0 0)) := (HBR.out w4 hB3).1
            have HB3 : Hid (Below w.heap.size w w4) := (HBR.out w4 hB3).2
            clear hB3 HBR
            obtain ⟨wz, hwz⟩ : ∃ wz, w4.setRow w.heap.size (gotC 0 nilV [] 33 (pl : Int)).toArray = wz := ⟨_, rfl⟩
            have HBz : Hid (Bl 50 wz w.heap.size (gotC 0 nilV [] 33 (pl : Int))) := by rw [← hwz]; exact set_bl HBox2.out
            have Hz : Hid (Below w.heap.size w wz) := by rw [← hwz]; exact setRow_below _ HB3.out (Nat.le_refl _)
            have HWz : Hid (w4.setRow w.heap.size (gotC 0 nilV [] 33 (pl : Int)).toArray = wz) := hwz
            have hgi : (Tryz.prog.info? 50).map (·.size) = some 5 := by kernel_rfl
            clear hwz
            go_wp2_with (refine wpList_store_row rfl 50 (.tmp 9) (.tmp 67) rfl w.heap.size (gotC 0 nilV [] 33 (pl : Int)).toArray rfl rfl 50 (gotC 0 nilV [] 0 0).toArray HBox2.out hgi rfl (by simp [gotC, nilV, Value.oneCell']) ?_; rw [HWz.out]; clear HWz hgi)
            (try simp only [Exit.inBlock, Exit.then])
            exact bodyPost_ret (v := .tuple #[.int .i64 0, gotV 0 nilV [] 33 (pl : Int)]) (results_tgot rfl _ _ w.heap.size 0 nilV [] 33 (pl : Int) _ rfl rfl HBz.out) rfl ⟨⟨_, rfl, by rw [HX.out]; rfl⟩, Hz.out⟩
          · rw [show ((p + 3 : Nat) : Int) = (p : Int) + 3 by omega] at C1
            go_wp2_with fail
            refine C1.mono ?_
            clear C1
            rintro e w2 ⟨rfl, rfl⟩
            go_wp2_with fail
            refine C2.mono ?_
            clear C2
            rintro e w3 ⟨rfl, rfl⟩
            have C3 := fault_any 33 (pl : Int) w3
            go_wp2_with fail
            refine C3.mono ?_
            clear C3
            rintro e w4 ⟨rfl, hB3⟩
            have HBox2 : Hid (Bl 50 w4 w.heap.size (gotC 0 nilV [] 0 0)) := (HBR.out w4 hB3).1
            have HB3 : Hid (Below w.heap.size w w4) := (HBR.out w4 hB3).2
            clear hB3 HBR
            obtain ⟨wz, hwz⟩ : ∃ wz, w4.setRow w.heap.size (gotC 0 nilV [] 33 (pl : Int)).toArray = wz := ⟨_, rfl⟩
            have HBz : Hid (Bl 50 wz w.heap.size (gotC 0 nilV [] 33 (pl : Int))) := by rw [← hwz]; exact set_bl HBox2.out
            have Hz : Hid (Below w.heap.size w wz) := by rw [← hwz]; exact setRow_below _ HB3.out (Nat.le_refl _)
            have HWz : Hid (w4.setRow w.heap.size (gotC 0 nilV [] 33 (pl : Int)).toArray = wz) := hwz
            have hgi : (Tryz.prog.info? 50).map (·.size) = some 5 := by kernel_rfl
            clear hwz
            go_wp2_with (refine wpList_store_row rfl 50 (.tmp 9) (.tmp 67) rfl w.heap.size (gotC 0 nilV [] 33 (pl : Int)).toArray rfl rfl 50 (gotC 0 nilV [] 0 0).toArray HBox2.out hgi rfl (by simp [gotC, nilV, Value.oneCell']) ?_; rw [HWz.out]; clear HWz hgi)
            (try simp only [Exit.inBlock, Exit.then])
            exact bodyPost_ret (v := .tuple #[.int .i64 0, gotV 0 nilV [] 33 (pl : Int)]) (results_tgot rfl _ _ w.heap.size 0 nilV [] 33 (pl : Int) _ rfl rfl HBz.out) rfl ⟨⟨_, rfl, by rw [HX.out]; rfl⟩, Hz.out⟩
        · have hst := second_step hlt HI.out HU.out hend HD.out (by omega) hdb.2
          have q3 : decide (d < 0) = false := decide_eq_false hd0
          have HS1 : Hid ((i = 0 ∧ d ≠ 13) ∨ (i = 1 ∧ d < 12) → R = .bad 33 pl) := hst.1
          have HS2 : Hid (¬ ((i = 0 ∧ d ≠ 13) ∨ (i = 1 ∧ d < 12)) → Snd (i + 1) (16 * u + d) ∧ unitF t pl true (4 - (i + 1)) ((16 * u + d) * 16 ^ (4 - (i + 1))) (p + i + 1) = R) := hst.2
          clear hst HU HD HI
          rcases (show i = 0 ∨ i = 1 ∨ i = 2 ∨ i = 3 by omega) with rfl | rfl | rfl | rfl
          · by_cases hd13 : d = 13
            · obtain ⟨hI3, hU3⟩ := HS2.out (by omega)
              have HI3 : Hid (Snd 1 (16 * u + d)) := hI3
              have HU3 : Hid (unitF t pl true (4 - 1) ((16 * u + d) * 16 ^ (4 - 1)) (p + 1) = R) := hU3
              clear hI3 hU3 HS1 HS2
              have q4 : (d != 13) = false := by simpa using hd13
              clear hd13
              rw [Nat.add_zero] at C1
              go_wp2_with fail
              refine C1.mono ?_
              clear C1
              rintro e w2 ⟨rfl, rfl⟩
              go_wp2_with fail
              refine C2.mono ?_
              clear C2
              rintro e w3 ⟨rfl, rfl⟩
              go_wp2
              go_roundw
              case rel => exact ⟨1, 16 * u + d, by go_num, by go_num, by omega, HI3.out, trivial, HU3⟩
              case measure => simp [intOf]
            · have HX : Hid (R = .bad 33 pl) := HS1.out (by omega)
              clear HS1 HS2
              have q4 : (d != 13) = true := by simpa using hd13
              rw [Nat.add_zero] at C1
              go_wp2_with fail
              refine C1.mono ?_
              clear C1
              rintro e w2 ⟨rfl, rfl⟩
              go_wp2_with fail
              refine C2.mono ?_
              clear C2
              rintro e w3 ⟨rfl, rfl⟩
              have C3 := fault_any 33 (pl : Int) w3
              go_wp2_with fail
              refine C3.mono ?_
              clear C3
              rintro e w4 ⟨rfl, hB3⟩
              have HBox2 : Hid (Bl 50 w4 w.heap.size (gotC 0 nilV [] 0 0)) := (HBR.out w4 hB3).1
              have HB3 : Hid (Below w.heap.size w w4) := (HBR.out w4 hB3).2
              clear hB3 HBR
              obtain ⟨wz, hwz⟩ : ∃ wz, w4.setRow w.heap.size (gotC 0 nilV [] 33 (pl : Int)).toArray = wz := ⟨_, rfl⟩
              have HBz : Hid (Bl 50 wz w.heap.size (gotC 0 nilV [] 33 (pl : Int))) := by rw [← hwz]; exact set_bl HBox2.out
              have Hz : Hid (Below w.heap.size w wz) := by rw [← hwz]; exact setRow_below _ HB3.out (Nat.le_refl _)
              have HWz : Hid (w4.setRow w.heap.size (gotC 0 nilV [] 33 (pl : Int)).toArray = wz) := hwz
              have hgi : (Tryz.prog.info? 50).map (·.size) = some 5 := by kernel_rfl
              clear hwz
              go_wp2_with (refine wpList_store_row rfl 50 (.tmp 9) (.tmp 67) rfl w.heap.size (gotC 0 nilV [] 33 (pl : Int)).toArray rfl rfl 50 (gotC 0 nilV [] 0 0).toArray HBox2.out hgi rfl (by simp [gotC, nilV, Value.oneCell']) ?_; rw [HWz.out]; clear HWz hgi)
              (try simp only [Exit.inBlock, Exit.then])
              exact bodyPost_ret (v := .tuple #[.int .i64 0, gotV 0 nilV [] 33 (pl : Int)]) (results_tgot rfl _ _ w.heap.size 0 nilV [] 33 (pl : Int) _ rfl rfl HBz.out) rfl ⟨⟨_, rfl, by rw [HX.out]; rfl⟩, Hz.out⟩
          · by_cases hd12 : d < 12
            · have HX : Hid (R = .bad 33 pl) := HS1.out (by omega)
              clear HS1 HS2
              have q4 : decide (d < 12) = true := decide_eq_true hd12
              rw [show ((p + 1 : Nat) : Int) = (p : Int) + 1 by omega] at C1
              go_wp2_with fail
              refine C1.mono ?_
              clear C1
              rintro e w2 ⟨rfl, rfl⟩
              go_wp2_with fail
              refine C2.mono ?_
              clear C2
              rintro e w3 ⟨rfl, rfl⟩
              have C3 := fault_any 33 (pl : Int) w3
              go_wp2_with fail
              refine C3.mono ?_
              clear C3
              rintro e w4 ⟨rfl, hB3⟩
              have HBox2 : Hid (Bl 50 w4 w.heap.size (gotC 0 nilV [] 0 0)) := (HBR.out w4 hB3).1
              have HB3 : Hid (Below w.heap.size w w4) := (HBR.out w4 hB3).2
              clear hB3 HBR
              obtain ⟨wz, hwz⟩ : ∃ wz, w4.setRow w.heap.size (gotC 0 nilV [] 33 (pl : Int)).toArray = wz := ⟨_, rfl⟩
              have HBz : Hid (Bl 50 wz w.heap.size (gotC 0 nilV [] 33 (pl : Int))) := by rw [← hwz]; exact set_bl HBox2.out
              have Hz : Hid (Below w.heap.size w wz) := by rw [← hwz]; exact setRow_below _ HB3.out (Nat.le_refl _)
              have HWz : Hid (w4.setRow w.heap.size (gotC 0 nilV [] 33 (pl : Int)).toArray = wz) := hwz
              have hgi : (Tryz.prog.info? 50).map (·.size) = some 5 := by kernel_rfl
              clear hwz
              go_wp2_with (refine wpList_store_row rfl 50 (.tmp 9) (.tmp 67) rfl w.heap.size (gotC 0 nilV [] 33 (pl : Int)).toArray rfl rfl 50 (gotC 0 nilV [] 0 0).toArray HBox2.out hgi rfl (by simp [gotC, nilV, Value.oneCell']) ?_; rw [HWz.out]; clear HWz hgi)
              (try simp only [Exit.inBlock, Exit.then])
              exact bodyPost_ret (v := .tuple #[.int .i64 0, gotV 0 nilV [] 33 (pl : Int)]) (results_tgot rfl _ _ w.heap.size 0 nilV [] 33 (pl : Int) _ rfl rfl HBz.out) rfl ⟨⟨_, rfl, by rw [HX.out]; rfl⟩, Hz.out⟩
            · obtain ⟨hI3, hU3⟩ := HS2.out (by omega)
              have HI3 : Hid (Snd 2 (16 * u + d)) := hI3
              have HU3 : Hid (unitF t pl true (4 - 2) ((16 * u + d) * 16 ^ (4 - 2)) (p + 2) = R) := hU3
              clear hI3 hU3 HS1 HS2
              have q4 : decide (d < 12) = false := decide_eq_false hd12
              rw [show ((p + 1 : Nat) : Int) = (p : Int) + 1 by omega] at C1
              go_wp2_with fail
              refine C1.mono ?_
              clear C1
              rintro e w2 ⟨rfl, rfl⟩
              go_wp2_with fail
              refine C2.mono ?_
              clear C2
              rintro e w3 ⟨rfl, rfl⟩
              go_wp2
              go_roundw
              case rel => exact ⟨2, 16 * u + d, by go_num, by go_num, by omega, HI3.out, trivial, HU3⟩
              case measure => simp [intOf]
          · obtain ⟨hI3, hU3⟩ := HS2.out (by omega)
            have HI3 : Hid (Snd 3 (16 * u + d)) := hI3
            have HU3 : Hid (unitF t pl true (4 - 3) ((16 * u + d) * 16 ^ (4 - 3)) (p + 3) = R) := hU3
            clear hI3 hU3 HS1 HS2
            rw [show ((p + 2 : Nat) : Int) = (p : Int) + 2 by omega] at C1
            go_wp2_with fail
            refine C1.mono ?_
            clear C1
            rintro e w2 ⟨rfl, rfl⟩
            go_wp2_with fail
            refine C2.mono ?_
            clear C2
            rintro e w3 ⟨rfl, rfl⟩
            go_wp2
            go_roundw
            case rel => exact ⟨3, 16 * u + d, by go_num, by go_num, by omega, HI3.out, trivial, HU3⟩
            case measure => simp [intOf]
          · obtain ⟨hI3, hU3⟩ := HS2.out (by omega)
            have HI3 : Hid (Snd 4 (16 * u + d)) := hI3
            have HU3 : Hid (unitF t pl true (4 - 4) ((16 * u + d) * 16 ^ (4 - 4)) (p + 4) = R) := hU3
            clear hI3 hU3 HS1 HS2
            rw [show ((p + 3 : Nat) : Int) = (p : Int) + 3 by omega] at C1
            go_wp2_with fail
            refine C1.mono ?_
            clear C1
            rintro e w2 ⟨rfl, rfl⟩
            go_wp2_with fail
            refine C2.mono ?_
            clear C2
            rintro e w3 ⟨rfl, rfl⟩
            go_wp2
            go_roundw
            case rel => exact ⟨4, 16 * u + d, by go_num, by go_num, by omega, HI3.out, trivial, HU3⟩
            case measure => simp [intOf]
      · have hbt : bat t (p + i) = -1 := by unfold bat; rw [if_neg hend]
        rw [hbt] at C1
        have HX : Hid (R = .bad 31 t.length) := by
          show _ = _
          rw [← HU.out, show 4 - i = (3 - i) + 1 by omega]
          exact unit_end hend
        have q1 : decide ((i : Int) < 4) = true := decide_eq_true (by omega)
        rw [show ((p + i : Nat) : Int) = (p : Int) + (i : Int) by omega] at C1
        clear HU HI hbt
        go_wp2_with fail
        refine C1.mono ?_
        clear C1
        rintro e w2 ⟨rfl, rfl⟩
        have C3 := fault_any 31 (t.length : Int) w2
        go_wp2_with fail
        refine C3.mono ?_
        clear C3
        rintro e w4 ⟨rfl, hB3⟩
        have HBox2 : Hid (Bl 50 w4 w.heap.size (gotC 0 nilV [] 0 0)) := (HBR.out w4 hB3).1
        have HB3 : Hid (Below w.heap.size w w4) := (HBR.out w4 hB3).2
        clear hB3 HBR
        obtain ⟨wz, hwz⟩ : ∃ wz, w4.setRow w.heap.size (gotC 0 nilV [] 31 (t.length : Int)).toArray = wz := ⟨_, rfl⟩
        have HBz : Hid (Bl 50 wz w.heap.size (gotC 0 nilV [] 31 (t.length : Int))) := by rw [← hwz]; exact set_bl HBox2.out
        have Hz : Hid (Below w.heap.size w wz) := by rw [← hwz]; exact setRow_below _ HB3.out (Nat.le_refl _)
        have HWz : Hid (w4.setRow w.heap.size (gotC 0 nilV [] 31 (t.length : Int)).toArray = wz) := hwz
        have hgi : (Tryz.prog.info? 50).map (·.size) = some 5 := by kernel_rfl
        clear hwz
        go_wp2_with (refine wpList_store_row rfl 50 (.tmp 9) (.tmp 28) rfl w.heap.size (gotC 0 nilV [] 31 (t.length : Int)).toArray rfl rfl 50 (gotC 0 nilV [] 0 0).toArray HBox2.out hgi rfl (by simp [gotC, nilV, Value.oneCell']) ?_; rw [HWz.out]; clear HWz hgi)
        (try simp only [Exit.inBlock, Exit.then])
        exact bodyPost_ret (v := .tuple #[.int .i64 0, gotV 0 nilV [] 31 (t.length : Int)]) (results_tgot rfl _ _ w.heap.size 0 nilV [] 31 (t.length : Int) _ rfl rfl HBz.out) rfl ⟨⟨_, rfl, by rw [HX.out]; rfl⟩, Hz.out⟩
    · obtain rfl : i = 4 := by omega
      have HX : Hid (R = .ok u (p + 4)) := by
        show _ = _
        rw [← HU.out]
        show Lx.ok _ _ = _
        congr 1
        show u * 16 ^ 0 = u
        omega
      clear HU HI
      obtain ⟨wz, hwz⟩ : ∃ wz, wr.setRow w.heap.size (gotC ((p : Int) + 4) nilV [] 0 0).toArray = wz := ⟨_, rfl⟩
      have HBz : Hid (Bl 50 wz w.heap.size (gotC ((p : Int) + 4) nilV [] 0 0)) := by rw [← hwz]; exact set_bl HBox.out
      have Hz : Hid (Below w.heap.size w wz) := by rw [← hwz]; exact setRow_below _ HB.out (Nat.le_refl _)
      have HWz : Hid (wr.setRow w.heap.size (gotC ((p : Int) + 4) nilV [] 0 0).toArray = wz) := hwz
      have hgi : (Tryz.prog.info? 50).map (·.size) = some 5 := by kernel_rfl
      clear hwz
      go_wp2_with (refine wpList_store_row rfl 50 (.tmp 9) (.tmp 75) rfl w.heap.size (gotC ((p : Int) + 4) nilV [] 0 0).toArray rfl rfl 50 (gotC 0 nilV [] 0 0).toArray HBox.out hgi rfl (by simp [gotC, nilV, Value.oneCell']) ?_; rw [HWz.out]; clear HWz hgi)
      (try simp only [Exit.inBlock, Exit.then])
      exact bodyPost_ret (v := .tuple #[.int .i64 u, gotV ((p : Int) + 4) nilV [] 0 0]) (results_tgot rfl _ _ w.heap.size ((p : Int) + 4) nilV [] 0 0 _ rfl rfl HBz.out) rfl ⟨⟨_, rfl, by rw [HX.out]; rfl⟩, Hz.out⟩

end Go.Proofs.YtapljedegjiliaaGreatDoor

namespace Go.Proofs.YtapljedegjiliaaGreatDoor
open Go.RowKit Go.Shelf

/-- A few bytes, as a string. -/
theorem conv_lit (w : World) (zs : List Int) (hz : ∀ z ∈ zs, 0 ≤ z ∧ z < 256) : (convert 67 9 (.slice (some ⟨w.heap.size, 0, none⟩) zs.length zs.length)).run Tryz.prog (w.alloc (.cells (zs.map (Value.int .u8)).toArray 5)) = .ok (.string ⟨(zs.map fun z => z.toNat.toUInt8).toArray⟩) (w.alloc (.cells (zs.map (Value.int .u8)).toArray 5)) := by
  have hb : Bl 5 (w.alloc (.cells (zs.map (Value.int .u8)).toArray 5)) w.heap.size (zs.map (Value.int .u8)) := alloc_bl _ _ _
  have h := conv_any (w.alloc (.cells (zs.map (Value.int .u8)).toArray 5)) (some ⟨w.heap.size, 0, none⟩) zs.length (zs.map fun z => z.toNat.toUInt8) (by
    refine .inr ⟨w.heap.size, 0, rfl, by rw [alloc_size]; omega, fun j hj => ?_⟩
    have hj2 : j < zs.length := by simpa using hj
    rw [Nat.zero_add, hb.cell j (by simpa using hj2)]
    have := hz zs[j] (List.getElem_mem hj2)
    simp only [List.getElem_map, List.getD_eq_getElem?_getD, List.getElem?_map, List.getElem?_eq_getElem hj2, Option.map_some, Option.getD_some, B]
    rw [u8n _ (by omega)]
    congr 2
    omega)
  rw [List.length_map] at h
  exact h

set_option maxRecDepth 100000 in
set_option maxHeartbeats 4000000 in
theorem utf_one (u : Int) (w : World) (h0 : 0 ≤ u) (h1 : u ≤ 127) : Calls Tryz.prog 60 #[.int .i64 u] w fun e w' => e = .returned (.string ⟨(Lib.encodeRune u).toArray⟩) ∧ Below w.heap.size w w' := by
  have HE : Hid (Lib.encodeRune u = [u.toNat.toUInt8]) := by show _ = _; unfold Lib.encodeRune; rw [Lib.encodeRuneZ_one h0 h1]; rfl
  have q0 : decide (u < 128) = true := decide_eq_true (by omega)
  have hcv : (convert 67 9 (.slice (some ⟨w.heap.size, 0, none⟩) 1 1)).run Tryz.prog (w.alloc (.cells #[.int .u8 u] 5)) = .ok (.string ⟨#[u.toNat.toUInt8]⟩) (w.alloc (.cells #[.int .u8 u] 5)) := conv_lit w [u] (by simp; omega)
  go_enter Tryz.func60, Tryz.ntmps60
  go_wp2
  go_ret
  rw [HE.out]
  exact ⟨rfl, alloc_below _ _⟩
set_option maxRecDepth 100000 in
set_option maxHeartbeats 4000000 in
theorem utf_two (u : Int) (w : World) (h0 : 128 ≤ u) (h1 : u ≤ 2047) : Calls Tryz.prog 60 #[.int .i64 u] w fun e w' => e = .returned (.string ⟨#[(192 + u / 64).toNat.toUInt8, (128 + u % 64).toNat.toUInt8]⟩) ∧ Below w.heap.size w w' := by
  have q0 : decide (u < 128) = false := decide_eq_false (by omega)
  have q1 : decide (u < 2048) = true := decide_eq_true (by omega)
  have d1 : Int.tdiv u 64 = u / 64 := Int.tdiv_eq_ediv_of_nonneg (by omega)
  have d2 : Int.tmod (u) 64 = u % 64 := Int.tmod_eq_emod_of_nonneg (by omega)
  have hcv : (convert 67 9 (.slice (some ⟨w.heap.size, 0, none⟩) 2 2)).run Tryz.prog (w.alloc (.cells #[.int .u8 (192 + u / 64), .int .u8 (128 + u % 64)] 5)) = .ok (.string ⟨#[(192 + u / 64).toNat.toUInt8, (128 + u % 64).toNat.toUInt8]⟩) (w.alloc (.cells #[.int .u8 (192 + u / 64), .int .u8 (128 + u % 64)] 5)) := conv_lit w [192 + u / 64, 128 + u % 64] (by simp; omega)
  go_enter Tryz.func60, Tryz.ntmps60
  go_wp2
  go_ret
  exact ⟨rfl, alloc_below _ _⟩
set_option maxRecDepth 100000 in
set_option maxHeartbeats 4000000 in
theorem utf_three (u : Int) (w : World) (h0 : 2048 ≤ u) (h1 : u ≤ 65535) : Calls Tryz.prog 60 #[.int .i64 u] w fun e w' => e = .returned (.string ⟨#[(224 + u / 4096).toNat.toUInt8, (128 + u / 64 % 64).toNat.toUInt8, (128 + u % 64).toNat.toUInt8]⟩) ∧ Below w.heap.size w w' := by
  have q0 : decide (u < 128) = false := decide_eq_false (by omega)
  have q1 : decide (u < 2048) = false := decide_eq_false (by omega)
  have q2 : decide (u < 65536) = true := decide_eq_true (by omega)
  have d1 : Int.tdiv u 4096 = u / 4096 := Int.tdiv_eq_ediv_of_nonneg (by omega)
  have d2 : Int.tdiv u 64 = u / 64 := Int.tdiv_eq_ediv_of_nonneg (by omega)
  have d3 : Int.tmod (u / 64) 64 = u / 64 % 64 := Int.tmod_eq_emod_of_nonneg (by omega)
  have d4 : Int.tmod (u) 64 = u % 64 := Int.tmod_eq_emod_of_nonneg (by omega)
  have hcv : (convert 67 9 (.slice (some ⟨w.heap.size, 0, none⟩) 3 3)).run Tryz.prog (w.alloc (.cells #[.int .u8 (224 + u / 4096), .int .u8 (128 + u / 64 % 64), .int .u8 (128 + u % 64)] 5)) = .ok (.string ⟨#[(224 + u / 4096).toNat.toUInt8, (128 + u / 64 % 64).toNat.toUInt8, (128 + u % 64).toNat.toUInt8]⟩) (w.alloc (.cells #[.int .u8 (224 + u / 4096), .int .u8 (128 + u / 64 % 64), .int .u8 (128 + u % 64)] 5)) := conv_lit w [224 + u / 4096, 128 + u / 64 % 64, 128 + u % 64] (by simp; omega)
  go_enter Tryz.func60, Tryz.ntmps60
  go_wp2
  go_ret
  exact ⟨rfl, alloc_below _ _⟩
set_option maxRecDepth 100000 in
set_option maxHeartbeats 4000000 in
theorem utf_four (u : Int) (w : World) (h0 : 65536 ≤ u) (h1 : u ≤ 1114111) : Calls Tryz.prog 60 #[.int .i64 u] w fun e w' => e = .returned (.string ⟨#[(240 + u / 262144).toNat.toUInt8, (128 + u / 4096 % 64).toNat.toUInt8, (128 + u / 64 % 64).toNat.toUInt8, (128 + u % 64).toNat.toUInt8]⟩) ∧ Below w.heap.size w w' := by
  have q0 : decide (u < 128) = false := decide_eq_false (by omega)
  have q1 : decide (u < 2048) = false := decide_eq_false (by omega)
  have q2 : decide (u < 65536) = false := decide_eq_false (by omega)
  have d1 : Int.tdiv u 262144 = u / 262144 := Int.tdiv_eq_ediv_of_nonneg (by omega)
  have d2 : Int.tdiv u 4096 = u / 4096 := Int.tdiv_eq_ediv_of_nonneg (by omega)
  have d3 : Int.tmod (u / 4096) 64 = u / 4096 % 64 := Int.tmod_eq_emod_of_nonneg (by omega)
  have d4 : Int.tdiv u 64 = u / 64 := Int.tdiv_eq_ediv_of_nonneg (by omega)
  have d5 : Int.tmod (u / 64) 64 = u / 64 % 64 := Int.tmod_eq_emod_of_nonneg (by omega)
  have d6 : Int.tmod (u) 64 = u % 64 := Int.tmod_eq_emod_of_nonneg (by omega)
  have hcv : (convert 67 9 (.slice (some ⟨w.heap.size, 0, none⟩) 4 4)).run Tryz.prog (w.alloc (.cells #[.int .u8 (240 + u / 262144), .int .u8 (128 + u / 4096 % 64), .int .u8 (128 + u / 64 % 64), .int .u8 (128 + u % 64)] 5)) = .ok (.string ⟨#[(240 + u / 262144).toNat.toUInt8, (128 + u / 4096 % 64).toNat.toUInt8, (128 + u / 64 % 64).toNat.toUInt8, (128 + u % 64).toNat.toUInt8]⟩) (w.alloc (.cells #[.int .u8 (240 + u / 262144), .int .u8 (128 + u / 4096 % 64), .int .u8 (128 + u / 64 % 64), .int .u8 (128 + u % 64)] 5)) := conv_lit w [240 + u / 262144, 128 + u / 4096 % 64, 128 + u / 64 % 64, 128 + u % 64] (by simp; omega)
  go_enter Tryz.func60, Tryz.ntmps60
  go_wp2
  go_ret
  exact ⟨rfl, alloc_below _ _⟩

/-- A code point as UTF-8. -/
theorem utf_any (u : Int) (w : World) (h0 : 0 ≤ u) (h1 : u ≤ 1114111) : Calls Tryz.prog 60 #[.int .i64 u] w fun e w' => (∃ S : List UInt8, e = .returned (.string ⟨S.toArray⟩) ∧ ((u < 55296 ∨ 57344 ≤ u) → S = Lib.encodeRune u)) ∧ Below w.heap.size w w' := by
  rcases (show u ≤ 127 ∨ (128 ≤ u ∧ u ≤ 2047) ∨ (2048 ≤ u ∧ u ≤ 65535) ∨ 65536 ≤ u by omega) with h | h | h | h
  · exact (utf_one u w h0 h).mono fun e w' ⟨he, hb⟩ => ⟨⟨_, he, fun _ => rfl⟩, hb⟩
  · exact (utf_two u w h.1 h.2).mono fun e w' ⟨he, hb⟩ => ⟨⟨_, he, fun _ => by unfold Lib.encodeRune; rw [Lib.encodeRuneZ_two h.1 h.2]; rfl⟩, hb⟩
  · exact (utf_three u w h.1 h.2).mono fun e w' ⟨he, hb⟩ => ⟨⟨_, he, fun hs => by unfold Lib.encodeRune; rw [Lib.encodeRuneZ_three (by omega)]; rfl⟩, hb⟩
  · exact (utf_four u w h h1).mono fun e w' ⟨he, hb⟩ => ⟨⟨_, he, fun hs => by unfold Lib.encodeRune; rw [Lib.encodeRuneZ_four h h1]; rfl⟩, hb⟩

theorem unit_rng {t : List UInt8} {pl : Nat} {sc : Bool} : ∀ (n : Nat) (U : Int) (p : Nat) (v : Int) (q : Nat), unitF t pl sc (n + 1) U p = .ok v q → awF v v sc = true ∧ U ≤ v ∧ v < U + 16 ^ (n + 1)
  | 0, U, p, v, q, h => by
    have hx := hx_le ((t.getD p 0).toNat : Int)
    rw [← hex_eq] at hx
    unfold unitF at h
    simp only at h
    split at h
    · split at h
      · cases h
      · split at h
        · rename_i ha
          unfold unitF at h
          cases h
          simp only [Int.pow_zero, Int.mul_one, Int.sub_self, Int.add_zero] at ha ⊢
          exact ⟨ha, by omega, by omega⟩
        · cases h
    · cases h
  | n + 1, U, p, v, q, h => by
    have hx := hx_le ((t.getD p 0).toNat : Int)
    rw [← hex_eq] at hx
    unfold unitF at h
    simp only at h
    split at h
    · split at h
      · cases h
      · rename_i h0
        split at h
        · have ih := unit_rng n _ (p + 1) v q h
          refine ⟨ih.1, ?_, ?_⟩
          · have : 0 ≤ hexV (t.getD p 0) * 16 ^ (n + 1) := Int.mul_nonneg (by omega) (Int.pow_nonneg (by omega))
            omega
          · have e : (16 : Int) ^ (n + 1 + 1) = 16 * 16 ^ (n + 1) := by rw [Int.pow_succ]; omega
            have hm : hexV (t.getD p 0) * 16 ^ (n + 1) ≤ 15 * 16 ^ (n + 1) := Int.mul_le_mul_of_nonneg_right (by omega) (Int.pow_nonneg (by omega))
            omega
        · cases h
    · cases h

end Go.Proofs.YtapljedegjiliaaGreatDoor

namespace Go.Proofs.YtapljedegjiliaaGreatDoor
open Go.RowKit Go.Shelf

/-- An escape, as the bytes that it says. -/
def esF (t : List UInt8) (p : Nat) : Lx (List UInt8) := match escF t p with
  | .ok r q => .ok (Lib.encodeRune r) q
  | .bad c b => .bad c b
theorem es_letter {t : List UInt8} {p : Nat} {b s : UInt8} (h : p + 1 < t.length) (hb : t.getD (p + 1) 0 = b) (h1 : b ≠ 117) (h2 : b = 47 ∧ s = 47 ∨ b ≠ 47 ∧ escL b = some (s.toNat : Int)) (h128 : s.toNat < 128) : esF t p = .ok [s] (p + 2) := by
  unfold esF escF
  rw [if_pos h, hb]
  simp only
  rw [if_neg h1]
  rcases h2 with ⟨h3, h4⟩ | ⟨h3, h4⟩
  · rw [if_pos h3, h4]
    rfl
  · rw [if_neg h3, h4]
    simp only
    rw [enc_small h128]
theorem es_none {t : List UInt8} {p : Nat} {b : UInt8} (h : p + 1 < t.length) (hb : t.getD (p + 1) 0 = b) (h1 : b ≠ 117) (h2 : b ≠ 47) (h3 : b ∉ escS) : esF t p = .bad 33 p := by
  unfold esF escF
  rw [if_pos h, hb]
  simp only
  rw [if_neg h1, if_neg h2]
  have : escL b = none := by unfold escL; rw [if_pos (by rw [ix_out h3]; omega)]
  rw [this]
theorem bl_set {t : TypeId} {w : World} {b : Nat} {vs : List Value} (h : Bl t w b vs) (j : Nat) (v : Value) : Bl t (w.setCell ⟨b, j, none⟩ v) b (vs.set j v) := h.set j v
theorem bl_other {t : TypeId} {w : World} {b g j : Nat} {vs : List Value} {v : Value} (h : Bl t w b vs) (hne : b ≠ g) : Bl t (w.setCell ⟨g, j, none⟩ v) b vs := by
  unfold Bl at *
  rw [heap_setCell_other w ⟨g, j, none⟩ b v (by simpa using hne)]
  exact h
theorem bl_range {t : TypeId} {w : World} {b : Nat} {vs : List Value} (h : Bl t w b vs) : w.rangeAt b 0 vs := fun j v hv => by
  obtain ⟨hj, e⟩ := List.getElem?_eq_some_iff.1 hv
  rw [Nat.zero_add, ← e]
  exact h.cell j hj
theorem below_set {w0 w : World} {g j : Nat} {v : Value} (h : Below w0.heap.size w0 w) (hg : w0.heap.size ≤ g) : Below w0.heap.size w0 (w.setCell ⟨g, j, none⟩ v) := ⟨h.os, h.tape, h.output, by simpa using h.size, fun k hk => (heap_setCell_other w ⟨g, j, none⟩ k v (by show k ≠ g; omega)).trans (h.block k hk)⟩

set_option maxRecDepth 100000 in
set_option maxHeartbeats 16000000 in
theorem rescape_any (t : List UInt8) (p : Nat) (w : World) (hp : p < t.length) (ht : t.length ≤ 1000000000) :
    Calls Tryz.prog 43 #[.string ⟨t.toArray⟩, .int .i64 p] w fun e w' => (∃ v, e = .returned v ∧ GotS (esF t p) v) ∧ Below w.heap.size w w' := by
  have HBox : Hid (Bl 50 (w.alloc (.cells (gotC 0 nilV [] 0 0).toArray 50)) w.heap.size (gotC 0 nilV [] 0 0)) := alloc_bl _ _ _
  have HB : Hid (Below w.heap.size w (w.alloc (.cells (gotC 0 nilV [] 0 0).toArray 50))) := alloc_below _ _
  have HSz : Hid (w.heap.size < (w.alloc (.cells (gotC 0 nilV [] 0 0).toArray 50)).heap.size) := by show _ < _; rw [alloc_size]; omega
  have C1 := byteAt_any t (p + 1) (w.alloc (.cells (gotC 0 nilV [] 0 0).toArray 50)) (by omega)
  rw [show ((p + 1 : Nat) : Int) = (p : Int) + 1 by omega] at C1
  have HBR : Hid (∀ w3 : World, Below (w.alloc (.cells (gotC 0 nilV [] 0 0).toArray 50)).heap.size (w.alloc (.cells (gotC 0 nilV [] 0 0).toArray 50)) w3 → Bl 50 w3 w.heap.size (gotC 0 nilV [] 0 0) ∧ Below w.heap.size w w3 ∧ w.heap.size < w3.heap.size) := fun w3 h3 => ⟨bl_below HBox.out h3, HB.out.trans (h3.mono HB.out.size), Nat.lt_of_lt_of_le HSz.out h3.size⟩
  generalize hw1 : w.alloc (.cells (gotC 0 nilV [] 0 0).toArray 50) = w1 at HBox HB C1 HBR HSz
  have HW1 : Hid (w.alloc (.cells #[.int .i64 0, .slice none 0 0, .string ⟨#[]⟩, .int .i64 0, .int .i64 0] 50) = w1) := hw1
  clear hw1
  by_cases hend : p + 1 < t.length
  case neg =>
    have HX : Hid (esF t p = .bad 31 t.length) := by show _ = _; unfold esF escF; rw [if_neg hend]
    have hbt : bat t (p + 1) = -1 := by unfold bat; rw [if_neg hend]
    rw [hbt] at C1
    clear hbt
    go_enter Tryz.func43, Tryz.ntmps43
    go_wp2_with fail
    rw [HW1.out]
    refine C1.mono ?_
    clear C1
    rintro e w2 ⟨rfl, rfl⟩
    have C2 := fault_any 31 (t.length : Int) w2
    go_wp2_with fail
    refine C2.mono ?_
    clear C2
    rintro e w3 ⟨rfl, hB3⟩
    have HBox2 : Hid (Bl 50 w3 w.heap.size (gotC 0 nilV [] 0 0)) := (HBR.out w3 hB3).1
    have HB3 : Hid (Below w.heap.size w w3) := (HBR.out w3 hB3).2.1
    clear hB3 HBR
    obtain ⟨wz, hwz⟩ : ∃ wz, w3.setRow w.heap.size (gotC 0 nilV [] 31 (t.length : Int)).toArray = wz := ⟨_, rfl⟩
    have HBz : Hid (Bl 50 wz w.heap.size (gotC 0 nilV [] 31 (t.length : Int))) := by rw [← hwz]; exact set_bl HBox2.out
    have Hz : Hid (Below w.heap.size w wz) := by rw [← hwz]; exact setRow_below _ HB3.out (Nat.le_refl _)
    have HWz : Hid (w3.setRow w.heap.size (gotC 0 nilV [] 31 (t.length : Int)).toArray = wz) := hwz
    have hgi : (Tryz.prog.info? 50).map (·.size) = some 5 := by kernel_rfl
    clear hwz
    go_wp2_with (refine wpList_store_row rfl 50 (.tmp 4) (.tmp 22) rfl w.heap.size (gotC 0 nilV [] 31 (t.length : Int)).toArray rfl rfl 50 (gotC 0 nilV [] 0 0).toArray HBox2.out hgi rfl (by simp [gotC, nilV, Value.oneCell']) ?_; rw [HWz.out]; clear HWz hgi)
    (try simp only [Exit.inBlock, Exit.then])
    exact bodyPost_ret (v := gotV 0 nilV [] 31 (t.length : Int)) (results_got rfl _ _ w.heap.size 0 nilV [] 31 (t.length : Int) rfl HBz.out) rfl ⟨⟨_, rfl, by rw [HX.out]; exact ⟨_, _, rfl⟩⟩, Hz.out⟩
  case pos =>
    obtain ⟨b, hb⟩ : ∃ b, t.getD (p + 1) 0 = b := ⟨_, rfl⟩
    have hbt : bat t (p + 1) = (b.toNat : Int) := by unfold bat; rw [if_pos hend, hb]
    rw [hbt] at C1
    clear hbt
    by_cases hlet : b = 34 ∨ b = 92 ∨ b = 47 ∨ b = 98 ∨ b = 102 ∨ b = 110 ∨ b = 114 ∨ b = 116
    · rcases hlet with rfl | rfl | rfl | rfl | rfl | rfl | rfl | rfl
      · have HX : Hid (esF t p = .ok [34] (p + 2)) := es_letter (s := 34) hend hb (by decide) (by decide) (by decide)
        have hcv : (convert 67 9 (.slice (some ⟨w1.heap.size, 0, none⟩) 1 1)).run Tryz.prog (w1.alloc (.cells #[.int .u8 34] 5)) = .ok (.string ⟨#[34]⟩) (w1.alloc (.cells #[.int .u8 34] 5)) := conv_lit w1 [34] (by simp)
        have HQ := HBR.out (w1.alloc (.cells #[.int .u8 34] 5)) (alloc_below _ _)
        have HBox2 : Hid (Bl 50 (w1.alloc (.cells #[.int .u8 34] 5)) w.heap.size (gotC 0 nilV [] 0 0)) := HQ.1
        have HB3 : Hid (Below w.heap.size w (w1.alloc (.cells #[.int .u8 34] 5))) := HQ.2.1
        have C1 : Calls Tryz.prog 27 #[.string ⟨t.toArray⟩, .int .i64 ((p : Int) + 1)] w1 fun e w' => e = .returned (.int .i64 34) ∧ w' = w1 := C1
        clear HQ HBR hb
        go_enter Tryz.func43, Tryz.ntmps43
        go_wp2_with fail
        rw [HW1.out]
        refine C1.mono ?_
        clear C1
        rintro e w2 ⟨rfl, rfl⟩
        obtain ⟨wz, hwz⟩ : ∃ wz, (w2.alloc (.cells #[.int .u8 34] 5)).setRow w.heap.size (gotC ((p : Int) + 2) nilV [34] 0 0).toArray = wz := ⟨_, rfl⟩
        have HBz : Hid (Bl 50 wz w.heap.size (gotC ((p : Int) + 2) nilV [34] 0 0)) := by rw [← hwz]; exact set_bl HBox2.out
        have Hz : Hid (Below w.heap.size w wz) := by rw [← hwz]; exact setRow_below _ HB3.out (Nat.le_refl _)
        have HWz : Hid ((w2.alloc (.cells #[.int .u8 34] 5)).setRow w.heap.size (gotC ((p : Int) + 2) nilV [34] 0 0).toArray = wz) := hwz
        have hgi : (Tryz.prog.info? 50).map (·.size) = some 5 := by kernel_rfl
        clear hwz
        go_wp2_with (refine wpList_store_row rfl 50 (.tmp 4) (.tmp 123) rfl w.heap.size (gotC ((p : Int) + 2) nilV [34] 0 0).toArray rfl rfl 50 (gotC 0 nilV [] 0 0).toArray HBox2.out hgi rfl (by simp [gotC, nilV, Value.oneCell']) ?_; rw [HWz.out]; clear HWz hgi)
        (try simp only [Exit.inBlock, Exit.then])
        exact bodyPost_ret (v := gotV ((p : Int) + 2) nilV [34] 0 0) (results_got rfl _ _ w.heap.size ((p : Int) + 2) nilV [34] 0 0 rfl HBz.out) rfl ⟨⟨_, rfl, by rw [HX.out]; rfl⟩, Hz.out⟩
      · have HX : Hid (esF t p = .ok [92] (p + 2)) := es_letter (s := 92) hend hb (by decide) (by decide) (by decide)
        have hcv : (convert 67 9 (.slice (some ⟨w1.heap.size, 0, none⟩) 1 1)).run Tryz.prog (w1.alloc (.cells #[.int .u8 92] 5)) = .ok (.string ⟨#[92]⟩) (w1.alloc (.cells #[.int .u8 92] 5)) := conv_lit w1 [92] (by simp)
        have HQ := HBR.out (w1.alloc (.cells #[.int .u8 92] 5)) (alloc_below _ _)
        have HBox2 : Hid (Bl 50 (w1.alloc (.cells #[.int .u8 92] 5)) w.heap.size (gotC 0 nilV [] 0 0)) := HQ.1
        have HB3 : Hid (Below w.heap.size w (w1.alloc (.cells #[.int .u8 92] 5))) := HQ.2.1
        have C1 : Calls Tryz.prog 27 #[.string ⟨t.toArray⟩, .int .i64 ((p : Int) + 1)] w1 fun e w' => e = .returned (.int .i64 92) ∧ w' = w1 := C1
        clear HQ HBR hb
        go_enter Tryz.func43, Tryz.ntmps43
        go_wp2_with fail
        rw [HW1.out]
        refine C1.mono ?_
        clear C1
        rintro e w2 ⟨rfl, rfl⟩
        obtain ⟨wz, hwz⟩ : ∃ wz, (w2.alloc (.cells #[.int .u8 92] 5)).setRow w.heap.size (gotC ((p : Int) + 2) nilV [92] 0 0).toArray = wz := ⟨_, rfl⟩
        have HBz : Hid (Bl 50 wz w.heap.size (gotC ((p : Int) + 2) nilV [92] 0 0)) := by rw [← hwz]; exact set_bl HBox2.out
        have Hz : Hid (Below w.heap.size w wz) := by rw [← hwz]; exact setRow_below _ HB3.out (Nat.le_refl _)
        have HWz : Hid ((w2.alloc (.cells #[.int .u8 92] 5)).setRow w.heap.size (gotC ((p : Int) + 2) nilV [92] 0 0).toArray = wz) := hwz
        have hgi : (Tryz.prog.info? 50).map (·.size) = some 5 := by kernel_rfl
        clear hwz
        go_wp2_with (refine wpList_store_row rfl 50 (.tmp 4) (.tmp 123) rfl w.heap.size (gotC ((p : Int) + 2) nilV [92] 0 0).toArray rfl rfl 50 (gotC 0 nilV [] 0 0).toArray HBox2.out hgi rfl (by simp [gotC, nilV, Value.oneCell']) ?_; rw [HWz.out]; clear HWz hgi)
        (try simp only [Exit.inBlock, Exit.then])
        exact bodyPost_ret (v := gotV ((p : Int) + 2) nilV [92] 0 0) (results_got rfl _ _ w.heap.size ((p : Int) + 2) nilV [92] 0 0 rfl HBz.out) rfl ⟨⟨_, rfl, by rw [HX.out]; rfl⟩, Hz.out⟩
      · have HX : Hid (esF t p = .ok [47] (p + 2)) := es_letter (s := 47) hend hb (by decide) (by decide) (by decide)
        have hcv : (convert 67 9 (.slice (some ⟨w1.heap.size, 0, none⟩) 1 1)).run Tryz.prog (w1.alloc (.cells #[.int .u8 47] 5)) = .ok (.string ⟨#[47]⟩) (w1.alloc (.cells #[.int .u8 47] 5)) := conv_lit w1 [47] (by simp)
        have HQ := HBR.out (w1.alloc (.cells #[.int .u8 47] 5)) (alloc_below _ _)
        have HBox2 : Hid (Bl 50 (w1.alloc (.cells #[.int .u8 47] 5)) w.heap.size (gotC 0 nilV [] 0 0)) := HQ.1
        have HB3 : Hid (Below w.heap.size w (w1.alloc (.cells #[.int .u8 47] 5))) := HQ.2.1
        have C1 : Calls Tryz.prog 27 #[.string ⟨t.toArray⟩, .int .i64 ((p : Int) + 1)] w1 fun e w' => e = .returned (.int .i64 47) ∧ w' = w1 := C1
        clear HQ HBR hb
        go_enter Tryz.func43, Tryz.ntmps43
        go_wp2_with fail
        rw [HW1.out]
        refine C1.mono ?_
        clear C1
        rintro e w2 ⟨rfl, rfl⟩
        obtain ⟨wz, hwz⟩ : ∃ wz, (w2.alloc (.cells #[.int .u8 47] 5)).setRow w.heap.size (gotC ((p : Int) + 2) nilV [47] 0 0).toArray = wz := ⟨_, rfl⟩
        have HBz : Hid (Bl 50 wz w.heap.size (gotC ((p : Int) + 2) nilV [47] 0 0)) := by rw [← hwz]; exact set_bl HBox2.out
        have Hz : Hid (Below w.heap.size w wz) := by rw [← hwz]; exact setRow_below _ HB3.out (Nat.le_refl _)
        have HWz : Hid ((w2.alloc (.cells #[.int .u8 47] 5)).setRow w.heap.size (gotC ((p : Int) + 2) nilV [47] 0 0).toArray = wz) := hwz
        have hgi : (Tryz.prog.info? 50).map (·.size) = some 5 := by kernel_rfl
        clear hwz
        go_wp2_with (refine wpList_store_row rfl 50 (.tmp 4) (.tmp 123) rfl w.heap.size (gotC ((p : Int) + 2) nilV [47] 0 0).toArray rfl rfl 50 (gotC 0 nilV [] 0 0).toArray HBox2.out hgi rfl (by simp [gotC, nilV, Value.oneCell']) ?_; rw [HWz.out]; clear HWz hgi)
        (try simp only [Exit.inBlock, Exit.then])
        exact bodyPost_ret (v := gotV ((p : Int) + 2) nilV [47] 0 0) (results_got rfl _ _ w.heap.size ((p : Int) + 2) nilV [47] 0 0 rfl HBz.out) rfl ⟨⟨_, rfl, by rw [HX.out]; rfl⟩, Hz.out⟩
      · have HX : Hid (esF t p = .ok [8] (p + 2)) := es_letter (s := 8) hend hb (by decide) (by decide) (by decide)
        have hcv : (convert 67 9 (.slice (some ⟨w1.heap.size, 0, none⟩) 1 1)).run Tryz.prog (w1.alloc (.cells #[.int .u8 8] 5)) = .ok (.string ⟨#[8]⟩) (w1.alloc (.cells #[.int .u8 8] 5)) := conv_lit w1 [8] (by simp)
        have HQ := HBR.out (w1.alloc (.cells #[.int .u8 8] 5)) (alloc_below _ _)
        have HBox2 : Hid (Bl 50 (w1.alloc (.cells #[.int .u8 8] 5)) w.heap.size (gotC 0 nilV [] 0 0)) := HQ.1
        have HB3 : Hid (Below w.heap.size w (w1.alloc (.cells #[.int .u8 8] 5))) := HQ.2.1
        have C1 : Calls Tryz.prog 27 #[.string ⟨t.toArray⟩, .int .i64 ((p : Int) + 1)] w1 fun e w' => e = .returned (.int .i64 98) ∧ w' = w1 := C1
        clear HQ HBR hb
        go_enter Tryz.func43, Tryz.ntmps43
        go_wp2_with fail
        rw [HW1.out]
        refine C1.mono ?_
        clear C1
        rintro e w2 ⟨rfl, rfl⟩
        obtain ⟨wz, hwz⟩ : ∃ wz, (w2.alloc (.cells #[.int .u8 8] 5)).setRow w.heap.size (gotC ((p : Int) + 2) nilV [8] 0 0).toArray = wz := ⟨_, rfl⟩
        have HBz : Hid (Bl 50 wz w.heap.size (gotC ((p : Int) + 2) nilV [8] 0 0)) := by rw [← hwz]; exact set_bl HBox2.out
        have Hz : Hid (Below w.heap.size w wz) := by rw [← hwz]; exact setRow_below _ HB3.out (Nat.le_refl _)
        have HWz : Hid ((w2.alloc (.cells #[.int .u8 8] 5)).setRow w.heap.size (gotC ((p : Int) + 2) nilV [8] 0 0).toArray = wz) := hwz
        have hgi : (Tryz.prog.info? 50).map (·.size) = some 5 := by kernel_rfl
        clear hwz
        go_wp2_with (refine wpList_store_row rfl 50 (.tmp 4) (.tmp 123) rfl w.heap.size (gotC ((p : Int) + 2) nilV [8] 0 0).toArray rfl rfl 50 (gotC 0 nilV [] 0 0).toArray HBox2.out hgi rfl (by simp [gotC, nilV, Value.oneCell']) ?_; rw [HWz.out]; clear HWz hgi)
        (try simp only [Exit.inBlock, Exit.then])
        exact bodyPost_ret (v := gotV ((p : Int) + 2) nilV [8] 0 0) (results_got rfl _ _ w.heap.size ((p : Int) + 2) nilV [8] 0 0 rfl HBz.out) rfl ⟨⟨_, rfl, by rw [HX.out]; rfl⟩, Hz.out⟩
      · have HX : Hid (esF t p = .ok [12] (p + 2)) := es_letter (s := 12) hend hb (by decide) (by decide) (by decide)
        have hcv : (convert 67 9 (.slice (some ⟨w1.heap.size, 0, none⟩) 1 1)).run Tryz.prog (w1.alloc (.cells #[.int .u8 12] 5)) = .ok (.string ⟨#[12]⟩) (w1.alloc (.cells #[.int .u8 12] 5)) := conv_lit w1 [12] (by simp)
        have HQ := HBR.out (w1.alloc (.cells #[.int .u8 12] 5)) (alloc_below _ _)
        have HBox2 : Hid (Bl 50 (w1.alloc (.cells #[.int .u8 12] 5)) w.heap.size (gotC 0 nilV [] 0 0)) := HQ.1
        have HB3 : Hid (Below w.heap.size w (w1.alloc (.cells #[.int .u8 12] 5))) := HQ.2.1
        have C1 : Calls Tryz.prog 27 #[.string ⟨t.toArray⟩, .int .i64 ((p : Int) + 1)] w1 fun e w' => e = .returned (.int .i64 102) ∧ w' = w1 := C1
        clear HQ HBR hb
        go_enter Tryz.func43, Tryz.ntmps43
        go_wp2_with fail
        rw [HW1.out]
        refine C1.mono ?_
        clear C1
        rintro e w2 ⟨rfl, rfl⟩
        obtain ⟨wz, hwz⟩ : ∃ wz, (w2.alloc (.cells #[.int .u8 12] 5)).setRow w.heap.size (gotC ((p : Int) + 2) nilV [12] 0 0).toArray = wz := ⟨_, rfl⟩
        have HBz : Hid (Bl 50 wz w.heap.size (gotC ((p : Int) + 2) nilV [12] 0 0)) := by rw [← hwz]; exact set_bl HBox2.out
        have Hz : Hid (Below w.heap.size w wz) := by rw [← hwz]; exact setRow_below _ HB3.out (Nat.le_refl _)
        have HWz : Hid ((w2.alloc (.cells #[.int .u8 12] 5)).setRow w.heap.size (gotC ((p : Int) + 2) nilV [12] 0 0).toArray = wz) := hwz
        have hgi : (Tryz.prog.info? 50).map (·.size) = some 5 := by kernel_rfl
        clear hwz
        go_wp2_with (refine wpList_store_row rfl 50 (.tmp 4) (.tmp 123) rfl w.heap.size (gotC ((p : Int) + 2) nilV [12] 0 0).toArray rfl rfl 50 (gotC 0 nilV [] 0 0).toArray HBox2.out hgi rfl (by simp [gotC, nilV, Value.oneCell']) ?_; rw [HWz.out]; clear HWz hgi)
        (try simp only [Exit.inBlock, Exit.then])
        exact bodyPost_ret (v := gotV ((p : Int) + 2) nilV [12] 0 0) (results_got rfl _ _ w.heap.size ((p : Int) + 2) nilV [12] 0 0 rfl HBz.out) rfl ⟨⟨_, rfl, by rw [HX.out]; rfl⟩, Hz.out⟩
      · have HX : Hid (esF t p = .ok [10] (p + 2)) := es_letter (s := 10) hend hb (by decide) (by decide) (by decide)
        have hcv : (convert 67 9 (.slice (some ⟨w1.heap.size, 0, none⟩) 1 1)).run Tryz.prog (w1.alloc (.cells #[.int .u8 10] 5)) = .ok (.string ⟨#[10]⟩) (w1.alloc (.cells #[.int .u8 10] 5)) := conv_lit w1 [10] (by simp)
        have HQ := HBR.out (w1.alloc (.cells #[.int .u8 10] 5)) (alloc_below _ _)
        have HBox2 : Hid (Bl 50 (w1.alloc (.cells #[.int .u8 10] 5)) w.heap.size (gotC 0 nilV [] 0 0)) := HQ.1
        have HB3 : Hid (Below w.heap.size w (w1.alloc (.cells #[.int .u8 10] 5))) := HQ.2.1
        have C1 : Calls Tryz.prog 27 #[.string ⟨t.toArray⟩, .int .i64 ((p : Int) + 1)] w1 fun e w' => e = .returned (.int .i64 110) ∧ w' = w1 := C1
        clear HQ HBR hb
        go_enter Tryz.func43, Tryz.ntmps43
        go_wp2_with fail
        rw [HW1.out]
        refine C1.mono ?_
        clear C1
        rintro e w2 ⟨rfl, rfl⟩
        obtain ⟨wz, hwz⟩ : ∃ wz, (w2.alloc (.cells #[.int .u8 10] 5)).setRow w.heap.size (gotC ((p : Int) + 2) nilV [10] 0 0).toArray = wz := ⟨_, rfl⟩
        have HBz : Hid (Bl 50 wz w.heap.size (gotC ((p : Int) + 2) nilV [10] 0 0)) := by rw [← hwz]; exact set_bl HBox2.out
        have Hz : Hid (Below w.heap.size w wz) := by rw [← hwz]; exact setRow_below _ HB3.out (Nat.le_refl _)
        have HWz : Hid ((w2.alloc (.cells #[.int .u8 10] 5)).setRow w.heap.size (gotC ((p : Int) + 2) nilV [10] 0 0).toArray = wz) := hwz
        have hgi : (Tryz.prog.info? 50).map (·.size) = some 5 := by kernel_rfl
        clear hwz
        go_wp2_with (refine wpList_store_row rfl 50 (.tmp 4) (.tmp 123) rfl w.heap.size (gotC ((p : Int) + 2) nilV [10] 0 0).toArray rfl rfl 50 (gotC 0 nilV [] 0 0).toArray HBox2.out hgi rfl (by simp [gotC, nilV, Value.oneCell']) ?_; rw [HWz.out]; clear HWz hgi)
        (try simp only [Exit.inBlock, Exit.then])
        exact bodyPost_ret (v := gotV ((p : Int) + 2) nilV [10] 0 0) (results_got rfl _ _ w.heap.size ((p : Int) + 2) nilV [10] 0 0 rfl HBz.out) rfl ⟨⟨_, rfl, by rw [HX.out]; rfl⟩, Hz.out⟩
      · have HX : Hid (esF t p = .ok [13] (p + 2)) := es_letter (s := 13) hend hb (by decide) (by decide) (by decide)
        have hcv : (convert 67 9 (.slice (some ⟨w1.heap.size, 0, none⟩) 1 1)).run Tryz.prog (w1.alloc (.cells #[.int .u8 13] 5)) = .ok (.string ⟨#[13]⟩) (w1.alloc (.cells #[.int .u8 13] 5)) := conv_lit w1 [13] (by simp)
        have HQ := HBR.out (w1.alloc (.cells #[.int .u8 13] 5)) (alloc_below _ _)
        have HBox2 : Hid (Bl 50 (w1.alloc (.cells #[.int .u8 13] 5)) w.heap.size (gotC 0 nilV [] 0 0)) := HQ.1
        have HB3 : Hid (Below w.heap.size w (w1.alloc (.cells #[.int .u8 13] 5))) := HQ.2.1
        have C1 : Calls Tryz.prog 27 #[.string ⟨t.toArray⟩, .int .i64 ((p : Int) + 1)] w1 fun e w' => e = .returned (.int .i64 114) ∧ w' = w1 := C1
        clear HQ HBR hb
        go_enter Tryz.func43, Tryz.ntmps43
        go_wp2_with fail
        rw [HW1.out]
        refine C1.mono ?_
        clear C1
        rintro e w2 ⟨rfl, rfl⟩
        obtain ⟨wz, hwz⟩ : ∃ wz, (w2.alloc (.cells #[.int .u8 13] 5)).setRow w.heap.size (gotC ((p : Int) + 2) nilV [13] 0 0).toArray = wz := ⟨_, rfl⟩
        have HBz : Hid (Bl 50 wz w.heap.size (gotC ((p : Int) + 2) nilV [13] 0 0)) := by rw [← hwz]; exact set_bl HBox2.out
        have Hz : Hid (Below w.heap.size w wz) := by rw [← hwz]; exact setRow_below _ HB3.out (Nat.le_refl _)
        have HWz : Hid ((w2.alloc (.cells #[.int .u8 13] 5)).setRow w.heap.size (gotC ((p : Int) + 2) nilV [13] 0 0).toArray = wz) := hwz
        have hgi : (Tryz.prog.info? 50).map (·.size) = some 5 := by kernel_rfl
        clear hwz
        go_wp2_with (refine wpList_store_row rfl 50 (.tmp 4) (.tmp 123) rfl w.heap.size (gotC ((p : Int) + 2) nilV [13] 0 0).toArray rfl rfl 50 (gotC 0 nilV [] 0 0).toArray HBox2.out hgi rfl (by simp [gotC, nilV, Value.oneCell']) ?_; rw [HWz.out]; clear HWz hgi)
        (try simp only [Exit.inBlock, Exit.then])
        exact bodyPost_ret (v := gotV ((p : Int) + 2) nilV [13] 0 0) (results_got rfl _ _ w.heap.size ((p : Int) + 2) nilV [13] 0 0 rfl HBz.out) rfl ⟨⟨_, rfl, by rw [HX.out]; rfl⟩, Hz.out⟩
      · have HX : Hid (esF t p = .ok [9] (p + 2)) := es_letter (s := 9) hend hb (by decide) (by decide) (by decide)
        have hcv : (convert 67 9 (.slice (some ⟨w1.heap.size, 0, none⟩) 1 1)).run Tryz.prog (w1.alloc (.cells #[.int .u8 9] 5)) = .ok (.string ⟨#[9]⟩) (w1.alloc (.cells #[.int .u8 9] 5)) := conv_lit w1 [9] (by simp)
        have HQ := HBR.out (w1.alloc (.cells #[.int .u8 9] 5)) (alloc_below _ _)
        have HBox2 : Hid (Bl 50 (w1.alloc (.cells #[.int .u8 9] 5)) w.heap.size (gotC 0 nilV [] 0 0)) := HQ.1
        have HB3 : Hid (Below w.heap.size w (w1.alloc (.cells #[.int .u8 9] 5))) := HQ.2.1
        have C1 : Calls Tryz.prog 27 #[.string ⟨t.toArray⟩, .int .i64 ((p : Int) + 1)] w1 fun e w' => e = .returned (.int .i64 116) ∧ w' = w1 := C1
        clear HQ HBR hb
        go_enter Tryz.func43, Tryz.ntmps43
        go_wp2_with fail
        rw [HW1.out]
        refine C1.mono ?_
        clear C1
        rintro e w2 ⟨rfl, rfl⟩
        obtain ⟨wz, hwz⟩ : ∃ wz, (w2.alloc (.cells #[.int .u8 9] 5)).setRow w.heap.size (gotC ((p : Int) + 2) nilV [9] 0 0).toArray = wz := ⟨_, rfl⟩
        have HBz : Hid (Bl 50 wz w.heap.size (gotC ((p : Int) + 2) nilV [9] 0 0)) := by rw [← hwz]; exact set_bl HBox2.out
        have Hz : Hid (Below w.heap.size w wz) := by rw [← hwz]; exact setRow_below _ HB3.out (Nat.le_refl _)
        have HWz : Hid ((w2.alloc (.cells #[.int .u8 9] 5)).setRow w.heap.size (gotC ((p : Int) + 2) nilV [9] 0 0).toArray = wz) := hwz
        have hgi : (Tryz.prog.info? 50).map (·.size) = some 5 := by kernel_rfl
        clear hwz
        go_wp2_with (refine wpList_store_row rfl 50 (.tmp 4) (.tmp 123) rfl w.heap.size (gotC ((p : Int) + 2) nilV [9] 0 0).toArray rfl rfl 50 (gotC 0 nilV [] 0 0).toArray HBox2.out hgi rfl (by simp [gotC, nilV, Value.oneCell']) ?_; rw [HWz.out]; clear HWz hgi)
        (try simp only [Exit.inBlock, Exit.then])
        exact bodyPost_ret (v := gotV ((p : Int) + 2) nilV [9] 0 0) (results_got rfl _ _ w.heap.size ((p : Int) + 2) nilV [9] 0 0 rfl HBz.out) rfl ⟨⟨_, rfl, by rw [HX.out]; rfl⟩, Hz.out⟩
    · by_cases hu : b = 117
      case neg =>
        have HX : Hid (esF t p = .bad 33 p) := es_none hend hb hu (fun e => hlet (by simp [e])) (fun hm => hlet (by simp only [escS, List.mem_cons, List.not_mem_nil, or_false] at hm; rcases hm with h | h | h | h | h | h | h <;> simp [h]))
        have hne : ∀ x : UInt8, b ≠ x → ((b.toNat : Int) == (x.toNat : Int)) = false := fun x hx => by
          simp only [beq_eq_false_iff_ne, ne_eq, Int.natCast_inj]
          exact fun e => hx (UInt8.toNat_inj.1 e)
        have r0 : ((b.toNat : Int) == -1) = false := by simp
        have r34 : ((b.toNat : Int) == 34) = false := hne 34 (fun e => hlet (by simp [e]))
        have r92 : ((b.toNat : Int) == 92) = false := hne 92 (fun e => hlet (by simp [e]))
        have r47 : ((b.toNat : Int) == 47) = false := hne 47 (fun e => hlet (by simp [e]))
        have r98 : ((b.toNat : Int) == 98) = false := hne 98 (fun e => hlet (by simp [e]))
        have r102 : ((b.toNat : Int) == 102) = false := hne 102 (fun e => hlet (by simp [e]))
        have r110 : ((b.toNat : Int) == 110) = false := hne 110 (fun e => hlet (by simp [e]))
        have r114 : ((b.toNat : Int) == 114) = false := hne 114 (fun e => hlet (by simp [e]))
        have r116 : ((b.toNat : Int) == 116) = false := hne 116 (fun e => hlet (by simp [e]))
        have r117 : ((b.toNat : Int) == 117) = false := hne 117 hu
        generalize (b.toNat : Int) = B0 at *
        clear hne hlet hu hb
        go_enter Tryz.func43, Tryz.ntmps43
        go_wp2_with fail
        rw [HW1.out]
        refine C1.mono ?_
        clear C1
        rintro e w2 ⟨rfl, rfl⟩
        have C2 := fault_any 33 (p : Int) w2
        go_wp2_with fail
        refine C2.mono ?_
        clear C2
        rintro e w3 ⟨rfl, hB3⟩
        have HBox2 : Hid (Bl 50 w3 w.heap.size (gotC 0 nilV [] 0 0)) := (HBR.out w3 hB3).1
        have HB3 : Hid (Below w.heap.size w w3) := (HBR.out w3 hB3).2.1
        clear hB3 HBR
        obtain ⟨wz, hwz⟩ : ∃ wz, w3.setRow w.heap.size (gotC 0 nilV [] 33 (p : Int)).toArray = wz := ⟨_, rfl⟩
        have HBz : Hid (Bl 50 wz w.heap.size (gotC 0 nilV [] 33 (p : Int))) := by rw [← hwz]; exact set_bl HBox2.out
        have Hz : Hid (Below w.heap.size w wz) := by rw [← hwz]; exact setRow_below _ HB3.out (Nat.le_refl _)
        have HWz : Hid (w3.setRow w.heap.size (gotC 0 nilV [] 33 (p : Int)).toArray = wz) := hwz
        have hgi : (Tryz.prog.info? 50).map (·.size) = some 5 := by kernel_rfl
        clear hwz
        go_wp2_with (refine wpList_store_row rfl 50 (.tmp 4) (.tmp 116) rfl w.heap.size (gotC 0 nilV [] 33 (p : Int)).toArray rfl rfl 50 (gotC 0 nilV [] 0 0).toArray HBox2.out hgi rfl (by simp [gotC, nilV, Value.oneCell']) ?_; rw [HWz.out]; clear HWz hgi)
        (try simp only [Exit.inBlock, Exit.then])
        exact bodyPost_ret (v := gotV 0 nilV [] 33 (p : Int)) (results_got rfl _ _ w.heap.size 0 nilV [] 33 (p : Int) rfl HBz.out) rfl ⟨⟨_, rfl, by rw [HX.out]; exact ⟨_, _, rfl⟩⟩, Hz.out⟩
      case pos =>
        subst hu
        have HP : Hid (esF t p = match pointF t p (p + 2) with
          | .ok r q => .ok (Lib.encodeRune r) q
          | .bad c b => .bad c b) := by
          show _ = _
          unfold esF escF
          rw [if_pos hend, hb]
          simp only
          rw [if_pos trivial]
        have C1 : Calls Tryz.prog 27 #[.string ⟨t.toArray⟩, .int .i64 ((p : Int) + 1)] w1 fun e w' => e = .returned (.int .i64 117) ∧ w' = w1 := C1
        have C2 := four_first t (p + 2) p w1 (by omega)
        rw [show ((p + 2 : Nat) : Int) = (p : Int) + 2 by omega] at C2
        have hpt : pointF t p (p + 2) = match unitF t p false 4 0 (p + 2) with
          | .bad c q => .bad c q
          | .ok high q => if high < 55296 ∨ 56320 ≤ high then .ok high q else pairF t p high q := rfl
        have HR1 : Hid (∀ v q, unitF t p false 4 0 (p + 2) = .ok v q → awF v v false = true ∧ 0 ≤ v ∧ v < 65536 ∧ q = p + 6) := fun v q h => by
          have h1 := unit_rng 3 0 (p + 2) v q h
          have h2 := unitF_ok 4 0 (p + 2) v q (by omega) h
          exact ⟨h1.1, h1.2.1, by have := h1.2.2; simp at this; omega, by omega⟩
        have HR2 : Hid (∀ c q, unitF t p false 4 0 (p + 2) = .bad c q → c ≠ 0) := fun c q h => unitF_nz 4 0 (p + 2) c q h
        rw [hpt] at HP
        clear hpt hb hlet
        obtain ⟨R1, hR1⟩ : ∃ R1, unitF t p false 4 0 (p + 2) = R1 := ⟨_, rfl⟩
        rw [hR1] at C2 HR1 HR2 HP
        clear hR1
        go_enter Tryz.func43, Tryz.ntmps43
        go_wp2_with fail
        rw [HW1.out]
        refine C1.mono ?_
        clear C1
        rintro e w1 ⟨rfl, rfl⟩
        go_wp2_with fail
        refine C2.mono ?_
        clear C2
        rintro e w2 ⟨⟨v, rfl, hv⟩, hB2⟩
        have HBo2 : Hid (Below w1.heap.size w1 w2) := hB2
        clear hB2
        cases R1 with
        | bad c q =>
          have hv : v = .tuple #[.int .i64 0, .agg #[.int .i64 0, .slice none 0 0, .string ⟨#[]⟩, .int .i64 (c : Int), .int .i64 (q : Int)]] := hv
          subst hv
          have HX : Hid (esF t p = .bad c q) := HP.out
          have qc : ((c : Int) != 0) = true := by have := HR2.out c q rfl; simp; omega
          clear HP HR1 HR2
          have HBx : Hid (Bl 50 (w2.alloc (.cells (gotC 0 nilV [] (c : Int) (q : Int)).toArray 50)) w2.heap.size (gotC 0 nilV [] (c : Int) (q : Int))) := alloc_bl _ _ _
          have HBo : Hid (Below w1.heap.size w1 (w2.alloc (.cells (gotC 0 nilV [] (c : Int) (q : Int)).toArray 50))) := HBo2.out.trans ((alloc_below _ _).mono HBo2.out.size)
          have HLt : Hid (w.heap.size < w2.heap.size) := (HBR.out w2 HBo2.out).2.2
          obtain ⟨w3, hw3⟩ : ∃ w3, w2.alloc (.cells (gotC 0 nilV [] (c : Int) (q : Int)).toArray 50) = w3 := ⟨_, rfl⟩
          rw [hw3] at HBx HBo
          have HW3 : Hid (w2.alloc (.cells #[.int .i64 (0), .slice none 0 0, .string ⟨#[]⟩, .int .i64 ((c : Int)), .int .i64 ((q : Int))] 50) = w3) := hw3
          clear hw3
          have C3 := utf_any 0 w3 (by omega) (by omega)
          go_wp2_with fail
          rw [HW3.out]
          refine C3.mono ?_
          clear C3
          rintro e w4 ⟨⟨S, rfl, hS⟩, hB4⟩
          
          have HQ4 := HBR.out w4 (HBo.out.trans (hB4.mono HBo.out.size))
          have HBx2 : Hid (Bl 50 w4 w2.heap.size (gotC 0 nilV [] (c : Int) (q : Int))) := bl_below HBx.out hB4
          have kc : w4.cell? ⟨w2.heap.size, 2, none⟩ = some (.string ⟨#[]⟩) := HBx2.out.cell 2 (by show 2 < 5; decide)
          have kf : w4.frozen? ⟨w2.heap.size, 2, none⟩ = false := HBx2.out.frozen 2
          have HBx3 : Hid (Bl 50 (w4.setCell ⟨w2.heap.size, 2, none⟩ (.string ⟨S.toArray⟩)) w2.heap.size (gotC 0 nilV S (c : Int) (q : Int))) := bl_set HBx2.out 2 _
          have HRg : Hid ((w4.setCell ⟨w2.heap.size, 2, none⟩ (.string ⟨S.toArray⟩)).rangeAt w2.heap.size 0 (gotC 0 nilV S (c : Int) (q : Int))) := bl_range HBx3.out
          have HBox3 : Hid (Bl 50 (w4.setCell ⟨w2.heap.size, 2, none⟩ (.string ⟨S.toArray⟩)) w.heap.size (gotC 0 nilV [] 0 0)) := bl_other HQ4.1 (by have := HLt.out; omega)
          have HB5 : Hid (Below w.heap.size w (w4.setCell ⟨w2.heap.size, 2, none⟩ (.string ⟨S.toArray⟩))) := below_set HQ4.2.1 (by have := HLt.out; omega)
          obtain ⟨wz, hwz⟩ : ∃ wz, (w4.setCell ⟨w2.heap.size, 2, none⟩ (.string ⟨S.toArray⟩)).setRow w.heap.size (gotC 0 nilV S (c : Int) (q : Int)).toArray = wz := ⟨_, rfl⟩
          have HBz : Hid (Bl 50 wz w.heap.size (gotC 0 nilV S (c : Int) (q : Int))) := by rw [← hwz]; exact set_bl HBox3.out
          have Hz : Hid (Below w.heap.size w wz) := by rw [← hwz]; exact setRow_below _ HB5.out (Nat.le_refl _)
          have HWz : Hid ((w4.setCell ⟨w2.heap.size, 2, none⟩ (.string ⟨S.toArray⟩)).setRow w.heap.size (gotC 0 nilV S (c : Int) (q : Int)).toArray = wz) := hwz
          have hgi : (Tryz.prog.info? 50).map (·.size) = some 5 := by kernel_rfl
          clear hwz hB4 HQ4 hS
          go_wp2_with (first | (refine wpList_load_mid rfl 50 (.tmp 8) rfl w2.heap.size 0 rfl (gotC 0 nilV S (c : Int) (q : Int)) _ HRg.out Tryz.underlying50 rfl hgi ?_) | (refine wpList_store_row rfl 50 (.tmp 4) (.tmp 62) rfl w.heap.size (gotC 0 nilV S (c : Int) (q : Int)).toArray rfl rfl 50 (gotC 0 nilV [] 0 0).toArray HBox3.out hgi rfl (by simp [gotC, nilV, Value.oneCell']) ?_; rw [HWz.out]; clear HWz))
          (try simp only [Exit.inBlock, Exit.then])
          exact bodyPost_ret (v := gotV 0 nilV S (c : Int) (q : Int)) (results_got rfl _ _ w.heap.size 0 nilV S (c : Int) (q : Int) rfl HBz.out) rfl ⟨⟨_, rfl, by rw [HX.out]; exact ⟨_, _, rfl⟩⟩, Hz.out⟩
        | ok u q =>
          have hv : v = .tuple #[.int .i64 u, .agg #[.int .i64 (q : Int), .slice none 0 0, .string ⟨#[]⟩, .int .i64 0, .int .i64 0]] := hv
          subst hv
          obtain ⟨ha, hu0, hu1, hq⟩ := HR1.out u q rfl
          have hq1 : q ≤ p + 6 := by omega
          have hq2 : p + 6 ≤ q := by omega
          clear hq
          have haw : u < 56320 ∨ 57344 ≤ u := by
            unfold awF at ha
            simpa using ha
          clear ha HR1 HR2
          have HBx : Hid (Bl 50 (w2.alloc (.cells (gotC (q : Int) nilV [] 0 0).toArray 50)) w2.heap.size (gotC (q : Int) nilV [] 0 0)) := alloc_bl _ _ _
          have HBo : Hid (Below w1.heap.size w1 (w2.alloc (.cells (gotC (q : Int) nilV [] 0 0).toArray 50))) := HBo2.out.trans ((alloc_below _ _).mono HBo2.out.size)
          have HLt : Hid (w.heap.size < w2.heap.size) := (HBR.out w2 HBo2.out).2.2
          obtain ⟨w3, hw3⟩ : ∃ w3, w2.alloc (.cells (gotC (q : Int) nilV [] 0 0).toArray 50) = w3 := ⟨_, rfl⟩
          rw [hw3] at HBx HBo
          have HW3 : Hid (w2.alloc (.cells #[.int .i64 ((q : Int)), .slice none 0 0, .string ⟨#[]⟩, .int .i64 (0), .int .i64 (0)] 50) = w3) := hw3
          clear hw3
          by_cases hpair : u < 55296 ∨ 57344 ≤ u
          · have HX : Hid (esF t p = .ok (Lib.encodeRune u) q) := by
              have h := HP.out
              simp only at h
              rw [if_pos (by omega)] at h
              exact h
            have C3 := utf_any u w3 hu0 (by omega)
            rcases (show u < 55296 ∨ (55296 ≤ u ∧ 57343 < u) by omega) with hlow | hlow
            · have p1 : decide (u < 55296) = true := decide_eq_true (by omega)
              go_wp2_with fail
              rw [HW3.out]
              refine C3.mono ?_
              clear C3
              rintro e w4 ⟨⟨S, rfl, hS⟩, hB4⟩
              have HS : Hid (S = Lib.encodeRune u) := hS hpair
              have HQ4 := HBR.out w4 (HBo.out.trans (hB4.mono HBo.out.size))
              have HBx2 : Hid (Bl 50 w4 w2.heap.size (gotC (q : Int) nilV [] 0 0)) := bl_below HBx.out hB4
              have kc : w4.cell? ⟨w2.heap.size, 2, none⟩ = some (.string ⟨#[]⟩) := HBx2.out.cell 2 (by show 2 < 5; decide)
              have kf : w4.frozen? ⟨w2.heap.size, 2, none⟩ = false := HBx2.out.frozen 2
              have HBx3 : Hid (Bl 50 (w4.setCell ⟨w2.heap.size, 2, none⟩ (.string ⟨S.toArray⟩)) w2.heap.size (gotC (q : Int) nilV S 0 0)) := bl_set HBx2.out 2 _
              have HRg : Hid ((w4.setCell ⟨w2.heap.size, 2, none⟩ (.string ⟨S.toArray⟩)).rangeAt w2.heap.size 0 (gotC (q : Int) nilV S 0 0)) := bl_range HBx3.out
              have HBox3 : Hid (Bl 50 (w4.setCell ⟨w2.heap.size, 2, none⟩ (.string ⟨S.toArray⟩)) w.heap.size (gotC 0 nilV [] 0 0)) := bl_other HQ4.1 (by have := HLt.out; omega)
              have HB5 : Hid (Below w.heap.size w (w4.setCell ⟨w2.heap.size, 2, none⟩ (.string ⟨S.toArray⟩))) := below_set HQ4.2.1 (by have := HLt.out; omega)
              obtain ⟨wz, hwz⟩ : ∃ wz, (w4.setCell ⟨w2.heap.size, 2, none⟩ (.string ⟨S.toArray⟩)).setRow w.heap.size (gotC (q : Int) nilV S 0 0).toArray = wz := ⟨_, rfl⟩
              have HBz : Hid (Bl 50 wz w.heap.size (gotC (q : Int) nilV S 0 0)) := by rw [← hwz]; exact set_bl HBox3.out
              have Hz : Hid (Below w.heap.size w wz) := by rw [← hwz]; exact setRow_below _ HB5.out (Nat.le_refl _)
              have HWz : Hid ((w4.setCell ⟨w2.heap.size, 2, none⟩ (.string ⟨S.toArray⟩)).setRow w.heap.size (gotC (q : Int) nilV S 0 0).toArray = wz) := hwz
              have hgi : (Tryz.prog.info? 50).map (·.size) = some 5 := by kernel_rfl
              clear hwz hB4 HQ4 hS
              go_wp2_with (first | (refine wpList_load_mid rfl 50 (.tmp 8) rfl w2.heap.size 0 rfl (gotC (q : Int) nilV S 0 0) _ HRg.out Tryz.underlying50 rfl hgi ?_) | (refine wpList_store_row rfl 50 (.tmp 4) (.tmp 62) rfl w.heap.size (gotC (q : Int) nilV S 0 0).toArray rfl rfl 50 (gotC 0 nilV [] 0 0).toArray HBox3.out hgi rfl (by simp [gotC, nilV, Value.oneCell']) ?_; rw [HWz.out]; clear HWz))
              (try simp only [Exit.inBlock, Exit.then])
              exact bodyPost_ret (v := gotV (q : Int) nilV S 0 0) (results_got rfl _ _ w.heap.size (q : Int) nilV S 0 0 rfl HBz.out) rfl ⟨⟨_, rfl, by rw [HX.out, ← HS.out]; rfl⟩, Hz.out⟩
            · have p1 : decide (u < 55296) = false := decide_eq_false (by omega)
              have p2 : decide (u > 57343) = true := decide_eq_true (by omega)
              go_wp2_with fail
              rw [HW3.out]
              refine C3.mono ?_
              clear C3
              rintro e w4 ⟨⟨S, rfl, hS⟩, hB4⟩
              have HS : Hid (S = Lib.encodeRune u) := hS hpair
              have HQ4 := HBR.out w4 (HBo.out.trans (hB4.mono HBo.out.size))
              have HBx2 : Hid (Bl 50 w4 w2.heap.size (gotC (q : Int) nilV [] 0 0)) := bl_below HBx.out hB4
              have kc : w4.cell? ⟨w2.heap.size, 2, none⟩ = some (.string ⟨#[]⟩) := HBx2.out.cell 2 (by show 2 < 5; decide)
              have kf : w4.frozen? ⟨w2.heap.size, 2, none⟩ = false := HBx2.out.frozen 2
              have HBx3 : Hid (Bl 50 (w4.setCell ⟨w2.heap.size, 2, none⟩ (.string ⟨S.toArray⟩)) w2.heap.size (gotC (q : Int) nilV S 0 0)) := bl_set HBx2.out 2 _
              have HRg : Hid ((w4.setCell ⟨w2.heap.size, 2, none⟩ (.string ⟨S.toArray⟩)).rangeAt w2.heap.size 0 (gotC (q : Int) nilV S 0 0)) := bl_range HBx3.out
              have HBox3 : Hid (Bl 50 (w4.setCell ⟨w2.heap.size, 2, none⟩ (.string ⟨S.toArray⟩)) w.heap.size (gotC 0 nilV [] 0 0)) := bl_other HQ4.1 (by have := HLt.out; omega)
              have HB5 : Hid (Below w.heap.size w (w4.setCell ⟨w2.heap.size, 2, none⟩ (.string ⟨S.toArray⟩))) := below_set HQ4.2.1 (by have := HLt.out; omega)
              obtain ⟨wz, hwz⟩ : ∃ wz, (w4.setCell ⟨w2.heap.size, 2, none⟩ (.string ⟨S.toArray⟩)).setRow w.heap.size (gotC (q : Int) nilV S 0 0).toArray = wz := ⟨_, rfl⟩
              have HBz : Hid (Bl 50 wz w.heap.size (gotC (q : Int) nilV S 0 0)) := by rw [← hwz]; exact set_bl HBox3.out
              have Hz : Hid (Below w.heap.size w wz) := by rw [← hwz]; exact setRow_below _ HB5.out (Nat.le_refl _)
              have HWz : Hid ((w4.setCell ⟨w2.heap.size, 2, none⟩ (.string ⟨S.toArray⟩)).setRow w.heap.size (gotC (q : Int) nilV S 0 0).toArray = wz) := hwz
              have hgi : (Tryz.prog.info? 50).map (·.size) = some 5 := by kernel_rfl
              clear hwz hB4 HQ4 hS
              go_wp2_with (first | (refine wpList_load_mid rfl 50 (.tmp 8) rfl w2.heap.size 0 rfl (gotC (q : Int) nilV S 0 0) _ HRg.out Tryz.underlying50 rfl hgi ?_) | (refine wpList_store_row rfl 50 (.tmp 4) (.tmp 62) rfl w.heap.size (gotC (q : Int) nilV S 0 0).toArray rfl rfl 50 (gotC 0 nilV [] 0 0).toArray HBox3.out hgi rfl (by simp [gotC, nilV, Value.oneCell']) ?_; rw [HWz.out]; clear HWz))
              (try simp only [Exit.inBlock, Exit.then])
              exact bodyPost_ret (v := gotV (q : Int) nilV S 0 0) (results_got rfl _ _ w.heap.size (q : Int) nilV S 0 0 rfl HBz.out) rfl ⟨⟨_, rfl, by rw [HX.out, ← HS.out]; rfl⟩, Hz.out⟩
          · have p1 : decide (u < 55296) = false := decide_eq_false (by omega)
            have p2 : decide (u > 57343) = false := decide_eq_false (by omega)
            have hu2 : 55296 ≤ u := by omega
            have hu3 : u < 56320 := by omega
            have HX0 : Hid (esF t p = match pairF t p u q with
              | .ok r q => .ok (Lib.encodeRune r) q
              | .bad c b => .bad c b) := by
              have h := HP.out
              simp only at h
              rw [if_neg (by omega)] at h
              exact h
            have HE0 : Hid (∀ x : Nat, t.length ≤ x → bat t x = -1) := fun x hx => by unfold bat; rw [if_neg (by omega)]
            have HE1 : Hid (∀ x : Nat, x < t.length → bat t x = ((t.getD x 0).toNat : Int)) := fun x hx => by unfold bat; rw [if_pos hx]
            have HA1 : Hid (t.length ≤ q → esF t p = .bad 31 t.length) := fun h => by rw [HX0.out]; unfold pairF slashU; rw [if_neg (by omega)]
            have HA2 : Hid (q < t.length → t.getD q 0 ≠ 92 → esF t p = .bad 33 p) := fun h h2 => by rw [HX0.out]; unfold pairF slashU; rw [if_pos h, if_neg h2]
            have HA3 : Hid (q < t.length → t.getD q 0 = 92 → t.length ≤ q + 1 → esF t p = .bad 31 t.length) := fun h h2 h3 => by rw [HX0.out]; unfold pairF slashU; rw [if_pos h, if_pos h2, if_neg (by omega)]
            have HA4 : Hid (q + 1 < t.length → t.getD q 0 = 92 → t.getD (q + 1) 0 ≠ 117 → esF t p = .bad 33 p) := fun h h2 h3 => by rw [HX0.out]; unfold pairF slashU; rw [if_pos (by omega), if_pos h2, if_pos h, if_neg h3]
            have HA5 : Hid (q + 1 < t.length → t.getD q 0 = 92 → t.getD (q + 1) 0 = 117 → esF t p = match unitF t p true 4 0 (q + 2) with
              | .bad c q => .bad c q
              | .ok low q => .ok (Lib.encodeRune (65536 + (u - 55296) * 1024 + (low - 56320))) q) := fun h h2 h3 => by
              rw [HX0.out]
              unfold pairF slashU
              rw [if_pos (by omega), if_pos h2, if_pos h, if_pos h3]
              simp only
              cases unitF t p true 4 0 (q + 2) <;> rfl
            have kq : w3.cell? ⟨w2.heap.size, 0, none⟩ = some (.int .i64 (q : Int)) := HBx.out.cell 0 (by show 0 < 5; decide)
            have HBR3 : Hid (∀ w5 : World, Below w3.heap.size w3 w5 → Bl 50 w5 w.heap.size (gotC 0 nilV [] 0 0) ∧ Below w.heap.size w w5 ∧ w.heap.size < w5.heap.size) := fun w5 h5 => HBR.out w5 (HBo.out.trans (h5.mono HBo.out.size))
            clear HX0 HP HBR
            go_wp2
            go_loopw [9] (fun s9 wx => ∃ i : Nat, s9 = .int .i64 i ∧ i ≤ 2 ∧ wx = w3 ∧ (1 ≤ i → q < t.length ∧ t.getD q 0 = 92) ∧ (2 ≤ i → q + 1 < t.length ∧ t.getD (q + 1) 0 = 117)) (fun s _ => 2 - (intOf s).toNat)
            case atStart => exact ⟨0, rfl, by omega, HW3.out, fun h => by omega, fun h => by omega⟩
            case round =>
              obtain ⟨i, rfl, hi, rfl, hc1, hc2⟩ := hrel
              have HC1 : Hid (1 ≤ i → q < t.length ∧ t.getD q 0 = 92) := hc1
              have HC2 : Hid (2 ≤ i → q + 1 < t.length ∧ t.getD (q + 1) 0 = 117) := hc2
              clear hc1 hc2
              rcases (show i = 0 ∨ i = 1 ∨ i = 2 by omega) with rfl | rfl | rfl
              · have C4 := byteAt_any t q wr (by omega)
                by_cases hl : t.length ≤ q
                · have HX : Hid (esF t p = .bad 31 t.length) := HA1.out hl
                  rw [HE0.out _ hl] at C4
                  clear HA1 HA2 HA3 HA4 HA5 HE0 HE1 HC1 HC2
                  go_wp2_with fail
                  refine C4.mono ?_
                  clear C4
                  rintro e w6 ⟨rfl, rfl⟩
                  have C5 := fault_any 31 (t.length : Int) w6
                  go_wp2_with fail
                  refine C5.mono ?_
                  clear C5
                  rintro e w7 ⟨rfl, hB3⟩
                  have HBox2 : Hid (Bl 50 w7 w.heap.size (gotC 0 nilV [] 0 0)) := (HBR3.out w7 hB3).1
                  have HB3 : Hid (Below w.heap.size w w7) := (HBR3.out w7 hB3).2.1
                  clear hB3 HBR3
                  obtain ⟨wz, hwz⟩ : ∃ wz, w7.setRow w.heap.size (gotC 0 nilV [] 31 (t.length : Int)).toArray = wz := ⟨_, rfl⟩
                  have HBz : Hid (Bl 50 wz w.heap.size (gotC 0 nilV [] 31 (t.length : Int))) := by rw [← hwz]; exact set_bl HBox2.out
                  have Hz : Hid (Below w.heap.size w wz) := by rw [← hwz]; exact setRow_below _ HB3.out (Nat.le_refl _)
                  have HWz : Hid (w7.setRow w.heap.size (gotC 0 nilV [] 31 (t.length : Int)).toArray = wz) := hwz
                  have hgi : (Tryz.prog.info? 50).map (·.size) = some 5 := by kernel_rfl
                  clear hwz
                  go_wp2_with (refine wpList_store_row rfl 50 (.tmp 4) (.tmp 77) rfl w.heap.size (gotC 0 nilV [] 31 (t.length : Int)).toArray rfl rfl 50 (gotC 0 nilV [] 0 0).toArray HBox2.out hgi rfl (by simp [gotC, nilV, Value.oneCell']) ?_; rw [HWz.out]; clear HWz hgi)
                  (try simp only [Exit.inBlock, Exit.then])
                  exact bodyPost_ret (v := gotV 0 nilV [] 31 (t.length : Int)) (results_got rfl _ _ w.heap.size 0 nilV [] 31 (t.length : Int) rfl HBz.out) rfl ⟨⟨_, rfl, by rw [HX.out]; exact ⟨_, _, rfl⟩⟩, Hz.out⟩
                · rw [HE1.out _ (by omega)] at C4
                  by_cases hx : t.getD q 0 = 92
                  · rw [hx] at C4
                    have C4 : Calls Tryz.prog 27 #[.string ⟨t.toArray⟩, .int .i64 (q : Int)] wr fun e w' => e = .returned (.int .i64 92) ∧ w' = wr := C4
                    have HC3 : Hid (1 ≤ 1 → q < t.length ∧ t.getD q 0 = 92) := fun _ => ⟨by omega, hx⟩
                    have HC4 : Hid (2 ≤ 1 → q + 1 < t.length ∧ t.getD (q + 1) 0 = 117) := fun h => by omega
                    clear hx HC1 HC2
                    go_wp2_with fail
                    refine C4.mono ?_
                    clear C4
                    rintro e w6 ⟨rfl, rfl⟩
                    go_wp2
                    go_roundw
                    case rel => exact ⟨1, by go_num, by omega, trivial, HC3.out, HC4.out⟩
                    case measure => simp [intOf]
                  · have HX : Hid (esF t p = .bad 33 p) := HA2.out (by omega) hx
                    obtain ⟨tq, htq⟩ : ∃ tq, (t.getD q 0).toNat = tq := ⟨_, rfl⟩
                    have htn : tq ≠ 92 := fun e => hx (UInt8.toNat_inj.1 (by show _ = 92; omega))
                    rw [htq] at C4
                    have qx : ((tq : Int) != 92) = true := by simp; omega
                    have qn : decide ((tq : Int) < 0) = false := decide_eq_false (by omega)
                    clear htq htn hx HA1 HA2 HA3 HA4 HA5 HE0 HE1 HC1 HC2
                    go_wp2_with fail
                    refine C4.mono ?_
                    clear C4
                    rintro e w6 ⟨rfl, rfl⟩
                    have C5 := fault_any 33 (p : Int) w6
                    go_wp2_with fail
                    refine C5.mono ?_
                    clear C5
                    rintro e w7 ⟨rfl, hB3⟩
                    have HBox2 : Hid (Bl 50 w7 w.heap.size (gotC 0 nilV [] 0 0)) := (HBR3.out w7 hB3).1
                    have HB3 : Hid (Below w.heap.size w w7) := (HBR3.out w7 hB3).2.1
                    clear hB3 HBR3
                    obtain ⟨wz, hwz⟩ : ∃ wz, w7.setRow w.heap.size (gotC 0 nilV [] 33 (p : Int)).toArray = wz := ⟨_, rfl⟩
                    have HBz : Hid (Bl 50 wz w.heap.size (gotC 0 nilV [] 33 (p : Int))) := by rw [← hwz]; exact set_bl HBox2.out
                    have Hz : Hid (Below w.heap.size w wz) := by rw [← hwz]; exact setRow_below _ HB3.out (Nat.le_refl _)
                    have HWz : Hid (w7.setRow w.heap.size (gotC 0 nilV [] 33 (p : Int)).toArray = wz) := hwz
                    have hgi : (Tryz.prog.info? 50).map (·.size) = some 5 := by kernel_rfl
                    clear hwz
                    go_wp2_with (refine wpList_store_row rfl 50 (.tmp 4) (.tmp 93) rfl w.heap.size (gotC 0 nilV [] 33 (p : Int)).toArray rfl rfl 50 (gotC 0 nilV [] 0 0).toArray HBox2.out hgi rfl (by simp [gotC, nilV, Value.oneCell']) ?_; rw [HWz.out]; clear HWz hgi)
                    (try simp only [Exit.inBlock, Exit.then])
                    exact bodyPost_ret (v := gotV 0 nilV [] 33 (p : Int)) (results_got rfl _ _ w.heap.size 0 nilV [] 33 (p : Int) rfl HBz.out) rfl ⟨⟨_, rfl, by rw [HX.out]; exact ⟨_, _, rfl⟩⟩, Hz.out⟩
              · have C4 := byteAt_any t (q + 1) wr (by omega)
                rw [show ((q + 1 : Nat) : Int) = (q : Int) + 1 by omega] at C4
                by_cases hl : t.length ≤ (q + 1)
                · have HX : Hid (esF t p = .bad 31 t.length) := HA3.out (HC1.out (by omega)).1 (HC1.out (by omega)).2 hl
                  rw [HE0.out _ hl] at C4
                  clear HA1 HA2 HA3 HA4 HA5 HE0 HE1 HC1 HC2
                  go_wp2_with fail
                  refine C4.mono ?_
                  clear C4
                  rintro e w6 ⟨rfl, rfl⟩
                  have C5 := fault_any 31 (t.length : Int) w6
                  go_wp2_with fail
                  refine C5.mono ?_
                  clear C5
                  rintro e w7 ⟨rfl, hB3⟩
                  have HBox2 : Hid (Bl 50 w7 w.heap.size (gotC 0 nilV [] 0 0)) := (HBR3.out w7 hB3).1
                  have HB3 : Hid (Below w.heap.size w w7) := (HBR3.out w7 hB3).2.1
                  clear hB3 HBR3
                  obtain ⟨wz, hwz⟩ : ∃ wz, w7.setRow w.heap.size (gotC 0 nilV [] 31 (t.length : Int)).toArray = wz := ⟨_, rfl⟩
                  have HBz : Hid (Bl 50 wz w.heap.size (gotC 0 nilV [] 31 (t.length : Int))) := by rw [← hwz]; exact set_bl HBox2.out
                  have Hz : Hid (Below w.heap.size w wz) := by rw [← hwz]; exact setRow_below _ HB3.out (Nat.le_refl _)
                  have HWz : Hid (w7.setRow w.heap.size (gotC 0 nilV [] 31 (t.length : Int)).toArray = wz) := hwz
                  have hgi : (Tryz.prog.info? 50).map (·.size) = some 5 := by kernel_rfl
                  clear hwz
                  go_wp2_with (refine wpList_store_row rfl 50 (.tmp 4) (.tmp 77) rfl w.heap.size (gotC 0 nilV [] 31 (t.length : Int)).toArray rfl rfl 50 (gotC 0 nilV [] 0 0).toArray HBox2.out hgi rfl (by simp [gotC, nilV, Value.oneCell']) ?_; rw [HWz.out]; clear HWz hgi)
                  (try simp only [Exit.inBlock, Exit.then])
                  exact bodyPost_ret (v := gotV 0 nilV [] 31 (t.length : Int)) (results_got rfl _ _ w.heap.size 0 nilV [] 31 (t.length : Int) rfl HBz.out) rfl ⟨⟨_, rfl, by rw [HX.out]; exact ⟨_, _, rfl⟩⟩, Hz.out⟩
                · rw [HE1.out _ (by omega)] at C4
                  by_cases hx : t.getD (q + 1) 0 = 117
                  · rw [hx] at C4
                    have C4 : Calls Tryz.prog 27 #[.string ⟨t.toArray⟩, .int .i64 ((q : Int) + 1)] wr fun e w' => e = .returned (.int .i64 117) ∧ w' = wr := C4
                    have HC3 : Hid (1 ≤ 2 → q < t.length ∧ t.getD q 0 = 92) := fun _ => HC1.out (by omega)
                    have HC4 : Hid (2 ≤ 2 → q + 1 < t.length ∧ t.getD (q + 1) 0 = 117) := fun _ => ⟨by omega, hx⟩
                    clear hx HC1 HC2
                    go_wp2_with fail
                    refine C4.mono ?_
                    clear C4
                    rintro e w6 ⟨rfl, rfl⟩
                    go_wp2
                    go_roundw
                    case rel => exact ⟨2, by go_num, by omega, trivial, HC3.out, HC4.out⟩
                    case measure => simp [intOf]
                  · have HX : Hid (esF t p = .bad 33 p) := HA4.out (by omega) (HC1.out (by omega)).2 hx
                    obtain ⟨tq, htq⟩ : ∃ tq, (t.getD (q + 1) 0).toNat = tq := ⟨_, rfl⟩
                    have htn : tq ≠ 117 := fun e => hx (UInt8.toNat_inj.1 (by show _ = 117; omega))
                    rw [htq] at C4
                    have qx : ((tq : Int) != 117) = true := by simp; omega
                    have qn : decide ((tq : Int) < 0) = false := decide_eq_false (by omega)
                    clear htq htn hx HA1 HA2 HA3 HA4 HA5 HE0 HE1 HC1 HC2
                    go_wp2_with fail
                    refine C4.mono ?_
                    clear C4
                    rintro e w6 ⟨rfl, rfl⟩
                    have C5 := fault_any 33 (p : Int) w6
                    go_wp2_with fail
                    refine C5.mono ?_
                    clear C5
                    rintro e w7 ⟨rfl, hB3⟩
                    have HBox2 : Hid (Bl 50 w7 w.heap.size (gotC 0 nilV [] 0 0)) := (HBR3.out w7 hB3).1
                    have HB3 : Hid (Below w.heap.size w w7) := (HBR3.out w7 hB3).2.1
                    clear hB3 HBR3
                    obtain ⟨wz, hwz⟩ : ∃ wz, w7.setRow w.heap.size (gotC 0 nilV [] 33 (p : Int)).toArray = wz := ⟨_, rfl⟩
                    have HBz : Hid (Bl 50 wz w.heap.size (gotC 0 nilV [] 33 (p : Int))) := by rw [← hwz]; exact set_bl HBox2.out
                    have Hz : Hid (Below w.heap.size w wz) := by rw [← hwz]; exact setRow_below _ HB3.out (Nat.le_refl _)
                    have HWz : Hid (w7.setRow w.heap.size (gotC 0 nilV [] 33 (p : Int)).toArray = wz) := hwz
                    have hgi : (Tryz.prog.info? 50).map (·.size) = some 5 := by kernel_rfl
                    clear hwz
                    go_wp2_with (refine wpList_store_row rfl 50 (.tmp 4) (.tmp 93) rfl w.heap.size (gotC 0 nilV [] 33 (p : Int)).toArray rfl rfl 50 (gotC 0 nilV [] 0 0).toArray HBox2.out hgi rfl (by simp [gotC, nilV, Value.oneCell']) ?_; rw [HWz.out]; clear HWz hgi)
                    (try simp only [Exit.inBlock, Exit.then])
                    exact bodyPost_ret (v := gotV 0 nilV [] 33 (p : Int)) (results_got rfl _ _ w.heap.size 0 nilV [] 33 (p : Int) rfl HBz.out) rfl ⟨⟨_, rfl, by rw [HX.out]; exact ⟨_, _, rfl⟩⟩, Hz.out⟩
              · have HX5 : Hid (esF t p = match unitF t p true 4 0 (q + 2) with
                  | .bad c q => .bad c q
                  | .ok low q => .ok (Lib.encodeRune (65536 + (u - 55296) * 1024 + (low - 56320))) q) := HA5.out (HC2.out (by omega)).1 (HC1.out (by omega)).2 (HC2.out (by omega)).2
                have C4 := four_second t (q + 2) p wr (by omega)
                rw [show ((q + 2 : Nat) : Int) = (q : Int) + 2 by omega] at C4
                have HQ1 : Hid (∀ v q2, unitF t p true 4 0 (q + 2) = .ok v q2 → 56320 ≤ v ∧ v < 57344) := fun v q2 h => by
                  have h1 := (unit_rng 3 0 (q + 2) v q2 h).1
                  unfold awF at h1
                  simp at h1
                  omega
                clear HA1 HA2 HA3 HA4 HA5 HE0 HE1 HC1 HC2
                obtain ⟨R2, hR2⟩ : ∃ R2, unitF t p true 4 0 (q + 2) = R2 := ⟨_, rfl⟩
                rw [hR2] at C4 HQ1 HX5
                clear hR2
                go_wp2_with fail
                refine C4.mono ?_
                clear C4
                rintro e w5 ⟨⟨v, rfl, hv⟩, hB5⟩
                have HBo2b : Hid (Below wr.heap.size wr w5) := hB5
                clear hB5
                cases R2 with
                | bad c b =>
                  have hv : v = .tuple #[.int .i64 0, .agg #[.int .i64 0, .slice none 0 0, .string ⟨#[]⟩, .int .i64 (c : Int), .int .i64 (b : Int)]] := hv
                  subst hv
                  have HX : Hid (esF t p = .bad c b) := HX5.out
                  clear HX5 HQ1
                  have HBxb : Hid (Bl 50 (w5.alloc (.cells (gotC 0 nilV [] (c : Int) (b : Int)).toArray 50)) w5.heap.size (gotC 0 nilV [] (c : Int) (b : Int))) := alloc_bl _ _ _
                  have HBob : Hid (Below wr.heap.size wr (w5.alloc (.cells (gotC 0 nilV [] (c : Int) (b : Int)).toArray 50))) := HBo2b.out.trans ((alloc_below _ _).mono HBo2b.out.size)
                  have HLtb : Hid (w.heap.size < w5.heap.size) := (HBR3.out w5 HBo2b.out).2.2
                  obtain ⟨w8, hw8⟩ : ∃ w8, w5.alloc (.cells (gotC 0 nilV [] (c : Int) (b : Int)).toArray 50) = w8 := ⟨_, rfl⟩
                  rw [hw8] at HBxb HBob
                  have HW8 : Hid (w5.alloc (.cells #[.int .i64 (0), .slice none 0 0, .string ⟨#[]⟩, .int .i64 ((c : Int)), .int .i64 ((b : Int))] 50) = w8) := hw8
                  clear hw8
                  obtain ⟨z, hz⟩ : ∃ z, 65536 + 1024 * (u - 55296) + 0 - 56320 = z := ⟨_, rfl⟩
                  have C5 := utf_any z w8 (by omega) (by omega)
                  have hzz : 65536 + 1024 * (u - 55296) - 56320 = z := by omega
                  clear hz
                  go_wp2_with fail
                  rw [HW8.out]
                  refine C5.mono ?_
                  clear C5
                  rintro e w9 ⟨⟨S, rfl, hS⟩, hB4⟩
                  
                  have HQ4 := HBR3.out w9 (HBob.out.trans (hB4.mono HBob.out.size))
                  have HBx2 : Hid (Bl 50 w9 w5.heap.size (gotC 0 nilV [] (c : Int) (b : Int))) := bl_below HBxb.out hB4
                  have kc : w9.cell? ⟨w5.heap.size, 2, none⟩ = some (.string ⟨#[]⟩) := HBx2.out.cell 2 (by show 2 < 5; decide)
                  have kf : w9.frozen? ⟨w5.heap.size, 2, none⟩ = false := HBx2.out.frozen 2
                  have HBx3 : Hid (Bl 50 (w9.setCell ⟨w5.heap.size, 2, none⟩ (.string ⟨S.toArray⟩)) w5.heap.size (gotC 0 nilV S (c : Int) (b : Int))) := bl_set HBx2.out 2 _
                  have HRg : Hid ((w9.setCell ⟨w5.heap.size, 2, none⟩ (.string ⟨S.toArray⟩)).rangeAt w5.heap.size 0 (gotC 0 nilV S (c : Int) (b : Int))) := bl_range HBx3.out
                  have HBox3 : Hid (Bl 50 (w9.setCell ⟨w5.heap.size, 2, none⟩ (.string ⟨S.toArray⟩)) w.heap.size (gotC 0 nilV [] 0 0)) := bl_other HQ4.1 (by have := HLtb.out; omega)
                  have HB5 : Hid (Below w.heap.size w (w9.setCell ⟨w5.heap.size, 2, none⟩ (.string ⟨S.toArray⟩))) := below_set HQ4.2.1 (by have := HLtb.out; omega)
                  obtain ⟨wz, hwz⟩ : ∃ wz, (w9.setCell ⟨w5.heap.size, 2, none⟩ (.string ⟨S.toArray⟩)).setRow w.heap.size (gotC 0 nilV S (c : Int) (b : Int)).toArray = wz := ⟨_, rfl⟩
                  have HBz : Hid (Bl 50 wz w.heap.size (gotC 0 nilV S (c : Int) (b : Int))) := by rw [← hwz]; exact set_bl HBox3.out
                  have Hz : Hid (Below w.heap.size w wz) := by rw [← hwz]; exact setRow_below _ HB5.out (Nat.le_refl _)
                  have HWz : Hid ((w9.setCell ⟨w5.heap.size, 2, none⟩ (.string ⟨S.toArray⟩)).setRow w.heap.size (gotC 0 nilV S (c : Int) (b : Int)).toArray = wz) := hwz
                  have hgi : (Tryz.prog.info? 50).map (·.size) = some 5 := by kernel_rfl
                  clear hwz hB4 HQ4 hS
                  go_wp2_with (first | (refine wpList_load_mid rfl 50 (.tmp 12) rfl w5.heap.size 0 rfl (gotC 0 nilV S (c : Int) (b : Int)) _ HRg.out Tryz.underlying50 rfl hgi ?_) | (refine wpList_store_row rfl 50 (.tmp 4) (.tmp 112) rfl w.heap.size (gotC 0 nilV S (c : Int) (b : Int)).toArray rfl rfl 50 (gotC 0 nilV [] 0 0).toArray HBox3.out hgi rfl (by simp [gotC, nilV, Value.oneCell']) ?_; rw [HWz.out]; clear HWz))
                  (try simp only [Exit.inBlock, Exit.then])
                  exact bodyPost_ret (v := gotV 0 nilV S (c : Int) (b : Int)) (results_got rfl _ _ w.heap.size 0 nilV S (c : Int) (b : Int) rfl HBz.out) rfl ⟨⟨_, rfl, by rw [HX.out]; exact ⟨_, _, rfl⟩⟩, Hz.out⟩
                | ok v2 q2 =>
                  have hv : v = .tuple #[.int .i64 v2, .agg #[.int .i64 (q2 : Int), .slice none 0 0, .string ⟨#[]⟩, .int .i64 0, .int .i64 0]] := hv
                  subst hv
                  have HX : Hid (esF t p = .ok (Lib.encodeRune (65536 + (u - 55296) * 1024 + (v2 - 56320))) q2) := HX5.out
                  obtain ⟨hv1, hv2⟩ := HQ1.out v2 q2 rfl
                  clear HX5 HQ1
                  have HBxb : Hid (Bl 50 (w5.alloc (.cells (gotC (q2 : Int) nilV [] 0 0).toArray 50)) w5.heap.size (gotC (q2 : Int) nilV [] 0 0)) := alloc_bl _ _ _
                  have HBob : Hid (Below wr.heap.size wr (w5.alloc (.cells (gotC (q2 : Int) nilV [] 0 0).toArray 50))) := HBo2b.out.trans ((alloc_below _ _).mono HBo2b.out.size)
                  have HLtb : Hid (w.heap.size < w5.heap.size) := (HBR3.out w5 HBo2b.out).2.2
                  obtain ⟨w8, hw8⟩ : ∃ w8, w5.alloc (.cells (gotC (q2 : Int) nilV [] 0 0).toArray 50) = w8 := ⟨_, rfl⟩
                  rw [hw8] at HBxb HBob
                  have HW8 : Hid (w5.alloc (.cells #[.int .i64 ((q2 : Int)), .slice none 0 0, .string ⟨#[]⟩, .int .i64 (0), .int .i64 (0)] 50) = w8) := hw8
                  clear hw8
                  obtain ⟨z, hz⟩ : ∃ z, 65536 + 1024 * (u - 55296) + v2 - 56320 = z := ⟨_, rfl⟩
                  have HXz : Hid (esF t p = .ok (Lib.encodeRune z) q2) := by
                    have h := HX.out
                    rw [show 65536 + (u - 55296) * 1024 + (v2 - 56320) = z by omega] at h
                    exact h
                  have hz1 : 65536 ≤ z := by omega
                  have C5 := utf_any z w8 (by omega) (by omega)
                  clear HX
                  go_wp2_with fail
                  rw [HW8.out]
                  refine C5.mono ?_
                  clear C5
                  rintro e w9 ⟨⟨S, rfl, hS⟩, hB4⟩
                  have HS : Hid (S = Lib.encodeRune z) := hS (.inr (by omega))
                  have HQ4 := HBR3.out w9 (HBob.out.trans (hB4.mono HBob.out.size))
                  have HBx2 : Hid (Bl 50 w9 w5.heap.size (gotC (q2 : Int) nilV [] 0 0)) := bl_below HBxb.out hB4
                  have kc : w9.cell? ⟨w5.heap.size, 2, none⟩ = some (.string ⟨#[]⟩) := HBx2.out.cell 2 (by show 2 < 5; decide)
                  have kf : w9.frozen? ⟨w5.heap.size, 2, none⟩ = false := HBx2.out.frozen 2
                  have HBx3 : Hid (Bl 50 (w9.setCell ⟨w5.heap.size, 2, none⟩ (.string ⟨S.toArray⟩)) w5.heap.size (gotC (q2 : Int) nilV S 0 0)) := bl_set HBx2.out 2 _
                  have HRg : Hid ((w9.setCell ⟨w5.heap.size, 2, none⟩ (.string ⟨S.toArray⟩)).rangeAt w5.heap.size 0 (gotC (q2 : Int) nilV S 0 0)) := bl_range HBx3.out
                  have HBox3 : Hid (Bl 50 (w9.setCell ⟨w5.heap.size, 2, none⟩ (.string ⟨S.toArray⟩)) w.heap.size (gotC 0 nilV [] 0 0)) := bl_other HQ4.1 (by have := HLtb.out; omega)
                  have HB5 : Hid (Below w.heap.size w (w9.setCell ⟨w5.heap.size, 2, none⟩ (.string ⟨S.toArray⟩))) := below_set HQ4.2.1 (by have := HLtb.out; omega)
                  obtain ⟨wz, hwz⟩ : ∃ wz, (w9.setCell ⟨w5.heap.size, 2, none⟩ (.string ⟨S.toArray⟩)).setRow w.heap.size (gotC (q2 : Int) nilV S 0 0).toArray = wz := ⟨_, rfl⟩
                  have HBz : Hid (Bl 50 wz w.heap.size (gotC (q2 : Int) nilV S 0 0)) := by rw [← hwz]; exact set_bl HBox3.out
                  have Hz : Hid (Below w.heap.size w wz) := by rw [← hwz]; exact setRow_below _ HB5.out (Nat.le_refl _)
                  have HWz : Hid ((w9.setCell ⟨w5.heap.size, 2, none⟩ (.string ⟨S.toArray⟩)).setRow w.heap.size (gotC (q2 : Int) nilV S 0 0).toArray = wz) := hwz
                  have hgi : (Tryz.prog.info? 50).map (·.size) = some 5 := by kernel_rfl
                  clear hwz hB4 HQ4 hS
                  go_wp2_with (first | (refine wpList_load_mid rfl 50 (.tmp 12) rfl w5.heap.size 0 rfl (gotC (q2 : Int) nilV S 0 0) _ HRg.out Tryz.underlying50 rfl hgi ?_) | (refine wpList_store_row rfl 50 (.tmp 4) (.tmp 112) rfl w.heap.size (gotC (q2 : Int) nilV S 0 0).toArray rfl rfl 50 (gotC 0 nilV [] 0 0).toArray HBox3.out hgi rfl (by simp [gotC, nilV, Value.oneCell']) ?_; rw [HWz.out]; clear HWz))
                  (try simp only [Exit.inBlock, Exit.then])
                  exact bodyPost_ret (v := gotV (q2 : Int) nilV S 0 0) (results_got rfl _ _ w.heap.size (q2 : Int) nilV S 0 0 rfl HBz.out) rfl ⟨⟨_, rfl, by rw [HXz.out, ← HS.out]; rfl⟩, Hz.out⟩

end Go.Proofs.YtapljedegjiliaaGreatDoor

namespace Go.Proofs.YtapljedegjiliaaGreatDoor
open Go.RowKit Go.Shelf

theorem infoB8 : (Tryz.prog.info? 5).map (fun i => (i.zero, i.size, i.bytes)) = some (some (.int .u8 0), 1, 1) := by kernel_rfl
theorem strCB (S : List UInt8) : Lib.strCells ⟨S.toArray⟩ = S.map B := by
  unfold Lib.strCells
  simp [B]
theorem own_rdB {B0 : Nat} {w : World} {v : Value} {l : List UInt8} (h : w.ownsRow B0 5 1 v l.length (l.map B)) : ∃ a c, v = .slice a l.length c ∧ Rd w a l := by
  have hlt := World.ownsRow.lt h
  rcases h.2 with ⟨hv, hn⟩ | ⟨g, cap, cur, hv, hb, hg, hc1, hc2, hs, ht⟩
  · exact ⟨none, 0, by rw [hv, hn], .inl (List.eq_nil_of_length_eq_zero hn)⟩
  · refine ⟨some ⟨g, 0, none⟩, cap, hv, ?_⟩
    rcases Nat.eq_zero_or_pos l.length with h0 | h0
    · exact .inl (List.eq_nil_of_length_eq_zero h0)
    · refine .inr ⟨g, 0, rfl, (hlt g (by rw [hv]; rfl)).2, fun j hj => ?_⟩
      rw [Nat.zero_add]
      refine (own_cell (hv ▸ h) j _ ?_).1
      rw [List.getElem?_map, List.getElem?_eq_getElem hj]
      simp [B, List.getD_eq_getElem?_getD, hj]

theorem chr_esc {t : List UInt8} {p : Nat} (hp : p < t.length) (h : t.getD p 0 = 92) : chF t p = esF t p := by
  unfold chF esF
  have : chrF t p = escF t p := by
    unfold chrF
    simp only
    have hd := drop_at hp
    rw [h] at hd
    rw [hd, full_small (by decide), if_neg (by decide), if_pos h]
  first
  | (rw [this]; done)
  | (rw [this]; cases escF t p <;> rfl)
theorem chr_plain {t : List UInt8} {p : Nat} {c : UInt8} (hp : p < t.length) (h : t.getD p 0 = c) (h1 : ¬ c.toNat < 32) (h2 : c ≠ 92) (h3 : c.toNat < 128) : chF t p = .ok [c] (p + 1) := by
  unfold chF
  have hd := drop_at hp
  rw [h] at hd
  have hdec : Lib.decodeL (c :: t.drop (p + 1)) = (c.toNat, 1) := by
    rw [Lib.decodeL_N]
    unfold Lib.decodeN
    rw [List.getD_cons_zero, if_pos h3]
  have : chrF t p = .ok (c.toNat : Int) (p + 1) := by
    unfold chrF
    simp only
    rw [hd, full_small h3, if_neg (by decide), h, if_neg h2, if_neg (by rw [UInt8.lt_iff_toNat_lt]; simpa using h1), hdec, if_neg (by simp; omega)]
  rw [this]
  simp only
  rw [enc_small h3]
theorem chr_ctl {t : List UInt8} {p : Nat} (hp : p ≤ t.length) (h : p < t.length → (t.getD p 0).toNat < 32) : chF t p = .bad 31 p := by
  unfold chF
  have : chrF t p = .bad 31 p := by
    unfold chrF
    simp only
    rcases Nat.lt_or_ge p t.length with hl | hl
    · have h2 := h hl
      have hd := drop_at hl
      rw [hd, full_small (by omega), if_neg (by decide), if_neg (fun e => by rw [e] at h2; revert h2; decide), if_pos (by rw [UInt8.lt_iff_toNat_lt]; simpa using h2)]
    · obtain rfl : p = t.length := by omega
      rw [List.drop_length, fullR_nil, if_pos rfl]
  rw [this]
/-- The string's chars by these. -/
theorem quo_end {t : List UInt8} {n p : Nat} {acc : List UInt8} (h : tk t [34] p = true) : quoF t (n + 1) p acc = .ok acc (p + 1) := by unfold quoF; rw [if_pos h]
def nxF (t : List UInt8) (n : Nat) (acc : List UInt8) : Lx (List UInt8) → Lx (List UInt8)
  | .bad c q => .bad c q
  | .ok S q => quoF t n q (acc ++ S)
theorem quo_step {t : List UInt8} {n p : Nat} {acc : List UInt8} (h : tk t [34] p = false) : quoF t (n + 1) p acc = nxF t n acc (chF t p) := by
  unfold chF
  conv => lhs; unfold quoF
  rw [h, if_neg (by decide)]
  cases chrF t p <;> rfl
theorem ch_ok {t : List UInt8} {p q : Nat} {S : List UInt8} (h : chF t p = .ok S q) : p < q ∧ q ≤ t.length ∧ S.length ≤ 4 := by
  unfold chF at h
  split at h
  · rename_i r q1 e
    cases h
    have := chrF_ok e
    exact ⟨this.1, this.2, (encodeRune_len r).2⟩
  · cases h
theorem ch_nz {t : List UInt8} {p c q : Nat} (h : chF t p = .bad c q) : c ≠ 0 := by
  unfold chF at h
  split at h
  · cases h
  · rename_i e
    cases h
    exact chrF_nz e

set_option maxRecDepth 100000 in
set_option maxHeartbeats 16000000 in
theorem rquoted_any (t : List UInt8) (p : Nat) (w : World) (hp : p ≤ t.length) (ht : t.length ≤ 1000000) :
    Calls Tryz.prog 30 #[.string ⟨t.toArray⟩, .int .i64 p] w fun e w' => (∃ v, e = .returned v ∧ GotS (quoF t (t.length + 1) p []) v) ∧ Below w.heap.size w w' := by
  obtain ⟨R, hR⟩ : ∃ R, quoF t (t.length + 1) p [] = R := ⟨_, rfl⟩
  have HR0 : Hid (quoF t (t.length + 1) p [] = R) := hR
  rw [hR]
  clear hR
  have HBox : Hid (Bl 50 (w.alloc (.cells (gotC 0 nilV [] 0 0).toArray 50)) w.heap.size (gotC 0 nilV [] 0 0)) := alloc_bl _ _ _
  have HB : Hid (Below w.heap.size w (w.alloc (.cells (gotC 0 nilV [] 0 0).toArray 50))) := alloc_below _ _
  have HSz : Hid (w.heap.size < (w.alloc (.cells (gotC 0 nilV [] 0 0).toArray 50)).heap.size) := by show _ < _; rw [alloc_size]; omega
  generalize hw1 : w.alloc (.cells (gotC 0 nilV [] 0 0).toArray 50) = w1 at HBox HB HSz
  have HW1 : Hid (w.alloc (.cells #[.int .i64 0, .slice none 0 0, .string ⟨#[]⟩, .int .i64 0, .int .i64 0] 50) = w1) := hw1
  clear hw1
  go_enter Tryz.func30, Tryz.ntmps30
  go_wp2
  go_loopw [1, 5] (fun s1 s5 wx => ∃ (k n : Nat) (acc : List UInt8), s1 = .int .i64 k ∧ k ≤ t.length ∧ t.length < n + k ∧ acc.length ≤ 4 * k ∧ Below w.heap.size w wx ∧ w.heap.size < wx.heap.size ∧ Bl 50 wx w.heap.size (gotC 0 nilV [] 0 0) ∧ wx.ownsRow (w.heap.size + 1) 5 1 s5 acc.length (acc.map B) ∧ Hid (quoF t n k acc = R)) (fun s _ _ => t.length + 1 - (intOf s).toNat)
  case atStart => exact ⟨p, t.length + 1, [], rfl, hp, by omega, Nat.zero_le _, by rw [HW1.out]; exact HB.out, by rw [HW1.out]; exact HSz.out, by rw [HW1.out]; exact HBox.out, World.ownsRow_nil _ _ _ _, HR0⟩
  case round =>
    clear HR0 HBox HB HSz HW1 hp
    obtain ⟨k, n, acc, rfl, hk, hn, hacc, hb, hsz, hbx, hown, HK⟩ := hrel
    obtain ⟨n, rfl⟩ : ∃ n', n = n' + 1 := ⟨n - 1, by omega⟩
    obtain ⟨ba, bc, rfl, hrd⟩ := own_rdB hown
    have HB : Hid (Below w.heap.size w wr) := hb
    have HSz : Hid (w.heap.size < wr.heap.size) := hsz
    have HBox : Hid (Bl 50 wr w.heap.size (gotC 0 nilV [] 0 0)) := hbx
    have HO : Hid (wr.ownsRow (w.heap.size + 1) 5 1 (.slice ba acc.length bc) acc.length (acc.map B)) := hown
    have HRd : Hid (Rd wr ba acc) := hrd
    clear hb hsz hbx hown hrd
    have C1 := byteAt_any t k wr (by omega)
    -- the round's own box
    have HX7 : Hid (Bl 50 (wr.alloc (.cells (gotC 0 nilV [] 0 0).toArray 50)) wr.heap.size (gotC 0 nilV [] 0 0)) := alloc_bl _ _ _
    have HB7 : Hid (Below wr.heap.size wr (wr.alloc (.cells (gotC 0 nilV [] 0 0).toArray 50))) := alloc_below _ _
    have HS7 : Hid (wr.heap.size < (wr.alloc (.cells (gotC 0 nilV [] 0 0).toArray 50)).heap.size) := by show _ < _; rw [alloc_size]; omega
    obtain ⟨w7, hw7⟩ : ∃ w7, wr.alloc (.cells (gotC 0 nilV [] 0 0).toArray 50) = w7 := ⟨_, rfl⟩
    rw [hw7] at HX7 HB7 HS7
    have HW7 : Hid (wr.alloc (.cells #[.int .i64 0, .slice none 0 0, .string ⟨#[]⟩, .int .i64 0, .int .i64 0] 50) = w7) := hw7
    clear hw7
    by_cases hctl : k < t.length → (t.getD k 0).toNat < 32
    · -- the end, or a control byte
      have h34 : tk t [34] k = false := by
        unfold tk
        rcases Nat.lt_or_ge k t.length with hl | hl
        · have := hctl hl
          cases hc : ([34] : List UInt8).contains (t.getD k 0)
          · simp
          · have e : t.getD k 0 = 34 := by simpa using hc
            rw [e] at this
            exact absurd this (by decide)
        · rw [decide_eq_false (by omega)]; rfl
      have HX : Hid (R = .bad 31 k) := by
        have h := HK.out
        rw [quo_step h34, chr_ctl hk hctl] at h
        exact h.symm
      obtain ⟨cb, hcb⟩ : ∃ cb, bat t k = cb := ⟨_, rfl⟩
      have hcb2 : cb < 32 := by
        rw [← hcb]
        unfold bat
        split
        · rename_i hl
          have := hctl hl
          omega
        · omega
      rw [hcb] at C1
      have q1 : decide (cb < 32) = true := decide_eq_true hcb2
      clear hcb hctl h34 HK
      go_wp2_with fail
      refine C1.mono ?_
      clear C1
      rintro e w2 ⟨rfl, rfl⟩
      have C2 := fault_any 31 (k : Int) w7
      go_wp2_with fail
      rw [HW7.out]
      refine C2.mono ?_
      clear C2
      rintro e w3 ⟨rfl, hB3⟩
      have HBox2 : Hid (Bl 50 w3 w.heap.size (gotC 0 nilV [] 0 0)) := bl_below (bl_below HBox.out HB7.out) hB3
      have HB3 : Hid (Below w.heap.size w w3) := (HB.out.trans (HB7.out.mono HB.out.size)).trans (hB3.mono (Nat.le_trans HB.out.size HB7.out.size))
      clear hB3
      obtain ⟨wz, hwz⟩ : ∃ wz, w3.setRow w.heap.size (gotC 0 nilV [] 31 (k : Int)).toArray = wz := ⟨_, rfl⟩
      have HBz : Hid (Bl 50 wz w.heap.size (gotC 0 nilV [] 31 (k : Int))) := by rw [← hwz]; exact set_bl HBox2.out
      have Hz : Hid (Below w.heap.size w wz) := by rw [← hwz]; exact setRow_below _ HB3.out (Nat.le_refl _)
      have HWz : Hid (w3.setRow w.heap.size (gotC 0 nilV [] 31 (k : Int)).toArray = wz) := hwz
      have hgi : (Tryz.prog.info? 50).map (·.size) = some 5 := by kernel_rfl
      clear hwz
      go_wp2_with (refine wpList_store_row rfl 50 (.tmp 4) (.tmp 18) rfl w.heap.size (gotC 0 nilV [] 31 (k : Int)).toArray rfl rfl 50 (gotC 0 nilV [] 0 0).toArray HBox2.out hgi rfl (by simp [gotC, nilV, Value.oneCell']) ?_; rw [HWz.out]; clear HWz hgi)
      (try simp only [Exit.inBlock, Exit.then])
      exact bodyPost_ret (v := gotV 0 nilV [] 31 (k : Int)) (results_got rfl _ _ w.heap.size 0 nilV [] 31 (k : Int) rfl HBz.out) rfl ⟨⟨_, rfl, by rw [HX.out]; exact ⟨_, _, rfl⟩⟩, Hz.out⟩
    · have hlt : k < t.length := by
        rcases Nat.lt_or_ge k t.length with h | h
        · exact h
        · exact absurd (fun h2 => by omega) hctl
      obtain ⟨c, hc⟩ : ∃ c, t.getD k 0 = c := ⟨_, rfl⟩
      have hc32 : ¬ c.toNat < 32 := fun h => hctl (fun _ => by rw [hc]; exact h)
      have hbt : bat t k = (c.toNat : Int) := by unfold bat; rw [if_pos hlt, hc]
      rw [hbt] at C1
      have q1 : decide ((c.toNat : Int) < 32) = false := decide_eq_false (by omega)
      have hcl := c.toNat_lt
      clear hbt hctl
      by_cases h34 : c = 34
      · subst h34
        have HX : Hid (R = .ok acc (k + 1)) := by
          have h := HK.out
          rw [quo_end (by unfold tk; rw [hc, decide_eq_true hlt]; rfl)] at h
          exact h.symm
        have hcv := conv_any w7 ba bc acc (by
          rcases HRd.out with h | ⟨g, off, e, hg, hcc⟩
          · exact .inl h
          · exact .inr ⟨g, off, e, Nat.lt_of_lt_of_le hg HB7.out.size, fun j hj => cell_but (hcc j hj) fun _ => HB7.out.block g hg⟩)
        have HBox2 : Hid (Bl 50 w7 w.heap.size (gotC 0 nilV [] 0 0)) := bl_below HBox.out HB7.out
        have HB3 : Hid (Below w.heap.size w w7) := HB.out.trans (HB7.out.mono HB.out.size)
        have C1 : Calls Tryz.prog 27 #[.string ⟨t.toArray⟩, .int .i64 (k : Int)] wr fun e w' => e = .returned (.int .i64 34) ∧ w' = wr := C1
        clear hc HK q1
        go_wp2_with fail
        refine C1.mono ?_
        clear C1
        rintro e w2 ⟨rfl, rfl⟩
        rw [← HW7.out] at hcv HBox2 HB3
        clear HW7 HX7 HB7 HS7
        obtain ⟨wz, hwz⟩ : ∃ wz, (w2.alloc (.cells #[.int .i64 0, .slice none 0 0, .string ⟨#[]⟩, .int .i64 0, .int .i64 0] 50)).setRow w.heap.size (gotC ((k : Int) + 1) nilV acc 0 0).toArray = wz := ⟨_, rfl⟩
        have HBz : Hid (Bl 50 wz w.heap.size (gotC ((k : Int) + 1) nilV acc 0 0)) := by rw [← hwz]; exact set_bl HBox2.out
        have Hz : Hid (Below w.heap.size w wz) := by rw [← hwz]; exact setRow_below _ HB3.out (Nat.le_refl _)
        have HWz : Hid ((w2.alloc (.cells #[.int .i64 0, .slice none 0 0, .string ⟨#[]⟩, .int .i64 0, .int .i64 0] 50)).setRow w.heap.size (gotC ((k : Int) + 1) nilV acc 0 0).toArray = wz) := hwz
        have hgi : (Tryz.prog.info? 50).map (·.size) = some 5 := by kernel_rfl
        clear hwz
        go_wp2_with (refine wpList_store_row rfl 50 (.tmp 4) (.tmp 26) rfl w.heap.size (gotC ((k : Int) + 1) nilV acc 0 0).toArray rfl rfl 50 (gotC 0 nilV [] 0 0).toArray HBox2.out hgi rfl (by simp [gotC, nilV, Value.oneCell']) ?_; rw [HWz.out]; clear HWz hgi)
        (try simp only [Exit.inBlock, Exit.then])
        exact bodyPost_ret (v := gotV ((k : Int) + 1) nilV acc 0 0) (results_got rfl _ _ w.heap.size ((k : Int) + 1) nilV acc 0 0 rfl HBz.out) rfl ⟨⟨_, rfl, by rw [HX.out]; rfl⟩, Hz.out⟩
      · have h34' : tk t [34] k = false := by
          unfold tk
          rw [hc]
          simp [h34]
        have hst := quo_step (n := n) (acc := acc) h34'
        have q2 : ((c.toNat : Int) == 34) = false := by
          simp only [beq_eq_false_iff_ne, ne_eq]
          exact fun e => h34 (UInt8.toNat_inj.1 (by show _ = 34; omega))
        have HN4 : Hid (wr.heap.size ≠ w.heap.size) := by have := HSz.out; show _ ≠ _; omega
        have HOlt : Hid (∀ g, (Value.slice ba acc.length bc).ownBlock = some g → w.heap.size + 1 ≤ g ∧ g < wr.heap.size) := fun g hg => World.ownsRow.lt HO.out g hg
        obtain ⟨i1, hi1, hz1, hz2, hz3⟩ := info_parts infoB8
        clear h34' h34
        by_cases h92 : c = 92
        · subst h92
          have C1 : Calls Tryz.prog 27 #[.string ⟨t.toArray⟩, .int .i64 (k : Int)] wr fun e w' => e = .returned (.int .i64 92) ∧ w' = wr := C1
          obtain ⟨X, hX⟩ : ∃ X, chF t k = X := ⟨_, rfl⟩
          have C2 := rescape_any t k w7 hlt (by omega)
          rw [← chr_esc hlt hc, hX] at C2
          clear hc q1 q2
          rw [hX] at hst
          have HOK : Hid (∀ S q, X = .ok S q → k < q ∧ q ≤ t.length ∧ S.length ≤ 4) := fun S q e => ch_ok (hX.trans e)
          have HNZ : Hid (∀ c q, X = .bad c q → c ≠ 0) := fun c q e => ch_nz (hX.trans e)
          have HST : Hid (quoF t (n + 1) k acc = nxF t n acc X) := hst
          clear hX hst
          go_wp2_with fail
          refine C1.mono ?_
          clear C1
          rintro e w2 ⟨rfl, rfl⟩
          go_wp2_with fail
          rw [HW7.out]
          refine C2.mono ?_
          clear C2 HW7
          rintro e w3 ⟨⟨v, rfl, hv⟩, hB3⟩
          cases X with
          | ok S q =>
            have hv : v = .agg #[.int .i64 (q : Int), .slice none 0 0, .string ⟨S.toArray⟩, .int .i64 0, .int .i64 0] := hv
            subst hv
            have hq := HOK.out S q rfl
            have HK5 : Hid (quoF t n q (acc ++ S) = R) := HST.out.symm.trans HK.out
            clear HK HST HOK HNZ
            have HBx3 : Hid (Bl 50 w3 w2.heap.size (gotC 0 nilV [] 0 0)) := bl_below HX7.out hB3
            have HBo3 : Hid (Bl 50 w3 w.heap.size (gotC 0 nilV [] 0 0)) := bl_below (bl_below HBox.out HB7.out) hB3
            have HB3 : Hid (Below w.heap.size w w3) := (HB.out.trans (HB7.out.mono HB.out.size)).trans (hB3.mono (Nat.le_trans HB.out.size HB7.out.size))
            have HO3 : Hid (w3.ownsRow (w.heap.size + 1) 5 1 (.slice ba acc.length bc) acc.length (acc.map B)) := own_below (own_below HO.out HB7.out (Nat.le_refl _)) hB3 (Nat.le_refl _)
            have HS3 : Hid (w2.heap.size < w3.heap.size) := Nat.lt_of_lt_of_le HS7.out hB3.size
            clear hB3
            obtain ⟨w4, hw4⟩ : ∃ w4, w3.setRow w2.heap.size (gotC (q : Int) nilV S 0 0).toArray = w4 := ⟨_, rfl⟩
            have HG : Hid (Bl 50 w4 w2.heap.size (gotC (q : Int) nilV S 0 0)) := by rw [← hw4]; exact set_bl HBx3.out
            have HBx4 : Hid (Bl 50 w4 w.heap.size (gotC 0 nilV [] 0 0)) := by
              rw [← hw4]
              have h := HBo3.out
              show Bl _ _ _ _
              unfold Bl at h ⊢
              rw [setRow_other _ _ _ _ (fun e => HN4.out e.symm)]
              exact h
            have HB4 : Hid (Below w.heap.size w w4) := by rw [← hw4]; exact setRow_below _ HB3.out (Nat.le_of_lt HSz.out)
            have HO4 : Hid (w4.ownsRow (w.heap.size + 1) 5 1 (.slice ba acc.length bc) acc.length (acc.map B)) := by
              rw [← hw4]
              exact own_keep HO3.out (fun g hg => setRow_other _ _ _ _ (by have := HOlt.out g hg; omega))
            have HS4 : Hid (w2.heap.size < w4.heap.size) := by rw [← hw4]; show _ < _; have := HS3.out; simpa [World.setRow] using this
            have HW4 : Hid (w3.setRow w2.heap.size (gotC (q : Int) nilV S 0 0).toArray = w4) := hw4
            have hgi : (Tryz.prog.info? 50).map (·.size) = some 5 := by kernel_rfl
            clear hw4 HBo3 HB3 HO3 HS3
            have k0 : w4.cell? ⟨w2.heap.size, 0, none⟩ = some (.int .i64 ((q : Int))) := HG.out.cell 0 (by show 0 < 5; decide)
            have k2 : w4.cell? ⟨w2.heap.size, 2, none⟩ = some (.string ⟨S.toArray⟩) := HG.out.cell 2 (by show 2 < 5; decide)
            have k3 : w4.cell? ⟨w2.heap.size, 3, none⟩ = some (.int .i64 0) := HG.out.cell 3 (by show 3 < 5; decide)
            go_wp2_with (first | (refine wpList_store_row rfl 50 (.tmp 7) (.tmp 32) rfl w2.heap.size (gotC (q : Int) nilV S 0 0).toArray rfl rfl 50 (gotC 0 nilV [] 0 0).toArray HBx3.out hgi rfl (by simp [gotC, nilV, Value.oneCell']) ?_; rw [HW4.out]; clear HW4) | (at_builtin; refine Lib.wpList_append_own_string _ rfl (.tmp 48) (.tmp 50) 67 9 rfl (w.heap.size + 1) 5 i1 Tryz.underlying67 Tryz.underlying9 hi1 hz1 hz2 hz3 _ acc.length (acc.map B) rfl HO4.out ⟨S.toArray⟩ rfl (by unfold maxLen; show acc.length + S.toArray.size ≤ _; simp; omega) (by show acc.length + S.toArray.size ≤ _; simp; omega) (by have := HSz.out; have := HS4.out; omega) ?_; intro v5 w5 h5 h6 _; have HO5 : Hid (w5.ownsRow (w.heap.size + 1) 5 1 v5 (acc ++ S).length ((acc ++ S).map B)) := (by rw [strCB] at h5; rw [List.length_append, List.map_append]; exact h5); have HG5 := bl_grown HG.out h6 (fun e => by have := HOlt.out w2.heap.size e; omega); have k5 : w5.cell? ⟨w2.heap.size, 0, none⟩ = some (.int .i64 ((q : Int))) := HG5.cell 0 (by show 0 < 5; decide); have HBx5 : Hid (Bl 50 w5 w.heap.size (gotC 0 nilV [] 0 0)) := bl_grown HBx4.out h6 (fun e => by have := HOlt.out w.heap.size e; omega); have HB5 : Hid (Below w.heap.size w w5) := HB4.out.grown h6 HB4.out.size (fun g hg => by have := HOlt.out g hg; omega); have HS5 : Hid (w.heap.size < w5.heap.size) := (by have h7 := h6.size; have h8 := HSz.out; have h9 := HS4.out; show _ < _; omega); clear h5 h6 HG5 k0 k2 k3 HG HBx4 HB4 HO4 HS4))
            go_roundw
            case rel => exact ⟨q, n, acc ++ S, rfl, hq.2.1, by omega, by rw [List.length_append]; omega, HB5.out, HS5.out, HBx5.out, HO5.out, HK5⟩
            case measure => simp [intOf]; omega
          | bad c0 b0 =>
            obtain ⟨A, S, hv⟩ := hv
            have hv : v = .agg #[.int .i64 A, .slice none 0 0, .string ⟨S.toArray⟩, .int .i64 (c0 : Int), .int .i64 (b0 : Int)] := hv
            subst hv
            have qc : ((c0 : Int) != 0) = true := by have := HNZ.out c0 b0 rfl; simp; omega
            have HX : Hid (R = .bad c0 b0) := HK.out.symm.trans HST.out
            clear HK HST HOK HNZ
            have HBx3 : Hid (Bl 50 w3 w2.heap.size (gotC 0 nilV [] 0 0)) := bl_below HX7.out hB3
            have HBo3 : Hid (Bl 50 w3 w.heap.size (gotC 0 nilV [] 0 0)) := bl_below (bl_below HBox.out HB7.out) hB3
            have HB3 : Hid (Below w.heap.size w w3) := (HB.out.trans (HB7.out.mono HB.out.size)).trans (hB3.mono (Nat.le_trans HB.out.size HB7.out.size))
            have HO3 : Hid (w3.ownsRow (w.heap.size + 1) 5 1 (.slice ba acc.length bc) acc.length (acc.map B)) := own_below (own_below HO.out HB7.out (Nat.le_refl _)) hB3 (Nat.le_refl _)
            have HS3 : Hid (w2.heap.size < w3.heap.size) := Nat.lt_of_lt_of_le HS7.out hB3.size
            clear hB3
            obtain ⟨w4, hw4⟩ : ∃ w4, w3.setRow w2.heap.size (gotC A nilV S (c0 : Int) (b0 : Int)).toArray = w4 := ⟨_, rfl⟩
            have HG : Hid (Bl 50 w4 w2.heap.size (gotC A nilV S (c0 : Int) (b0 : Int))) := by rw [← hw4]; exact set_bl HBx3.out
            have HBx4 : Hid (Bl 50 w4 w.heap.size (gotC 0 nilV [] 0 0)) := by
              rw [← hw4]
              have h := HBo3.out
              show Bl _ _ _ _
              unfold Bl at h ⊢
              rw [setRow_other _ _ _ _ (fun e => HN4.out e.symm)]
              exact h
            have HB4 : Hid (Below w.heap.size w w4) := by rw [← hw4]; exact setRow_below _ HB3.out (Nat.le_of_lt HSz.out)
            have HO4 : Hid (w4.ownsRow (w.heap.size + 1) 5 1 (.slice ba acc.length bc) acc.length (acc.map B)) := by
              rw [← hw4]
              exact own_keep HO3.out (fun g hg => setRow_other _ _ _ _ (by have := HOlt.out g hg; omega))
            have HS4 : Hid (w2.heap.size < w4.heap.size) := by rw [← hw4]; show _ < _; have := HS3.out; simpa [World.setRow] using this
            have HW4 : Hid (w3.setRow w2.heap.size (gotC A nilV S (c0 : Int) (b0 : Int)).toArray = w4) := hw4
            have hgi : (Tryz.prog.info? 50).map (·.size) = some 5 := by kernel_rfl
            clear hw4 HBo3 HB3 HO3 HS3
            have k3 : w4.cell? ⟨w2.heap.size, 3, none⟩ = some (.int .i64 (c0 : Int)) := HG.out.cell 3 (by show 3 < 5; decide)
            have HRg : Hid (w4.rangeAt w2.heap.size 0 (gotC A nilV S (c0 : Int) (b0 : Int))) := bl_range HG.out
            obtain ⟨wz, hwz⟩ : ∃ wz, w4.setRow w.heap.size (gotC A nilV S (c0 : Int) (b0 : Int)).toArray = wz := ⟨_, rfl⟩
            have HBz : Hid (Bl 50 wz w.heap.size (gotC A nilV S (c0 : Int) (b0 : Int))) := by rw [← hwz]; exact set_bl HBx4.out
            have Hz : Hid (Below w.heap.size w wz) := by rw [← hwz]; exact setRow_below _ HB4.out (Nat.le_refl _)
            have HWz : Hid (w4.setRow w.heap.size (gotC A nilV S (c0 : Int) (b0 : Int)).toArray = wz) := hwz
            clear hwz
            go_wp2_with (first | (refine wpList_store_row rfl 50 (.tmp 7) (.tmp 32) rfl w2.heap.size (gotC A nilV S (c0 : Int) (b0 : Int)).toArray rfl rfl 50 (gotC 0 nilV [] 0 0).toArray HBx3.out hgi rfl (by simp [gotC, nilV, Value.oneCell']) ?_; rw [HW4.out]; clear HW4) | (refine wpList_load_mid rfl 50 (.tmp 7) rfl w2.heap.size 0 rfl (gotC A nilV S (c0 : Int) (b0 : Int)) _ HRg.out Tryz.underlying50 rfl hgi ?_) | (refine wpList_store_row rfl 50 (.tmp 4) (.tmp 47) rfl w.heap.size (gotC A nilV S (c0 : Int) (b0 : Int)).toArray rfl rfl 50 (gotC 0 nilV [] 0 0).toArray HBx4.out hgi rfl (by simp [gotC, nilV, Value.oneCell']) ?_; rw [HWz.out]; clear HWz))
            (try simp only [Exit.inBlock, Exit.then])
            exact bodyPost_ret (v := gotV A nilV S (c0 : Int) (b0 : Int)) (results_got rfl _ _ w.heap.size A nilV S (c0 : Int) (b0 : Int) rfl HBz.out) rfl ⟨⟨_, rfl, by rw [HX.out]; exact ⟨_, _, rfl⟩⟩, Hz.out⟩
        · have q3 : ((c.toNat : Int) == 92) = false := by
            simp only [beq_eq_false_iff_ne, ne_eq]
            exact fun e => h92 (UInt8.toNat_inj.1 (by show _ = 92; omega))
          by_cases h128 : c.toNat < 128
          · have q4 : decide ((c.toNat : Int) < 128) = true := decide_eq_true (by omega)
            rw [chr_plain hlt hc hc32 h92 h128] at hst
            have HK5 : Hid (quoF t n (k + 1) (acc ++ [c]) = R) := hst.symm.trans HK.out
            have hsl : (⟨t.toArray⟩ : ByteArray).extract k (k + 1) = ⟨#[c]⟩ := by
              rw [ext_sgl]
              unfold sgl
              rw [drop_at hlt, hc]
              simp
            clear hst HK hc HW7 HX7 HB7 HS7
            go_wp2_with fail
            refine C1.mono ?_
            clear C1
            rintro e w2 ⟨rfl, rfl⟩
            have HG : Hid (Bl 50 (w2.alloc (.cells #[.int .i64 ((k : Int) + 1), .slice none 0 0, .string ⟨#[c]⟩, .int .i64 0, .int .i64 0] 50)) w2.heap.size (gotC ((k : Int) + 1) nilV [c] 0 0)) := alloc_bl _ _ _
            have HBx4 : Hid (Bl 50 (w2.alloc (.cells #[.int .i64 ((k : Int) + 1), .slice none 0 0, .string ⟨#[c]⟩, .int .i64 0, .int .i64 0] 50)) w.heap.size (gotC 0 nilV [] 0 0)) := bl_below HBox.out (alloc_below _ _)
            have HB4 : Hid (Below w.heap.size w (w2.alloc (.cells #[.int .i64 ((k : Int) + 1), .slice none 0 0, .string ⟨#[c]⟩, .int .i64 0, .int .i64 0] 50))) := HB.out.trans ((alloc_below _ _).mono HB.out.size)
            have HO4 : Hid ((w2.alloc (.cells #[.int .i64 ((k : Int) + 1), .slice none 0 0, .string ⟨#[c]⟩, .int .i64 0, .int .i64 0] 50)).ownsRow (w.heap.size + 1) 5 1 (.slice ba acc.length bc) acc.length (acc.map B)) := own_below HO.out (alloc_below _ _) (Nat.le_refl _)
            have HS4 : Hid (w2.heap.size < (w2.alloc (.cells #[.int .i64 ((k : Int) + 1), .slice none 0 0, .string ⟨#[c]⟩, .int .i64 0, .int .i64 0] 50)).heap.size) := by show _ < _; rw [alloc_size]; omega
            have hq1 : (k : Int) + 1 = ((k + 1 : Nat) : Int) ∨ True := .inr trivial
            have k0 : (w2.alloc (.cells #[.int .i64 ((k : Int) + 1), .slice none 0 0, .string ⟨#[c]⟩, .int .i64 0, .int .i64 0] 50)).cell? ⟨w2.heap.size, 0, none⟩ = some (.int .i64 (((k : Int) + 1))) := HG.out.cell 0 (by show 0 < 5; decide)
            have k2 : (w2.alloc (.cells #[.int .i64 ((k : Int) + 1), .slice none 0 0, .string ⟨#[c]⟩, .int .i64 0, .int .i64 0] 50)).cell? ⟨w2.heap.size, 2, none⟩ = some (.string ⟨[c].toArray⟩) := HG.out.cell 2 (by show 2 < 5; decide)
            have k3 : (w2.alloc (.cells #[.int .i64 ((k : Int) + 1), .slice none 0 0, .string ⟨#[c]⟩, .int .i64 0, .int .i64 0] 50)).cell? ⟨w2.heap.size, 3, none⟩ = some (.int .i64 0) := HG.out.cell 3 (by show 3 < 5; decide)
            go_wp2_with (first | (at_builtin; refine Lib.wpList_append_own_string _ rfl (.tmp 48) (.tmp 50) 67 9 rfl (w.heap.size + 1) 5 i1 Tryz.underlying67 Tryz.underlying9 hi1 hz1 hz2 hz3 _ acc.length (acc.map B) rfl HO4.out ⟨[c].toArray⟩ rfl (by unfold maxLen; show acc.length + [c].toArray.size ≤ _; simp; omega) (by show acc.length + [c].toArray.size ≤ _; simp; omega) (by have := HSz.out; have := HS4.out; omega) ?_; intro v5 w5 h5 h6 _; have HO5 : Hid (w5.ownsRow (w.heap.size + 1) 5 1 v5 (acc ++ [c]).length ((acc ++ [c]).map B)) := (by rw [strCB] at h5; rw [List.length_append, List.map_append]; exact h5); have HG5 := bl_grown HG.out h6 (fun e => by have := HOlt.out w2.heap.size e; omega); have k5 : w5.cell? ⟨w2.heap.size, 0, none⟩ = some (.int .i64 (((k : Int) + 1))) := HG5.cell 0 (by show 0 < 5; decide); have HBx5 : Hid (Bl 50 w5 w.heap.size (gotC 0 nilV [] 0 0)) := bl_grown HBx4.out h6 (fun e => by have := HOlt.out w.heap.size e; omega); have HB5 : Hid (Below w.heap.size w w5) := HB4.out.grown h6 HB4.out.size (fun g hg => by have := HOlt.out g hg; omega); have HS5 : Hid (w.heap.size < w5.heap.size) := (by have h7 := h6.size; have h8 := HSz.out; have h9 := HS4.out; show _ < _; omega); clear h5 h6 HG5 k0 k2 k3 HG HBx4 HB4 HO4 HS4))
            go_roundw
            case rel => exact ⟨k + 1, n, acc ++ [c], by go_num, by omega, by omega, by rw [List.length_append, List.length_singleton]; omega, HB5.out, HS5.out, HBx5.out, HO5.out, HK5⟩
            case measure => simp [intOf]; omega
          · have q4 : decide ((c.toNat : Int) < 128) = false := decide_eq_false (by omega)
            obtain ⟨X, hX⟩ : ∃ X, chF t k = X := ⟨_, rfl⟩
            have C2 := sequence_any t k w7 hlt (by rw [hc]; omega) (by omega)
            rw [hX] at C2
            clear hc
            rw [hX] at hst
            have HOK : Hid (∀ S q, X = .ok S q → k < q ∧ q ≤ t.length ∧ S.length ≤ 4) := fun S q e => ch_ok (hX.trans e)
            have HNZ : Hid (∀ c q, X = .bad c q → c ≠ 0) := fun c q e => ch_nz (hX.trans e)
            have HST : Hid (quoF t (n + 1) k acc = nxF t n acc X) := hst
            clear hX hst
            go_wp2_with fail
            refine C1.mono ?_
            clear C1
            rintro e w2 ⟨rfl, rfl⟩
            go_wp2_with fail
            rw [HW7.out]
            refine C2.mono ?_
            clear C2 HW7
            rintro e w3 ⟨⟨v, rfl, hv⟩, hB3⟩
            cases X with
            | ok S q =>
              have hv : v = .agg #[.int .i64 (q : Int), .slice none 0 0, .string ⟨S.toArray⟩, .int .i64 0, .int .i64 0] := hv
              subst hv
              have hq := HOK.out S q rfl
              have HK5 : Hid (quoF t n q (acc ++ S) = R) := HST.out.symm.trans HK.out
              clear HK HST HOK HNZ
              have HBx3 : Hid (Bl 50 w3 w2.heap.size (gotC 0 nilV [] 0 0)) := bl_below HX7.out hB3
              have HBo3 : Hid (Bl 50 w3 w.heap.size (gotC 0 nilV [] 0 0)) := bl_below (bl_below HBox.out HB7.out) hB3
              have HB3 : Hid (Below w.heap.size w w3) := (HB.out.trans (HB7.out.mono HB.out.size)).trans (hB3.mono (Nat.le_trans HB.out.size HB7.out.size))
              have HO3 : Hid (w3.ownsRow (w.heap.size + 1) 5 1 (.slice ba acc.length bc) acc.length (acc.map B)) := own_below (own_below HO.out HB7.out (Nat.le_refl _)) hB3 (Nat.le_refl _)
              have HS3 : Hid (w2.heap.size < w3.heap.size) := Nat.lt_of_lt_of_le HS7.out hB3.size
              clear hB3
              obtain ⟨w4, hw4⟩ : ∃ w4, w3.setRow w2.heap.size (gotC (q : Int) nilV S 0 0).toArray = w4 := ⟨_, rfl⟩
              have HG : Hid (Bl 50 w4 w2.heap.size (gotC (q : Int) nilV S 0 0)) := by rw [← hw4]; exact set_bl HBx3.out
              have HBx4 : Hid (Bl 50 w4 w.heap.size (gotC 0 nilV [] 0 0)) := by
                rw [← hw4]
                have h := HBo3.out
                show Bl _ _ _ _
                unfold Bl at h ⊢
                rw [setRow_other _ _ _ _ (fun e => HN4.out e.symm)]
                exact h
              have HB4 : Hid (Below w.heap.size w w4) := by rw [← hw4]; exact setRow_below _ HB3.out (Nat.le_of_lt HSz.out)
              have HO4 : Hid (w4.ownsRow (w.heap.size + 1) 5 1 (.slice ba acc.length bc) acc.length (acc.map B)) := by
                rw [← hw4]
                exact own_keep HO3.out (fun g hg => setRow_other _ _ _ _ (by have := HOlt.out g hg; omega))
              have HS4 : Hid (w2.heap.size < w4.heap.size) := by rw [← hw4]; show _ < _; have := HS3.out; simpa [World.setRow] using this
              have HW4 : Hid (w3.setRow w2.heap.size (gotC (q : Int) nilV S 0 0).toArray = w4) := hw4
              have hgi : (Tryz.prog.info? 50).map (·.size) = some 5 := by kernel_rfl
              clear hw4 HBo3 HB3 HO3 HS3
              have k0 : w4.cell? ⟨w2.heap.size, 0, none⟩ = some (.int .i64 ((q : Int))) := HG.out.cell 0 (by show 0 < 5; decide)
              have k2 : w4.cell? ⟨w2.heap.size, 2, none⟩ = some (.string ⟨S.toArray⟩) := HG.out.cell 2 (by show 2 < 5; decide)
              have k3 : w4.cell? ⟨w2.heap.size, 3, none⟩ = some (.int .i64 0) := HG.out.cell 3 (by show 3 < 5; decide)
              go_wp2_with (first | (refine wpList_store_row rfl 50 (.tmp 7) (.tmp 13) rfl w2.heap.size (gotC (q : Int) nilV S 0 0).toArray rfl rfl 50 (gotC 0 nilV [] 0 0).toArray HBx3.out hgi rfl (by simp [gotC, nilV, Value.oneCell']) ?_; rw [HW4.out]; clear HW4) | (at_builtin; refine Lib.wpList_append_own_string _ rfl (.tmp 48) (.tmp 50) 67 9 rfl (w.heap.size + 1) 5 i1 Tryz.underlying67 Tryz.underlying9 hi1 hz1 hz2 hz3 _ acc.length (acc.map B) rfl HO4.out ⟨S.toArray⟩ rfl (by unfold maxLen; show acc.length + S.toArray.size ≤ _; simp; omega) (by show acc.length + S.toArray.size ≤ _; simp; omega) (by have := HSz.out; have := HS4.out; omega) ?_; intro v5 w5 h5 h6 _; have HO5 : Hid (w5.ownsRow (w.heap.size + 1) 5 1 v5 (acc ++ S).length ((acc ++ S).map B)) := (by rw [strCB] at h5; rw [List.length_append, List.map_append]; exact h5); have HG5 := bl_grown HG.out h6 (fun e => by have := HOlt.out w2.heap.size e; omega); have k5 : w5.cell? ⟨w2.heap.size, 0, none⟩ = some (.int .i64 ((q : Int))) := HG5.cell 0 (by show 0 < 5; decide); have HBx5 : Hid (Bl 50 w5 w.heap.size (gotC 0 nilV [] 0 0)) := bl_grown HBx4.out h6 (fun e => by have := HOlt.out w.heap.size e; omega); have HB5 : Hid (Below w.heap.size w w5) := HB4.out.grown h6 HB4.out.size (fun g hg => by have := HOlt.out g hg; omega); have HS5 : Hid (w.heap.size < w5.heap.size) := (by have h7 := h6.size; have h8 := HSz.out; have h9 := HS4.out; show _ < _; omega); clear h5 h6 HG5 k0 k2 k3 HG HBx4 HB4 HO4 HS4))
              go_roundw
              case rel => exact ⟨q, n, acc ++ S, rfl, hq.2.1, by omega, by rw [List.length_append]; omega, HB5.out, HS5.out, HBx5.out, HO5.out, HK5⟩
              case measure => simp [intOf]; omega
            | bad c0 b0 =>
              obtain ⟨A, S, hv⟩ := hv
              have hv : v = .agg #[.int .i64 A, .slice none 0 0, .string ⟨S.toArray⟩, .int .i64 (c0 : Int), .int .i64 (b0 : Int)] := hv
              subst hv
              have qc : ((c0 : Int) != 0) = true := by have := HNZ.out c0 b0 rfl; simp; omega
              have HX : Hid (R = .bad c0 b0) := HK.out.symm.trans HST.out
              clear HK HST HOK HNZ
              have HBx3 : Hid (Bl 50 w3 w2.heap.size (gotC 0 nilV [] 0 0)) := bl_below HX7.out hB3
              have HBo3 : Hid (Bl 50 w3 w.heap.size (gotC 0 nilV [] 0 0)) := bl_below (bl_below HBox.out HB7.out) hB3
              have HB3 : Hid (Below w.heap.size w w3) := (HB.out.trans (HB7.out.mono HB.out.size)).trans (hB3.mono (Nat.le_trans HB.out.size HB7.out.size))
              have HO3 : Hid (w3.ownsRow (w.heap.size + 1) 5 1 (.slice ba acc.length bc) acc.length (acc.map B)) := own_below (own_below HO.out HB7.out (Nat.le_refl _)) hB3 (Nat.le_refl _)
              have HS3 : Hid (w2.heap.size < w3.heap.size) := Nat.lt_of_lt_of_le HS7.out hB3.size
              clear hB3
              obtain ⟨w4, hw4⟩ : ∃ w4, w3.setRow w2.heap.size (gotC A nilV S (c0 : Int) (b0 : Int)).toArray = w4 := ⟨_, rfl⟩
              have HG : Hid (Bl 50 w4 w2.heap.size (gotC A nilV S (c0 : Int) (b0 : Int))) := by rw [← hw4]; exact set_bl HBx3.out
              have HBx4 : Hid (Bl 50 w4 w.heap.size (gotC 0 nilV [] 0 0)) := by
                rw [← hw4]
                have h := HBo3.out
                show Bl _ _ _ _
                unfold Bl at h ⊢
                rw [setRow_other _ _ _ _ (fun e => HN4.out e.symm)]
                exact h
              have HB4 : Hid (Below w.heap.size w w4) := by rw [← hw4]; exact setRow_below _ HB3.out (Nat.le_of_lt HSz.out)
              have HO4 : Hid (w4.ownsRow (w.heap.size + 1) 5 1 (.slice ba acc.length bc) acc.length (acc.map B)) := by
                rw [← hw4]
                exact own_keep HO3.out (fun g hg => setRow_other _ _ _ _ (by have := HOlt.out g hg; omega))
              have HS4 : Hid (w2.heap.size < w4.heap.size) := by rw [← hw4]; show _ < _; have := HS3.out; simpa [World.setRow] using this
              have HW4 : Hid (w3.setRow w2.heap.size (gotC A nilV S (c0 : Int) (b0 : Int)).toArray = w4) := hw4
              have hgi : (Tryz.prog.info? 50).map (·.size) = some 5 := by kernel_rfl
              clear hw4 HBo3 HB3 HO3 HS3
              have k3 : w4.cell? ⟨w2.heap.size, 3, none⟩ = some (.int .i64 (c0 : Int)) := HG.out.cell 3 (by show 3 < 5; decide)
              have HRg : Hid (w4.rangeAt w2.heap.size 0 (gotC A nilV S (c0 : Int) (b0 : Int))) := bl_range HG.out
              obtain ⟨wz, hwz⟩ : ∃ wz, w4.setRow w.heap.size (gotC A nilV S (c0 : Int) (b0 : Int)).toArray = wz := ⟨_, rfl⟩
              have HBz : Hid (Bl 50 wz w.heap.size (gotC A nilV S (c0 : Int) (b0 : Int))) := by rw [← hwz]; exact set_bl HBx4.out
              have Hz : Hid (Below w.heap.size w wz) := by rw [← hwz]; exact setRow_below _ HB4.out (Nat.le_refl _)
              have HWz : Hid (w4.setRow w.heap.size (gotC A nilV S (c0 : Int) (b0 : Int)).toArray = wz) := hwz
              clear hwz
              go_wp2_with (first | (refine wpList_store_row rfl 50 (.tmp 7) (.tmp 13) rfl w2.heap.size (gotC A nilV S (c0 : Int) (b0 : Int)).toArray rfl rfl 50 (gotC 0 nilV [] 0 0).toArray HBx3.out hgi rfl (by simp [gotC, nilV, Value.oneCell']) ?_; rw [HW4.out]; clear HW4) | (refine wpList_load_mid rfl 50 (.tmp 7) rfl w2.heap.size 0 rfl (gotC A nilV S (c0 : Int) (b0 : Int)) _ HRg.out Tryz.underlying50 rfl hgi ?_) | (refine wpList_store_row rfl 50 (.tmp 4) (.tmp 47) rfl w.heap.size (gotC A nilV S (c0 : Int) (b0 : Int)).toArray rfl rfl 50 (gotC 0 nilV [] 0 0).toArray HBx4.out hgi rfl (by simp [gotC, nilV, Value.oneCell']) ?_; rw [HWz.out]; clear HWz))
              (try simp only [Exit.inBlock, Exit.then])
              exact bodyPost_ret (v := gotV A nilV S (c0 : Int) (b0 : Int)) (results_got rfl _ _ w.heap.size A nilV S (c0 : Int) (b0 : Int) rfl HBz.out) rfl ⟨⟨_, rfl, by rw [HX.out]; exact ⟨_, _, rfl⟩⟩, Hz.out⟩

end Go.Proofs.YtapljedegjiliaaGreatDoor

namespace Go.Proofs.YtapljedegjiliaaGreatDoor
open Go.RowKit Go.Shelf

/-- One digit or more. -/
def dgF (t : List UInt8) (p : Nat) : Lx Unit := if tk t digitsS p then .ok () (skp t digitsS p) else .bad 31 p
def GotU (x : Lx Unit) (v : Value) : Prop := match x with
  | .ok _ q => v = gotV (q : Int) nilV [] 0 0
  | .bad c b => v = gotV 0 nilV [] (c : Int) (b : Int)
theorem dig_num (c : UInt8) : digitsS.contains c = (decide (48 ≤ c.toNat) && decide (c.toNat ≤ 57)) := (dg_eq c).symm

set_option maxRecDepth 100000 in
set_option maxHeartbeats 8000000 in
theorem rdigits_any (t : List UInt8) (p : Nat) (w : World) (hp : p ≤ t.length) (ht : t.length ≤ 1000000) :
    Calls Tryz.prog 45 #[.string ⟨t.toArray⟩, .int .i64 p] w fun e w' => (∃ v, e = .returned v ∧ GotU (dgF t p) v) ∧ Below w.heap.size w w' := by
  obtain ⟨z, hz⟩ : ∃ z, skp t digitsS p = z := ⟨_, rfl⟩
  have HZ : Hid (skp t digitsS p = z) := hz
  have HF : Hid (dgF t p = if p < z then .ok () z else .bad 31 p) := by
    show _ = _
    unfold dgF
    rw [hz]
    by_cases h : tk t digitsS p = true
    · rw [if_pos h, if_pos (by rw [← hz]; exact skp_gt.2 h)]
    · rw [if_neg h, if_neg (fun h2 => h (skp_gt.1 (by rw [hz]; exact h2)))]
  have hzp : p ≤ z := by rw [← hz]; exact skp_ge _ _ _
  have hzl : z ≤ t.length := by rw [← hz]; exact skp_le _ _ _ hp
  clear hz
  have HBox : Hid (Bl 50 (w.alloc (.cells (gotC 0 nilV [] 0 0).toArray 50)) w.heap.size (gotC 0 nilV [] 0 0)) := alloc_bl _ _ _
  have HB : Hid (Below w.heap.size w (w.alloc (.cells (gotC 0 nilV [] 0 0).toArray 50))) := alloc_below _ _
  generalize hw1 : w.alloc (.cells (gotC 0 nilV [] 0 0).toArray 50) = w1 at HBox HB
  have HW1 : Hid (w.alloc (.cells #[.int .i64 0, .slice none 0 0, .string ⟨#[]⟩, .int .i64 0, .int .i64 0] 50) = w1) := hw1
  clear hw1
  go_enter Tryz.func45, Tryz.ntmps45
  go_wp2
  go_loopw [5] (fun s5 wx => ∃ k : Nat, s5 = .int .i64 k ∧ p ≤ k ∧ k ≤ t.length ∧ wx = w1 ∧ Hid (skp t digitsS k = z)) (fun s _ => t.length - (intOf s).toNat)
  case atStart => exact ⟨p, rfl, Nat.le_refl _, hp, HW1.out, HZ⟩
  case round =>
    obtain ⟨k, rfl, hpk, hk, rfl, HK⟩ := hrel
    clear HZ hp
    by_cases hd : k < t.length ∧ 48 ≤ (t.getD k 0).toNat ∧ (t.getD k 0).toNat ≤ 57
    · obtain ⟨hlt, h1, h2⟩ := hd
      obtain ⟨c, hc⟩ : ∃ c, t.getD k 0 = c := ⟨_, rfl⟩
      have gx : (⟨t.toArray⟩ : ByteArray)[k]'(by show k < t.toArray.size; simpa using hlt) = c := by rw [← hc]; simp [List.getD_eq_getElem?_getD, hlt]; rfl
      rw [hc] at h1 h2
      have HK2 : Hid (skp t digitsS (k + 1) = z) := by
        have h := HK.out
        rw [skp_step (by unfold tk; rw [hc, decide_eq_true hlt, dig_num, decide_eq_true h1, decide_eq_true h2]; rfl)] at h
        exact h
      have q0 : decide ((k : Int) < (t.length : Int)) = true := decide_eq_true (by omega)
      have q1 : decide ((c.toNat : Int) ≥ 48) = true := decide_eq_true (by omega)
      have q2 : decide ((c.toNat : Int) ≤ 57) = true := decide_eq_true (by omega)
      clear hc HK
      go_wp2
      go_roundw
      case rel => exact ⟨k + 1, by go_num, by omega, by omega, trivial, HK2⟩
      case measure => simp [intOf]; omega
    · have HK2 : Hid (z = k) := by
        have h := HK.out
        rw [skp_stop (by
          unfold tk
          rcases Nat.lt_or_ge k t.length with hl | hl
          · rw [decide_eq_true hl, dig_num, Bool.true_and]
            cases h1 : decide (48 ≤ (t.getD k 0).toNat)
            · rfl
            · rw [Bool.true_and]
              exact decide_eq_false (fun h2 => hd ⟨hl, of_decide_eq_true h1, h2⟩)
          · rw [decide_eq_false (by omega)]; rfl)] at h
        exact h.symm
      have hzk : z ≤ k := by rw [HK2.out]; exact Nat.le_refl _
      have hzk2 : k ≤ z := by rw [HK2.out]; exact Nat.le_refl _
      have HQ : Hid (k = p ∨ p < k) := by show _ ∨ _; omega
      have HEnd : Hid (∀ (h : p < k), dgF t p = .ok () k) := fun h => by rw [HF.out, if_pos (by omega), HK2.out]
      have HEnd2 : Hid (k = p → dgF t p = .bad 31 p) := fun h => by rw [HF.out, if_neg (by omega)]
      clear HF HK
      rcases (show t.length ≤ k ∨ (k < t.length ∧ (t.getD k 0).toNat < 48) ∨ (k < t.length ∧ 48 ≤ (t.getD k 0).toNat ∧ 57 < (t.getD k 0).toNat) by omega) with hc | hc | hc
      · have q0 : decide ((k : Int) < (t.length : Int)) = false := decide_eq_false (by omega)
        clear hd
        rcases HQ.out with hkp | hkp
        · have hkp1 : ((k : Int) == (p : Int)) = true := by simp; omega
          have HX := HEnd2.out hkp
          have HX2 : Hid (dgF t p = .bad 31 p) := HX
          have C2 := fault_any 31 (p : Int) wr
          clear HX HEnd HEnd2 HQ hkp
          go_wp2_with fail
          refine C2.mono ?_
          clear C2
          rintro e w3 ⟨rfl, hB3⟩
          have HBox2 : Hid (Bl 50 w3 w.heap.size (gotC 0 nilV [] 0 0)) := bl_below HBox.out hB3
          have HB3 : Hid (Below w.heap.size w w3) := HB.out.trans (hB3.mono HB.out.size)
          clear hB3
          obtain ⟨wz, hwz⟩ : ∃ wz, w3.setRow w.heap.size (gotC 0 nilV [] 31 (p : Int)).toArray = wz := ⟨_, rfl⟩
          have HBz : Hid (Bl 50 wz w.heap.size (gotC 0 nilV [] 31 (p : Int))) := by rw [← hwz]; exact set_bl HBox2.out
          have Hz : Hid (Below w.heap.size w wz) := by rw [← hwz]; exact setRow_below _ HB3.out (Nat.le_refl _)
          have HWz : Hid (w3.setRow w.heap.size (gotC 0 nilV [] 31 (p : Int)).toArray = wz) := hwz
          have hgi : (Tryz.prog.info? 50).map (·.size) = some 5 := by kernel_rfl
          clear hwz
          go_wp2_with (refine wpList_store_row rfl 50 (.tmp 4) (.tmp 29) rfl w.heap.size (gotC 0 nilV [] 31 (p : Int)).toArray rfl rfl 50 (gotC 0 nilV [] 0 0).toArray HBox2.out hgi rfl (by simp [gotC, nilV, Value.oneCell']) ?_; rw [HWz.out]; clear HWz hgi)
          (try simp only [Exit.inBlock, Exit.then])
          exact bodyPost_ret (v := gotV 0 nilV [] 31 (p : Int)) (results_got rfl _ _ w.heap.size 0 nilV [] 31 (p : Int) rfl HBz.out) rfl ⟨⟨_, rfl, by rw [HX2.out]; rfl⟩, Hz.out⟩
        · have hkp1 : ((k : Int) == (p : Int)) = false := by simp; omega
          have HX2 : Hid (dgF t p = .ok () k) := HEnd.out hkp
          clear HEnd HEnd2 HQ
          obtain ⟨wz, hwz⟩ : ∃ wz, wr.setRow w.heap.size (gotC (k : Int) nilV [] 0 0).toArray = wz := ⟨_, rfl⟩
          have HBz : Hid (Bl 50 wz w.heap.size (gotC (k : Int) nilV [] 0 0)) := by rw [← hwz]; exact set_bl HBox.out
          have Hz : Hid (Below w.heap.size w wz) := by rw [← hwz]; exact setRow_below _ HB.out (Nat.le_refl _)
          have HWz : Hid (wr.setRow w.heap.size (gotC (k : Int) nilV [] 0 0).toArray = wz) := hwz
          have hgi : (Tryz.prog.info? 50).map (·.size) = some 5 := by kernel_rfl
          clear hwz
          go_wp2_with (refine wpList_store_row rfl 50 (.tmp 4) (.tmp 31) rfl w.heap.size (gotC (k : Int) nilV [] 0 0).toArray rfl rfl 50 (gotC 0 nilV [] 0 0).toArray HBox.out hgi rfl (by simp [gotC, nilV, Value.oneCell']) ?_; rw [HWz.out]; clear HWz hgi)
          (try simp only [Exit.inBlock, Exit.then])
          exact bodyPost_ret (v := gotV (k : Int) nilV [] 0 0) (results_got rfl _ _ w.heap.size (k : Int) nilV [] 0 0 rfl HBz.out) rfl ⟨⟨_, rfl, by rw [HX2.out]; rfl⟩, Hz.out⟩
      · obtain ⟨c, hcc⟩ : ∃ c, t.getD k 0 = c := ⟨_, rfl⟩
        have gx : (⟨t.toArray⟩ : ByteArray)[k]'(by show k < t.toArray.size; simpa using hc.1) = c := by rw [← hcc]; simp [List.getD_eq_getElem?_getD, hc.1]; rfl
        rw [hcc] at hc
        have hlt := hc.1
        have q0 : decide ((k : Int) < (t.length : Int)) = true := decide_eq_true (by omega)
        have q1 : decide ((c.toNat : Int) ≥ 48) = false := decide_eq_false (by omega)
        clear hcc hd
        rcases HQ.out with hkp | hkp
        · have hkp1 : ((k : Int) == (p : Int)) = true := by simp; omega
          have HX := HEnd2.out hkp
          have HX2 : Hid (dgF t p = .bad 31 p) := HX
          have C2 := fault_any 31 (p : Int) wr
          clear HX HEnd HEnd2 HQ hkp
          go_wp2_with fail
          refine C2.mono ?_
          clear C2
          rintro e w3 ⟨rfl, hB3⟩
          have HBox2 : Hid (Bl 50 w3 w.heap.size (gotC 0 nilV [] 0 0)) := bl_below HBox.out hB3
          have HB3 : Hid (Below w.heap.size w w3) := HB.out.trans (hB3.mono HB.out.size)
          clear hB3
          obtain ⟨wz, hwz⟩ : ∃ wz, w3.setRow w.heap.size (gotC 0 nilV [] 31 (p : Int)).toArray = wz := ⟨_, rfl⟩
          have HBz : Hid (Bl 50 wz w.heap.size (gotC 0 nilV [] 31 (p : Int))) := by rw [← hwz]; exact set_bl HBox2.out
          have Hz : Hid (Below w.heap.size w wz) := by rw [← hwz]; exact setRow_below _ HB3.out (Nat.le_refl _)
          have HWz : Hid (w3.setRow w.heap.size (gotC 0 nilV [] 31 (p : Int)).toArray = wz) := hwz
          have hgi : (Tryz.prog.info? 50).map (·.size) = some 5 := by kernel_rfl
          clear hwz
          go_wp2_with (refine wpList_store_row rfl 50 (.tmp 4) (.tmp 29) rfl w.heap.size (gotC 0 nilV [] 31 (p : Int)).toArray rfl rfl 50 (gotC 0 nilV [] 0 0).toArray HBox2.out hgi rfl (by simp [gotC, nilV, Value.oneCell']) ?_; rw [HWz.out]; clear HWz hgi)
          (try simp only [Exit.inBlock, Exit.then])
          exact bodyPost_ret (v := gotV 0 nilV [] 31 (p : Int)) (results_got rfl _ _ w.heap.size 0 nilV [] 31 (p : Int) rfl HBz.out) rfl ⟨⟨_, rfl, by rw [HX2.out]; rfl⟩, Hz.out⟩
        · have hkp1 : ((k : Int) == (p : Int)) = false := by simp; omega
          have HX2 : Hid (dgF t p = .ok () k) := HEnd.out hkp
          clear HEnd HEnd2 HQ
          obtain ⟨wz, hwz⟩ : ∃ wz, wr.setRow w.heap.size (gotC (k : Int) nilV [] 0 0).toArray = wz := ⟨_, rfl⟩
          have HBz : Hid (Bl 50 wz w.heap.size (gotC (k : Int) nilV [] 0 0)) := by rw [← hwz]; exact set_bl HBox.out
          have Hz : Hid (Below w.heap.size w wz) := by rw [← hwz]; exact setRow_below _ HB.out (Nat.le_refl _)
          have HWz : Hid (wr.setRow w.heap.size (gotC (k : Int) nilV [] 0 0).toArray = wz) := hwz
          have hgi : (Tryz.prog.info? 50).map (·.size) = some 5 := by kernel_rfl
          clear hwz
          go_wp2_with (refine wpList_store_row rfl 50 (.tmp 4) (.tmp 31) rfl w.heap.size (gotC (k : Int) nilV [] 0 0).toArray rfl rfl 50 (gotC 0 nilV [] 0 0).toArray HBox.out hgi rfl (by simp [gotC, nilV, Value.oneCell']) ?_; rw [HWz.out]; clear HWz hgi)
          (try simp only [Exit.inBlock, Exit.then])
          exact bodyPost_ret (v := gotV (k : Int) nilV [] 0 0) (results_got rfl _ _ w.heap.size (k : Int) nilV [] 0 0 rfl HBz.out) rfl ⟨⟨_, rfl, by rw [HX2.out]; rfl⟩, Hz.out⟩
      · obtain ⟨c, hcc⟩ : ∃ c, t.getD k 0 = c := ⟨_, rfl⟩
        have gx : (⟨t.toArray⟩ : ByteArray)[k]'(by show k < t.toArray.size; simpa using hc.1) = c := by rw [← hcc]; simp [List.getD_eq_getElem?_getD, hc.1]; rfl
        rw [hcc] at hc
        have hlt := hc.1
        have q0 : decide ((k : Int) < (t.length : Int)) = true := decide_eq_true (by omega)
        have q1 : decide ((c.toNat : Int) ≥ 48) = true := decide_eq_true (by omega)
        have q2 : decide ((c.toNat : Int) ≤ 57) = false := decide_eq_false (by omega)
        clear hcc hd
        rcases HQ.out with hkp | hkp
        · have hkp1 : ((k : Int) == (p : Int)) = true := by simp; omega
          have HX := HEnd2.out hkp
          have HX2 : Hid (dgF t p = .bad 31 p) := HX
          have C2 := fault_any 31 (p : Int) wr
          clear HX HEnd HEnd2 HQ hkp
          go_wp2_with fail
          refine C2.mono ?_
          clear C2
          rintro e w3 ⟨rfl, hB3⟩
          have HBox2 : Hid (Bl 50 w3 w.heap.size (gotC 0 nilV [] 0 0)) := bl_below HBox.out hB3
          have HB3 : Hid (Below w.heap.size w w3) := HB.out.trans (hB3.mono HB.out.size)
          clear hB3
          obtain ⟨wz, hwz⟩ : ∃ wz, w3.setRow w.heap.size (gotC 0 nilV [] 31 (p : Int)).toArray = wz := ⟨_, rfl⟩
          have HBz : Hid (Bl 50 wz w.heap.size (gotC 0 nilV [] 31 (p : Int))) := by rw [← hwz]; exact set_bl HBox2.out
          have Hz : Hid (Below w.heap.size w wz) := by rw [← hwz]; exact setRow_below _ HB3.out (Nat.le_refl _)
          have HWz : Hid (w3.setRow w.heap.size (gotC 0 nilV [] 31 (p : Int)).toArray = wz) := hwz
          have hgi : (Tryz.prog.info? 50).map (·.size) = some 5 := by kernel_rfl
          clear hwz
          go_wp2_with (refine wpList_store_row rfl 50 (.tmp 4) (.tmp 29) rfl w.heap.size (gotC 0 nilV [] 31 (p : Int)).toArray rfl rfl 50 (gotC 0 nilV [] 0 0).toArray HBox2.out hgi rfl (by simp [gotC, nilV, Value.oneCell']) ?_; rw [HWz.out]; clear HWz hgi)
          (try simp only [Exit.inBlock, Exit.then])
          exact bodyPost_ret (v := gotV 0 nilV [] 31 (p : Int)) (results_got rfl _ _ w.heap.size 0 nilV [] 31 (p : Int) rfl HBz.out) rfl ⟨⟨_, rfl, by rw [HX2.out]; rfl⟩, Hz.out⟩
        · have hkp1 : ((k : Int) == (p : Int)) = false := by simp; omega
          have HX2 : Hid (dgF t p = .ok () k) := HEnd.out hkp
          clear HEnd HEnd2 HQ
          obtain ⟨wz, hwz⟩ : ∃ wz, wr.setRow w.heap.size (gotC (k : Int) nilV [] 0 0).toArray = wz := ⟨_, rfl⟩
          have HBz : Hid (Bl 50 wz w.heap.size (gotC (k : Int) nilV [] 0 0)) := by rw [← hwz]; exact set_bl HBox.out
          have Hz : Hid (Below w.heap.size w wz) := by rw [← hwz]; exact setRow_below _ HB.out (Nat.le_refl _)
          have HWz : Hid (wr.setRow w.heap.size (gotC (k : Int) nilV [] 0 0).toArray = wz) := hwz
          have hgi : (Tryz.prog.info? 50).map (·.size) = some 5 := by kernel_rfl
          clear hwz
          go_wp2_with (refine wpList_store_row rfl 50 (.tmp 4) (.tmp 31) rfl w.heap.size (gotC (k : Int) nilV [] 0 0).toArray rfl rfl 50 (gotC 0 nilV [] 0 0).toArray HBox.out hgi rfl (by simp [gotC, nilV, Value.oneCell']) ?_; rw [HWz.out]; clear HWz hgi)
          (try simp only [Exit.inBlock, Exit.then])
          exact bodyPost_ret (v := gotV (k : Int) nilV [] 0 0) (results_got rfl _ _ w.heap.size (k : Int) nilV [] 0 0 rfl HBz.out) rfl ⟨⟨_, rfl, by rw [HX2.out]; rfl⟩, Hz.out⟩

/-- Texts that can be read. -/
structure SR (w : World) (v : Value) (l : List (List UInt8)) : Prop where
  ex : ∃ ao cap, v = .slice ao l.length cap ∧ (l = [] ∨ ∃ g off : Nat, ao = some ⟨g, off, none⟩ ∧ ∀ j, j < l.length → w.cell? ⟨g, off + j, none⟩ = some (.string ⟨(l.getD j []).toArray⟩))

set_option maxRecDepth 100000 in
set_option maxHeartbeats 4000000 in
theorem among_any (v : Value) (l : List (List UInt8)) (s : List UInt8) (w : World) (h : SR w v l) (hl : l.length ≤ 1000000000) :
    Calls Tryz.prog 58 #[v, .string ⟨s.toArray⟩] w fun e w' => e = .returned (.bool (l.contains s)) ∧ w' = w := by
  obtain ⟨ao, cap, rfl, hc⟩ := h.ex
  have HC : Hid (∀ j, j < l.length → ∃ g off : Nat, ao = some ⟨g, off, none⟩ ∧ w.cell? ⟨g, off + j, none⟩ = some (.string ⟨(l.getD j []).toArray⟩)) := fun j hj => by
    rcases hc with h0 | ⟨g, off, e, h1⟩
    · subst h0; simp at hj
    · exact ⟨g, off, e, h1 j hj⟩
  clear h hc
  go_enter Tryz.func58, Tryz.ntmps58
  go_wp2
  go_loopw [5] (fun s5 wx => ∃ k : Nat, s5 = .int .i64 k ∧ k ≤ l.length ∧ wx = w ∧ ∀ j, j < k → l.getD j [] ≠ s) (fun x _ => l.length - (intOf x).toNat)
  case atStart => exact ⟨0, rfl, Nat.zero_le _, rfl, fun j hj => by omega⟩
  case round =>
    obtain ⟨k, rfl, hk, rfl, hne⟩ := hrel
    have HNe : Hid (∀ j, j < k → l.getD j [] ≠ s) := hne
    clear hne
    by_cases hlt : k < l.length
    · have q0 : decide ((k : Int) < (l.length : Int)) = true := decide_eq_true (by omega)
      obtain ⟨g, off, rfl, kc⟩ := HC.out k hlt
      obtain ⟨x, hx⟩ : ∃ x, l.getD k [] = x := ⟨_, rfl⟩
      rw [hx] at kc
      by_cases he : x = s
      · subst he
        have HF : Hid (l.contains x = true) := by
          show _ = _
          rw [List.contains_iff_mem, ← hx, List.getD_eq_getElem?_getD, List.getElem?_eq_getElem hlt]
          exact List.getElem_mem hlt
        clear hx HNe
        go_wp2
        go_ret
        rw [HF.out]
        exact ⟨rfl, rfl⟩
      · have qs : (x == s) = false := by simpa using he
        have HN2 : Hid (∀ j, j < k + 1 → l.getD j [] ≠ s) := fun j hj => by
          rcases Nat.lt_or_ge j k with h | h
          · exact HNe.out j h
          · obtain rfl : j = k := by omega
            rw [hx]; exact he
        clear hx HNe he
        go_wp2
        go_roundw
        case rel => exact ⟨k + 1, by go_num, by omega, trivial, HN2.out⟩
        case measure => simp [intOf]; omega
    · have q0 : decide ((k : Int) < (l.length : Int)) = false := decide_eq_false (by omega)
      have HF : Hid (l.contains s = false) := by
        show _ = _
        cases hcc : l.contains s
        · rfl
        · obtain ⟨j, hj, e⟩ := List.getElem_of_mem (List.contains_iff_mem.1 hcc)
          exact absurd (by rw [List.getD_eq_getElem?_getD, List.getElem?_eq_getElem hj]; exact e) (HNe.out j (by omega))
      go_wp2
      go_ret
      rw [HF.out]
      exact ⟨rfl, rfl⟩

end Go.Proofs.YtapljedegjiliaaGreatDoor

namespace Go.Proofs.YtapljedegjiliaaGreatDoor
open Go.RowKit Go.Shelf

/-- What is told of a value. -/
def GotL (x : Lx (List Nd)) (v : Value) (B : Nat) (w : World) : Prop := match x with
  | .ok L q => ∃ lv S, v = gotV (q : Int) lv S 0 0 ∧ NO B w lv L
  | .bad c b => ∃ a S, v = gotV a nilV S (c : Int) (b : Int)
/-- A list of one node, made anew. -/
theorem no_one (w : World) (n : Nd) (B : Nat) (hB : B ≤ w.heap.size) : NO B (w.alloc (.cells (nC n).toArray 38)) (.slice (some ⟨w.heap.size, 0, none⟩) 1 1) [n] := by
  refine ⟨by simp [nCs, nC], .inr ⟨w.heap.size, 1, (nC n).toArray, rfl, hB, ?_, Nat.le_refl _, by decide, by simp [nC], ?_⟩⟩
  · unfold World.alloc; simp
  · simp [nCs, nC]

/-- A word. -/
def ltG (k : Int) : Lx Unit → Lx (List Nd)
  | .ok _ q => .ok [nd0 k] q
  | .bad c b => .bad c b
def ltF (t word : List UInt8) (k : Int) (p : Nat) : Lx (List Nd) := ltG k (litF t word p)
theorem lit_step1 {t w : List UInt8} {p i : Nat} (h : i < w.length) : litF t (w.drop i) p = if bat t p = ((w.getD i 0).toNat : Int) then litF t (w.drop (i + 1)) (p + 1) else .bad 31 p := by
  rw [drop_at h]
  conv => lhs; unfold litF
  have e : (tk t [w.getD i 0] p = true) ↔ bat t p = ((w.getD i 0).toNat : Int) := by
    unfold tk bat
    constructor
    · intro h1
      simp only [Bool.and_eq_true, decide_eq_true_eq] at h1
      rw [if_pos h1.1]
      have := h1.2
      simp only [List.contains_cons, List.contains_nil, Bool.or_false, beq_iff_eq] at this
      rw [this]
    · intro h1
      split at h1
      · rename_i hl
        rw [decide_eq_true hl]
        have : t.getD p 0 = w.getD i 0 := UInt8.toNat_inj.1 (by omega)
        rw [this]
        simp
      · omega
  by_cases hc : tk t [w.getD i 0] p = true
  · rw [if_pos hc, if_pos (e.1 hc)]
  · rw [if_neg hc, if_neg (fun h2 => hc (e.2 h2))]

set_option maxRecDepth 100000 in
set_option maxHeartbeats 8000000 in
theorem rliteral_any (t word : List UInt8) (kd : Int) (p : Nat) (w : World) (hp : p ≤ t.length) (ht : t.length ≤ 1000000) (hw : word.length ≤ 10) :
    Calls Tryz.prog 32 #[.string ⟨t.toArray⟩, .int .i64 p, .string ⟨word.toArray⟩, .int .i64 kd] w fun e w' => (∃ v, e = .returned v ∧ GotL (ltF t word kd p) v w.heap.size w') ∧ Below w.heap.size w w' := by
  obtain ⟨R, hR⟩ : ∃ R, litF t word p = R := ⟨_, rfl⟩
  have HR0 : Hid (litF t (word.drop 0) (p + 0) = R) := hR
  have HL : Hid (ltF t word kd p = ltG kd R) := by show _ = _; unfold ltF; rw [hR]
  clear hR
  have HBox : Hid (Bl 50 (w.alloc (.cells (gotC 0 nilV [] 0 0).toArray 50)) w.heap.size (gotC 0 nilV [] 0 0)) := alloc_bl _ _ _
  have HB : Hid (Below w.heap.size w (w.alloc (.cells (gotC 0 nilV [] 0 0).toArray 50))) := alloc_below _ _
  generalize hw1 : w.alloc (.cells (gotC 0 nilV [] 0 0).toArray 50) = w1 at HBox HB
  have HW1 : Hid (w.alloc (.cells #[.int .i64 0, .slice none 0 0, .string ⟨#[]⟩, .int .i64 0, .int .i64 0] 50) = w1) := hw1
  clear hw1
  go_enter Tryz.func32, Tryz.ntmps32
  go_wp2
  go_loopw [9] (fun s9 wx => ∃ i q : Nat, s9 = .int .i64 i ∧ i ≤ word.length ∧ wx = w1.drewN q ∧ Hid (litF t (word.drop i) (p + i) = R)) (fun s _ => word.length - (intOf s).toNat)
  case atStart => exact ⟨0, 0, rfl, Nat.zero_le _, HW1.out, HR0⟩
  case round =>
    obtain ⟨i, q, rfl, hi, rfl, HK⟩ := hrel
    clear HR0
    by_cases hlt : i < word.length
    · have q0 : decide ((i : Int) < (word.length : Int)) = true := decide_eq_true (by omega)
      obtain ⟨c, hc⟩ : ∃ c, word.getD i 0 = c := ⟨_, rfl⟩
      have gx : (⟨word.toArray⟩ : ByteArray)[i]'(by show i < word.toArray.size; simpa using hlt) = c := by rw [← hc]; simp [List.getD_eq_getElem?_getD, hlt]; rfl
      have hcw : wrap64 (c.toNat : Int) = (c.toNat : Int) := wrap_small (by omega) (by have := c.toNat_lt; omega)
      obtain ⟨b, hb⟩ : ∃ b, bat t (p + i) = b := ⟨_, rfl⟩
      have hst := lit_step1 (t := t) (p := p + i) hlt
      rw [hb, hc] at hst
      have HC : Hid (∀ wq, Calls Tryz.prog 27 #[.string ⟨t.toArray⟩, .int .i64 ((p : Int) + (i : Int))] wq fun e w' => e = .returned (.int .i64 b) ∧ w' = wq) := fun wq => by
        have h := byteAt_any t (p + i) wq (by omega)
        rw [hb, show ((p + i : Nat) : Int) = (p : Int) + (i : Int) by omega] at h
        exact h
      clear hb hc
      by_cases hbc : b = (c.toNat : Int)
      · have HK2 : Hid (litF t (word.drop (i + 1)) (p + (i + 1)) = R) := by
          rw [if_pos hbc] at hst
          exact hst.symm.trans HK.out
        have qn : (b != (c.toNat : Int)) = false := by simpa using hbc
        have qn2 : (b != wrap64 (c.toNat : Int)) = false := by rw [hcw]; exact qn
        clear hst HK hbc
        go_wp2
        go_quiet ((refine (HC.out _).mono ?_; rintro e w9 ⟨rfl, rfl⟩; exact ⟨rfl, _, rfl⟩))
        go_wp2
        go_roundw
        case rel => exact ⟨i + 1, _, by go_num, by omega, rfl, HK2⟩
        case measure => simp [intOf]; omega
      · have HX : Hid (R = .bad 31 (p + i)) := by
          rw [if_neg hbc] at hst
          exact HK.out.symm.trans hst
        have qn : (b != (c.toNat : Int)) = true := by simpa using hbc
        have qn2 : (b != wrap64 (c.toNat : Int)) = true := by rw [hcw]; exact qn
        clear hst HK hbc
        go_wp2
        go_quiet ((refine (HC.out _).mono ?_; rintro e w9 ⟨rfl, rfl⟩; exact ⟨rfl, _, rfl⟩))
        have HFl : Hid (∀ wq, Calls Tryz.prog 28 #[.int .i64 31, .int .i64 ((p : Int) + (i : Int))] wq fun e w' => e = .returned (gotV 0 nilV [] 31 ((p : Int) + (i : Int))) ∧ Below wq.heap.size wq w') := fun wq => fault_any 31 ((p : Int) + (i : Int)) wq
        have HBR : Hid (∀ (k : Nat) (w3 : World), Below (w1.drewN k).heap.size (w1.drewN k) w3 → Bl 50 w3 w.heap.size (gotC 0 nilV [] 0 0) ∧ Below w.heap.size w w3) := fun k w3 h3 => by
          have h4 : Below w1.heap.size w1 w3 := ⟨h3.os, h3.tape, h3.output, h3.size, h3.block⟩
          exact ⟨bl_below HBox.out h4, HB.out.trans (h4.mono HB.out.size)⟩
        go_wp2_with fail
        refine (HFl.out _).mono ?_
        clear HFl
        rintro e w3 ⟨rfl, hB3⟩
        have hB4 := HBR.out _ w3 hB3
        have HBox2 : Hid (Bl 50 w3 w.heap.size (gotC 0 nilV [] 0 0)) := hB4.1
        have HB3 : Hid (Below w.heap.size w w3) := hB4.2
        clear hB3 hB4 HBR
        obtain ⟨wz, hwz⟩ : ∃ wz, w3.setRow w.heap.size (gotC 0 nilV [] 31 ((p : Int) + (i : Int))).toArray = wz := ⟨_, rfl⟩
        have HBz : Hid (Bl 50 wz w.heap.size (gotC 0 nilV [] 31 ((p : Int) + (i : Int)))) := by rw [← hwz]; exact set_bl HBox2.out
        have Hz : Hid (Below w.heap.size w wz) := by rw [← hwz]; exact setRow_below _ HB3.out (Nat.le_refl _)
        have HWz : Hid (w3.setRow w.heap.size (gotC 0 nilV [] 31 ((p : Int) + (i : Int))).toArray = wz) := hwz
        have hgi : (Tryz.prog.info? 50).map (·.size) = some 5 := by kernel_rfl
        clear hwz
        go_wp2_with (refine wpList_store_row rfl 50 (.tmp 8) (.tmp 29) rfl w.heap.size (gotC 0 nilV [] 31 ((p : Int) + (i : Int))).toArray rfl rfl 50 (gotC 0 nilV [] 0 0).toArray HBox2.out hgi rfl (by simp [gotC, nilV, Value.oneCell']) ?_; rw [HWz.out]; clear HWz hgi)
        (try simp only [Exit.inBlock, Exit.then])
        exact bodyPost_ret (v := gotV 0 nilV [] 31 ((p : Int) + (i : Int))) (results_got rfl _ _ w.heap.size 0 nilV [] 31 ((p : Int) + (i : Int)) rfl HBz.out) rfl ⟨⟨_, rfl, by rw [HL.out, HX.out]; exact ⟨0, [], rfl⟩⟩, Hz.out⟩
    · have q0 : decide ((i : Int) < (word.length : Int)) = false := decide_eq_false (by omega)
      obtain rfl : i = word.length := by omega
      have HX : Hid (R = .ok () (p + word.length)) := by
        have h := HK.out
        rw [List.drop_length] at h
        exact h.symm
      obtain ⟨wd, hwd⟩ : ∃ wd, w1.drewN q = wd := ⟨_, rfl⟩
      have HBoxd : Hid (Bl 50 wd w.heap.size (gotC 0 nilV [] 0 0)) := by rw [← hwd]; exact HBox.out
      have HBd : Hid (Below w.heap.size w wd) := by rw [← hwd]; exact below_drewN HB.out q
      have HNe : Hid (w.heap.size < wd.heap.size) := HBoxd.out.lt
      rw [hwd]
      have HBox2 : Hid (Bl 50 (wd.alloc (.cells #[.int .i64 kd, .string ⟨#[]⟩, .string ⟨#[]⟩, .bool false, .int .i64 0, .int .i64 0] 38)) w.heap.size (gotC 0 nilV [] 0 0)) := bl_below HBoxd.out (alloc_below _ _)
      have HB3 : Hid (Below w.heap.size w (wd.alloc (.cells #[.int .i64 kd, .string ⟨#[]⟩, .string ⟨#[]⟩, .bool false, .int .i64 0, .int .i64 0] 38))) := HBd.out.trans ((alloc_below _ _).mono HBd.out.size)
      clear HK hwd
      obtain ⟨wz, hwz⟩ : ∃ wz, (wd.alloc (.cells #[.int .i64 kd, .string ⟨#[]⟩, .string ⟨#[]⟩, .bool false, .int .i64 0, .int .i64 0] 38)).setRow w.heap.size (gotC ((p : Int) + (word.length : Int)) (.slice (some ⟨wd.heap.size, 0, none⟩) 1 1) [] 0 0).toArray = wz := ⟨_, rfl⟩
      have HBz : Hid (Bl 50 wz w.heap.size (gotC ((p : Int) + (word.length : Int)) (.slice (some ⟨wd.heap.size, 0, none⟩) 1 1) [] 0 0)) := by rw [← hwz]; exact set_bl HBox2.out
      have Hz : Hid (Below w.heap.size w wz) := by rw [← hwz]; exact setRow_below _ HB3.out (Nat.le_refl _)
      have HWz : Hid ((wd.alloc (.cells #[.int .i64 kd, .string ⟨#[]⟩, .string ⟨#[]⟩, .bool false, .int .i64 0, .int .i64 0] 38)).setRow w.heap.size (gotC ((p : Int) + (word.length : Int)) (.slice (some ⟨wd.heap.size, 0, none⟩) 1 1) [] 0 0).toArray = wz) := hwz
      have HNo : Hid (NO w.heap.size wz (.slice (some ⟨wd.heap.size, 0, none⟩) 1 1) [nd0 kd]) := by rw [← hwz]; exact own_keep (no_one wd (nd0 kd) w.heap.size (Nat.le_of_lt HNe.out)) (fun g hg => setRow_other _ _ _ _ (by have := HNe.out; have e : wd.heap.size = g := Option.some.inj hg; omega))
      have hgi : (Tryz.prog.info? 50).map (·.size) = some 5 := by kernel_rfl
      clear hwz
      go_wp2_with (refine wpList_store_row rfl 50 (.tmp 8) (.tmp 37) rfl w.heap.size (gotC ((p : Int) + (word.length : Int)) (.slice (some ⟨wd.heap.size, 0, none⟩) 1 1) [] 0 0).toArray rfl rfl 50 (gotC 0 nilV [] 0 0).toArray HBox2.out hgi rfl (by simp [gotC, Value.oneCell']) ?_; rw [HWz.out]; clear HWz hgi)
      (try simp only [Exit.inBlock, Exit.then])
      exact bodyPost_ret (v := gotV ((p : Int) + (word.length : Int)) (.slice (some ⟨wd.heap.size, 0, none⟩) 1 1) [] 0 0) (results_got rfl _ _ w.heap.size ((p : Int) + (word.length : Int)) (.slice (some ⟨wd.heap.size, 0, none⟩) 1 1) [] 0 0 rfl HBz.out) rfl ⟨⟨_, rfl, by rw [HL.out, HX.out]; exact ⟨_, [], rfl, HNo.out⟩⟩, Hz.out⟩

end Go.Proofs.YtapljedegjiliaaGreatDoor
