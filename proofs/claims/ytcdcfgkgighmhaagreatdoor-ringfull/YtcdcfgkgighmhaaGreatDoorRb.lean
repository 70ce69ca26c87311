import Derived.Test.YtcdcfgkgighmhaaGreatDoorOrk
import Derived.Test.YtcdcfgkgighmhaaGreatDoorJZ
import Derived.Lib.Bytealg
namespace Go.Proofs.YtcdcfgkgighmhaaGreatDoor
open Go.RowKit

theorem ixb_lt (c : UInt8) : ∀ l : List UInt8, Lib.indexByte l c < 0 ↔ l.contains c = false
  | [] => by simp [Lib.indexByte]
  | b :: r => by
    have ih := ixb_lt c r
    have hge := Lib.indexByte_ge r c
    unfold Lib.indexByte
    by_cases hb : (b == c) = true
    · rw [if_pos hb]
      simp only [List.contains_cons]
      have : (c == b) = true := by rw [beq_iff_eq] at hb ⊢; exact hb.symm
      rw [this]
      simp
    · rw [if_neg hb]
      simp only [List.contains_cons]
      have : (c == b) = false := by
        cases h : (c == b)
        · rfl
        · rw [beq_iff_eq] at h; exact absurd (by rw [beq_iff_eq]; exact h.symm) hb
      rw [this, Bool.false_or]
      by_cases h1 : (Lib.indexByte r c == -1) = true
      · rw [if_pos h1]
        rw [beq_iff_eq] at h1
        have := ih.1 (by omega)
        exact ⟨fun _ => this, fun _ => by omega⟩
      · rw [if_neg h1]
        have hne : Lib.indexByte r c ≠ -1 := fun e => h1 (by rw [beq_iff_eq]; exact e)
        constructor
        · intro h; omega
        · intro h
          have := ih.2 h
          omega

theorem ixb_ge (c : UInt8) (l : List UInt8) (h : l.contains c = true) : 0 ≤ Lib.indexByte l c := by
  have := ixb_lt c l
  by_cases h1 : Lib.indexByte l c < 0
  · rw [this.1 h1] at h; cases h
  · omega

set_option maxRecDepth 100000 in
set_option maxHeartbeats 400000 in
theorem ixlite_any (row : ByteArray) (c : UInt8) (w : World) :
    Calls Tryz.prog 63 #[.string row, .int .u8 c.toNat] w fun e w' => e = .returned (.int .i64 (Lib.indexByte row.data.toList c)) ∧ w' = w := by
  go_enter Tryz.func63, Tryz.ntmps63
  go_wp2
  rw [run_callFunc_extern Tryz.func75 (by kernel_rfl) (by kernel_rfl) (by kernel_rfl) (e := Extern.BytealgIndexByte.indexByte) (by kernel_rfl), Lib.run_indexByteString]
  simp only [Result.andThen]
  rw [Oper.upon_value]
  go_wp2
  go_ret
  exact ⟨by simp, rfl⟩

set_option maxHeartbeats 400000 in
theorem indexByte_row (row : ByteArray) (c : UInt8) (w : World) : Calls Tryz.prog 54 #[.string row, .int .u8 c.toNat] w fun e w' => e = .returned (.int .i64 (Lib.indexByte row.data.toList c)) ∧ w' = w := by
  go_enter Tryz.func54, Tryz.ntmps54
  go_wp2_with fail
  refine (ixlite_any row c w).mono ?_
  rintro e w' ⟨rfl, rfl⟩
  go_wp2
  go_ret
  exact ⟨rfl, rfl⟩
theorem indexByte_any (l : List UInt8) (c : UInt8) (w : World) : Calls Tryz.prog 54 #[.string ⟨l.toArray⟩, .int .u8 c.toNat] w fun e w' => e = .returned (.int .i64 (Lib.indexByte l c)) ∧ w' = w := indexByte_row ⟨l.toArray⟩ c w

/-- What a reader holds beside its text, place and fault. -/
structure X5 where
  aw : Value
  nodes : Value
  opn : Value
  key : Value
  met : Value

/-- The reader's block. -/
def RB (w : World) (b : Nat) (t : List UInt8) (p : Nat) (x : X5) (c q : Int) : Prop :=
  Bl 75 w b [.string ⟨t.toArray⟩, .int .i64 p, x.aw, x.nodes, x.opn, x.key, x.met, .int .i64 c, .int .i64 q]

theorem RB.lt {w : World} {b : Nat} {t : List UInt8} {p : Nat} {x : X5} {c q : Int} (h : RB w b t p x c q) : b < w.heap.size := Bl.lt h
theorem RB.drewN {w : World} {b : Nat} {t : List UInt8} {p : Nat} {x : X5} {c q : Int} (h : RB w b t p x c q) (n : Nat) : RB (w.drewN n) b t p x c q := h
theorem RB.below {w w' : World} {b n : Nat} {t : List UInt8} {p : Nat} {x : X5} {c q : Int} (h : RB w b t p x c q) (hb : Below n w w') (hn : w.heap.size ≤ n) : RB w' b t p x c q := Bl.below h hb (Nat.lt_of_lt_of_le h.lt hn)
theorem RB.c0 {w : World} {b : Nat} {t : List UInt8} {p : Nat} {x : X5} {c q : Int} (h : RB w b t p x c q) : w.cell? ⟨b, 0, none⟩ = some (.string ⟨t.toArray⟩) := Bl.cell h 0 (by simp)
theorem RB.c1 {w : World} {b : Nat} {t : List UInt8} {p : Nat} {x : X5} {c q : Int} (h : RB w b t p x c q) : w.cell? ⟨b, 1, none⟩ = some (.int .i64 p) := Bl.cell h 1 (by simp)
theorem RB.c2 {w : World} {b : Nat} {t : List UInt8} {p : Nat} {x : X5} {c q : Int} (h : RB w b t p x c q) : w.cell? ⟨b, 2, none⟩ = some x.aw := Bl.cell h 2 (by simp)
theorem RB.c3 {w : World} {b : Nat} {t : List UInt8} {p : Nat} {x : X5} {c q : Int} (h : RB w b t p x c q) : w.cell? ⟨b, 3, none⟩ = some x.nodes := Bl.cell h 3 (by simp)
theorem RB.c4 {w : World} {b : Nat} {t : List UInt8} {p : Nat} {x : X5} {c q : Int} (h : RB w b t p x c q) : w.cell? ⟨b, 4, none⟩ = some x.opn := Bl.cell h 4 (by simp)
theorem RB.c5 {w : World} {b : Nat} {t : List UInt8} {p : Nat} {x : X5} {c q : Int} (h : RB w b t p x c q) : w.cell? ⟨b, 5, none⟩ = some x.key := Bl.cell h 5 (by simp)
theorem RB.c6 {w : World} {b : Nat} {t : List UInt8} {p : Nat} {x : X5} {c q : Int} (h : RB w b t p x c q) : w.cell? ⟨b, 6, none⟩ = some x.met := Bl.cell h 6 (by simp)
theorem RB.c7 {w : World} {b : Nat} {t : List UInt8} {p : Nat} {x : X5} {c q : Int} (h : RB w b t p x c q) : w.cell? ⟨b, 7, none⟩ = some (.int .i64 c) := Bl.cell h 7 (by simp)
theorem RB.c8 {w : World} {b : Nat} {t : List UInt8} {p : Nat} {x : X5} {c q : Int} (h : RB w b t p x c q) : w.cell? ⟨b, 8, none⟩ = some (.int .i64 q) := Bl.cell h 8 (by simp)
theorem RB.fz {w : World} {b : Nat} {t : List UInt8} {p : Nat} {x : X5} {c q : Int} (h : RB w b t p x c q) (j : Nat) : w.frozen? ⟨b, j, none⟩ = false := Bl.frozen h j
theorem RB.pos {w : World} {b : Nat} {t : List UInt8} {p : Nat} {x : X5} {c q : Int} (h : RB w b t p x c q) (p' : Nat) : RB (w.setCell ⟨b, 1, none⟩ (.int .i64 p')) b t p' x c q := Bl.set h 1 _
theorem RB.s2 {w : World} {b : Nat} {t : List UInt8} {p : Nat} {x : X5} {c q : Int} (h : RB w b t p x c q) (v : Value) : RB (w.setCell ⟨b, 2, none⟩ v) b t p { x with aw := v } c q := Bl.set h 2 _
theorem RB.s3 {w : World} {b : Nat} {t : List UInt8} {p : Nat} {x : X5} {c q : Int} (h : RB w b t p x c q) (v : Value) : RB (w.setCell ⟨b, 3, none⟩ v) b t p { x with nodes := v } c q := Bl.set h 3 _
theorem RB.s4 {w : World} {b : Nat} {t : List UInt8} {p : Nat} {x : X5} {c q : Int} (h : RB w b t p x c q) (v : Value) : RB (w.setCell ⟨b, 4, none⟩ v) b t p { x with opn := v } c q := Bl.set h 4 _
theorem RB.s5 {w : World} {b : Nat} {t : List UInt8} {p : Nat} {x : X5} {c q : Int} (h : RB w b t p x c q) (v : Value) : RB (w.setCell ⟨b, 5, none⟩ v) b t p { x with key := v } c q := Bl.set h 5 _
theorem RB.s7 {w : World} {b : Nat} {t : List UInt8} {p : Nat} {x : X5} {c q : Int} (h : RB w b t p x c q) (v : Int) : RB (w.setCell ⟨b, 7, none⟩ (.int .i64 v)) b t p x v q := Bl.set h 7 _
theorem RB.s8 {w : World} {b : Nat} {t : List UInt8} {p : Nat} {x : X5} {c q : Int} (h : RB w b t p x c q) (v : Int) : RB (w.setCell ⟨b, 8, none⟩ (.int .i64 v)) b t p x c v := Bl.set h 8 _

/-- The place behind a byte that was taken, or the same. -/
def stp (c : Bool) (p : Nat) : Nat := if c then p + 1 else p

def PB (b : Nat) : Value := .pointer (some ⟨b, 0, none⟩)

set_option maxHeartbeats 400000 in
theorem fail_any (w : World) (b : Nat) (t : List UInt8) (p : Nat) (x : X5) (c q c' q' : Int) (h : RB w b t p x c q) :
    Calls Tryz.prog 55 #[.pointer (some ⟨b, 0, none⟩), .int .i64 c', .int .i64 q'] w fun e w' => e = .returned (.bool false) ∧ But w w' b ∧ RB w' b t p x c' q' := by
  have f7 := h.fz 7
  have f8 : (w.setCell ⟨b, 7, none⟩ (.int .i64 c')).frozen? ⟨b, 8, none⟩ = false := (h.s7 c').fz 8
  have c7 := h.c7
  have c8 : (w.setCell ⟨b, 7, none⟩ (.int .i64 c')).cell? ⟨b, 8, none⟩ = some (.int .i64 q) := (h.s7 c').c8
  have H : Hid (RB w b t p x c q) := h
  clear h
  go_enter Tryz.func55, Tryz.ntmps55
  go_wp2
  go_ret
  exact ⟨rfl, ((But.refl _ _).set _ _).set _ _, (H.out.s7 c').s8 q'⟩

set_option maxHeartbeats 400000 in
theorem wrong_any (w : World) (b : Nat) (t : List UInt8) (p : Nat) (x : X5) (c q : Int) (h : RB w b t p x c q) :
    Calls Tryz.prog 43 #[.pointer (some ⟨b, 0, none⟩)] w fun e w' => e = .returned (.bool false) ∧ But w w' b ∧ RB w' b t p x 31 p := by
  have c1 := h.c1
  have C := fail_any w b t p x c q 31 p h
  clear h
  go_enter Tryz.func43, Tryz.ntmps43
  go_wp2_with fail
  refine C.mono ?_
  rintro e w1 ⟨rfl, hB, hR⟩
  go_wp2
  go_ret
  exact ⟨rfl, hB, hR⟩

set_option maxHeartbeats 1000000 in
theorem take_any (w : World) (b : Nat) (t set : List UInt8) (p : Nat) (x : X5) (c q : Int) (h : RB w b t p x c q) (hp : p ≤ t.length) (ht : t.length ≤ 1073741824) :
    Calls Tryz.prog 42 #[.pointer (some ⟨b, 0, none⟩), .string ⟨set.toArray⟩] w fun e w' => e = .returned (.bool (tk t set p)) ∧ But w w' b ∧ RB w' b t (stp (tk t set p) p) x c q := by
  have c0 := h.c0
  have c1 := h.c1
  have f1 := h.fz 1
  have H : Hid (RB w b t p x c q) := h
  clear h
  rcases Nat.lt_or_ge p t.length with hl | hl
  · obtain ⟨d, hd⟩ : ∃ d, t.getD p 0 = d := ⟨_, rfl⟩
    have gx : (⟨t.toArray⟩ : ByteArray)[p]'(by show p < t.toArray.size; simpa using hl) = d := by
      rw [← hd]; show t.toArray[p] = _; simp [List.getD_eq_getElem?_getD, hl]
    have q1 : (((p : Nat) : Int) == ((t.length : Nat) : Int)) = false := by simp; omega
    have HC : Hid (∀ w, Calls Tryz.prog 54 #[.string ⟨set.toArray⟩, .int .u8 d.toNat] w fun e w' => e = .returned (.int .i64 (Lib.indexByte set d)) ∧ w' = w) := fun w => indexByte_any set d w
    have hI := ixb_lt d set
    have hG := ixb_ge d set
    have hT : tk t set p = set.contains d := by unfold tk; rw [hd]; simp [hl]
    rw [hT]
    generalize Lib.indexByte set d = ix at HC hI hG
    cases hc : set.contains d
    · have hix : ix < 0 := hI.2 hc
      have hix2 : decide (ix < 0) = true := by simpa using hix
      clear hI hG hT hc hd
      go_enter Tryz.func42, Tryz.ntmps42
      go_wp2
      go_quiet ((refine (HC.out _).mono ?_; rintro e w9 ⟨rfl, rfl⟩; exact ⟨rfl, _, rfl⟩))
      go_wp2
      go_ret
      exact ⟨rfl, (But.refl _ _).drewN _, H.out.drewN _⟩
    · have hix : 0 ≤ ix := hG hc
      have hix2 : decide (ix < 0) = false := by simp; omega
      clear hI hG hT hc hd
      go_enter Tryz.func42, Tryz.ntmps42
      go_wp2
      go_quiet ((refine (HC.out _).mono ?_; rintro e w9 ⟨rfl, rfl⟩; exact ⟨rfl, _, rfl⟩))
      go_wp2
      go_ret
      exact ⟨rfl, ((But.refl _ _).drewN _).set _ _, (H.out.drewN _).pos _⟩
  · have hpe : p = t.length := by omega
    have q1 : (((p : Nat) : Int) == ((t.length : Nat) : Int)) = true := by simp; omega
    have hT : tk t set p = false := by unfold tk; simp; omega
    rw [hT]
    clear hT hpe
    go_enter Tryz.func42, Tryz.ntmps42
    go_wp2
    go_quiet (fail)
    go_wp2
    go_ret
    exact ⟨rfl, (But.refl _ _).drewN _, H.out.drewN _⟩

end Go.Proofs.YtcdcfgkgighmhaaGreatDoor
