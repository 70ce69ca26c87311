import Derived.Test.YtjehkpndchadbaaGreatDoorOrk
import Derived.Test.YtjehkpndchadbaaGreatDoorJZ
import Derived.Lib.Bytealg
import Derived.Deep.LoopGhost
namespace Go.Proofs.YtjehkpndchadbaaGreatDoor
open Go.RowKit

theorem ixb_lt (c : UInt8) : ∀ l : List UInt8, Lib.indexByte l c < 0 ↔ l.contains c = false
  | [] => by simp [Lib.indexByte]
  | b :: r => by
    have ih := ixb_lt c r
    have hge := Lib.indexByte_ge r c
    unfold Lib.indexByte
    by_cases hb : (b == c) = true
    · rw [if_pos hb]
      simp only [List.contains_cons]
      have : (c == b) = true := by rw [beq_iff_eq] at hb ⊢; exact hb.symm
      rw [this]
      simp
    · rw [if_neg hb]
      simp only [List.contains_cons]
      have : (c == b) = false := by
        cases h : (c == b)
        · rfl
        · rw [beq_iff_eq] at h; exact absurd (by rw [beq_iff_eq]; exact h.symm) hb
      rw [this, Bool.false_or]
      by_cases h1 : (Lib.indexByte r c == -1) = true
      · rw [if_pos h1]
        rw [beq_iff_eq] at h1
        have := ih.1 (by omega)
        exact ⟨fun _ => this, fun _ => by omega⟩
      · rw [if_neg h1]
        have hne : Lib.indexByte r c ≠ -1 := fun e => h1 (by rw [beq_iff_eq]; exact e)
        constructor
        · intro h; omega
        · intro h
          have := ih.2 h
          omega

theorem ixb_ge (c : UInt8) (l : List UInt8) (h : l.contains c = true) : 0 ≤ Lib.indexByte l c := by
  have := ixb_lt c l
  by_cases h1 : Lib.indexByte l c < 0
  · rw [this.1 h1] at h; cases h
  · omega

set_option maxRecDepth 100000 in
set_option maxHeartbeats 400000 in
theorem ixlite_any (row : ByteArray) (c : UInt8) (w : World) :
    Calls Tryz.prog 43 #[.string row, .int .u8 c.toNat] w fun e w' => e = .returned (.int .i64 (Lib.indexByte row.data.toList c)) ∧ w' = w := by
  go_enter Tryz.func43, Tryz.ntmps43
  go_wp2
  rw [run_callFunc_extern Tryz.func55 (by kernel_rfl) (by kernel_rfl) (by kernel_rfl) (e := Extern.BytealgIndexByte.indexByte) (by kernel_rfl), Lib.run_indexByteString]
  simp only [Result.andThen]
  rw [Oper.upon_value]
  go_wp2
  go_ret
  exact ⟨by simp, rfl⟩

set_option maxHeartbeats 400000 in
theorem indexByte_row (row : ByteArray) (c : UInt8) (w : World) : Calls Tryz.prog 36 #[.string row, .int .u8 c.toNat] w fun e w' => e = .returned (.int .i64 (Lib.indexByte row.data.toList c)) ∧ w' = w := by
  go_enter Tryz.func36, Tryz.ntmps36
  go_wp2_with fail
  refine (ixlite_any row c w).mono ?_
  rintro e w' ⟨rfl, rfl⟩
  go_wp2
  go_ret
  exact ⟨rfl, rfl⟩
theorem indexByte_any (l : List UInt8) (c : UInt8) (w : World) : Calls Tryz.prog 36 #[.string ⟨l.toArray⟩, .int .u8 c.toNat] w fun e w' => e = .returned (.int .i64 (Lib.indexByte l c)) ∧ w' = w := indexByte_row ⟨l.toArray⟩ c w

/-- What a reader holds beside its text, place and fault. -/
structure X5 where
  aw : Value
  nodes : Value
  opn : Value
  key : Value
  met : Value

/-- The reader's block. -/
def RB (w : World) (b : Nat) (t : List UInt8) (p : Nat) (x : X5) (c q : Int) : Prop :=
  Bl 67 w b [.string ⟨t.toArray⟩, .int .i64 p, x.aw, x.nodes, x.opn, x.key, x.met, .int .i64 c, .int .i64 q]

theorem RB.lt {w : World} {b : Nat} {t : List UInt8} {p : Nat} {x : X5} {c q : Int} (h : RB w b t p x c q) : b < w.heap.size := Bl.lt h
theorem RB.drewN {w : World} {b : Nat} {t : List UInt8} {p : Nat} {x : X5} {c q : Int} (h : RB w b t p x c q) (n : Nat) : RB (w.drewN n) b t p x c q := h
theorem RB.below {w w' : World} {b n : Nat} {t : List UInt8} {p : Nat} {x : X5} {c q : Int} (h : RB w b t p x c q) (hb : Below n w w') (hn : w.heap.size ≤ n) : RB w' b t p x c q := Bl.below h hb (Nat.lt_of_lt_of_le h.lt hn)
theorem RB.c0 {w : World} {b : Nat} {t : List UInt8} {p : Nat} {x : X5} {c q : Int} (h : RB w b t p x c q) : w.cell? ⟨b, 0, none⟩ = some (.string ⟨t.toArray⟩) := Bl.cell h 0 (by simp)
theorem RB.c1 {w : World} {b : Nat} {t : List UInt8} {p : Nat} {x : X5} {c q : Int} (h : RB w b t p x c q) : w.cell? ⟨b, 1, none⟩ = some (.int .i64 p) := Bl.cell h 1 (by simp)
theorem RB.c2 {w : World} {b : Nat} {t : List UInt8} {p : Nat} {x : X5} {c q : Int} (h : RB w b t p x c q) : w.cell? ⟨b, 2, none⟩ = some x.aw := Bl.cell h 2 (by simp)
theorem RB.c3 {w : World} {b : Nat} {t : List UInt8} {p : Nat} {x : X5} {c q : Int} (h : RB w b t p x c q) : w.cell? ⟨b, 3, none⟩ = some x.nodes := Bl.cell h 3 (by simp)
theorem RB.c4 {w : World} {b : Nat} {t : List UInt8} {p : Nat} {x : X5} {c q : Int} (h : RB w b t p x c q) : w.cell? ⟨b, 4, none⟩ = some x.opn := Bl.cell h 4 (by simp)
theorem RB.c5 {w : World} {b : Nat} {t : List UInt8} {p : Nat} {x : X5} {c q : Int} (h : RB w b t p x c q) : w.cell? ⟨b, 5, none⟩ = some x.key := Bl.cell h 5 (by simp)
theorem RB.c6 {w : World} {b : Nat} {t : List UInt8} {p : Nat} {x : X5} {c q : Int} (h : RB w b t p x c q) : w.cell? ⟨b, 6, none⟩ = some x.met := Bl.cell h 6 (by simp)
theorem RB.c7 {w : World} {b : Nat} {t : List UInt8} {p : Nat} {x : X5} {c q : Int} (h : RB w b t p x c q) : w.cell? ⟨b, 7, none⟩ = some (.int .i64 c) := Bl.cell h 7 (by simp)
theorem RB.c8 {w : World} {b : Nat} {t : List UInt8} {p : Nat} {x : X5} {c q : Int} (h : RB w b t p x c q) : w.cell? ⟨b, 8, none⟩ = some (.int .i64 q) := Bl.cell h 8 (by simp)
theorem RB.fz {w : World} {b : Nat} {t : List UInt8} {p : Nat} {x : X5} {c q : Int} (h : RB w b t p x c q) (j : Nat) : w.frozen? ⟨b, j, none⟩ = false := Bl.frozen h j
theorem RB.pos {w : World} {b : Nat} {t : List UInt8} {p : Nat} {x : X5} {c q : Int} (h : RB w b t p x c q) (p' : Nat) : RB (w.setCell ⟨b, 1, none⟩ (.int .i64 p')) b t p' x c q := Bl.set h 1 _
theorem RB.s2 {w : World} {b : Nat} {t : List UInt8} {p : Nat} {x : X5} {c q : Int} (h : RB w b t p x c q) (v : Value) : RB (w.setCell ⟨b, 2, none⟩ v) b t p { x with aw := v } c q := Bl.set h 2 _
theorem RB.s3 {w : World} {b : Nat} {t : List UInt8} {p : Nat} {x : X5} {c q : Int} (h : RB w b t p x c q) (v : Value) : RB (w.setCell ⟨b, 3, none⟩ v) b t p { x with nodes := v } c q := Bl.set h 3 _
theorem RB.s4 {w : World} {b : Nat} {t : List UInt8} {p : Nat} {x : X5} {c q : Int} (h : RB w b t p x c q) (v : Value) : RB (w.setCell ⟨b, 4, none⟩ v) b t p { x with opn := v } c q := Bl.set h 4 _
theorem RB.s5 {w : World} {b : Nat} {t : List UInt8} {p : Nat} {x : X5} {c q : Int} (h : RB w b t p x c q) (v : Value) : RB (w.setCell ⟨b, 5, none⟩ v) b t p { x with key := v } c q := Bl.set h 5 _
theorem RB.s7 {w : World} {b : Nat} {t : List UInt8} {p : Nat} {x : X5} {c q : Int} (h : RB w b t p x c q) (v : Int) : RB (w.setCell ⟨b, 7, none⟩ (.int .i64 v)) b t p x v q := Bl.set h 7 _
theorem RB.s8 {w : World} {b : Nat} {t : List UInt8} {p : Nat} {x : X5} {c q : Int} (h : RB w b t p x c q) (v : Int) : RB (w.setCell ⟨b, 8, none⟩ (.int .i64 v)) b t p x c v := Bl.set h 8 _

/-- The place behind a byte that was taken, or the same. -/
def stp (c : Bool) (p : Nat) : Nat := if c then p + 1 else p

def PB (b : Nat) : Value := .pointer (some ⟨b, 0, none⟩)

set_option maxHeartbeats 400000 in
theorem fail_any (w : World) (b : Nat) (t : List UInt8) (p : Nat) (x : X5) (c q c' q' : Int) (h : RB w b t p x c q) :
    Calls Tryz.prog 37 #[.pointer (some ⟨b, 0, none⟩), .int .i64 c', .int .i64 q'] w fun e w' => e = .returned (.bool false) ∧ But w w' b ∧ RB w' b t p x c' q' := by
  have f7 := h.fz 7
  have f8 : (w.setCell ⟨b, 7, none⟩ (.int .i64 c')).frozen? ⟨b, 8, none⟩ = false := (h.s7 c').fz 8
  have c7 := h.c7
  have c8 : (w.setCell ⟨b, 7, none⟩ (.int .i64 c')).cell? ⟨b, 8, none⟩ = some (.int .i64 q) := (h.s7 c').c8
  have H : Hid (RB w b t p x c q) := h
  clear h
  go_enter Tryz.func37, Tryz.ntmps37
  go_wp2
  go_ret
  exact ⟨rfl, ((But.refl _ _).set _ _).set _ _, (H.out.s7 c').s8 q'⟩

set_option maxHeartbeats 400000 in
theorem wrong_any (w : World) (b : Nat) (t : List UInt8) (p : Nat) (x : X5) (c q : Int) (h : RB w b t p x c q) :
    Calls Tryz.prog 32 #[.pointer (some ⟨b, 0, none⟩)] w fun e w' => e = .returned (.bool false) ∧ But w w' b ∧ RB w' b t p x 31 p := by
  have c1 := h.c1
  have C := fail_any w b t p x c q 31 p h
  clear h
  go_enter Tryz.func32, Tryz.ntmps32
  go_wp2_with fail
  refine C.mono ?_
  rintro e w1 ⟨rfl, hB, hR⟩
  go_wp2
  go_ret
  exact ⟨rfl, hB, hR⟩

set_option maxHeartbeats 1000000 in
theorem take_any (w : World) (b : Nat) (t set : List UInt8) (p : Nat) (x : X5) (c q : Int) (h : RB w b t p x c q) (hp : p ≤ t.length) (ht : t.length ≤ 1073741824) :
    Calls Tryz.prog 31 #[.pointer (some ⟨b, 0, none⟩), .string ⟨set.toArray⟩] w fun e w' => e = .returned (.bool (tk t set p)) ∧ But w w' b ∧ RB w' b t (stp (tk t set p) p) x c q := by
  have c0 := h.c0
  have c1 := h.c1
  have f1 := h.fz 1
  have H : Hid (RB w b t p x c q) := h
  clear h
  rcases Nat.lt_or_ge p t.length with hl | hl
  · obtain ⟨d, hd⟩ : ∃ d, t.getD p 0 = d := ⟨_, rfl⟩
    have gx : (⟨t.toArray⟩ : ByteArray)[p]'(by show p < t.toArray.size; simpa using hl) = d := by
      rw [← hd]; show t.toArray[p] = _; simp [List.getD_eq_getElem?_getD, hl]
    have q1 : (((p : Nat) : Int) == ((t.length : Nat) : Int)) = false := by simp; omega
    have HC : Hid (∀ w, Calls Tryz.prog 36 #[.string ⟨set.toArray⟩, .int .u8 d.toNat] w fun e w' => e = .returned (.int .i64 (Lib.indexByte set d)) ∧ w' = w) := fun w => indexByte_any set d w
    have hI := ixb_lt d set
    have hG := ixb_ge d set
    have hT : tk t set p = set.contains d := by unfold tk; rw [hd]; simp [hl]
    rw [hT]
    generalize Lib.indexByte set d = ix at HC hI hG
    cases hc : set.contains d
    · have hix : ix < 0 := hI.2 hc
      have hix2 : decide (ix < 0) = true := by simpa using hix
      clear hI hG hT hc hd
      go_enter Tryz.func31, Tryz.ntmps31
      go_wp2
      go_quiet ((refine (HC.out _).mono ?_; rintro e w9 ⟨rfl, rfl⟩; exact ⟨rfl, _, rfl⟩))
      go_wp2
      go_ret
      exact ⟨rfl, (But.refl _ _).drewN _, H.out.drewN _⟩
    · have hix : 0 ≤ ix := hG hc
      have hix2 : decide (ix < 0) = false := by simp; omega
      clear hI hG hT hc hd
      go_enter Tryz.func31, Tryz.ntmps31
      go_wp2
      go_quiet ((refine (HC.out _).mono ?_; rintro e w9 ⟨rfl, rfl⟩; exact ⟨rfl, _, rfl⟩))
      go_wp2
      go_ret
      exact ⟨rfl, ((But.refl _ _).drewN _).set _ _, (H.out.drewN _).pos _⟩
  · have hpe : p = t.length := by omega
    have q1 : (((p : Nat) : Int) == ((t.length : Nat) : Int)) = true := by simp; omega
    have hT : tk t set p = false := by unfold tk; simp; omega
    rw [hT]
    clear hT hpe
    go_enter Tryz.func31, Tryz.ntmps31
    go_wp2
    go_quiet (fail)
    go_wp2
    go_ret
    exact ⟨rfl, (But.refl _ _).drewN _, H.out.drewN _⟩

end Go.Proofs.YtjehkpndchadbaaGreatDoor

namespace Go.Proofs.YtjehkpndchadbaaGreatDoor
open Go.RowKit

set_option maxHeartbeats 1000000 in
theorem next_any (w : World) (b : Nat) (t : List UInt8) (p : Nat) (x : X5) (c q : Int) (h : RB w b t p x c q) (hp : p ≤ t.length) (ht : t.length ≤ 1073741824) :
    Calls Tryz.prog 71 #[.pointer (some ⟨b, 0, none⟩)] w fun e w' => But w w' b ∧
      (p < t.length → e = .returned (.tuple #[.int .u8 (t.getD p 0).toNat, .bool true]) ∧ RB w' b t (p + 1) x c q) ∧
      (¬ p < t.length → e = .returned (.tuple #[.int .u8 0, .bool false]) ∧ RB w' b t p x 31 p) := by
  have c0 := h.c0
  have c1 := h.c1
  have f1 := h.fz 1
  have HW : Hid (∀ n, Calls Tryz.prog 32 #[.pointer (some ⟨b, 0, none⟩)] (w.drewN n) fun e w' => e = .returned (.bool false) ∧ But (w.drewN n) w' b ∧ RB w' b t p x 31 p) := fun n => wrong_any _ b t p x c q h
  have H : Hid (RB w b t p x c q) := h
  have HP : Hid (RB (w.setCell ⟨b, 1, none⟩ (.int .i64 (p + 1 : Nat))) b t (p + 1) x c q) := h.pos (p + 1)
  have c01 : (w.setCell ⟨b, 1, none⟩ (.int .i64 ((p : Int) + 1))).cell? ⟨b, 0, none⟩ = some (.string ⟨t.toArray⟩) := (h.pos (p + 1)).c0
  have c11 : (w.setCell ⟨b, 1, none⟩ (.int .i64 ((p : Int) + 1))).cell? ⟨b, 1, none⟩ = some (.int .i64 ((p : Int) + 1)) := (h.pos (p + 1)).c1
  clear h
  rcases Nat.lt_or_ge p t.length with hl | hl
  · obtain ⟨d, hd⟩ : ∃ d, t.getD p 0 = d := ⟨_, rfl⟩
    have gx : (⟨t.toArray⟩ : ByteArray)[p]'(by show p < t.toArray.size; simpa using hl) = d := by
      rw [← hd]; show t.toArray[p] = _; simp [List.getD_eq_getElem?_getD, hl]
    have q1 : (((p : Nat) : Int) == ((t.length : Nat) : Int)) = false := by simp; omega
    have Hd : Hid (t.getD p 0 = d) := hd
    clear hd
    go_enter Tryz.func71, Tryz.ntmps71
    go_wp2
    go_quiet (fail)
    go_wp2
    go_quiet (fail)
    go_wp2
    go_ret2
    refine ⟨?_, fun _ => ⟨?_, ?_⟩, fun h => absurd hl h⟩
    · exact (((But.refl _ _).drewN _).set _ _).drewN _
    · rw [Hd.out]; rfl
    · exact ((H.out.drewN _).pos _).drewN _
  · have q1 : (((p : Nat) : Int) == ((t.length : Nat) : Int)) = true := by simp; omega
    go_enter Tryz.func71, Tryz.ntmps71
    go_wp2
    go_quiet (fail)
    go_wp2_with fail
    refine (HW.out _).mono ?_
    rintro e w1 ⟨rfl, hB, hR⟩
    go_wp2
    go_ret2
    exact ⟨((But.refl _ _).drewN _).trans hB, fun h => by omega, fun _ => ⟨rfl, hR⟩⟩

set_option maxHeartbeats 1000000 in
theorem digits_any (w : World) (b : Nat) (t : List UInt8) (p : Nat) (x : X5) (c q : Int) (h : RB w b t p x c q) (hp : p ≤ t.length) (ht : t.length ≤ 1073741824) :
    Calls Tryz.prog 58 #[.pointer (some ⟨b, 0, none⟩)] w fun e w' => e = .returned (.bool (tk t digitsS p)) ∧ But w w' b ∧ RB w' b t (skp t digitsS p) x c q := by
  have c1 := h.c1
  have HR0 : Hid (RB w b t p x c q) := h
  have HG : Hid (p < skp t digitsS p ↔ tk t digitsS p = true) := skp_gt
  obtain ⟨E, hE⟩ : ∃ E, skp t digitsS p = E := ⟨_, rfl⟩
  rw [hE] at HG ⊢
  have HE : Hid (skp t digitsS p = E) := hE
  have HT : Hid (∀ (w : World) (k : Nat), RB w b t k x c q → k ≤ t.length → Calls Tryz.prog 31 #[.pointer (some ⟨b, 0, none⟩), .string { data := #[48, 49, 50, 51, 52, 53, 54, 55, 56, 57] }] w fun e w' => e = .returned (.bool (tk t digitsS k)) ∧ But w w' b ∧ RB w' b t (stp (tk t digitsS k) k) x c q) := fun w k h hk => take_any w b t digitsS k x c q h hk ht
  clear h hE
  go_enter Tryz.func58, Tryz.ntmps58
  go_wp2
  go_loopg [] (t.length + 1) (fun gk wx => But w wx b ∧ ∃ k : Nat, k ≤ t.length ∧ p ≤ k ∧ t.length + 1 ≤ gk + k ∧ skp t digitsS k = E ∧ RB wx b t k x c q)
  case atStart => exact ⟨But.refl _ _, p, hp, Nat.le_refl _, by omega, HE.out, HR0.out⟩
  case round =>
    obtain ⟨hb, k, hk, hpk, hg, he, hr⟩ := hrel
    have HB : Hid (But w wr b) := hb
    have HEk : Hid (skp t digitsS k = E) := he
    have C := HT.out wr k hr hk
    clear hb he hr
    cases htk : tk t digitsS k
    · rw [htk] at C
      have HK : Hid (tk t digitsS k = false) := htk
      clear htk
      go_wp2_with fail
      refine C.mono ?_
      rintro e w1 ⟨rfl, hB1, hR1⟩
      have hR1 : RB w1 b t k x c q := hR1
      have c1' := hR1.c1
      have hEk : E = k := by rw [← HEk.out, skp_stop HK.out]
      subst hEk
      have hgt : decide (p < E) = tk t digitsS p := by
        cases h2 : tk t digitsS p
        · have : ¬ p < E := fun h => by rw [HG.out.1 h] at h2; cases h2
          simp; omega
        · have := HG.out.2 h2
          simp; omega
      have HGt : Hid (decide (p < E) = tk t digitsS p) := hgt
      have HR1 : Hid (RB w1 b t E x c q) := hR1
      clear hgt hR1
      go_wp2
      go_ret
      refine ⟨?_, HB.out.trans hB1, HR1.out⟩
      rw [← HGt.out]; rfl
    · rw [htk] at C
      have HK : Hid (tk t digitsS k = true) := htk
      have hlk := tk_lt htk
      clear htk
      obtain ⟨g', rfl⟩ : ∃ g', gk = g' + 1 := ⟨gk - 1, by omega⟩
      go_wp2_with fail
      refine C.mono ?_
      rintro e w1 ⟨rfl, hB1, hR1⟩
      have hR1 : RB w1 b t (k + 1) x c q := hR1
      go_wp2
      go_roundg g'
      case measure => omega
      case rel =>
        refine ⟨HB.out.trans hB1, k + 1, by omega, by omega, by omega, ?_, hR1⟩
        rw [← skp_step HK.out]
        exact HEk.out

end Go.Proofs.YtjehkpndchadbaaGreatDoor

namespace Go.Proofs.YtjehkpndchadbaaGreatDoor
open Go.RowKit

set_option maxHeartbeats 1000000 in
theorem literal_any (w : World) (b : Nat) (t word : List UInt8) (p : Nat) (x : X5) (c q : Int) (h : RB w b t p x c q) (hp : p ≤ t.length) (ht : t.length ≤ 1073741824) (hw : word.length ≤ 100) :
    Calls Tryz.prog 48 #[.pointer (some ⟨b, 0, none⟩), .string ⟨word.toArray⟩] w fun e w' => But w w' b ∧
      (∀ u p', litF t word p = .ok u p' → e = .returned (.bool true) ∧ RB w' b t p' x c q) ∧
      (∀ c' p', litF t word p = .bad c' p' → e = .returned (.bool false) ∧ ∃ p2, RB w' b t p2 x c' p') := by
  have HR0 : Hid (RB w b t p x c q) := h
  obtain ⟨R, hR⟩ : ∃ R, litF t word p = R := ⟨_, rfl⟩
  rw [hR]
  have HE : Hid (litF t word p = R) := hR
  have Hs : Hid (∀ k, k < word.length → (⟨word.toArray⟩ : ByteArray).extract k (k + 1) = ⟨#[word.getD k 0]⟩) := by
    intro k hk
    rw [Lib.extract_eq]
    simp only [ByteArray.mk.injEq]
    have : List.take (k + 1 - k) (List.drop k word) = [word.getD k 0] := by
      rw [drop_at hk, show k + 1 - k = 1 by omega]
      rfl
    show (List.take (k + 1 - k) (List.drop k word)).toArray = _
    rw [this]
  have HT : Hid (∀ (w : World) (k : Nat) (d : UInt8), RB w b t k x c q → k ≤ t.length → Calls Tryz.prog 31 #[.pointer (some ⟨b, 0, none⟩), .string { data := #[d] }] w fun e w' => e = .returned (.bool (tk t [d] k)) ∧ But w w' b ∧ RB w' b t (stp (tk t [d] k) k) x c q) := fun w k d h hk => take_any w b t [d] k x c q h hk ht
  have HW : Hid (∀ (w : World) (k : Nat), RB w b t k x c q → Calls Tryz.prog 32 #[.pointer (some ⟨b, 0, none⟩)] w fun e w' => e = .returned (.bool false) ∧ But w w' b ∧ RB w' b t k x 31 k) := fun w k h => wrong_any w b t k x c q h
  clear h hR
  go_enter Tryz.func48, Tryz.ntmps48
  go_wp2
  go_loopw [8] (fun s wx => ∃ i : Nat, s = .int .i64 i ∧ i ≤ word.length ∧ p + i ≤ t.length ∧ But w wx b ∧ litF t (word.drop i) (p + i) = R ∧ RB wx b t (p + i) x c q) (fun s _ => word.length - (intOf s).toNat)
  case atStart => exact ⟨0, rfl, Nat.zero_le _, hp, But.refl _ _, HE.out, HR0.out⟩
  case round =>
    obtain ⟨i, rfl, hi, hpi, hb, he, hr⟩ := hrel
    have HB : Hid (But w wr b) := hb
    have HRi : Hid (RB wr b t (p + i) x c q) := hr
    rcases Nat.lt_or_ge i word.length with hl | hl
    · have hs := Hs.out i hl
      rw [drop_at hl] at he
      obtain ⟨d, hd⟩ : ∃ d, word.getD i 0 = d := ⟨_, rfl⟩
      rw [hd] at hs he
      have Hs1 : Hid ((⟨word.toArray⟩ : ByteArray).extract i (i + 1) = ⟨#[d]⟩) := hs
      have C := HT.out wr (p + i) d hr hpi
      have HEi : Hid (litF t (d :: word.drop (i + 1)) (p + i) = R) := he
      clear hs he hd hb hr
      go_wp2_with fail
      rw [Hs1.out]
      refine C.mono ?_
      clear C
      rintro e w1 ⟨rfl, hB1, hR1⟩
      have HB1 : Hid (But w w1 b) := HB.out.trans hB1
      clear hB1
      cases htk : tk t [d] (p + i)
      · rw [htk] at hR1
        have C2 := HW.out w1 (p + i) hR1
        have hRe : R = .bad 31 (p + i) := by rw [← HEi.out]; unfold litF; rw [htk]; rfl
        have HRe : Hid (R = .bad 31 (p + i)) := hRe
        clear htk hRe hR1
        go_wp2_with fail
        refine C2.mono ?_
        rintro e w2 ⟨rfl, hB2, hR2⟩
        go_wp2
        go_ret
        refine ⟨HB1.out.trans hB2, ?_, ?_⟩
        · intro u p' e; rw [HRe.out] at e; cases e
        · intro c' p' e; rw [HRe.out] at e; cases e; exact ⟨rfl, _, hR2⟩
      · rw [htk] at hR1
        have hlk := tk_lt htk
        have hR1 : RB w1 b t (p + i + 1) x c q := hR1
        have hRe : litF t (word.drop (i + 1)) (p + i + 1) = R := by rw [← HEi.out]; conv => rhs; unfold litF; rw [htk, if_pos rfl]
        have HRe : Hid (litF t (word.drop (i + 1)) (p + i + 1) = R) := hRe
        have HR1 : Hid (RB w1 b t (p + i + 1) x c q) := hR1
        clear htk hRe hR1
        go_wp2
        exact ⟨⟨i + 1, rfl, by omega, by omega, HB1.out, HRe.out, HR1.out⟩, by simp [intOf]; omega⟩
    · have hiw : i = word.length := by omega
      rw [hiw, List.drop_length] at he
      have HRe : Hid (R = .ok () (p + i)) := by rw [hiw, ← he]; rfl
      clear he hb hr hiw
      go_wp2
      go_ret
      refine ⟨HB.out, ?_, ?_⟩
      · intro u p' e; rw [HRe.out] at e; cases e; exact ⟨rfl, HRi.out⟩
      · intro c' p' e; rw [HRe.out] at e; cases e

end Go.Proofs.YtjehkpndchadbaaGreatDoor
