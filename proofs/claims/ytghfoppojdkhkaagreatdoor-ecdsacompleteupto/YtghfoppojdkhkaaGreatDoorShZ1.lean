import Derived.Test.YtghfoppojdkhkaaGreatDoorRows
import Derived.WalkKit
import Derived.WalkSpells
import Derived.WalkLawsBesides
import Derived.Deep.QuietTactic
import Derived.BigQuiet
import Derived.StillTail
import Derived.Deep.RegionWith
import Derived.Laws.NewBlocks
import Derived.Laws.Alloc2
import Derived.Laws.Rows
import Derived.Laws.BitsAllLaws
import Derived.Deep.MidRow
namespace Go.Proofs.YtghfoppojdkhkaaGreatDoor.Sha
open Go.RowKit
set_option maxRecDepth 100000

theorem below_drewN {B : Nat} {a w : World} (h : Below B a w) (q : Nat) : Below B a (w.drewN q) := ⟨h.os, h.tape, h.output, h.size, h.block⟩

/-- A walk that leaves one world alone, each operation's value told for that world. -/
theorem still_of_quiet {P : Program} {ops : Array Oper} {w : World} {Q : Act → Prop} : ∀ (l : List Oper) (a : Act), wpQuiet P ops (fun w' => w' = w) Q l a → wpStill P ops w Q l a
  | [], _, h => h
  | o :: r, a, h => by
    unfold wpQuiet at h
    unfold wpStill
    by_cases hw : Region.wanted o (yielded ops a.tmps) = true
    · rw [if_pos hw] at h ⊢
      obtain ⟨v, h1, h2⟩ := h
      have h3 := h1 w rfl
      have h4 := still_of_quiet r _ h2
      unfold Oper.quietAt at h3
      unfold Oper.still
      generalize (execOp a.eval o).run P w = res at h3
      cases res with
      | ok n w' =>
        cases n with
        | value u => obtain ⟨e1, e2⟩ := h3; subst e1; subst e2; exact ⟨rfl, h4⟩
        | skip => obtain ⟨e1, e2⟩ := h3; subst e1; subst e2; exact ⟨rfl, h4⟩
        | enter f args => obtain ⟨e1, hc⟩ := h3; subst e1; exact ⟨rfl, v, hc, h4⟩
        | _ => exact h3.elim
      | halt x w' => exact h3.elim
    · rw [if_neg hw] at h ⊢
      exact still_of_quiet r _ h

/-- A region that draws its order, all but the last operations of which only read, the last ones waiting for all of them. -/
theorem wp_region_tail {P : Program} {id : Nat} {Q : Exit → Act → World → Prop} {a : Act} {w : World} {l : List Oper} (n : Nat) (hm : P.follows .mixedOrders = true) (hB : Region.lexTailB .any l.toArray n = true)
    (h : wpQuiet P l.toArray (fun w' => w' = w.drewN 1) (fun a' => wpList P l.toArray Q (l.drop n) a' (w.drewN 1)) (l.take n) a) : (Code.region id l.toArray true).wp P Q a w :=
  wp_region_still_tail n hm hB (still_of_quiet _ _ h)

/-- A byte as the model's value, a word of 32 bits, one of 64. -/
def B (c : UInt8) : Value := .int .u8 c.toNat
def U (x : Int) : Value := .int .u32 x
def V (x : Int) : Value := .int .u64 x

/-- A block of cells, all of it one may write. -/
def Cl (w : World) (b : Nat) (vs : List Value) : Prop := ∃ t, w.heap[b]? = some (.cells vs.toArray t (0, 0))

theorem Cl.cell {w : World} {b : Nat} {vs : List Value} (h : Cl w b vs) (j : Nat) (hj : j < vs.length) : w.cell? ⟨b, j, none⟩ = some vs[j] := by
  obtain ⟨t, ht⟩ := h
  unfold World.cell?
  simp [ht, hj]

theorem Cl.frozen {w : World} {b : Nat} {vs : List Value} (h : Cl w b vs) (j : Nat) : w.frozen? ⟨b, j, none⟩ = false := by
  obtain ⟨t, ht⟩ := h
  unfold World.frozen?
  simp [ht]

theorem Cl.set {w : World} {b : Nat} {vs : List Value} (h : Cl w b vs) (j : Nat) (v : Value) : Cl (w.setCell ⟨b, j, none⟩ v) b (vs.set j v) := by
  obtain ⟨t, ht⟩ := h
  refine ⟨t, ?_⟩
  rw [heap_setCell_same w b j _ t _ ht]
  simp

theorem Cl.lt {w : World} {b : Nat} {vs : List Value} (h : Cl w b vs) : b < w.heap.size := by
  obtain ⟨t, ht⟩ := h
  exact (Array.getElem?_eq_some_iff.1 ht).1

/-- All blocks that there were but this one stand as they stood. -/
structure But (w w' : World) (b : Nat) : Prop where
  os : w'.os = w.os
  tape : w'.tape = w.tape
  output : w'.output = w.output
  size : w.heap.size ≤ w'.heap.size
  block : ∀ k, k < w.heap.size → k ≠ b → w'.heap[k]? = w.heap[k]?

theorem But.refl (w : World) (b : Nat) : But w w b := ⟨rfl, rfl, rfl, Nat.le_refl _, fun _ _ _ => rfl⟩
theorem But.set {w w' : World} {b : Nat} (h : But w w' b) (j : Nat) (v : Value) : But w (w'.setCell ⟨b, j, none⟩ v) b :=
  ⟨h.os, h.tape, h.output, by simpa using h.size, fun k hk hb => by rw [heap_setCell_other w' _ k v hb]; exact h.block k hk hb⟩
theorem But.drewN {w w' : World} {b : Nat} (h : But w w' b) (q : Nat) : But w (w'.drewN q) b := ⟨h.os, h.tape, h.output, h.size, h.block⟩
theorem But.trans {w w' w'' : World} {b : Nat} (h : But w w' b) (h2 : But w' w'' b) : But w w'' b :=
  ⟨h2.os.trans h.os, h2.tape.trans h.tape, h2.output.trans h.output, Nat.le_trans h.size h2.size, fun k hk hb => by rw [h2.block k (Nat.lt_of_lt_of_le hk h.size) hb]; exact h.block k hk hb⟩
theorem But.of_below {w w' : World} {b : Nat} (h : Below w.heap.size w w') : But w w' b := ⟨h.os, h.tape, h.output, h.size, fun k hk _ => h.block k hk⟩
theorem But.below {w w' : World} {b : Nat} (h : But w w' b) {n : Nat} (hn : n ≤ w.heap.size) (hb : n ≤ b) : Below n w w' := ⟨h.os, h.tape, h.output, h.size, fun k hk => h.block k (by omega) (by omega)⟩
theorem But.other {w w' : World} {b c : Nat} (h : But w w' b) {vs : List Value} (hc : Cl w c vs) (hne : c ≠ b) : Cl w' c vs := by
  obtain ⟨t, ht⟩ := hc
  exact ⟨t, by rw [h.block c (Array.getElem?_eq_some_iff.1 ht).1 hne]; exact ht⟩
theorem Cl.below {w w' : World} {b n : Nat} {vs : List Value} (h : Cl w b vs) (hb : Below n w w') (hn : b < n) : Cl w' b vs := by
  obtain ⟨t, ht⟩ := h
  exact ⟨t, by rw [hb.block b hn]; exact ht⟩

/-- A block of cells of that type, all of it one may write. -/
def Bl (t : TypeId) (w : World) (b : Nat) (vs : List Value) : Prop := w.heap[b]? = some (.cells vs.toArray t (0, 0))
theorem Bl.cl {t : TypeId} {w : World} {b : Nat} {vs : List Value} (h : Bl t w b vs) : Cl w b vs := ⟨t, h⟩
theorem Bl.cell {t : TypeId} {w : World} {b : Nat} {vs : List Value} (h : Bl t w b vs) (j : Nat) (hj : j < vs.length) : w.cell? ⟨b, j, none⟩ = some vs[j] := h.cl.cell j hj
theorem Bl.frozen {t : TypeId} {w : World} {b : Nat} {vs : List Value} (h : Bl t w b vs) (j : Nat) : w.frozen? ⟨b, j, none⟩ = false := h.cl.frozen j
theorem Bl.lt {t : TypeId} {w : World} {b : Nat} {vs : List Value} (h : Bl t w b vs) : b < w.heap.size := h.cl.lt
theorem Bl.set {t : TypeId} {w : World} {b : Nat} {vs : List Value} (h : Bl t w b vs) (j : Nat) (v : Value) : Bl t (w.setCell ⟨b, j, none⟩ v) b (vs.set j v) := by
  unfold Bl at *
  rw [heap_setCell_same w b j _ t _ h]
  simp
theorem Bl.drewN {t : TypeId} {w : World} {b : Nat} {vs : List Value} (h : Bl t w b vs) (q : Nat) : Bl t (w.drewN q) b vs := h
theorem Bl.below {t : TypeId} {w w' : World} {b n : Nat} {vs : List Value} (h : Bl t w b vs) (hb : Below n w w') (hn : b < n) : Bl t w' b vs := by
  unfold Bl at *
  rw [hb.block b hn]; exact h
theorem Bl.but {t : TypeId} {w w' : World} {b c : Nat} {vs : List Value} (h : Bl t w c vs) (hb : But w w' b) (hne : c ≠ b) : Bl t w' c vs := by
  have := h.lt
  unfold Bl at *
  rw [hb.block c this hne]; exact h

end Go.Proofs.YtghfoppojdkhkaaGreatDoor.Sha
namespace Go.Proofs.YtghfoppojdkhkaaGreatDoor.Sha
open Go.RowKit
set_option maxRecDepth 100000

/-- A word of 32 bits turned to the right; one of 64. -/
def rt (n : Nat) (x : Int) : Int := bits .or .u32 (x * 2 ^ (32 - n) % 4294967296) (x / 2 ^ n)
def ru (n : Nat) (x : Int) : Int := bits .or .u64 (x * 2 ^ (64 - n) % 18446744073709551616) (x / 2 ^ n)

theorem rot32_any (x : Int) (n : Nat) (h1 : 1 ≤ n) (h2 : n ≤ 31) (w : World) :
    Calls Tryz.prog 116 #[.int .u32 x, .int .i64 (-(n : Int))] w fun e w' => e = .returned (.int .u32 (rt n x)) ∧ w' = w := by
  have hs : bits .and .u64 (IntKind.u64.wrap (-(n : Int))) 31 = ((32 - n : Nat) : Int) := by
    have : IntKind.u64.wrap (-(n : Int)) = ((18446744073709551616 - n : Nat) : Int) := by rw [IntKind.wrap_u64]; omega
    rw [this]
    have e : (31 : Int) = ((31 : Nat) : Int) := rfl
    rw [e, u64_and_nat _ 31 (by omega) (by omega), nat_mask5]
    omega
  have hk : 32 - (32 - n) = n := by omega
  have Hr : Hid (rt n x = bits .or .u32 (x * 2 ^ (32 - n) % 4294967296) (x / 2 ^ n)) := rfl
  go_enter Tryz.func116, Tryz.ntmps116
  go_wp2
  go_ret
  rw [Hr.out]
  exact ⟨by simp only [IntKind.wrap_u64]; rfl, rfl⟩

theorem turn32_any (x : Int) (n : Nat) (h1 : 1 ≤ n) (h2 : n ≤ 31) (w : World) :
    Calls Tryz.prog 108 #[.int .u32 x, .int .i64 (n : Int)] w fun e w' => e = .returned (.int .u32 (rt n x)) ∧ w' = w := by
  go_enter Tryz.func108, Tryz.ntmps108
  go_wp2_with fail
  refine (rot32_any x n h1 h2 w).mono ?_
  rintro e w1 ⟨rfl, rfl⟩
  go_wp2
  go_ret
  exact ⟨rfl, rfl⟩
theorem t32_2 (x : Int) (w : World) : Calls Tryz.prog 108 #[.int .u32 x, .int .i64 2] w fun e w' => e = .returned (.int .u32 (rt 2 x)) ∧ w' = w := turn32_any x 2 (by decide) (by decide) w
theorem t32_6 (x : Int) (w : World) : Calls Tryz.prog 108 #[.int .u32 x, .int .i64 6] w fun e w' => e = .returned (.int .u32 (rt 6 x)) ∧ w' = w := turn32_any x 6 (by decide) (by decide) w
theorem t32_7 (x : Int) (w : World) : Calls Tryz.prog 108 #[.int .u32 x, .int .i64 7] w fun e w' => e = .returned (.int .u32 (rt 7 x)) ∧ w' = w := turn32_any x 7 (by decide) (by decide) w
theorem t32_11 (x : Int) (w : World) : Calls Tryz.prog 108 #[.int .u32 x, .int .i64 11] w fun e w' => e = .returned (.int .u32 (rt 11 x)) ∧ w' = w := turn32_any x 11 (by decide) (by decide) w
theorem t32_13 (x : Int) (w : World) : Calls Tryz.prog 108 #[.int .u32 x, .int .i64 13] w fun e w' => e = .returned (.int .u32 (rt 13 x)) ∧ w' = w := turn32_any x 13 (by decide) (by decide) w
theorem t32_17 (x : Int) (w : World) : Calls Tryz.prog 108 #[.int .u32 x, .int .i64 17] w fun e w' => e = .returned (.int .u32 (rt 17 x)) ∧ w' = w := turn32_any x 17 (by decide) (by decide) w
theorem t32_18 (x : Int) (w : World) : Calls Tryz.prog 108 #[.int .u32 x, .int .i64 18] w fun e w' => e = .returned (.int .u32 (rt 18 x)) ∧ w' = w := turn32_any x 18 (by decide) (by decide) w
theorem t32_19 (x : Int) (w : World) : Calls Tryz.prog 108 #[.int .u32 x, .int .i64 19] w fun e w' => e = .returned (.int .u32 (rt 19 x)) ∧ w' = w := turn32_any x 19 (by decide) (by decide) w
theorem t32_22 (x : Int) (w : World) : Calls Tryz.prog 108 #[.int .u32 x, .int .i64 22] w fun e w' => e = .returned (.int .u32 (rt 22 x)) ∧ w' = w := turn32_any x 22 (by decide) (by decide) w
theorem t32_25 (x : Int) (w : World) : Calls Tryz.prog 108 #[.int .u32 x, .int .i64 25] w fun e w' => e = .returned (.int .u32 (rt 25 x)) ∧ w' = w := turn32_any x 25 (by decide) (by decide) w

theorem rot64_any (x : Int) (n : Nat) (h1 : 1 ≤ n) (h2 : n ≤ 63) (w : World) :
    Calls Tryz.prog 117 #[.int .u64 x, .int .i64 (-(n : Int))] w fun e w' => e = .returned (.int .u64 (ru n x)) ∧ w' = w := by
  have hs : bits .and .u64 (IntKind.u64.wrap (-(n : Int))) 63 = ((64 - n : Nat) : Int) := by
    have : IntKind.u64.wrap (-(n : Int)) = ((18446744073709551616 - n : Nat) : Int) := by rw [IntKind.wrap_u64]; omega
    rw [this]
    have e : (63 : Int) = ((63 : Nat) : Int) := rfl
    rw [e, u64_and_nat _ 63 (by omega) (by omega), nat_mask6]
    omega
  have hk : 64 - (64 - n) = n := by omega
  have Hr : Hid (ru n x = bits .or .u64 (x * 2 ^ (64 - n) % 18446744073709551616) (x / 2 ^ n)) := rfl
  go_enter Tryz.func117, Tryz.ntmps117
  go_wp2
  go_ret
  rw [Hr.out]
  exact ⟨by simp only [IntKind.wrap_u64]; rfl, rfl⟩

theorem turn64_any (x : Int) (n : Nat) (h1 : 1 ≤ n) (h2 : n ≤ 63) (w : World) :
    Calls Tryz.prog 109 #[.int .u64 x, .int .i64 (n : Int)] w fun e w' => e = .returned (.int .u64 (ru n x)) ∧ w' = w := by
  go_enter Tryz.func109, Tryz.ntmps109
  go_wp2_with fail
  refine (rot64_any x n h1 h2 w).mono ?_
  rintro e w1 ⟨rfl, rfl⟩
  go_wp2
  go_ret
  exact ⟨rfl, rfl⟩
theorem t64_1 (x : Int) (w : World) : Calls Tryz.prog 109 #[.int .u64 x, .int .i64 1] w fun e w' => e = .returned (.int .u64 (ru 1 x)) ∧ w' = w := turn64_any x 1 (by decide) (by decide) w
theorem t64_8 (x : Int) (w : World) : Calls Tryz.prog 109 #[.int .u64 x, .int .i64 8] w fun e w' => e = .returned (.int .u64 (ru 8 x)) ∧ w' = w := turn64_any x 8 (by decide) (by decide) w
theorem t64_14 (x : Int) (w : World) : Calls Tryz.prog 109 #[.int .u64 x, .int .i64 14] w fun e w' => e = .returned (.int .u64 (ru 14 x)) ∧ w' = w := turn64_any x 14 (by decide) (by decide) w
theorem t64_18 (x : Int) (w : World) : Calls Tryz.prog 109 #[.int .u64 x, .int .i64 18] w fun e w' => e = .returned (.int .u64 (ru 18 x)) ∧ w' = w := turn64_any x 18 (by decide) (by decide) w
theorem t64_19 (x : Int) (w : World) : Calls Tryz.prog 109 #[.int .u64 x, .int .i64 19] w fun e w' => e = .returned (.int .u64 (ru 19 x)) ∧ w' = w := turn64_any x 19 (by decide) (by decide) w
theorem t64_28 (x : Int) (w : World) : Calls Tryz.prog 109 #[.int .u64 x, .int .i64 28] w fun e w' => e = .returned (.int .u64 (ru 28 x)) ∧ w' = w := turn64_any x 28 (by decide) (by decide) w
theorem t64_34 (x : Int) (w : World) : Calls Tryz.prog 109 #[.int .u64 x, .int .i64 34] w fun e w' => e = .returned (.int .u64 (ru 34 x)) ∧ w' = w := turn64_any x 34 (by decide) (by decide) w
theorem t64_39 (x : Int) (w : World) : Calls Tryz.prog 109 #[.int .u64 x, .int .i64 39] w fun e w' => e = .returned (.int .u64 (ru 39 x)) ∧ w' = w := turn64_any x 39 (by decide) (by decide) w
theorem t64_41 (x : Int) (w : World) : Calls Tryz.prog 109 #[.int .u64 x, .int .i64 41] w fun e w' => e = .returned (.int .u64 (ru 41 x)) ∧ w' = w := turn64_any x 41 (by decide) (by decide) w
theorem t64_61 (x : Int) (w : World) : Calls Tryz.prog 109 #[.int .u64 x, .int .i64 61] w fun e w' => e = .returned (.int .u64 (ru 61 x)) ∧ w' = w := turn64_any x 61 (by decide) (by decide) w

end Go.Proofs.YtghfoppojdkhkaaGreatDoor.Sha
namespace Go.Proofs.YtghfoppojdkhkaaGreatDoor.Sha
open Go.RowKit
set_option maxRecDepth 100000

/-- How many bytes a block has; a sum. -/
def blk (h : Int) : Nat := if h = 1 then 64 else if h = 2 then 128 else if h = 3 then 128 else 0
def siz (h : Int) : Nat := if h = 1 then 32 else if h = 2 then 48 else if h = 3 then 64 else 0

theorem block_any (h : Int) (w : World) : Calls Tryz.prog 95 #[.int .i64 h] w fun e w' => e = .returned (.int .i64 (blk h)) ∧ w' = w := by
  by_cases h1 : h = 1
  · subst h1
    go_enter Tryz.func95, Tryz.ntmps95
    go_wp2
    go_ret
    exact ⟨rfl, rfl⟩
  by_cases h2 : h = 2
  · subst h2
    go_enter Tryz.func95, Tryz.ntmps95
    go_wp2
    go_ret
    exact ⟨rfl, rfl⟩
  by_cases h3 : h = 3
  · subst h3
    go_enter Tryz.func95, Tryz.ntmps95
    go_wp2
    go_ret
    exact ⟨rfl, rfl⟩
  have hb : Hid (blk h = 0) := by show _ = _; unfold blk; rw [if_neg h1, if_neg h2, if_neg h3]
  go_enter Tryz.func95, Tryz.ntmps95
  go_wp2
  go_ret
  rw [hb.out]
  exact ⟨rfl, rfl⟩

theorem size_any (h : Int) (w : World) : Calls Tryz.prog 17 #[.int .i64 h] w fun e w' => e = .returned (.int .i64 (siz h)) ∧ w' = w := by
  by_cases h1 : h = 1
  · subst h1
    go_enter Tryz.func17, Tryz.ntmps17
    go_wp2
    go_ret
    exact ⟨rfl, rfl⟩
  by_cases h2 : h = 2
  · subst h2
    go_enter Tryz.func17, Tryz.ntmps17
    go_wp2
    go_ret
    exact ⟨rfl, rfl⟩
  by_cases h3 : h = 3
  · subst h3
    go_enter Tryz.func17, Tryz.ntmps17
    go_wp2
    go_ret
    exact ⟨rfl, rfl⟩
  have hb : Hid (siz h = 0) := by show _ = _; unfold siz; rw [if_neg h1, if_neg h2, if_neg h3]
  go_enter Tryz.func17, Tryz.ntmps17
  go_wp2
  go_ret
  rw [hb.out]
  exact ⟨rfl, rfl⟩

/-- The number of bytes, the most significant first. -/
def be (l : List UInt8) : Nat := l.foldl (fun n x => n * 256 + x.toNat) 0

theorem be_snoc (l : List UInt8) (x : UInt8) : be (l ++ [x]) = be l * 256 + x.toNat := by simp [be]

theorem be_fold (l : List UInt8) : ∀ a : Nat, l.foldl (fun n x => n * 256 + x.toNat) a < (a + 1) * 256 ^ l.length := by
  induction l with
  | nil => intro a; simp
  | cons x l ih =>
    intro a
    rw [List.foldl_cons, List.length_cons, Nat.pow_succ]
    refine Nat.lt_of_lt_of_le (ih _) ?_
    have hx := x.toNat_lt
    have h1 : a * 256 + x.toNat + 1 ≤ (a + 1) * 256 := by omega
    calc (a * 256 + x.toNat + 1) * 256 ^ l.length ≤ ((a + 1) * 256) * 256 ^ l.length := Nat.mul_le_mul_right _ h1
      _ = (a + 1) * (256 ^ l.length * 256) := by rw [Nat.mul_assoc, Nat.mul_comm 256]

theorem be_lt (l : List UInt8) : be l < 256 ^ l.length := by
  have h := be_fold l 0
  rw [Nat.zero_add, Nat.one_mul] at h
  exact h

theorem getStep (n : Nat) (x : UInt8) (h : n < 72057594037927936) : bits .or .u64 ((n : Int) * 256) (x.toNat : Int) = ((n * 256 + x.toNat : Nat) : Int) := by
  have hx := x.toNat_lt
  have e : (n : Int) * 256 = ((n * 256 : Nat) : Int) := by omega
  rw [e, u64_or_nat (n * 256) x.toNat (by omega) (by omega), nat_join 8 (n * 256) x.toNat (by omega) (by omega)]

theorem take_be (l : List UInt8) (k : Nat) (hk : k < l.length) : be (l.take (k + 1)) = be (l.take k) * 256 + l[k].toNat := by
  rw [List.take_succ_eq_append_getElem hk, be_snoc]

set_option maxHeartbeats 400000 in
theorem get_any (b off cap : Nat) (l : List UInt8) (w : World) (hc : ∀ j, (hj : j < l.length) → w.cell? ⟨b, off + j, none⟩ = some (B l[j])) (hl : l.length ≤ 8) :
    Calls Tryz.prog 107 #[.slice (some ⟨b, off, none⟩) l.length cap] w fun e w' => e = .returned (.int .u64 (be l)) ∧ w' = w := by
  have Hc : Hid (∀ j, (hj : j < l.length) → w.cell? ⟨b, off + j, none⟩ = some (B l[j])) := hc
  clear hc
  go_enter Tryz.func107, Tryz.ntmps107
  go_wp2
  go_loop [3, 5, 8] (fun s3 _ s8 => ∃ k : Nat, s8 = .int .i64 (k : Int) ∧ k ≤ l.length ∧ s3 = .int .u64 (be (l.take k))) (fun _ _ s => l.length - (intOf s).toNat)
  case atStart => exact ⟨0, rfl, Nat.zero_le _, rfl⟩
  case round =>
    obtain ⟨k, rfl, hk, rfl⟩ := hrel
    by_cases hlt : k < l.length
    · have gc := Hc.out k hlt
      have Ht : Hid (be (l.take (k + 1)) = be (l.take k) * 256 + l[k].toNat) := take_be l k hlt
      have hb : be (l.take k) < 72057594037927936 := by
        have h1 := be_lt (l.take k)
        rw [List.length_take] at h1
        refine Nat.lt_of_lt_of_le h1 ?_
        have : (256 : Nat) ^ (min k l.length) ≤ 256 ^ 7 := Nat.pow_le_pow_right (by decide) (by omega)
        omega
      have hst := getStep (be (l.take k)) l[k] hb
      unfold B at gc
      generalize l[k] = x at *
      generalize be (l.take k) = m at *
      have hx := x.toNat_lt
      go_wp2
      go_round
      case rel => exact ⟨k + 1, by go_num, by omega, by rw [Ht.out]; simp⟩
      case measure => simp [intOf]; omega
    · obtain rfl : k = l.length := by omega
      go_wp2
      go_ret
      simp
end Go.Proofs.YtghfoppojdkhkaaGreatDoor.Sha