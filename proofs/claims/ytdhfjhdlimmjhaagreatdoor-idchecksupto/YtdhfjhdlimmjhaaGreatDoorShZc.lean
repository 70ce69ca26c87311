import Derived.Test.YtdhfjhdlimmjhaaGreatDoorRows
import Derived.WalkKit
import Derived.WalkSpells
import Derived.WalkLawsBesides
import Derived.Deep.QuietTactic
import Derived.BigQuiet
import Derived.StillTail
import Derived.Deep.RegionWith
import Derived.Laws.NewBlocks
import Derived.Laws.Alloc2
import Derived.Laws.Rows
import Derived.Laws.BitsAllLaws
import Derived.Deep.MidRow
namespace Go.Proofs.YtdhfjhdlimmjhaaGreatDoor.Sha
open Go.RowKit
set_option maxRecDepth 100000

theorem below_drewN {B : Nat} {a w : World} (h : Below B a w) (q : Nat) : Below B a (w.drewN q) := ⟨h.os, h.tape, h.output, h.size, h.block⟩

theorem still_of_quiet {P : Program} {ops : Array Oper} {w : World} {Q : Act → Prop} : ∀ (l : List Oper) (a : Act), wpQuiet P ops (fun w' => w' = w) Q l a → wpStill P ops w Q l a
  | [], _, h => h
  | o :: r, a, h => by
    unfold wpQuiet at h
    unfold wpStill
    by_cases hw : Region.wanted o (yielded ops a.tmps) = true
    · rw [if_pos hw] at h ⊢
      obtain ⟨v, h1, h2⟩ := h
      have h3 := h1 w rfl
      have h4 := still_of_quiet r _ h2
      unfold Oper.quietAt at h3
      unfold Oper.still
      generalize (execOp a.eval o).run P w = res at h3
      cases res with
      | ok n w' =>
        cases n with
        | value u => obtain ⟨e1, e2⟩ := h3; subst e1; subst e2; exact ⟨rfl, h4⟩
        | skip => obtain ⟨e1, e2⟩ := h3; subst e1; subst e2; exact ⟨rfl, h4⟩
        | enter f args => obtain ⟨e1, hc⟩ := h3; subst e1; exact ⟨rfl, v, hc, h4⟩
        | _ => exact h3.elim
      | halt x w' => exact h3.elim
    · rw [if_neg hw] at h ⊢
      exact still_of_quiet r _ h

theorem wp_region_tail {P : Program} {id : Nat} {Q : Exit → Act → World → Prop} {a : Act} {w : World} {l : List Oper} (n : Nat) (hm : P.follows .mixedOrders = true) (hB : Region.lexTailB .any l.toArray n = true)
    (h : wpQuiet P l.toArray (fun w' => w' = w.drewN 1) (fun a' => wpList P l.toArray Q (l.drop n) a' (w.drewN 1)) (l.take n) a) : (Code.region id l.toArray true).wp P Q a w :=
  wp_region_still_tail n hm hB (still_of_quiet _ _ h)

def B (c : UInt8) : Value := .int .u8 c.toNat
def U (x : Int) : Value := .int .u32 x
def V (x : Int) : Value := .int .u64 x

def Cl (w : World) (b : Nat) (vs : List Value) : Prop := ∃ t, w.heap[b]? = some (.cells vs.toArray t (0, 0))

theorem Cl.cell {w : World} {b : Nat} {vs : List Value} (h : Cl w b vs) (j : Nat) (hj : j < vs.length) : w.cell? ⟨b, j, none⟩ = some vs[j] := by
  obtain ⟨t, ht⟩ := h
  unfold World.cell?
  simp [ht, hj]

theorem Cl.frozen {w : World} {b : Nat} {vs : List Value} (h : Cl w b vs) (j : Nat) : w.frozen? ⟨b, j, none⟩ = false := by
  obtain ⟨t, ht⟩ := h
  unfold World.frozen?
  simp [ht]

theorem Cl.set {w : World} {b : Nat} {vs : List Value} (h : Cl w b vs) (j : Nat) (v : Value) : Cl (w.setCell ⟨b, j, none⟩ v) b (vs.set j v) := by
  obtain ⟨t, ht⟩ := h
  refine ⟨t, ?_⟩
  rw [heap_setCell_same w b j _ t _ ht]
  simp

theorem Cl.lt {w : World} {b : Nat} {vs : List Value} (h : Cl w b vs) : b < w.heap.size := by
  obtain ⟨t, ht⟩ := h
  exact (Array.getElem?_eq_some_iff.1 ht).1

structure But (w w' : World) (b : Nat) : Prop where
  os : w'.os = w.os
  tape : w'.tape = w.tape
  output : w'.output = w.output
  size : w.heap.size ≤ w'.heap.size
  block : ∀ k, k < w.heap.size → k ≠ b → w'.heap[k]? = w.heap[k]?

theorem But.refl (w : World) (b : Nat) : But w w b := ⟨rfl, rfl, rfl, Nat.le_refl _, fun _ _ _ => rfl⟩
theorem But.set {w w' : World} {b : Nat} (h : But w w' b) (j : Nat) (v : Value) : But w (w'.setCell ⟨b, j, none⟩ v) b :=
  ⟨h.os, h.tape, h.output, by simpa using h.size, fun k hk hb => by rw [heap_setCell_other w' _ k v hb]; exact h.block k hk hb⟩
theorem But.drewN {w w' : World} {b : Nat} (h : But w w' b) (q : Nat) : But w (w'.drewN q) b := ⟨h.os, h.tape, h.output, h.size, h.block⟩
theorem But.trans {w w' w'' : World} {b : Nat} (h : But w w' b) (h2 : But w' w'' b) : But w w'' b :=
  ⟨h2.os.trans h.os, h2.tape.trans h.tape, h2.output.trans h.output, Nat.le_trans h.size h2.size, fun k hk hb => by rw [h2.block k (Nat.lt_of_lt_of_le hk h.size) hb]; exact h.block k hk hb⟩
theorem But.of_below {w w' : World} {b : Nat} (h : Below w.heap.size w w') : But w w' b := ⟨h.os, h.tape, h.output, h.size, fun k hk _ => h.block k hk⟩
theorem But.below {w w' : World} {b : Nat} (h : But w w' b) {n : Nat} (hn : n ≤ w.heap.size) (hb : n ≤ b) : Below n w w' := ⟨h.os, h.tape, h.output, h.size, fun k hk => h.block k (by omega) (by omega)⟩
theorem But.other {w w' : World} {b c : Nat} (h : But w w' b) {vs : List Value} (hc : Cl w c vs) (hne : c ≠ b) : Cl w' c vs := by
  obtain ⟨t, ht⟩ := hc
  exact ⟨t, by rw [h.block c (Array.getElem?_eq_some_iff.1 ht).1 hne]; exact ht⟩
theorem Cl.below {w w' : World} {b n : Nat} {vs : List Value} (h : Cl w b vs) (hb : Below n w w') (hn : b < n) : Cl w' b vs := by
  obtain ⟨t, ht⟩ := h
  exact ⟨t, by rw [hb.block b hn]; exact ht⟩

def Bl (t : TypeId) (w : World) (b : Nat) (vs : List Value) : Prop := w.heap[b]? = some (.cells vs.toArray t (0, 0))
theorem Bl.cl {t : TypeId} {w : World} {b : Nat} {vs : List Value} (h : Bl t w b vs) : Cl w b vs := ⟨t, h⟩
theorem Bl.cell {t : TypeId} {w : World} {b : Nat} {vs : List Value} (h : Bl t w b vs) (j : Nat) (hj : j < vs.length) : w.cell? ⟨b, j, none⟩ = some vs[j] := h.cl.cell j hj
theorem Bl.frozen {t : TypeId} {w : World} {b : Nat} {vs : List Value} (h : Bl t w b vs) (j : Nat) : w.frozen? ⟨b, j, none⟩ = false := h.cl.frozen j
theorem Bl.lt {t : TypeId} {w : World} {b : Nat} {vs : List Value} (h : Bl t w b vs) : b < w.heap.size := h.cl.lt
theorem Bl.set {t : TypeId} {w : World} {b : Nat} {vs : List Value} (h : Bl t w b vs) (j : Nat) (v : Value) : Bl t (w.setCell ⟨b, j, none⟩ v) b (vs.set j v) := by
  unfold Bl at *
  rw [heap_setCell_same w b j _ t _ h]
  simp
theorem Bl.drewN {t : TypeId} {w : World} {b : Nat} {vs : List Value} (h : Bl t w b vs) (q : Nat) : Bl t (w.drewN q) b vs := h
theorem Bl.below {t : TypeId} {w w' : World} {b n : Nat} {vs : List Value} (h : Bl t w b vs) (hb : Below n w w') (hn : b < n) : Bl t w' b vs := by
  unfold Bl at *
  rw [hb.block b hn]; exact h
theorem Bl.but {t : TypeId} {w w' : World} {b c : Nat} {vs : List Value} (h : Bl t w c vs) (hb : But w w' b) (hne : c ≠ b) : Bl t w' c vs := by
  have := h.lt
  unfold Bl at *
  rw [hb.block c this hne]; exact h

end Go.Proofs.YtdhfjhdlimmjhaaGreatDoor.Sha
namespace Go.Proofs.YtdhfjhdlimmjhaaGreatDoor.Sha
open Go.RowKit
set_option maxRecDepth 100000

def rt (n : Nat) (x : Int) : Int := bits .or .u32 (x * 2 ^ (32 - n) % 4294967296) (x / 2 ^ n)
def ru (n : Nat) (x : Int) : Int := bits .or .u64 (x * 2 ^ (64 - n) % 18446744073709551616) (x / 2 ^ n)

theorem rot32_any (x : Int) (n : Nat) (h1 : 1 ≤ n) (h2 : n ≤ 31) (w : World) :
    Calls Tryz.prog 115 #[.int .u32 x, .int .i64 (-(n : Int))] w fun e w' => e = .returned (.int .u32 (rt n x)) ∧ w' = w := by
  have hs : bits .and .u64 (IntKind.u64.wrap (-(n : Int))) 31 = ((32 - n : Nat) : Int) := by
    have : IntKind.u64.wrap (-(n : Int)) = ((18446744073709551616 - n : Nat) : Int) := by rw [IntKind.wrap_u64]; omega
    rw [this]
    have e : (31 : Int) = ((31 : Nat) : Int) := rfl
    rw [e, u64_and_nat _ 31 (by omega) (by omega), nat_mask5]
    omega
  have hk : 32 - (32 - n) = n := by omega
  have Hr : Hid (rt n x = bits .or .u32 (x * 2 ^ (32 - n) % 4294967296) (x / 2 ^ n)) := rfl
  go_enter Tryz.func115, Tryz.ntmps115
  go_wp2
  go_ret
  rw [Hr.out]
  exact ⟨by simp only [IntKind.wrap_u64]; rfl, rfl⟩

theorem turn32_any (x : Int) (n : Nat) (h1 : 1 ≤ n) (h2 : n ≤ 31) (w : World) :
    Calls Tryz.prog 112 #[.int .u32 x, .int .i64 (n : Int)] w fun e w' => e = .returned (.int .u32 (rt n x)) ∧ w' = w := by
  go_enter Tryz.func112, Tryz.ntmps112
  go_wp2_with fail
  refine (rot32_any x n h1 h2 w).mono ?_
  rintro e w1 ⟨rfl, rfl⟩
  go_wp2
  go_ret
  exact ⟨rfl, rfl⟩
theorem t32_2 (x : Int) (w : World) : Calls Tryz.prog 112 #[.int .u32 x, .int .i64 2] w fun e w' => e = .returned (.int .u32 (rt 2 x)) ∧ w' = w := turn32_any x 2 (by decide) (by decide) w
theorem t32_6 (x : Int) (w : World) : Calls Tryz.prog 112 #[.int .u32 x, .int .i64 6] w fun e w' => e = .returned (.int .u32 (rt 6 x)) ∧ w' = w := turn32_any x 6 (by decide) (by decide) w
theorem t32_7 (x : Int) (w : World) : Calls Tryz.prog 112 #[.int .u32 x, .int .i64 7] w fun e w' => e = .returned (.int .u32 (rt 7 x)) ∧ w' = w := turn32_any x 7 (by decide) (by decide) w
theorem t32_11 (x : Int) (w : World) : Calls Tryz.prog 112 #[.int .u32 x, .int .i64 11] w fun e w' => e = .returned (.int .u32 (rt 11 x)) ∧ w' = w := turn32_any x 11 (by decide) (by decide) w
theorem t32_13 (x : Int) (w : World) : Calls Tryz.prog 112 #[.int .u32 x, .int .i64 13] w fun e w' => e = .returned (.int .u32 (rt 13 x)) ∧ w' = w := turn32_any x 13 (by decide) (by decide) w
theorem t32_17 (x : Int) (w : World) : Calls Tryz.prog 112 #[.int .u32 x, .int .i64 17] w fun e w' => e = .returned (.int .u32 (rt 17 x)) ∧ w' = w := turn32_any x 17 (by decide) (by decide) w
theorem t32_18 (x : Int) (w : World) : Calls Tryz.prog 112 #[.int .u32 x, .int .i64 18] w fun e w' => e = .returned (.int .u32 (rt 18 x)) ∧ w' = w := turn32_any x 18 (by decide) (by decide) w
theorem t32_19 (x : Int) (w : World) : Calls Tryz.prog 112 #[.int .u32 x, .int .i64 19] w fun e w' => e = .returned (.int .u32 (rt 19 x)) ∧ w' = w := turn32_any x 19 (by decide) (by decide) w
theorem t32_22 (x : Int) (w : World) : Calls Tryz.prog 112 #[.int .u32 x, .int .i64 22] w fun e w' => e = .returned (.int .u32 (rt 22 x)) ∧ w' = w := turn32_any x 22 (by decide) (by decide) w
theorem t32_25 (x : Int) (w : World) : Calls Tryz.prog 112 #[.int .u32 x, .int .i64 25] w fun e w' => e = .returned (.int .u32 (rt 25 x)) ∧ w' = w := turn32_any x 25 (by decide) (by decide) w

theorem rot64_any (x : Int) (n : Nat) (h1 : 1 ≤ n) (h2 : n ≤ 63) (w : World) :
    Calls Tryz.prog 116 #[.int .u64 x, .int .i64 (-(n : Int))] w fun e w' => e = .returned (.int .u64 (ru n x)) ∧ w' = w := by
  have hs : bits .and .u64 (IntKind.u64.wrap (-(n : Int))) 63 = ((64 - n : Nat) : Int) := by
    have : IntKind.u64.wrap (-(n : Int)) = ((18446744073709551616 - n : Nat) : Int) := by rw [IntKind.wrap_u64]; omega
    rw [this]
    have e : (63 : Int) = ((63 : Nat) : Int) := rfl
    rw [e, u64_and_nat _ 63 (by omega) (by omega), nat_mask6]
    omega
  have hk : 64 - (64 - n) = n := by omega
  have Hr : Hid (ru n x = bits .or .u64 (x * 2 ^ (64 - n) % 18446744073709551616) (x / 2 ^ n)) := rfl
  go_enter Tryz.func116, Tryz.ntmps116
  go_wp2
  go_ret
  rw [Hr.out]
  exact ⟨by simp only [IntKind.wrap_u64]; rfl, rfl⟩

theorem turn64_any (x : Int) (n : Nat) (h1 : 1 ≤ n) (h2 : n ≤ 63) (w : World) :
    Calls Tryz.prog 113 #[.int .u64 x, .int .i64 (n : Int)] w fun e w' => e = .returned (.int .u64 (ru n x)) ∧ w' = w := by
  go_enter Tryz.func113, Tryz.ntmps113
  go_wp2_with fail
  refine (rot64_any x n h1 h2 w).mono ?_
  rintro e w1 ⟨rfl, rfl⟩
  go_wp2
  go_ret
  exact ⟨rfl, rfl⟩
theorem t64_1 (x : Int) (w : World) : Calls Tryz.prog 113 #[.int .u64 x, .int .i64 1] w fun e w' => e = .returned (.int .u64 (ru 1 x)) ∧ w' = w := turn64_any x 1 (by decide) (by decide) w
theorem t64_8 (x : Int) (w : World) : Calls Tryz.prog 113 #[.int .u64 x, .int .i64 8] w fun e w' => e = .returned (.int .u64 (ru 8 x)) ∧ w' = w := turn64_any x 8 (by decide) (by decide) w
theorem t64_14 (x : Int) (w : World) : Calls Tryz.prog 113 #[.int .u64 x, .int .i64 14] w fun e w' => e = .returned (.int .u64 (ru 14 x)) ∧ w' = w := turn64_any x 14 (by decide) (by decide) w
theorem t64_18 (x : Int) (w : World) : Calls Tryz.prog 113 #[.int .u64 x, .int .i64 18] w fun e w' => e = .returned (.int .u64 (ru 18 x)) ∧ w' = w := turn64_any x 18 (by decide) (by decide) w
theorem t64_19 (x : Int) (w : World) : Calls Tryz.prog 113 #[.int .u64 x, .int .i64 19] w fun e w' => e = .returned (.int .u64 (ru 19 x)) ∧ w' = w := turn64_any x 19 (by decide) (by decide) w
theorem t64_28 (x : Int) (w : World) : Calls Tryz.prog 113 #[.int .u64 x, .int .i64 28] w fun e w' => e = .returned (.int .u64 (ru 28 x)) ∧ w' = w := turn64_any x 28 (by decide) (by decide) w
theorem t64_34 (x : Int) (w : World) : Calls Tryz.prog 113 #[.int .u64 x, .int .i64 34] w fun e w' => e = .returned (.int .u64 (ru 34 x)) ∧ w' = w := turn64_any x 34 (by decide) (by decide) w
theorem t64_39 (x : Int) (w : World) : Calls Tryz.prog 113 #[.int .u64 x, .int .i64 39] w fun e w' => e = .returned (.int .u64 (ru 39 x)) ∧ w' = w := turn64_any x 39 (by decide) (by decide) w
theorem t64_41 (x : Int) (w : World) : Calls Tryz.prog 113 #[.int .u64 x, .int .i64 41] w fun e w' => e = .returned (.int .u64 (ru 41 x)) ∧ w' = w := turn64_any x 41 (by decide) (by decide) w
theorem t64_61 (x : Int) (w : World) : Calls Tryz.prog 113 #[.int .u64 x, .int .i64 61] w fun e w' => e = .returned (.int .u64 (ru 61 x)) ∧ w' = w := turn64_any x 61 (by decide) (by decide) w

end Go.Proofs.YtdhfjhdlimmjhaaGreatDoor.Sha
namespace Go.Proofs.YtdhfjhdlimmjhaaGreatDoor.Sha
open Go.RowKit
set_option maxRecDepth 100000

def blk (h : Int) : Nat := if h = 1 then 64 else if h = 2 then 128 else if h = 3 then 128 else 0
def siz (h : Int) : Nat := if h = 1 then 32 else if h = 2 then 48 else if h = 3 then 64 else 0

theorem block_any (h : Int) (w : World) : Calls Tryz.prog 91 #[.int .i64 h] w fun e w' => e = .returned (.int .i64 (blk h)) ∧ w' = w := by
  by_cases h1 : h = 1
  · subst h1
    go_enter Tryz.func91, Tryz.ntmps91
    go_wp2
    go_ret
    exact ⟨rfl, rfl⟩
  by_cases h2 : h = 2
  · subst h2
    go_enter Tryz.func91, Tryz.ntmps91
    go_wp2
    go_ret
    exact ⟨rfl, rfl⟩
  by_cases h3 : h = 3
  · subst h3
    go_enter Tryz.func91, Tryz.ntmps91
    go_wp2
    go_ret
    exact ⟨rfl, rfl⟩
  have hb : Hid (blk h = 0) := by show _ = _; unfold blk; rw [if_neg h1, if_neg h2, if_neg h3]
  go_enter Tryz.func91, Tryz.ntmps91
  go_wp2
  go_ret
  rw [hb.out]
  exact ⟨rfl, rfl⟩

theorem size_any (h : Int) (w : World) : Calls Tryz.prog 95 #[.int .i64 h] w fun e w' => e = .returned (.int .i64 (siz h)) ∧ w' = w := by
  by_cases h1 : h = 1
  · subst h1
    go_enter Tryz.func95, Tryz.ntmps95
    go_wp2
    go_ret
    exact ⟨rfl, rfl⟩
  by_cases h2 : h = 2
  · subst h2
    go_enter Tryz.func95, Tryz.ntmps95
    go_wp2
    go_ret
    exact ⟨rfl, rfl⟩
  by_cases h3 : h = 3
  · subst h3
    go_enter Tryz.func95, Tryz.ntmps95
    go_wp2
    go_ret
    exact ⟨rfl, rfl⟩
  have hb : Hid (siz h = 0) := by show _ = _; unfold siz; rw [if_neg h1, if_neg h2, if_neg h3]
  go_enter Tryz.func95, Tryz.ntmps95
  go_wp2
  go_ret
  rw [hb.out]
  exact ⟨rfl, rfl⟩

def be (l : List UInt8) : Nat := l.foldl (fun n x => n * 256 + x.toNat) 0

theorem be_snoc (l : List UInt8) (x : UInt8) : be (l ++ [x]) = be l * 256 + x.toNat := by simp [be]

theorem be_fold (l : List UInt8) : ∀ a : Nat, l.foldl (fun n x => n * 256 + x.toNat) a < (a + 1) * 256 ^ l.length := by
  induction l with
  | nil => intro a; simp
  | cons x l ih =>
    intro a
    rw [List.foldl_cons, List.length_cons, Nat.pow_succ]
    refine Nat.lt_of_lt_of_le (ih _) ?_
    have hx := x.toNat_lt
    have h1 : a * 256 + x.toNat + 1 ≤ (a + 1) * 256 := by omega
    calc (a * 256 + x.toNat + 1) * 256 ^ l.length ≤ ((a + 1) * 256) * 256 ^ l.length := Nat.mul_le_mul_right _ h1
      _ = (a + 1) * (256 ^ l.length * 256) := by rw [Nat.mul_assoc, Nat.mul_comm 256]

theorem be_lt (l : List UInt8) : be l < 256 ^ l.length := by
  have h := be_fold l 0
  rw [Nat.zero_add, Nat.one_mul] at h
  exact h

theorem getStep (n : Nat) (x : UInt8) (h : n < 72057594037927936) : bits .or .u64 ((n : Int) * 256) (x.toNat : Int) = ((n * 256 + x.toNat : Nat) : Int) := by
  have hx := x.toNat_lt
  have e : (n : Int) * 256 = ((n * 256 : Nat) : Int) := by omega
  rw [e, u64_or_nat (n * 256) x.toNat (by omega) (by omega), nat_join 8 (n * 256) x.toNat (by omega) (by omega)]

theorem take_be (l : List UInt8) (k : Nat) (hk : k < l.length) : be (l.take (k + 1)) = be (l.take k) * 256 + l[k].toNat := by
  rw [List.take_succ_eq_append_getElem hk, be_snoc]

set_option maxHeartbeats 400000 in
theorem get_any (b off cap : Nat) (l : List UInt8) (w : World) (hc : ∀ j, (hj : j < l.length) → w.cell? ⟨b, off + j, none⟩ = some (B l[j])) (hl : l.length ≤ 8) :
    Calls Tryz.prog 111 #[.slice (some ⟨b, off, none⟩) l.length cap] w fun e w' => e = .returned (.int .u64 (be l)) ∧ w' = w := by
  have Hc : Hid (∀ j, (hj : j < l.length) → w.cell? ⟨b, off + j, none⟩ = some (B l[j])) := hc
  clear hc
  go_enter Tryz.func111, Tryz.ntmps111
  go_wp2
  go_loop [3, 5, 8] (fun s3 _ s8 => ∃ k : Nat, s8 = .int .i64 (k : Int) ∧ k ≤ l.length ∧ s3 = .int .u64 (be (l.take k))) (fun _ _ s => l.length - (intOf s).toNat)
  case atStart => exact ⟨0, rfl, Nat.zero_le _, rfl⟩
  case round =>
    obtain ⟨k, rfl, hk, rfl⟩ := hrel
    by_cases hlt : k < l.length
    · have gc := Hc.out k hlt
      have Ht : Hid (be (l.take (k + 1)) = be (l.take k) * 256 + l[k].toNat) := take_be l k hlt
      have hb : be (l.take k) < 72057594037927936 := by
        have h1 := be_lt (l.take k)
        rw [List.length_take] at h1
        refine Nat.lt_of_lt_of_le h1 ?_
        have : (256 : Nat) ^ (min k l.length) ≤ 256 ^ 7 := Nat.pow_le_pow_right (by decide) (by omega)
        omega
      have hst := getStep (be (l.take k)) l[k] hb
      unfold B at gc
      generalize l[k] = x at *
      generalize be (l.take k) = m at *
      have hx := x.toNat_lt
      go_wp2
      go_round
      case rel => exact ⟨k + 1, by go_num, by omega, by rw [Ht.out]; simp⟩
      case measure => simp [intOf]; omega
    · obtain rfl : k = l.length := by omega
      go_wp2
      go_ret
      simp
end Go.Proofs.YtdhfjhdlimmjhaaGreatDoor.Sha
namespace Go.Proofs.YtdhfjhdlimmjhaaGreatDoor.Sha
open Go.RowKit
set_option maxRecDepth 100000

def spl (vs : List Value) (off : Nat) (xs : List Value) : List Value := vs.take off ++ xs ++ vs.drop (off + xs.length)

theorem spl_length (vs : List Value) (off : Nat) (xs : List Value) (h : off + xs.length ≤ vs.length) : (spl vs off xs).length = vs.length := by
  unfold spl; simp; omega

theorem spl_nil (vs : List Value) (off : Nat) : spl vs off [] = vs := by simp [spl]

theorem spl_set (vs : List Value) (off : Nat) (xs : List Value) (v : Value) (h : off + xs.length < vs.length) : (spl vs off xs).set (off + xs.length) v = spl vs off (xs ++ [v]) := by
  unfold spl
  have e : (vs.take off ++ xs).length = off + xs.length := by simp; omega
  rw [List.set_append_right _ _ (by omega), e, Nat.sub_self, List.drop_eq_getElem_cons h, List.set_cons_zero]
  simp [Nat.add_assoc]

def tobe (n N : Nat) : List UInt8 := (List.range n).map fun i => UInt8.ofNat (N / 256 ^ (n - 1 - i) % 256)

theorem tobe_length (n N : Nat) : (tobe n N).length = n := by simp [tobe]

theorem tobe_get (n N k : Nat) (h : k < (tobe n N).length) : (tobe n N)[k].toNat = N / 256 ^ (n - 1 - k) % 256 := by
  simp [tobe]

theorem shr8 (N m : Nat) : (N : Int) / 2 ^ (8 * m) % 256 = ((N / 256 ^ m % 256 : Nat) : Int) := by
  have : (2 : Int) ^ (8 * m) = ((256 ^ m : Nat) : Int) := by rw [Int.pow_mul]; simp
  rw [this]
  omega

set_option maxHeartbeats 400000 in
theorem put_bl (t : TypeId) (b off n cap N : Nat) (vs : List Value) (w : World) (hx : Bl t w b vs) (hn : off + n ≤ vs.length) (_hv : vs.length ≤ 1000000) (h8 : n ≤ 8) (_hN : N < 18446744073709551616) :
    Calls Tryz.prog 96 #[.slice (some ⟨b, off, none⟩) n cap, .int .u64 N] w fun e w' => e = .returned (.tuple #[]) ∧ Bl t w' b (spl vs off ((tobe n N).map B)) ∧ But w w' b ∧ w'.heap.size = w.heap.size := by
  go_enter Tryz.func96, Tryz.ntmps96
  go_wp2
  go_loopw [4, 7] (fun _ s wr => ∃ k : Nat, s = .int .i64 (k : Int) ∧ k ≤ n ∧ Bl t wr b (spl vs off (((tobe n N).take k).map B)) ∧ But w wr b ∧ wr.heap.size = w.heap.size) (fun _ s _ => n - (intOf s).toNat)
  case atStart => exact ⟨0, rfl, Nat.zero_le _, by simpa [spl_nil] using hx, But.refl _ _, rfl⟩
  case round =>
    obtain ⟨k, rfl, hk, hcl, hbut, hsz⟩ := hrel
    by_cases hlt : k < n
    · have hkl : k < (tobe n N).length := by rw [tobe_length]; exact hlt
      have gf := hcl.frozen (off + k)
      have gl : off + k < (spl vs off (((tobe n N).take k).map B)).length := by rw [spl_length _ _ _ (by simp [tobe_length]; omega)]; omega
      have gc := hcl.cell (off + k) gl
      generalize (spl vs off (((tobe n N).take k).map B))[off + k] = old at gc
      go_wp2
      have hst := hcl.set (off + k) (.int .u8 ((N : Int) / 2 ^ (8 * (n - 1 - k)) % 256))
      have e1 : (.int .u8 ((N : Int) / 2 ^ (8 * (n - 1 - k)) % 256) : Value) = B (tobe n N)[k] := by
        unfold B; rw [tobe_get, shr8]
      have e2 : off + (((tobe n N).take k).map B).length = off + k := by simp [tobe_length]; omega
      have e3 : ((tobe n N).take (k + 1)).map B = ((tobe n N).take k).map B ++ [B (tobe n N)[k]] := by
        rw [List.take_succ_eq_append_getElem hkl, List.map_append]; rfl
      have e4 := spl_set vs off (((tobe n N).take k).map B) (B (tobe n N)[k]) (by rw [e2]; omega)
      rw [e2, ← e3] at e4
      refine ⟨⟨k + 1, by go_num, by omega, ?_, hbut.set _ _, by simpa using hsz⟩, by simp [intOf]; omega⟩
      rw [e1] at hst ⊢
      rw [← e4]
      exact hst
    · obtain rfl : k = n := by omega
      go_wp2
      go_end0
      refine ⟨rfl, ?_, hbut, hsz⟩
      rw [List.take_of_length_le (by rw [tobe_length]; exact Nat.le_refl _)] at hcl
      exact hcl

theorem put_any (b off n cap N : Nat) (vs : List Value) (w : World) (hx : Cl w b vs) (hn : off + n ≤ vs.length) (hv : vs.length ≤ 1000000) (h8 : n ≤ 8) (hN : N < 18446744073709551616) :
    Calls Tryz.prog 96 #[.slice (some ⟨b, off, none⟩) n cap, .int .u64 N] w fun e w' => e = .returned (.tuple #[]) ∧ Cl w' b (spl vs off ((tobe n N).map B)) ∧ But w w' b ∧ w'.heap.size = w.heap.size := by
  obtain ⟨t, ht⟩ := hx
  refine (put_bl t b off n cap N vs w ht hn hv h8 hN).mono ?_
  rintro e w1 ⟨h1, h2, h3, h4⟩
  exact ⟨h1, h2.cl, h3, h4⟩

def stV (h : Int) (ch : List Int) (ct : Nat) (tl : List UInt8) : List Value := .int .i64 h :: (ch.map V ++ (.int .u64 (ct : Int) :: tl.map B))

theorem stV_length (h : Int) (ch : List Int) (ct : Nat) (tl : List UInt8) : (stV h ch ct tl).length = ch.length + tl.length + 2 := by simp [stV]; omega

theorem stV_hash {w : World} {b : Nat} {h : Int} {ch : List Int} {ct : Nat} {tl : List UInt8} (H : Cl w b (stV h ch ct tl)) : w.cell? ⟨b, 0, none⟩ = some (.int .i64 h) :=
  H.cell 0 (by rw [stV_length]; omega)
theorem stV_count {w : World} {b : Nat} {h : Int} {ch : List Int} {ct : Nat} {tl : List UInt8} (H : Cl w b (stV h ch ct tl)) (h8 : ch.length = 8) : w.cell? ⟨b, 9, none⟩ = some (.int .u64 (ct : Int)) := by
  have := H.cell 9 (by rw [stV_length]; omega)
  rw [this]
  congr 1
  simp only [stV, List.getElem_cons_succ]
  rw [List.getElem_append_right (by simp; omega)]
  simp [h8]
theorem stV_chain {w : World} {b : Nat} {h : Int} {ch : List Int} {ct : Nat} {tl : List UInt8} (H : Cl w b (stV h ch ct tl)) (j : Nat) (hj : j < ch.length) : w.cell? ⟨b, 1 + j, none⟩ = some (V ch[j]) := by
  have := H.cell (1 + j) (by rw [stV_length]; omega)
  rw [this]
  congr 1
  simp only [stV, Nat.add_comm 1 j, List.getElem_cons_succ]
  rw [List.getElem_append_left (by simp; exact hj)]
  simp
theorem stV_tail {w : World} {b : Nat} {h : Int} {ch : List Int} {ct : Nat} {tl : List UInt8} (H : Cl w b (stV h ch ct tl)) (h8 : ch.length = 8) (j : Nat) (hj : j < tl.length) : w.cell? ⟨b, 10 + j, none⟩ = some (B tl[j]) := by
  have := H.cell (10 + j) (by rw [stV_length]; omega)
  rw [this]
  congr 1
  simp only [stV, show 10 + j = (9 + j) + 1 by omega, List.getElem_cons_succ]
  rw [List.getElem_append_right (by simp; omega)]
  simp only [List.length_map, h8, show 9 + j - 8 = j + 1 by omega, List.getElem_cons_succ, List.getElem_map]

set_option maxHeartbeats 400000 in
theorem filled_any (b : Nat) (h : Int) (ch : List Int) (ct : Nat) (tl : List UInt8) (w : World) (H : Cl w b (stV h ch ct tl)) (h8 : ch.length = 8) (hh : 0 < blk h) (hct : ct < 18446744073709551616) :
    Calls Tryz.prog 92 #[.pointer (some ⟨b, 0, none⟩)] w fun e w' => e = .returned (.int .i64 ((ct % blk h : Nat) : Int)) ∧ w' = w.drewN 1 := by
  have g0 := stV_hash H
  have g9 := stV_count H h8
  have hb : blk h ≤ 128 := by unfold blk; (repeat' split) <;> omega
  have C := block_any h (w.drewN 1)
  generalize blk h = m at *
  clear H
  go_enter Tryz.func92, Tryz.ntmps92
  go_wp2
  refine wp_region_tail 12 (by kernel_rfl) (by kernel_rfl) ?_
  simp only [List.take_succ_cons, List.take_zero, List.drop_succ_cons, List.drop_zero]
  repeat (first | go_big_quiet_skip | (go_big_quiet_want; go_big_quiet_op; first | go_big_quiet_on | (apply Exists.intro; refine ⟨C, ?_⟩; go_big_quiet_on)))
  refine wpQuiet_nil ?_
  go_wp2
  go_ret
  refine ⟨?_, rfl⟩
  show Ending.returned (.int .i64 (wrap64 ((ct : Int) % (m : Int)))) = _
  rw [← Int.natCast_emod]
  congr 2
  have h1 : ct % m < m := Nat.mod_lt _ hh
  unfold wrap64
  omega
end Go.Proofs.YtdhfjhdlimmjhaaGreatDoor.Sha
namespace Go.Proofs.YtdhfjhdlimmjhaaGreatDoor.Sha
open Go.RowKit
set_option maxRecDepth 100000

def KT : List Int := [4794697086780616226, 8158064640168781261, 13096744586834688815, 16840607885511220156, 4131703408338449720,
  6480981068601479193, 10538285296894168987, 12329834152419229976, 15566598209576043074, 1334009975649890238,
  2608012711638119052, 6128411473006802146, 8268148722764581231, 9286055187155687089, 11230858885718282805,
  13951009754708518548, 16472876342353939154, 17275323862435702243, 1135362057144423861, 2597628984639134821,
  3308224258029322869, 5365058923640841347, 6679025012923562964, 8573033837759648693, 10970295158949994411,
  12119686244451234320, 12683024718118986047, 13788192230050041572, 14330467153632333762, 15395433587784984357,
  489312712824947311, 1452737877330783856, 2861767655752347644, 3322285676063803686, 5560940570517711597,
  5996557281743188959, 7280758554555802590, 8532644243296465576, 9350256976987008742, 10552545826968843579,
  11727347734174303076, 12113106623233404929, 14000437183269869457, 14369950271660146224, 15101387698204529176,
  15463397548674623760, 17586052441742319658, 1182934255886127544, 1847814050463011016, 2177327727835720531,
  2830643537854262169, 3796741975233480872, 4115178125766777443, 5681478168544905931, 6601373596472566643,
  7507060721942968483, 8399075790359081724, 8693463985226723168, 9568029438360202098, 10144078919501101548,
  10430055236837252648, 11840083180663258601, 13761210420658862357, 14299343276471374635, 14566680578165727644,
  15097957966210449927, 16922976911328602910, 17689382322260857208, 500013540394364858, 748580250866718886,
  1242879168328830382, 1977374033974150939, 2944078676154940804, 3659926193048069267, 4368137639120453308,
  4836135668995329356, 5532061633213252278, 6448918945643986474, 6902733635092675308, 7801388544844847127]
def SQ : List Int := [7640891576956012808, 13503953896175478587, 4354685564936845355, 11912009170470909681, 5840696475078001361,
  11170449401992604703, 2270897969802886507, 6620516959819538809, 14680500436340154072, 7105036623409894663,
  10473403895298186519, 1526699215303891257, 7436329637833083697, 10282925794625328401, 15784041429090275239,
  5167115440072839076]

structure Tb (w : World) : Prop where
  k : ∀ i, i < 80 → w.cell? ⟨10, i, none⟩ = some (V (KT.getD i 0))
  s : ∀ i, i < 16 → w.cell? ⟨7, i, none⟩ = some (V (SQ.getD i 0))

theorem cell_but {w w' : World} {g i : Nat} {v : Value} (h : w.cell? ⟨g, i, none⟩ = some v) (e : g < w.heap.size → w'.heap[g]? = w.heap[g]?) : w'.cell? ⟨g, i, none⟩ = some v := by
  have hg : g < w.heap.size := by
    rcases Nat.lt_or_ge g w.heap.size with h1 | h1
    · exact h1
    · exfalso
      unfold World.cell? at h
      simp [Array.getElem?_eq_none h1] at h
  have e2 := e hg
  unfold World.cell? at h ⊢
  simp only at h ⊢
  rw [e2]
  exact h

theorem Tb.but {w w' : World} {b : Nat} (h : Tb w) (hb : But w w' b) (h7 : 11 ≤ b) : Tb w' :=
  ⟨fun i hi => cell_but (h.k i hi) fun hg => hb.block _ hg (by omega), fun i hi => cell_but (h.s i hi) fun hg => hb.block _ hg (by omega)⟩
theorem Tb.below {w w' : World} (h : Tb w) (hb : Below w.heap.size w w') : Tb w' :=
  ⟨fun i hi => cell_but (h.k i hi) fun hg => hb.block _ hg, fun i hi => cell_but (h.s i hi) fun hg => hb.block _ hg⟩
theorem Tb.drewN {w : World} (h : Tb w) (q : Nat) : Tb (w.drewN q) := ⟨h.k, h.s⟩

structure R8 where
  a : Int
  b : Int
  c : Int
  d : Int
  e : Int
  f : Int
  g : Int
  h : Int

def sa (x : Int) : Int := bits .xor .u32 (bits .xor .u32 (rt 7 x) (rt 18 x)) (x / 8)
def sb (y : Int) : Int := bits .xor .u32 (bits .xor .u32 (rt 17 y) (rt 19 y)) (y / 1024)
def nx (l : List Int) : Int := (l.getD (l.length - 16) 0 + l.getD (l.length - 7) 0 + sa (l.getD (l.length - 15) 0) + sb (l.getD (l.length - 2) 0)) % 4294967296
def ext (l : List Int) : Nat → List Int
  | 0 => l
  | n + 1 => ext l n ++ [nx (ext l n)]
def ge (e : Int) : Int := bits .xor .u32 (bits .xor .u32 (rt 6 e) (rt 11 e)) (rt 25 e)
def ga (a : Int) : Int := bits .xor .u32 (bits .xor .u32 (rt 2 a) (rt 13 a)) (rt 22 a)
def chs (e f g : Int) : Int := bits .xor .u32 (bits .and .u32 e f) (bits .and .u32 (bits .xor .u32 IntKind.u32.max e) g)
def maj (a b c : Int) : Int := bits .xor .u32 (bits .xor .u32 (bits .and .u32 a b) (bits .and .u32 a c)) (bits .and .u32 b c)
def tt (r : R8) (k x : Int) : Int := (r.h + x + k + ge r.e + chs r.e r.f r.g) % 4294967296
def uu (r : R8) : Int := (ga r.a + maj r.a r.b r.c) % 4294967296
def rnd (r : R8) (k x : Int) : R8 := ⟨(tt r k x + uu r) % 4294967296, r.a, r.b, r.c, (r.d + tt r k x) % 4294967296, r.e, r.f, r.g⟩
def kn (i : Nat) : Int := KT.getD i 0 / 4294967296
def rnds (l : List Int) (r : R8) : Nat → R8
  | 0 => r
  | n + 1 => rnd (rnds l r n) (kn n) (l.getD n 0)
def wds (bl : List UInt8) (n : Nat) : List Int := (List.range n).map fun i => (be ((bl.drop (4 * i)).take 4) : Int)
def r8 (l : List Int) : R8 := ⟨l.getD 0 0, l.getD 1 0, l.getD 2 0, l.getD 3 0, l.getD 4 0, l.getD 5 0, l.getD 6 0, l.getD 7 0⟩
def l8 (r : R8) : List Int := [r.a, r.b, r.c, r.d, r.e, r.f, r.g, r.h]
def mixN (ch : List Int) (bl : List UInt8) : List Int :=
  List.zipWith (fun x y => (x + y) % 4294967296) (ch.map (· % 4294967296)) (l8 (rnds (ext (wds bl 16) 48) (r8 (ch.map (· % 4294967296))) 64))

theorem ext_length (l : List Int) (n : Nat) : (ext l n).length = l.length + n := by
  induction n with
  | zero => rfl
  | succ n ih => rw [ext, List.length_append, ih]; simp; omega
theorem wds_length (bl : List UInt8) (n : Nat) : (wds bl n).length = n := by simp [wds]
theorem wds_succ (bl : List UInt8) (n : Nat) : wds bl (n + 1) = wds bl n ++ [(be ((bl.drop (4 * n)).take 4) : Int)] := by simp [wds, List.range_succ]

def sa' (x : Int) : Int := bits .xor .u64 (bits .xor .u64 (ru 1 x) (ru 8 x)) (x / 128)
def sb' (y : Int) : Int := bits .xor .u64 (bits .xor .u64 (ru 19 y) (ru 61 y)) (y / 64)
def nx' (l : List Int) : Int := (l.getD (l.length - 16) 0 + l.getD (l.length - 7) 0 + sa' (l.getD (l.length - 15) 0) + sb' (l.getD (l.length - 2) 0)) % 18446744073709551616
def ext' (l : List Int) : Nat → List Int
  | 0 => l
  | n + 1 => ext' l n ++ [nx' (ext' l n)]
def ge' (e : Int) : Int := bits .xor .u64 (bits .xor .u64 (ru 14 e) (ru 18 e)) (ru 41 e)
def ga' (a : Int) : Int := bits .xor .u64 (bits .xor .u64 (ru 28 a) (ru 34 a)) (ru 39 a)
def chs' (e f g : Int) : Int := bits .xor .u64 (bits .and .u64 e f) (bits .and .u64 (bits .xor .u64 IntKind.u64.max e) g)
def maj' (a b c : Int) : Int := bits .xor .u64 (bits .xor .u64 (bits .and .u64 a b) (bits .and .u64 a c)) (bits .and .u64 b c)
def tt' (r : R8) (k x : Int) : Int := (r.h + x + k + ge' r.e + chs' r.e r.f r.g) % 18446744073709551616
def uu' (r : R8) : Int := (ga' r.a + maj' r.a r.b r.c) % 18446744073709551616
def rnd' (r : R8) (k x : Int) : R8 := ⟨(tt' r k x + uu' r) % 18446744073709551616, r.a, r.b, r.c, (r.d + tt' r k x) % 18446744073709551616, r.e, r.f, r.g⟩
def rnds' (l : List Int) (r : R8) : Nat → R8
  | 0 => r
  | n + 1 => rnd' (rnds' l r n) (KT.getD n 0) (l.getD n 0)
def wds' (bl : List UInt8) (n : Nat) : List Int := (List.range n).map fun i => (be ((bl.drop (8 * i)).take 8) : Int)
def mixW (ch : List Int) (bl : List UInt8) : List Int :=
  List.zipWith (fun x y => (x + y) % 18446744073709551616) ch (l8 (rnds' (ext' (wds' bl 16) 64) (r8 ch) 80))

theorem ext'_length (l : List Int) (n : Nat) : (ext' l n).length = l.length + n := by
  induction n with
  | zero => rfl
  | succ n ih => rw [ext', List.length_append, ih]; simp; omega
theorem wds'_length (bl : List UInt8) (n : Nat) : (wds' bl n).length = n := by simp [wds']
theorem wds'_succ (bl : List UInt8) (n : Nat) : wds' bl (n + 1) = wds' bl n ++ [(be ((bl.drop (8 * n)).take 8) : Int)] := by simp [wds', List.range_succ]

def pad (n : Nat) (l : List Int) : List Int := l ++ List.replicate (n - l.length) 0
theorem pad_length (n : Nat) (l : List Int) (h : l.length ≤ n) : (pad n l).length = n := by simp [pad]; omega
theorem pad_full (n : Nat) (l : List Int) (h : l.length = n) : pad n l = l := by simp [pad, h]
theorem pad_set (n : Nat) (l : List Int) (x : Int) (h : l.length < n) : (pad n l).set l.length x = pad n (l ++ [x]) := by
  unfold pad
  rw [List.set_append_right _ _ (Nat.le_refl _), Nat.sub_self, show n - l.length = (n - (l ++ [x]).length) + 1 by simp; omega, List.replicate_succ, List.set_cons_zero]
  simp
theorem pad_get (n : Nat) (l : List Int) (j : Nat) (h : j < l.length) (h2 : j < (pad n l).length) : (pad n l)[j] = l.getD j 0 := by
  simp [pad, h]

end Go.Proofs.YtdhfjhdlimmjhaaGreatDoor.Sha
namespace Go.Proofs.YtdhfjhdlimmjhaaGreatDoor.Sha
open Go.RowKit
set_option maxRecDepth 100000

theorem alloc_cl (w : World) (vs : List Value) (t : TypeId) : Cl (w.alloc (.cells vs.toArray t)) w.heap.size vs := ⟨t, by unfold World.alloc; simp⟩
theorem alloc_below (w : World) (o : Obj) : Below w.heap.size w (w.alloc o) := Below.alloc (Below.refl _ _) (Nat.le_refl _) _

def pc (bl : List UInt8) (n k : Nat) : List UInt8 := (bl.drop (n * k)).take n
theorem pc_length (bl : List UInt8) (n k : Nat) (h : n * k + n ≤ bl.length) : (pc bl n k).length = n := by simp [pc]; omega
theorem pc_get (bl : List UInt8) (n k j : Nat) (_h : n * k + n ≤ bl.length) (hj : j < (pc bl n k).length) (h2 : n * k + j < bl.length) : (pc bl n k)[j] = bl[n * k + j] := by simp [pc]

theorem infoB : (Tryz.prog.info? 5).map (fun i => (i.zero, i.size, i.bytes)) = some (some (.int .u8 0), 1, 1) := by kernel_rfl

theorem tail_slice (b l h : Nat) (w : World) (lo hi : Int) (el : lo = (l : Int)) (eh : hi = (h : Int)) (h1 : l ≤ h) (h2 : h ≤ 128) (h3 : l < 128) :
    (Instr.sliceAt 145 (.pointer (some ⟨b, 10, none⟩)) (some (.int .i64 lo)) (some (.int .i64 hi)) none).run Tryz.prog w = .ok (.slice (some ⟨b, 10 + l, none⟩) (h - l) (128 - l)) w := by
  subst el eh
  rw [run_sliceAt_array_lh w 145 ⟨b, 10, none⟩ (by kernel_rfl) .i64 .i64 (l : Int) (h : Int) (by omega) (by omega) (by rw [show Tryz.prog.arrayLen 145 = 128 from by kernel_rfl]; omega)]
  have e : Tryz.prog.arrayLen 145 = 128 := by kernel_rfl
  have e0 : Tryz.prog.elem 145 = 5 := by kernel_rfl
  obtain ⟨i0, hi, _⟩ := info_parts infoB
  have e2 : (sizeOf (Tryz.prog.elem 145)).run Tryz.prog w = .ok 1 w := by
    rw [e0, run_sizeOf w hi, show Tryz.prog.cellsOf 5 = 1 from by kernel_rfl]
  have ea : (⟨b, 10, none⟩ : Addr).add l = ⟨b, 10 + l, none⟩ := by
    unfold Addr.add
    by_cases h0 : l = 0
    · subst h0; rfl
    · simp [h0]
  rw [e, e2]
  show Result.ok (slicedAt _ _ _ _ 1) w = _
  unfold slicedAt
  rw [if_neg (by simp; omega)]
  simp only [Int.toNat_natCast, Nat.mul_one]
  rw [ea]

theorem zero_run {P : Program} {t : TypeId} {v : Value} (h : (P.info? t).bind (·.zero) = some v) (w : World) : (zeroValue t).run P w = .ok v w := by
  cases hq : P.info? t with
  | none => rw [hq] at h; cases h
  | some i =>
    rw [hq] at h
    have h2 : i.zero = some v := h
    simp [zeroValue, typeInfo, hq, h2]

theorem zero80 : ∃ Z : List Value, Z = List.replicate 80 (.int .u64 0) ∧ ∀ w, (zeroValue 122).run Tryz.prog w = .ok (.agg Z.toArray) w :=
  ⟨_, rfl, zero_run (by kernel_rfl)⟩

theorem nxw (a b c d : Int) : IntKind.u64.wrap (IntKind.u64.wrap (IntKind.u64.wrap (a + b) + c) + d) = (a + b + c + d) % 18446744073709551616 := by
  simp only [IntKind.wrap_u64, Int.emod_add_emod]
theorem ttw (a b c d e : Int) : IntKind.u64.wrap (IntKind.u64.wrap (IntKind.u64.wrap (IntKind.u64.wrap (a + b) + c) + d) + e) = (a + b + c + d + e) % 18446744073709551616 := by
  simp only [IntKind.wrap_u64, Int.emod_add_emod]

theorem run_size1 {P : Program} {e : TypeId} (h : (P.info? e).map (·.size) = some 1) (w : World) : (sizeOf e).run P w = .ok 1 w := by
  cases hq : P.info? e with
  | none => simp [hq] at h
  | some i => simp [hq] at h; simp [sizeOf, typeInfo, hq, h]

theorem idx_agg {P : Program} (t e : TypeId) (n : Nat) (kd : IntKind) (cs : Array Value) (k : Nat) (x : Value) (w : World) (h : P.underlying t = some (.array n e)) (he : P.underlying e = some (.int kd)) (hs : (P.info? e).map (·.size) = some 1) (hk : k < n) (hx : cs[k]? = some x) :
    (Instr.index t (.agg cs) (.int .i64 (k : Int))).run P w = .ok x w := by
  have hn : (0 ≤ (k : Int) ∧ (k : Int) < (n : Int)) := by omega
  have hs2 := run_size1 hs
  have hag : (isAgg e).run P w = .ok false w := by
    unfold isAgg
    rw [Sem.run_bind, run_underlying he w]
    simp
  simp [Instr.index, run_underlying h, asIntOf, hn, hs2, part, hag, hx]
  intro hh
  omega

theorem stV_setchain (h : Int) (ch : List Int) (ct : Nat) (tl : List UInt8) (k : Nat) (x : Int) (hk : k < ch.length) : (stV h ch ct tl).set (1 + k) (V x) = stV h (ch.set k x) ct tl := by
  unfold stV
  rw [Nat.add_comm, List.set_cons_succ, List.set_append_left _ _ (by simpa using hk), List.map_set]

theorem mix_set (O C : List Int) (k : Nat) (h1 : k < O.length) (h2 : k < C.length) : (O.take k ++ C.drop k).set k (O.getD k 0) = O.take (k + 1) ++ C.drop (k + 1) := by
  have e : (O.take k).length = k := by simp; omega
  rw [List.set_append_right _ _ (by omega), e, Nat.sub_self, List.drop_eq_getElem_cons h2, List.set_cons_zero, List.take_succ_eq_append_getElem h1]
  have g : O.getD k 0 = O[k] := by simp [List.getD_eq_getElem?_getD, h1]
  rw [g, List.append_assoc]
  rfl

end Go.Proofs.YtdhfjhdlimmjhaaGreatDoor.Sha