import Derived.WalkKit
import Derived.Test.YtmngdaolgdhgmaaGreatDoorRows
import Derived.Laws.MakeOwn
import Derived.Laws.AppendOwn
import Derived.WalkSpells
import Derived.WalkLawsBesides
import Derived.Deep.QuietTactic
import Derived.BigQuiet
import Derived.StillTail
import Derived.Deep.RegionWith
import Derived.Laws.NewBlocks
import Derived.Laws.Alloc2
import Derived.Laws.Rows
import Derived.Laws.BitsAllLaws
import Derived.Deep.MidRow
import Derived.Laws.IdiomCopy
import Derived.OwnWalk
namespace Go.Proofs.YtmngdaolgdhgmaaGreatDoor

/-- The value of limbs, the lowest first. -/
def nv (B : Nat) : List Nat → Nat
  | [] => 0
  | x :: r => x + B * nv B r

theorem nv_append (B : Nat) (xs ys : List Nat) : nv B (xs ++ ys) = nv B xs + B ^ xs.length * nv B ys := by
  induction xs with
  | nil => simp [nv]
  | cons x r ih =>
    simp only [List.cons_append, nv, ih, List.length_cons, Nat.pow_succ', Nat.mul_add, Nat.mul_assoc]
    omega

theorem nv_one (B x : Nat) : nv B [x] = x := by simp [nv]
theorem nv_snoc (B : Nat) (xs : List Nat) (x : Nat) : nv B (xs ++ [x]) = nv B xs + B ^ xs.length * x := by rw [nv_append, nv_one]

theorem nv_zeros (B n : Nat) : nv B (List.replicate n 0) = 0 := by
  induction n with
  | zero => rfl
  | succ n ih => simp [List.replicate_succ, nv, ih]

/-- All limbs are below the base. -/
def Sm (B : Nat) (xs : List Nat) : Prop := ∀ x ∈ xs, x < B

theorem Sm.nil (B : Nat) : Sm B [] := fun _ h => by simp at h
theorem Sm.append {B : Nat} {xs ys : List Nat} (h : Sm B xs) (h' : Sm B ys) : Sm B (xs ++ ys) := fun x hx => by
  rcases List.mem_append.1 hx with h1 | h1
  · exact h x h1
  · exact h' x h1
theorem Sm.snoc {B x : Nat} {xs : List Nat} (h : Sm B xs) (hx : x < B) : Sm B (xs ++ [x]) := h.append fun y hy => by
  rw [List.mem_singleton.1 hy]; exact hx
theorem Sm.zeros {B : Nat} (n : Nat) (hB : 0 < B) : Sm B (List.replicate n 0) := fun x hx => by
  rw [(List.mem_replicate.1 hx).2]; exact hB
theorem Sm.take {B : Nat} {xs : List Nat} (h : Sm B xs) (k : Nat) : Sm B (xs.take k) := fun x hx => h x (List.mem_of_mem_take hx)
theorem Sm.drop {B : Nat} {xs : List Nat} (h : Sm B xs) (k : Nat) : Sm B (xs.drop k) := fun x hx => h x (List.mem_of_mem_drop hx)
theorem Sm.get {B : Nat} {xs : List Nat} (h : Sm B xs) (k : Nat) (hk : k < xs.length) : xs[k] < B := h _ (List.getElem_mem hk)
theorem Sm.getD {B : Nat} {xs : List Nat} (h : Sm B xs) (hB : 0 < B) (k : Nat) : xs.getD k 0 < B := by
  rw [List.getD_eq_getElem?_getD]
  by_cases hk : k < xs.length
  · rw [List.getElem?_eq_getElem hk]; exact h.get k hk
  · rw [List.getElem?_eq_none (by omega)]; exact hB
theorem Sm.set {B : Nat} {xs : List Nat} (h : Sm B xs) (k v : Nat) (hv : v < B) : Sm B (xs.set k v) := fun x hx => by
  rcases List.mem_or_eq_of_mem_set hx with h1 | h1
  · exact h x h1
  · rw [h1]; exact hv
theorem Sm.left {B : Nat} {xs ys : List Nat} (h : Sm B (xs ++ ys)) : Sm B xs := fun x hx => h x (List.mem_append_left _ hx)
theorem Sm.right {B : Nat} {xs ys : List Nat} (h : Sm B (xs ++ ys)) : Sm B ys := fun x hx => h x (List.mem_append_right _ hx)

theorem nv_lt {B : Nat} (hB : 0 < B) : ∀ {xs : List Nat}, Sm B xs → nv B xs < B ^ xs.length
  | [], _ => by simp [nv]
  | x :: r, h => by
    have h1 : x < B := h x (by simp)
    have h2 := nv_lt hB (xs := r) fun y hy => h y (by simp [hy])
    have h3 : B * (nv B r + 1) ≤ B * B ^ r.length := Nat.mul_le_mul_left _ h2
    rw [Nat.mul_add] at h3
    simp only [nv, List.length_cons, Nat.pow_succ']
    omega

theorem getD_eq (xs : List Nat) (k : Nat) (hk : k < xs.length) : xs.getD k 0 = xs[k] := by
  rw [List.getD_eq_getElem?_getD, List.getElem?_eq_getElem hk]; rfl
theorem getD_none (xs : List Nat) (k : Nat) (hk : xs.length ≤ k) : xs.getD k 0 = 0 := by
  rw [List.getD_eq_getElem?_getD, List.getElem?_eq_none hk]; rfl

theorem nv_take_succ (B : Nat) (xs : List Nat) (k : Nat) : nv B (xs.take (k + 1)) = nv B (xs.take k) + B ^ k * xs.getD k 0 := by
  by_cases hk : k < xs.length
  · rw [List.take_succ_eq_append_getElem hk, nv_snoc, getD_eq _ _ hk, List.length_take, Nat.min_eq_left (by omega)]
  · rw [List.take_of_length_le (by omega), List.take_of_length_le (by omega), getD_none _ _ (by omega)]; omega

theorem nv_split (B : Nat) (xs : List Nat) (k : Nat) (hk : k ≤ xs.length) : nv B xs = nv B (xs.take k) + B ^ k * nv B (xs.drop k) := by
  have := nv_append B (xs.take k) (xs.drop k)
  rw [List.take_append_drop, List.length_take, Nat.min_eq_left hk] at this
  exact this

theorem nv_set (B : Nat) : ∀ (xs : List Nat) (k v : Nat) (hk : k < xs.length), nv B (xs.set k v) + B ^ k * xs[k] = nv B xs + B ^ k * v
  | x :: r, 0, v, _ => by simp [nv]; omega
  | x :: r, k + 1, v, hk => by
    have h1 := nv_set B r k v (by simpa using hk)
    have h2 := congrArg (B * ·) h1
    simp only [Nat.mul_add] at h2
    simp only [List.set_cons_succ, nv, List.getElem_cons_succ, Nat.pow_succ', Nat.mul_assoc]
    omega

theorem nv_getD {B : Nat} (hB : 0 < B) : ∀ {xs : List Nat} (_ : Sm B xs) (k : Nat), xs.getD k 0 = nv B xs / B ^ k % B
  | [], _, k => by simp [nv]
  | x :: r, h, 0 => by
    have h1 : x < B := h x (by simp)
    simp [nv, Nat.mod_eq_of_lt h1]
  | x :: r, h, k + 1 => by
    have h1 : x < B := h x (by simp)
    have h2 := nv_getD hB (xs := r) (fun y hy => h y (by simp [hy])) k
    rw [List.getD_cons_succ, h2, Nat.pow_succ', ← Nat.div_div_eq_div_mul]
    congr 2
    simp only [nv]
    rw [Nat.add_mul_div_left _ _ hB, Nat.div_eq_of_lt h1, Nat.zero_add]

/-- The limbs of a number, none on top a nought. -/
def dg (B v : Nat) : List Nat := if _h : v = 0 ∨ B < 2 then [] else v % B :: dg B (v / B)
termination_by v
decreasing_by exact Nat.div_lt_self (by omega) (by omega)

theorem dg_zero (B : Nat) : dg B 0 = [] := by rw [dg]; simp
theorem dg_pos {B v : Nat} (hB : 2 ≤ B) (hv : v ≠ 0) : dg B v = v % B :: dg B (v / B) := by rw [dg, dif_neg (by omega)]

theorem dg_nv {B : Nat} (hB : 2 ≤ B) (v : Nat) : nv B (dg B v) = v := by
  induction v using Nat.strongRecOn with
  | _ v ih =>
    by_cases hv : v = 0
    · subst hv; rw [dg_zero]; rfl
    · rw [dg_pos hB hv, nv, ih _ (Nat.div_lt_self (by omega) (by omega))]
      exact Nat.mod_add_div v B

theorem dg_sm {B : Nat} (hB : 2 ≤ B) (v : Nat) : Sm B (dg B v) := by
  induction v using Nat.strongRecOn with
  | _ v ih =>
    by_cases hv : v = 0
    · subst hv; rw [dg_zero]; exact Sm.nil B
    · rw [dg_pos hB hv]
      intro x hx
      rcases List.mem_cons.1 hx with rfl | h
      · exact Nat.mod_lt _ (by omega)
      · exact ih _ (Nat.div_lt_self (by omega) (by omega)) x h

theorem dg_len {B : Nat} (hB : 2 ≤ B) : ∀ (n v : Nat), v < B ^ n → (dg B v).length ≤ n
  | 0, v, h => by
    have : v = 0 := by simp at h; exact h
    subst this; rw [dg_zero]; exact Nat.le_refl _
  | n + 1, v, h => by
    by_cases hv : v = 0
    · subst hv; rw [dg_zero]; exact Nat.zero_le _
    · rw [dg_pos hB hv, List.length_cons]
      have := dg_len hB n (v / B) (by rw [Nat.pow_succ'] at h; exact Nat.div_lt_of_lt_mul h)
      omega

theorem dg_low {B : Nat} (hB : 2 ≤ B) : ∀ (n v : Nat), (dg B v).length = n + 1 → B ^ n ≤ v
  | 0, v, h => by
    have : v ≠ 0 := fun e => by subst e; rw [dg_zero] at h; simp at h
    simp; omega
  | n + 1, v, h => by
    have hv : v ≠ 0 := fun e => by subst e; rw [dg_zero] at h; simp at h
    rw [dg_pos hB hv, List.length_cons] at h
    have h1 := dg_low hB n (v / B) (by omega)
    rw [Nat.pow_succ]
    calc B ^ n * B ≤ v / B * B := Nat.mul_le_mul_right _ h1
      _ ≤ v := Nat.div_mul_le_self v B

theorem dg_up {B : Nat} (hB : 2 ≤ B) (v : Nat) : v < B ^ (dg B v).length := by
  have := nv_lt (by omega) (dg_sm hB v)
  rwa [dg_nv hB] at this

/-- How many limbs stand below the noughts on top. -/
def tl : List Nat → Nat
  | [] => 0
  | x :: r => if tl r = 0 then (if x = 0 then 0 else 1) else tl r + 1

theorem tl_le : ∀ xs : List Nat, tl xs ≤ xs.length
  | [] => Nat.le_refl _
  | x :: r => by
    have := tl_le r
    simp only [tl, List.length_cons]
    (repeat' split) <;> omega

theorem tl_of : ∀ (xs : List Nat) (m : Nat), m ≤ xs.length → (∀ j, m ≤ j → xs.getD j 0 = 0) → (m = 0 ∨ xs.getD (m - 1) 0 ≠ 0) → tl xs = m
  | [], m, h, _, _ => by simp at h; subst h; rfl
  | x :: r, 0, _, h0, _ => by
    have h1 := tl_of r 0 (Nat.zero_le _) (fun j _ => by have := h0 (j + 1) (by omega); rwa [List.getD_cons_succ] at this) (.inl rfl)
    have h2 := h0 0 (by omega)
    rw [List.getD_cons_zero] at h2
    simp [tl, h1, h2]
  | x :: r, 1, _, h0, h1 => by
    have h2 := tl_of r 0 (Nat.zero_le _) (fun j _ => by have := h0 (j + 1) (by omega); rwa [List.getD_cons_succ] at this) (.inl rfl)
    have h3 : x ≠ 0 := by rcases h1 with h | h
                          · omega
                          · simpa using h
    simp [tl, h2, h3]
  | x :: r, m + 2, hm, h0, h1 => by
    have h3 : r.getD (m + 1 - 1) 0 ≠ 0 := by
      rcases h1 with h | h
      · omega
      · simpa using h
    have h2 := tl_of r (m + 1) (by simpa using hm) (fun j hj => by have := h0 (j + 1) (by omega); rwa [List.getD_cons_succ] at this) (.inr h3)
    simp [tl, h2]

theorem tl_nv : ∀ (B : Nat) (xs : List Nat), 0 < B → (nv B xs = 0 ↔ tl xs = 0)
  | _, [], _ => by simp [nv, tl]
  | B, x :: r, hB => by
    have ih := tl_nv B r hB
    have hb : B * nv B r = 0 ↔ nv B r = 0 := by rw [Nat.mul_eq_zero]; omega
    simp only [nv, tl]
    by_cases h : tl r = 0
    · have h1 := hb.2 (ih.2 h)
      simp only [h, if_true]
      split <;> omega
    · have h1 : B * nv B r ≠ 0 := fun e => h (ih.1 (hb.1 e))
      simp only [h, if_false]
      omega

theorem trim_dg {B : Nat} (hB : 2 ≤ B) : ∀ {xs : List Nat}, Sm B xs → xs.take (tl xs) = dg B (nv B xs)
  | [], _ => by simp [nv, dg_zero]
  | x :: r, h => by
    have h1 : x < B := h x (by simp)
    have ih := trim_dg hB (xs := r) fun y hy => h y (by simp [hy])
    have hz := tl_nv B r (by omega)
    by_cases hv : nv B (x :: r) = 0
    · rw [hv, dg_zero, (tl_nv B (x :: r) (by omega)).1 hv, List.take_zero]
    · rw [dg_pos hB hv]
      have e1 : nv B (x :: r) % B = x := by simp [nv, Nat.mod_eq_of_lt h1]
      have e2 : nv B (x :: r) / B = nv B r := by
        simp only [nv]
        rw [Nat.add_mul_div_left _ _ (by omega), Nat.div_eq_of_lt h1, Nat.zero_add]
      rw [e1, e2, ← ih]
      simp only [tl]
      by_cases h2 : tl r = 0
      · have h3 : x ≠ 0 := fun e => hv (by simp [nv, e, hz.2 h2])
        simp [h2, h3]
      · simp [h2]

theorem dg_length {B : Nat} (hB : 2 ≤ B) {xs : List Nat} (h : Sm B xs) : (dg B (nv B xs)).length = tl xs := by
  rw [← trim_dg hB h, List.length_take, Nat.min_eq_left (tl_le xs)]

theorem dg_mono {B : Nat} (hB : 2 ≤ B) {u v : Nat} (h : (dg B u).length < (dg B v).length) : u < v := by
  obtain ⟨n, hn⟩ : ∃ n, (dg B v).length = n + 1 := ⟨(dg B v).length - 1, by omega⟩
  have h1 := dg_low hB n v hn
  have h2 := dg_up hB u
  have h3 : B ^ (dg B u).length ≤ B ^ n := Nat.pow_le_pow_right (by omega) (by omega)
  omega

end Go.Proofs.YtmngdaolgdhgmaaGreatDoor

namespace Go.Proofs.YtmngdaolgdhgmaaGreatDoor
open Go.RowKit

theorem below_drewN {B : Nat} {a w : World} (h : Below B a w) (q : Nat) : Below B a (w.drewN q) := ⟨h.os, h.tape, h.output, h.size, h.block⟩

/-- A walk that leaves one world alone, each operation's value told for that world. -/
theorem still_of_quiet {P : Program} {ops : Array Oper} {w : World} {Q : Act → Prop} : ∀ (l : List Oper) (a : Act), wpQuiet P ops (fun w' => w' = w) Q l a → wpStill P ops w Q l a
  | [], _, h => h
  | o :: r, a, h => by
    unfold wpQuiet at h
    unfold wpStill
    by_cases hw : Region.wanted o (yielded ops a.tmps) = true
    · rw [if_pos hw] at h ⊢
      obtain ⟨v, h1, h2⟩ := h
      have h3 := h1 w rfl
      have h4 := still_of_quiet r _ h2
      unfold Oper.quietAt at h3
      unfold Oper.still
      generalize (execOp a.eval o).run P w = res at h3
      cases res with
      | ok n w' =>
        cases n with
        | value u => obtain ⟨e1, e2⟩ := h3; subst e1; subst e2; exact ⟨rfl, h4⟩
        | skip => obtain ⟨e1, e2⟩ := h3; subst e1; subst e2; exact ⟨rfl, h4⟩
        | enter f args => obtain ⟨e1, hc⟩ := h3; subst e1; exact ⟨rfl, v, hc, h4⟩
        | _ => exact h3.elim
      | halt x w' => exact h3.elim
    · rw [if_neg hw] at h ⊢
      exact still_of_quiet r _ h

/-- A region that draws its order, all but the last operations of which only read, the last ones waiting for all of them. -/
theorem wp_region_tail {P : Program} {id : Nat} {Q : Exit → Act → World → Prop} {a : Act} {w : World} {l : List Oper} (n : Nat) (hm : P.follows .mixedOrders = true) (hB : Region.lexTailB .any l.toArray n = true)
    (h : wpQuiet P l.toArray (fun w' => w' = w.drewN 1) (fun a' => wpList P l.toArray Q (l.drop n) a' (w.drewN 1)) (l.take n) a) : (Code.region id l.toArray true).wp P Q a w :=
  wp_region_still_tail n hm hB (still_of_quiet _ _ h)

/-- A byte as the model's value; a limb. -/
def B (c : UInt8) : Value := .int .u8 c.toNat
def U (x : Nat) : Value := .int .u32 (x : Int)

/-- A block of cells, all of it one may write. -/
def Cl (w : World) (b : Nat) (vs : List Value) : Prop := ∃ t, w.heap[b]? = some (.cells vs.toArray t (0, 0))

theorem Cl.cell {w : World} {b : Nat} {vs : List Value} (h : Cl w b vs) (j : Nat) (hj : j < vs.length) : w.cell? ⟨b, j, none⟩ = some vs[j] := by
  obtain ⟨t, ht⟩ := h
  unfold World.cell?
  simp [ht, hj]

theorem Cl.frozen {w : World} {b : Nat} {vs : List Value} (h : Cl w b vs) (j : Nat) : w.frozen? ⟨b, j, none⟩ = false := by
  obtain ⟨t, ht⟩ := h
  unfold World.frozen?
  simp [ht]

theorem Cl.set {w : World} {b : Nat} {vs : List Value} (h : Cl w b vs) (j : Nat) (v : Value) : Cl (w.setCell ⟨b, j, none⟩ v) b (vs.set j v) := by
  obtain ⟨t, ht⟩ := h
  refine ⟨t, ?_⟩
  rw [heap_setCell_same w b j _ t _ ht]
  simp

theorem Cl.lt {w : World} {b : Nat} {vs : List Value} (h : Cl w b vs) : b < w.heap.size := by
  obtain ⟨t, ht⟩ := h
  exact (Array.getElem?_eq_some_iff.1 ht).1

/-- All blocks that there were but this one stand as they stood. -/
structure But (w w' : World) (b : Nat) : Prop where
  os : w'.os = w.os
  tape : w'.tape = w.tape
  output : w'.output = w.output
  size : w.heap.size ≤ w'.heap.size
  block : ∀ k, k < w.heap.size → k ≠ b → w'.heap[k]? = w.heap[k]?

theorem But.refl (w : World) (b : Nat) : But w w b := ⟨rfl, rfl, rfl, Nat.le_refl _, fun _ _ _ => rfl⟩
theorem But.set {w w' : World} {b : Nat} (h : But w w' b) (j : Nat) (v : Value) : But w (w'.setCell ⟨b, j, none⟩ v) b :=
  ⟨h.os, h.tape, h.output, by simpa using h.size, fun k hk hb => by rw [heap_setCell_other w' _ k v hb]; exact h.block k hk hb⟩
theorem But.drewN {w w' : World} {b : Nat} (h : But w w' b) (q : Nat) : But w (w'.drewN q) b := ⟨h.os, h.tape, h.output, h.size, h.block⟩
theorem But.trans {w w' w'' : World} {b : Nat} (h : But w w' b) (h2 : But w' w'' b) : But w w'' b :=
  ⟨h2.os.trans h.os, h2.tape.trans h.tape, h2.output.trans h.output, Nat.le_trans h.size h2.size, fun k hk hb => by rw [h2.block k (Nat.lt_of_lt_of_le hk h.size) hb]; exact h.block k hk hb⟩
theorem But.of_below {w w' : World} {b : Nat} (h : Below w.heap.size w w') : But w w' b := ⟨h.os, h.tape, h.output, h.size, fun k hk _ => h.block k hk⟩
theorem But.below {w w' : World} {b : Nat} (h : But w w' b) {n : Nat} (hn : n ≤ w.heap.size) (hb : n ≤ b) : Below n w w' := ⟨h.os, h.tape, h.output, h.size, fun k hk => h.block k (by omega) (by omega)⟩
theorem But.other {w w' : World} {b c : Nat} (h : But w w' b) {vs : List Value} (hc : Cl w c vs) (hne : c ≠ b) : Cl w' c vs := by
  obtain ⟨t, ht⟩ := hc
  exact ⟨t, by rw [h.block c (Array.getElem?_eq_some_iff.1 ht).1 hne]; exact ht⟩
theorem Cl.below {w w' : World} {b n : Nat} {vs : List Value} (h : Cl w b vs) (hb : Below n w w') (hn : b < n) : Cl w' b vs := by
  obtain ⟨t, ht⟩ := h
  exact ⟨t, by rw [hb.block b hn]; exact ht⟩

/-- A block of cells of that type, all of it one may write. -/
def Bl (t : TypeId) (w : World) (b : Nat) (vs : List Value) : Prop := w.heap[b]? = some (.cells vs.toArray t (0, 0))
theorem Bl.cl {t : TypeId} {w : World} {b : Nat} {vs : List Value} (h : Bl t w b vs) : Cl w b vs := ⟨t, h⟩
theorem Bl.cell {t : TypeId} {w : World} {b : Nat} {vs : List Value} (h : Bl t w b vs) (j : Nat) (hj : j < vs.length) : w.cell? ⟨b, j, none⟩ = some vs[j] := h.cl.cell j hj
theorem Bl.frozen {t : TypeId} {w : World} {b : Nat} {vs : List Value} (h : Bl t w b vs) (j : Nat) : w.frozen? ⟨b, j, none⟩ = false := h.cl.frozen j
theorem Bl.lt {t : TypeId} {w : World} {b : Nat} {vs : List Value} (h : Bl t w b vs) : b < w.heap.size := h.cl.lt
theorem Bl.set {t : TypeId} {w : World} {b : Nat} {vs : List Value} (h : Bl t w b vs) (j : Nat) (v : Value) : Bl t (w.setCell ⟨b, j, none⟩ v) b (vs.set j v) := by
  unfold Bl at *
  rw [heap_setCell_same w b j _ t _ h]
  simp
theorem Bl.drewN {t : TypeId} {w : World} {b : Nat} {vs : List Value} (h : Bl t w b vs) (q : Nat) : Bl t (w.drewN q) b vs := h
theorem Bl.below {t : TypeId} {w w' : World} {b n : Nat} {vs : List Value} (h : Bl t w b vs) (hb : Below n w w') (hn : b < n) : Bl t w' b vs := by
  unfold Bl at *
  rw [hb.block b hn]; exact h
theorem Bl.but {t : TypeId} {w w' : World} {b c : Nat} {vs : List Value} (h : Bl t w c vs) (hb : But w w' b) (hne : c ≠ b) : Bl t w' c vs := by
  have := h.lt
  unfold Bl at *
  rw [hb.block c this hne]; exact h

theorem cell_but {w w' : World} {g o : Nat} {v : Value} (h : w.cell? ⟨g, o, none⟩ = some v) (hb : g < w.heap.size → w'.heap[g]? = w.heap[g]?) : w'.cell? ⟨g, o, none⟩ = some v := by
  have hg : g < w.heap.size := World.block_lt_of_cell? w _ h
  have e2 := hb hg
  unfold World.cell? at h ⊢
  simp only at h ⊢
  rw [e2]
  exact h

/-- A number's limbs can be read at that place. -/
def Rn (w : World) (ao : Option Addr) (xs : List Nat) : Prop :=
  xs = [] ∨ ∃ g off : Nat, ao = some ⟨g, off, none⟩ ∧ g < w.heap.size ∧ ∀ j, j < xs.length → w.cell? ⟨g, off + j, none⟩ = some (U (xs.getD j 0))
/-- They don't lie in this block. -/
def Off (ao : Option Addr) (xs : List Nat) (b : Nat) : Prop := ∀ a, xs ≠ [] → ao = some a → a.block ≠ b
theorem Rn.nil (w : World) (ao : Option Addr) : Rn w ao [] := .inl rfl
theorem Rn.below {w w' : World} {ao : Option Addr} {l : List Nat} {n : Nat} (h : Rn w ao l) (hb : Below n w w') (hn : w.heap.size ≤ n) : Rn w' ao l := by
  rcases h with h | ⟨g, off, e, hg, hc⟩
  · exact .inl h
  · exact .inr ⟨g, off, e, Nat.lt_of_lt_of_le hg hb.size, fun j hj => cell_but (hc j hj) fun h1 => hb.block g (by omega)⟩
theorem Rn.drewN {w : World} {ao : Option Addr} {l : List Nat} (h : Rn w ao l) (q : Nat) : Rn (w.drewN q) ao l := h
theorem Rn.but {w w' : World} {ao : Option Addr} {l : List Nat} {b : Nat} (h : Rn w ao l) (hb : But w w' b) (ho : Off ao l b) : Rn w' ao l := by
  rcases h with h | ⟨g, off, e, hg, hc⟩
  · exact .inl h
  · by_cases hl : l = []
    · exact .inl hl
    · exact .inr ⟨g, off, e, Nat.lt_of_lt_of_le hg hb.size, fun j hj => cell_but (hc j hj) fun h1 => hb.block g h1 (ho _ hl e)⟩
theorem Rn.off {w : World} {ao : Option Addr} {l : List Nat} (h : Rn w ao l) (b : Nat) (hb : w.heap.size ≤ b) : Off ao l b := by
  intro a hne e
  rcases h with h | ⟨g, off, e2, hg, _⟩
  · exact absurd h hne
  · rw [e] at e2
    cases e2
    show g ≠ b
    omega
theorem Rn.take {w : World} {ao : Option Addr} {l : List Nat} (h : Rn w ao l) (k : Nat) : Rn w ao (l.take k) := by
  rcases h with h | ⟨g, off, e, hg, hc⟩
  · exact .inl (by rw [h]; simp)
  · refine .inr ⟨g, off, e, hg, fun j hj => ?_⟩
    have hj' : j < k ∧ j < l.length := by rw [List.length_take] at hj; omega
    rw [hc j hj'.2]
    simp [List.getD_eq_getElem?_getD, hj'.1]
theorem Rn.cell {w : World} {ao : Option Addr} {l : List Nat} (h : Rn w ao l) (hl : 0 < l.length) : ∃ g off : Nat, ao = some ⟨g, off, none⟩ ∧ g < w.heap.size ∧ ∀ j, j < l.length → w.cell? ⟨g, off + j, none⟩ = some (.int .u32 ((l.getD j 0 : Nat) : Int)) := by
  rcases h with h | h
  · subst h; simp at hl
  · exact h
theorem Off.take {ao : Option Addr} {l : List Nat} {b : Nat} (h : Off ao l b) (k : Nat) : Off ao (l.take k) b := fun a hne e => h a (fun e2 => hne (by rw [e2]; simp)) e

/-- The bytes can be read at that place. -/
def Rd (w : World) (ao : Option Addr) (l : List UInt8) : Prop :=
  l = [] ∨ ∃ g off : Nat, ao = some ⟨g, off, none⟩ ∧ g < w.heap.size ∧ ∀ j, j < l.length → w.cell? ⟨g, off + j, none⟩ = some (B (l.getD j 0))
theorem Rd.below {w w' : World} {ao : Option Addr} {l : List UInt8} {n : Nat} (h : Rd w ao l) (hb : Below n w w') (hn : w.heap.size ≤ n) : Rd w' ao l := by
  rcases h with h | ⟨g, off, e, hg, hc⟩
  · exact .inl h
  · exact .inr ⟨g, off, e, Nat.lt_of_lt_of_le hg hb.size, fun j hj => cell_but (hc j hj) fun h1 => hb.block g (by omega)⟩
theorem Rd.drewN {w : World} {ao : Option Addr} {l : List UInt8} (h : Rd w ao l) (q : Nat) : Rd (w.drewN q) ao l := h

theorem alloc_bl (w : World) (vs : List Value) (t : TypeId) : Bl t (w.alloc (.cells vs.toArray t)) w.heap.size vs := by unfold Bl World.alloc; simp
theorem Bl.rn {t : TypeId} {w : World} {b : Nat} {xs : List Nat} (h : Bl t w b (xs.map U)) : Rn w (some ⟨b, 0, none⟩) xs := by
  refine .inr ⟨b, 0, rfl, h.lt, fun j hj => ?_⟩
  rw [Nat.zero_add, h.cell j (by simpa using hj), List.getElem_map, getD_eq _ _ hj]

end Go.Proofs.YtmngdaolgdhgmaaGreatDoor

namespace Go.Proofs.YtmngdaolgdhgmaaGreatDoor
open Go.RowKit

set_option maxHeartbeats 400000 in
theorem proper_any (ao : Option Addr) (n c : Nat) (xs : List Nat) (w : World) (hx : Rn w ao xs) (hn : n = xs.length) (hc : n ≤ c) (hl : n ≤ 1000000000) :
    Calls Tryz.prog 88 #[.slice ao n c] w fun e w' => e = .returned (.slice ao (tl xs) c) ∧ w' = w := by
  have Hx : Hid (Rn w ao xs) := hx
  have Hn : Hid (n = xs.length) := hn
  clear hx hn
  go_enter Tryz.func88, Tryz.ntmps88
  go_wp2
  go_loop [0] (fun s => ∃ k : Nat, s = .slice ao k c ∧ k ≤ n ∧ Hid (∀ j, k ≤ j → xs.getD j 0 = 0)) (fun s => match s with | .slice _ k _ => k | _ => 0)
  case atStart => exact ⟨n, rfl, Nat.le_refl _, fun j hj => getD_none _ _ (by have := Hn.out; omega)⟩
  case round =>
    obtain ⟨k, rfl, hk, Hz⟩ := hrel
    rcases k with _ | k
    · have Ht : Hid (tl xs = 0) := tl_of xs 0 (Nat.zero_le _) Hz.out (.inl rfl)
      go_wp2
      go_ret
      rw [Ht.out]
      exact ⟨rfl, rfl⟩
    · obtain ⟨g, off, rfl, _, hcell⟩ := Hx.out.cell (by have := Hn.out; omega)
      have gc := hcell k (by have := Hn.out; omega)
      obtain ⟨x, Hxk⟩ : ∃ x, Hid (xs.getD k 0 = x) := ⟨_, rfl⟩
      rw [Hxk.out] at gc
      clear hcell
      have e1 : ((k + 1 : Nat) : Int) - 1 = (k : Int) := by omega
      by_cases h0 : x = 0
      · subst h0
        have Hz1 : Hid (∀ j, k ≤ j → xs.getD j 0 = 0) := fun j hj => by
          rcases Nat.lt_or_ge k j with h | h
          · exact Hz.out j h
          · obtain rfl : j = k := by omega
            exact Hxk.out
        go_wp2
        go_round
        case rel => exact ⟨k, rfl, by omega, Hz1⟩
        case measure => simp
      · have hb : ((x : Int) == 0) = false := by simp; omega
        have Ht : Hid (tl xs = k + 1) := tl_of xs (k + 1) (by have := Hn.out; omega) Hz.out (.inr (by rw [Nat.add_sub_cancel, Hxk.out]; exact h0))
        clear h0
        go_wp2
        go_ret
        rw [Ht.out]
        exact ⟨rfl, rfl⟩

set_option maxHeartbeats 400000 in
theorem at_any (ao : Option Addr) (n c : Nat) (i : Int) (xs : List Nat) (w : World) (hx : Rn w ao xs) (hn : n = xs.length) :
    Calls Tryz.prog 110 #[.slice ao n c, .int .i64 i] w fun e w' => e = .returned (.int .u32 ((if i < 0 then 0 else xs.getD i.toNat 0 : Nat) : Int)) ∧ w' = w := by
  have Hn : Hid (n = xs.length) := hn
  clear hn
  by_cases h1 : i < 0
  · rw [if_pos h1]
    go_enter Tryz.func110, Tryz.ntmps110
    go_wp2
    go_ret
    exact ⟨rfl, rfl⟩
  · rw [if_neg h1]
    obtain ⟨k, rfl⟩ : ∃ k : Nat, i = (k : Int) := ⟨i.toNat, by omega⟩
    rw [Int.toNat_natCast]
    by_cases h2 : k < n
    · obtain ⟨g, off, rfl, _, hcell⟩ := hx.cell (by have := Hn.out; omega)
      have gc := hcell k (by have := Hn.out; omega)
      generalize xs.getD k 0 = x at gc ⊢
      clear hcell
      go_enter Tryz.func110, Tryz.ntmps110
      go_wp2
      go_ret
      exact ⟨rfl, rfl⟩
    · rw [getD_none _ _ (by have := Hn.out; omega)]
      go_enter Tryz.func110, Tryz.ntmps110
      go_wp2
      go_ret
      exact ⟨rfl, rfl⟩

theorem at_nat (ao : Option Addr) (n c k : Nat) (xs : List Nat) (w : World) (hx : Rn w ao xs) (hn : n = xs.length) :
    Calls Tryz.prog 110 #[.slice ao n c, .int .i64 (k : Int)] w fun e w' => e = .returned (.int .u32 ((xs.getD k 0 : Nat) : Int)) ∧ w' = w := by
  have := at_any ao n c (k : Int) xs w hx hn
  rwa [if_neg (by omega), Int.toNat_natCast] at this

end Go.Proofs.YtmngdaolgdhgmaaGreatDoor

namespace Go.Proofs.YtmngdaolgdhgmaaGreatDoor
open Go.RowKit

/-- The base of the limbs. -/
def Bs : Nat := 4294967296
theorem Bs_eq : Bs = 4294967296 := rfl
theorem Bs_two : 2 ≤ Bs := by decide
theorem Bs_pos : 0 < Bs := by decide

theorem mid_set (lo ds r hi : List Nat) (x v : Nat) : (lo ++ ds ++ (x :: r) ++ hi).set (lo.length + ds.length) v = lo ++ (ds ++ [v]) ++ r ++ hi := by
  rw [List.append_assoc (lo ++ ds), List.set_append_right _ _ (by simp)]
  simp
theorem mid_get (lo ds r hi : List Nat) (x : Nat) (h : lo.length + ds.length < (lo ++ ds ++ (x :: r) ++ hi).length) : (lo ++ ds ++ (x :: r) ++ hi)[lo.length + ds.length] = x := by
  simp [List.getElem_append_right]
theorem mid_cell {t : TypeId} {w : World} {g o : Nat} {lo ds r hi : List Nat} {x : Nat} (h : Bl t w g ((lo ++ ds ++ (x :: r) ++ hi).map U)) (ho : o = lo.length + ds.length) : w.cell? ⟨g, o, none⟩ = some (.int .u32 (x : Int)) := by
  subst ho
  rw [h.cell _ (by simp), List.getElem_map, mid_get]
  rfl
theorem mid_bl {t : TypeId} {w : World} {g o : Nat} {lo ds r hi : List Nat} {x : Nat} (h : Bl t w g ((lo ++ ds ++ (x :: r) ++ hi).map U)) (ho : o = lo.length + ds.length) (v : Nat) : Bl t (w.setCell ⟨g, o, none⟩ (.int .u32 (v : Int))) g ((lo ++ (ds ++ [v]) ++ r ++ hi).map U) := by
  subst ho
  have := h.set (lo.length + ds.length) (U v)
  rw [← List.map_set, mid_set] at this
  exact this

theorem add_step (B p A c X Y x y v c' : Nat) (h : A + p * c = X + Y) (hs : v + B * c' = x + y + c) : (A + p * v) + (p * B) * c' = (X + p * x) + (Y + p * y) := by
  have h1 := congrArg (p * ·) hs
  simp only [Nat.mul_add, ← Nat.mul_assoc] at h1
  omega

set_option maxHeartbeats 1000000 in
theorem putTo_any (g off n c m bc : Nat) (ao : Option Addr) (lo W hi ys : List Nat) (w : World) (hW : Bl 51 w g ((lo ++ W ++ hi).map U)) (hoff : off = lo.length) (hn : n = W.length) (hm : m = ys.length) (hy : Rn w ao ys) (ho : Off ao ys g) (sW : Sm Bs W) (sy : Sm Bs ys) (hl : n ≤ 1000000000) :
    Calls Tryz.prog 119 #[.slice (some ⟨g, off, none⟩) n c, .slice ao m bc] w fun e w' => e = .returned (.tuple #[]) ∧ ∃ (W' : List Nat) (cy : Nat), Bl 51 w' g ((lo ++ W' ++ hi).map U) ∧ W'.length = n ∧ Sm Bs W' ∧ nv Bs W' + Bs ^ n * cy = nv Bs W + nv Bs (ys.take n) ∧ cy ≤ 1 ∧ But w w' g ∧ w'.heap.size = w.heap.size := by
  have HW : Hid (Bl 51 w g ((lo ++ W ++ hi).map U)) := hW
  have Hoff : Hid (off = lo.length) := hoff
  have Hn : Hid (n = W.length) := hn
  have Hm : Hid (m = ys.length) := hm
  have Hy : Hid (Rn w ao ys) := hy
  have Ho : Hid (Off ao ys g) := ho
  have HsW : Hid (Sm Bs W) := sW
  have Hsy : Hid (Sm Bs ys) := sy
  clear hW hoff hn hm hy ho sW sy
  go_enter Tryz.func119, Tryz.ntmps119
  go_wp2
  go_loopw [4, 5, 6, 9] (fun s4 _ _ s9 wr => ∃ (k cy : Nat) (ds : List Nat), s4 = .int .u64 (cy : Int) ∧ s9 = .int .i64 (k : Int) ∧ k ≤ n ∧ cy ≤ 1 ∧ Hid (ds.length = k ∧ Sm Bs ds ∧ Bl 51 wr g ((lo ++ ds ++ W.drop k ++ hi).map U) ∧ nv Bs ds + Bs ^ k * cy = nv Bs (W.take k) + nv Bs (ys.take k) ∧ But w wr g ∧ wr.heap.size = w.heap.size)) (fun _ _ _ s _ => n - (intOf s).toNat)
  case atStart => exact ⟨0, 0, [], rfl, rfl, Nat.zero_le _, by omega, (rfl : ([] : List Nat).length = 0), Sm.nil _, by simpa using HW.out, by simp [nv], But.refl _ _, rfl⟩
  case round =>
    obtain ⟨k, cy, ds, rfl, rfl, hk, hcy, HI⟩ := hrel
    by_cases hlt : k < n
    · have hkW : k < W.length := by have := Hn.out; omega
      obtain ⟨x, Hx⟩ : ∃ x, Hid (W[k] = x) := ⟨W[k], (rfl : W[k] = W[k])⟩
      obtain ⟨y, Hyk⟩ : ∃ y, Hid (ys.getD k 0 = y) := ⟨_, rfl⟩
      have hx : x < 4294967296 := by rw [← Hx.out, ← Bs_eq]; exact HsW.out.get k hkW
      have hy : y < 4294967296 := by rw [← Hyk.out, ← Bs_eq]; exact Hsy.out.getD Bs_pos k
      have HB : Hid (Bl 51 wr g ((lo ++ ds ++ (x :: W.drop (k + 1)) ++ hi).map U)) := by
        have := HI.out.2.2.1
        rw [List.drop_eq_getElem_cons hkW, Hx.out] at this
        exact this
      have gc := mid_cell HB.out (o := off + k) (by rw [Hoff.out, HI.out.1])
      have gf := HB.out.frozen (off + k)
      have C := at_nat ao m bc k ys wr (Hy.out.but HI.out.2.2.2.2.1 Ho.out) Hm.out
      rw [Hyk.out] at C
      go_wp2_with fail
      refine C.mono ?_
      clear C
      rintro e w1 ⟨rfl, rfl⟩
      obtain ⟨s, Hs⟩ : ∃ s, Hid (cy + (x + y) = s) := ⟨_, rfl⟩
      have hs : s < 8589934592 := by rw [← Hs.out]; omega
      have e0 : IntKind.u64.wrap ((x : Int) + (y : Int)) = ((x + y : Nat) : Int) := by rw [IntKind.wrap_u64]; omega
      have e1 : IntKind.u64.wrap ((cy : Int) + ((x + y : Nat) : Int)) = (s : Int) := by have := Hs.out; rw [IntKind.wrap_u64]; omega
      have e2 : IntKind.u32.wrap (s : Int) = ((s % 4294967296 : Nat) : Int) := by rw [IntKind.wrap_u32]; omega
      have e3 : (cy : Int) + ((x : Int) + (y : Int)) = (s : Int) := by have := Hs.out; omega
      go_wp2
      go_roundw
      case rel =>
        have e4 : (s : Int) / 4294967296 = ((s / 4294967296 : Nat) : Int) := by omega
        have e5 : (s : Int) % 4294967296 = ((s % 4294967296 : Nat) : Int) := by omega
        rw [e4, e5]
        refine ⟨k + 1, s / 4294967296, ds ++ [s % 4294967296], rfl, by go_num, by omega, by omega, ?_, HI.out.2.1.snoc (by rw [Bs_eq]; omega), mid_bl HB.out (by rw [Hoff.out, HI.out.1]) _, ?_, HI.out.2.2.2.2.1.set _ _, ?_⟩
        · rw [List.length_append, HI.out.1]; rfl
        · rw [nv_snoc, nv_take_succ, nv_take_succ, HI.out.1, getD_eq W k hkW, Hx.out, Hyk.out, Nat.pow_succ]
          exact add_step _ _ _ _ _ _ _ _ _ _ HI.out.2.2.2.1 (by have := Hs.out; rw [Bs_eq]; omega)
        · rw [World.size_setCell]; exact HI.out.2.2.2.2.2
      case measure => simp [intOf]; omega
    · obtain rfl : k = n := by omega
      go_wp2
      go_end0
      refine ⟨rfl, ds, cy, ?_, HI.out.1, HI.out.2.1, ?_, hcy, HI.out.2.2.2.2⟩
      · have := HI.out.2.2.1
        rw [List.drop_of_length_le (by have := Hn.out; omega), List.append_nil] at this
        exact this
      · have := HI.out.2.2.2.1
        rw [List.take_of_length_le (l := W) (by have := Hn.out; omega)] at this
        exact this

end Go.Proofs.YtmngdaolgdhgmaaGreatDoor

namespace Go.Proofs.YtmngdaolgdhgmaaGreatDoor
open Go.RowKit

theorem infoU : (Tryz.prog.info? 51).map (fun i => (i.zero, i.size, i.bytes)) = some (some (.int .u32 0), 1, 4) := by kernel_rfl
theorem oneU (l : List Nat) : ∀ v ∈ l.map U, v.oneCell' = true := by
  intro v hv
  obtain ⟨c, _, rfl⟩ := List.mem_map.1 hv
  rfl
theorem alloc_below (w : World) (o : Obj) : Below w.heap.size w (w.alloc o) := Below.alloc (Below.refl _ _) (Nat.le_refl _) _

/-- A row with a stretch of it written over. -/
def spl (vs : List Value) (off : Nat) (xs : List Value) : List Value := vs.take off ++ xs ++ vs.drop (off + xs.length)

theorem spl_nil (vs : List Value) (off : Nat) : spl vs off [] = vs := by simp [spl]

theorem spl_set (vs : List Value) (off : Nat) (xs : List Value) (v : Value) (h : off + xs.length < vs.length) : (spl vs off xs).set (off + xs.length) v = spl vs off (xs ++ [v]) := by
  unfold spl
  have e : (vs.take off ++ xs).length = off + xs.length := by simp; omega
  rw [List.set_append_right _ _ (by omega), e, Nat.sub_self, List.drop_eq_getElem_cons h, List.set_cons_zero]
  simp [Nat.add_assoc]

theorem spl_spl (vs : List Value) (o : Nat) (xs ys : List Value) (h : o + xs.length ≤ vs.length) : spl (spl vs o xs) (o + xs.length) ys = spl vs o (xs ++ ys) := by
  have e : (vs.take o ++ xs).length = o + xs.length := by simp; omega
  unfold spl
  rw [List.take_append_of_le_length (by omega), List.take_of_length_le (by omega), List.drop_append, e, show o + xs.length + ys.length - (o + xs.length) = ys.length by omega, List.drop_of_length_le (by omega), List.drop_drop, List.length_append]
  simp [Nat.add_assoc]

theorem spl_one (vs : List Value) (o : Nat) (v : Value) (h : o < vs.length) : vs.set o v = spl vs o [v] := by
  have := spl_set vs o [] v (by simpa using h)
  rw [spl_nil] at this
  simpa using this

theorem Bl.cells {t : TypeId} {b : Nat} : ∀ (xs : List Value) (o : Nat) (w : World) (vs : List Value), Bl t w b vs → o + xs.length ≤ vs.length → Bl t (w.setCells b o xs) b (spl vs o xs)
  | [], o, w, vs, h, _ => by rw [spl_nil]; exact h
  | v :: r, o, w, vs, h, hl => by
    have hl2 : o + (r.length + 1) ≤ vs.length := hl
    have h1 := Bl.cells r (o + 1) (w.setCell ⟨b, o, none⟩ v) (vs.set o v) (h.set o v) (by rw [List.length_set]; omega)
    rw [spl_one vs o v (by omega)] at h1
    have h2 := spl_spl vs o [v] r (by simp; omega)
    rw [List.length_singleton] at h2
    rw [h2] at h1
    exact h1

theorem But.cells {b : Nat} : ∀ (xs : List Value) (o : Nat) (w w' : World), But w w' b → But w (w'.setCells b o xs) b
  | [], _, _, _, h => h
  | v :: r, o, w, w', h => But.cells r (o + 1) w (w'.setCell ⟨b, o, none⟩ v) (h.set o v)

theorem size_cells {b : Nat} : ∀ (xs : List Value) (o : Nat) (w : World), (w.setCells b o xs).heap.size = w.heap.size
  | [], _, _ => rfl
  | v :: r, o, w => by
    have := size_cells (b := b) r (o + 1) (w.setCell ⟨b, o, none⟩ v)
    rw [World.setCells, this]
    simp

/-- New limbs, all nought. -/
theorem madeU (w : World) (n : Nat) (hn : n ≤ 10000000000) : ∃ wm, (Instr.makeSlice 24 (.int .i64 (n : Int)) (.int .i64 (n : Int))).run Tryz.prog w = .ok (.slice (some ⟨w.heap.size, 0, none⟩) n n) wm ∧ Bl 51 wm w.heap.size ((List.replicate n 0).map U) ∧ Below w.heap.size w wm ∧ wm.heap.size = w.heap.size + 1 := by
  obtain ⟨i0, hi, hz0, hz1, hz2⟩ := info_parts infoU
  refine ⟨w.alloc (.cells ((List.replicate n 0).map U).toArray 51), ?_, alloc_bl _ _ _, alloc_below _ _, World.size_alloc _ _⟩
  rw [run_make w 24 51 i0 (.int .u32 0) Tryz.underlying24 hi hz0 .i64 .i64 (n : Int) (n : Int) (by omega) (by omega) (by rw [hz2]; omega) (by omega)]
  have e : madeCells (Value.cells (.int .u32 0)) ((n : Int).toNat * i0.size) = ((List.replicate n 0).map U).toArray := by
    rw [hz1, Int.toNat_natCast, Nat.mul_one]
    apply Array.toList_inj.1
    have := toList_madeCells_one (.int .u32 0) n
    rw [List.map_replicate]
    exact this
  rw [e]
  simp

/-- copy of limbs that can be read, into noughts of one's own. -/
theorem copyU (w : World) (g o N dc m c n : Nat) (ao : Option Addr) (xs : List Nat) (hb : Bl 51 w g ((List.replicate n 0).map U)) (hx : Rn w ao xs) (hm : m = xs.length) (hN : o + N = n) (hle : m ≤ N) :
    ∃ w1, (Builtin.copy_ #[24, 24] 3 #[.slice (some ⟨g, o, none⟩) N dc, .slice ao m c]).run Tryz.prog w = .ok (goInt m) w1 ∧ Bl 51 w1 g ((List.replicate o 0 ++ xs ++ List.replicate (N - m) 0).map U) ∧ But w w1 g ∧ w1.heap.size = w.heap.size := by
  subst hm
  have hmin : Nat.min xs.length N = xs.length := Nat.min_eq_left hle
  by_cases h0 : xs = []
  · subst h0
    refine ⟨w, run_copy_none w 24 24 3 51 _ _ _ _ _ _ Tryz.underlying24 (by kernel_rfl) hmin, ?_, But.refl _ _, rfl⟩
    have e : List.replicate o 0 ++ [] ++ List.replicate (N - ([] : List Nat).length) 0 = List.replicate n 0 := by simp [← hN]
    rw [e]; exact hb
  · rcases hx with h1 | ⟨b, off, rfl, hlt, hc⟩
    · exact absurd h1 h0
    · refine ⟨w.setCells g o (xs.map U), ?_, ?_, But.cells _ _ _ _ (But.refl _ _), size_cells _ _ _⟩
      · have h1 := run_copy_cells (P := Tryz.prog) w 24 24 3 51 g o N dc ⟨b, off, none⟩ xs.length c (xs.map U) Tryz.underlying24 (by kernel_rfl) (by rw [List.length_map]; exact hmin.symm) (fun j v hj => by
            obtain ⟨hj1, hj2⟩ := List.getElem?_eq_some_iff.1 hj
            have hj3 : j < xs.length := by simpa using hj1
            rw [Addr.add_mid, hc j hj3, ← hj2, List.getElem_map, getD_eq _ _ hj3]) (fun j hj => by
            rw [List.length_map] at hj
            rw [hb.cell (o + j) (by simp; omega)]
            rfl) (fun j _ => hb.frozen _) (oneU xs)
        rw [List.length_map] at h1
        exact h1
      · have h1 := Bl.cells (xs.map U) o w _ hb (by simp; omega)
        unfold spl at h1
        rw [List.length_map, ← List.map_take, ← List.map_drop, ← List.map_append, ← List.map_append, List.take_replicate, List.drop_replicate, Nat.min_eq_left (by omega), show n - (o + xs.length) = N - xs.length by omega] at h1
        exact h1

set_option maxHeartbeats 400000 in
theorem copied_any (ao : Option Addr) (m c n : Nat) (xs : List Nat) (w : World) (hx : Rn w ao xs) (hm : m = xs.length) (hn : m ≤ n) (hl : n ≤ 1000000000) :
    Calls Tryz.prog 118 #[.slice ao m c, .int .i64 (n : Int)] w fun e w' => e = .returned (.slice (some ⟨w.heap.size, 0, none⟩) n n) ∧ Bl 51 w' w.heap.size ((xs ++ List.replicate (n - m) 0).map U) ∧ Below w.heap.size w w' ∧ w'.heap.size = w.heap.size + 1 := by
  obtain ⟨wm, hmk, hb, hbel, hsz⟩ := madeU w n (by omega)
  obtain ⟨w1, hcp, hb1, hbut, hsz1⟩ := copyU wm w.heap.size 0 n n m c n ao xs hb (hx.below hbel (Nat.le_refl _)) hm (by omega) hn
  have HB : Hid (Bl 51 w1 w.heap.size ((xs ++ List.replicate (n - m) 0).map U)) := hb1
  have HE : Hid (Below w.heap.size w w1 ∧ w1.heap.size = w.heap.size + 1) := ⟨hbel.trans (hbut.below (by omega) (Nat.le_refl _)), by omega⟩
  clear hb hb1 hbel hsz hbut hsz1 hx hm
  go_enter Tryz.func118, Tryz.ntmps118
  go_wp2
  go_ret
  exact ⟨rfl, HB.out, HE.out⟩

/-- A row of limbs of one's own. -/
def Ow (w : World) (base : Nat) (v : Value) (xs : List Nat) : Prop := w.ownsRow base 51 1 v xs.length (xs.map U)
/-- A value that is a number of these limbs. -/
def Nm (w : World) (v : Value) (xs : List Nat) : Prop := ∃ (ao : Option Addr) (c : Nat), v = .slice ao xs.length c ∧ xs.length ≤ c ∧ Rn w ao xs ∧ Sm Bs xs

theorem Nm.below {w w' : World} {v : Value} {xs : List Nat} {n : Nat} (h : Nm w v xs) (hb : Below n w w') (hn : w.heap.size ≤ n) : Nm w' v xs := by
  obtain ⟨ao, c, e, hc, hr, hs⟩ := h
  exact ⟨ao, c, e, hc, hr.below hb hn, hs⟩
theorem Nm.drewN {w : World} {v : Value} {xs : List Nat} (h : Nm w v xs) (q : Nat) : Nm (w.drewN q) v xs := h
theorem Nm.drew {w : World} {v : Value} {xs : List Nat} (h : Nm w v xs) : Nm w.drew v xs := h
theorem Nm.sm {w : World} {v : Value} {xs : List Nat} (h : Nm w v xs) : Sm Bs xs := by obtain ⟨_, _, _, _, _, hs⟩ := h; exact hs
theorem Ow.nm {w : World} {base : Nat} {v : Value} {xs : List Nat} (h : Ow w base v xs) (hs : Sm Bs xs) : Nm w v xs := by
  rcases h.2 with ⟨rfl, h0⟩ | ⟨g, cap, cur, rfl, hg, hh, hn, hc, hsz, ht⟩
  · have : xs = [] := List.eq_nil_of_length_eq_zero h0
    subst this
    exact ⟨none, 0, rfl, Nat.le_refl _, .inl rfl, hs⟩
  · refine ⟨_, cap, rfl, hn, .inr ⟨g, 0, rfl, (World.ownsRow.lt h g rfl).2, fun j hj => ?_⟩, hs⟩
    rw [Nat.zero_add, World.ownsRow.cellAt h j (by omega)]
    rw [List.getElem?_map, List.getElem?_eq_getElem hj, getD_eq _ _ hj]; rfl
theorem Bl.ow {w : World} {base g : Nat} {L : List Nat} (h : Bl 51 w g (L.map U)) (k : Nat) (hk : k ≤ L.length) (hg : base ≤ g) (hl : L.length ≤ 10000000000) : Ow w base (.slice (some ⟨g, 0, none⟩) k L.length) (L.take k) := by
  have e : (L.take k).length = k := by rw [List.length_take]; omega
  refine ⟨by simp, .inr ⟨g, L.length, (L.map U).toArray, by rw [e], hg, h, by rw [e]; exact hk, ?_, by simp, ?_⟩⟩
  · unfold maxLen; omega
  · rw [e]; simp [List.map_take]
theorem Bl.proper {w : World} {base g : Nat} {L : List Nat} (h : Bl 51 w g (L.map U)) (hs : Sm Bs L) (hg : base ≤ g) (hl : L.length ≤ 10000000000) : Ow w base (.slice (some ⟨g, 0, none⟩) (tl L) L.length) (dg Bs (nv Bs L)) := by
  rw [← trim_dg Bs_two hs]
  exact h.ow (tl L) (tl_le L) hg hl
theorem Ow.nil (w : World) (base : Nat) : Ow w base (.slice none 0 0) [] := ⟨rfl, .inl ⟨rfl, rfl⟩⟩

end Go.Proofs.YtmngdaolgdhgmaaGreatDoor
