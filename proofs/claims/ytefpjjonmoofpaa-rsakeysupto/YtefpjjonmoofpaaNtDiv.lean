import Derived.Test.YtefpjjonmoofpaaNtEst
import Derived.Test.YtefpjjonmoofpaaNtDivM
namespace Go.Proofs.Ytefpjjonmoofpaa
open Go.RowKit

theorem Ow.below {w w' : World} {base n : Nat} {v : Value} {xs : List Nat} (h : Ow w base v xs) (hb : Below n w w') (hn : w.heap.size ≤ n) : Ow w' base v xs := by
  rcases h.2 with h0 | ⟨g, cap, cur, e, hg, hh, r⟩
  · exact ⟨h.1, .inl h0⟩
  · exact ⟨h.1, .inr ⟨g, cap, cur, e, hg, by rw [hb.block g (Nat.lt_of_lt_of_le (Array.getElem?_eq_some_iff.1 hh).1 hn)]; exact hh, r⟩⟩
theorem Ow.drewN {w : World} {base : Nat} {v : Value} {xs : List Nat} (h : Ow w base v xs) (q : Nat) : Ow (w.drewN q) base v xs := h
theorem Ow.base {w : World} {base base' : Nat} {v : Value} {xs : List Nat} (h : Ow w base v xs) (hb : base' ≤ base) : Ow w base' v xs := by
  rcases h.2 with h0 | ⟨g, cap, cur, e, hg, r⟩
  · exact ⟨h.1, .inl h0⟩
  · exact ⟨h.1, .inr ⟨g, cap, cur, e, Nat.le_trans hb hg, r⟩⟩

theorem Bl.rn_mid {t : TypeId} {w : World} {g o : Nat} {lo W hi : List Nat} (h : Bl t w g ((lo ++ W ++ hi).map U)) (ho : o = lo.length) : Rn w (some ⟨g, o, none⟩) W := by
  subst ho
  refine .inr ⟨g, lo.length, rfl, h.lt, fun j hj => ?_⟩
  rw [h.cell (lo.length + j) (by simp; omega), List.getElem_map, List.getElem_append_left (by simp; omega), List.getElem_append_right (by omega), getD_eq _ _ hj]
  simp

/-- What stands while a quotient is made. -/
structure DS (w wr : World) (L Q D : List Nat) (m mq : Nat) : Prop where
  bl : Bl 36 wr w.heap.size (L.map U)
  len : L.length = mq + (m + 1)
  sm : Sm Bs L
  rd : Rn wr (some ⟨w.heap.size + 1, 0, none⟩) D
  qb : Bl 36 wr (w.heap.size + 2) (Q.map U)
  ql : Q.length = mq
  qs : Sm Bs Q
  bel : Below w.heap.size w wr
  size : wr.heap.size = w.heap.size + 3

theorem low_win {L : List Nat} {m p mq : Nat} (hl : L.length = mq + (m + 1)) (hp : p < mq) : ∃ lo W hi : List Nat, L = lo ++ W ++ hi ∧ lo.length = p ∧ W.length = m + 2 := by
  refine ⟨L.take p, (L.drop p).take (m + 2), (L.drop p).drop (m + 2), ?_, ?_, ?_⟩
  · rw [List.append_assoc, List.take_append_drop, List.take_append_drop]
  · rw [List.length_take]; omega
  · rw [List.length_take, List.length_drop]; omega

/-- The limbs above the window are noughts. -/
theorem win_value {B : Nat} (_hB : 0 < B) {lo W hi : List Nat} {m p D : Nat} (hlo : lo.length = p) (hW : W.length = m + 2) (hD : D < B ^ (m + 1)) (h : nv B (lo ++ W ++ hi) < B ^ (p + 1) * D) : nv B (lo ++ W ++ hi) = nv B lo + B ^ p * nv B W ∧ nv B hi = 0 ∧ nv B W < B * D := by
  rw [nv_append, nv_append, List.length_append, hlo, hW] at h ⊢
  have h1 : B ^ (p + 1) * D ≤ B ^ (p + 1) * B ^ (m + 1) := Nat.mul_le_mul_left _ (Nat.le_of_lt hD)
  rw [← Nat.pow_add, show p + 1 + (m + 1) = p + (m + 2) by omega] at h1
  have h2 : nv B hi = 0 := by
    rcases Nat.eq_zero_or_pos (nv B hi) with h3 | h3
    · exact h3
    · exfalso
      have : B ^ (p + (m + 2)) * 1 ≤ B ^ (p + (m + 2)) * nv B hi := Nat.mul_le_mul_left _ h3
      omega
  rw [h2, Nat.mul_zero, Nat.add_zero] at h ⊢
  refine ⟨rfl, rfl, ?_⟩
  have h4 : B ^ p * nv B W < B ^ p * (B * D) := by
    have e : B ^ p * (B * D) = B ^ (p + 1) * D := by rw [Nat.pow_succ, Nat.mul_assoc]
    omega
  exact Nat.lt_of_mul_lt_mul_left h4

theorem start_lt {B : Nat} (X s D la mq m : Nat) (hX : X < B ^ la) (hs : 2 ^ s ≤ 2147483648) (hD : B ^ m * 2147483648 ≤ D) (hla : la + 1 = mq + (m + 1)) : X * 2 ^ s < B ^ mq * D := by
  have h1 : X * 2 ^ s < B ^ la * 2147483648 := Nat.lt_of_le_of_lt (Nat.mul_le_mul_left _ hs) (Nat.mul_lt_mul_of_pos_right hX (by decide))
  have h2 : B ^ mq * (B ^ m * 2147483648) ≤ B ^ mq * D := Nat.mul_le_mul_left _ hD
  rw [← Nat.mul_assoc, ← Nat.pow_add, show mq + m = la by omega] at h2
  exact Nat.lt_of_lt_of_le h1 h2

theorem quot_end {X D Q R S : Nat} (hS : 0 < S) (h : R + Q * (D * S) = X * S) (hR : R < D * S) : Q = X / D ∧ R / S = X % D := by
  have h1 : R = (X - Q * D) * S := by
    rw [Nat.sub_mul, Nat.mul_assoc]
    omega
  have h2 : Q * D ≤ X := by
    have : Q * D * S ≤ X * S := by rw [Nat.mul_assoc]; omega
    exact Nat.le_of_mul_le_mul_right this hS
  have h3 : X - Q * D < D := by
    rw [h1] at hR
    exact Nat.lt_of_mul_lt_mul_right hR
  have h4 : X = Q * D + (X - Q * D) := by omega
  have h5 : 0 < D := by omega
  constructor
  · have h6 : (D * Q + (X - Q * D)) / D = Q + (X - Q * D) / D := Nat.mul_add_div h5 _ _
    rw [Nat.mul_comm D Q, ← h4, Nat.div_eq_of_lt h3] at h6
    omega
  · rw [h1, Nat.mul_div_cancel _ hS]
    have : X % D = (X - Q * D) % D := by
      rw [show X - Q * D = X - D * Q by rw [Nat.mul_comm]]
      exact (Nat.sub_mul_mod (by rw [Nat.mul_comm]; exact h2)).symm
    rw [this, Nat.mod_eq_of_lt h3]

theorem DS.turn {w w0 w1 : World} {lo W W1 hi Q D : List Nat} {m mq : Nat} (h : DS w w0 (lo ++ W ++ hi) Q D m mq) (hb : Bl 36 w1 w.heap.size ((lo ++ W1 ++ hi).map U)) (hl : W1.length = W.length) (hs : Sm Bs W1) (hbut : But w0 w1 w.heap.size) (hsz : w1.heap.size = w0.heap.size) : DS w w1 (lo ++ W1 ++ hi) Q D m mq :=
  ⟨hb, by have := h.len; simp only [List.length_append] at this ⊢; omega, (h.sm.left.left.append hs).append h.sm.right, h.rd.but hbut (fun a _ e => by cases e; show w.heap.size + 1 ≠ w.heap.size; omega), h.qb.but hbut (show w.heap.size + 2 ≠ w.heap.size by omega), h.ql, h.qs, h.bel.trans (hbut.below h.bel.size (Nat.le_refl _)), by rw [hsz]; exact h.size⟩
theorem DS.put {w w1 : World} {L Q D : List Nat} {m mq : Nat} (h : DS w w1 L Q D m mq) (p v : Nat) (hv : v < 4294967296) : DS w (w1.setCell ⟨w.heap.size + 2, p, none⟩ (.int .u32 (v : Int))) L (Q.set p v) D m mq := by
  have hb : But w1 (w1.setCell ⟨w.heap.size + 2, p, none⟩ (.int .u32 (v : Int))) (w.heap.size + 2) := (But.refl _ _).set _ _
  exact ⟨h.bl.but hb (show w.heap.size ≠ w.heap.size + 2 by omega), h.len, h.sm, h.rd.but hb (fun a _ e => by cases e; show w.heap.size + 1 ≠ w.heap.size + 2; omega), h.qb.setU p v, by rw [List.length_set]; exact h.ql, h.qs.set p v hv, h.bel.setCell (show w.heap.size ≤ w.heap.size + 2 by omega) _, by rw [World.size_setCell]; exact h.size⟩
theorem But.undrew {w w' : World} {q b : Nat} (h : But (w.drewN q) w' b) : But w w' b := ⟨h.os, h.tape, h.output, h.size, h.block⟩

theorem turn_value {B : Nat} (hB : 0 < B) {lo W W1 hi Q : List Nat} {p g D A : Nat} (slo : Sm B lo) (hlo : lo.length = p) (_hl : W1.length = W.length) (hv : nv B (lo ++ W ++ hi) = nv B lo + B ^ p * nv B W) (hh : nv B hi = 0) (hw : nv B W = nv B W1 + g * D) (hlt : nv B W1 < D) (hA : nv B (lo ++ W ++ hi) + nv B Q * D = A) (hq : Q.getD p 0 = 0) (hp : p < Q.length) :
    nv B (lo ++ W1 ++ hi) + nv B (Q.set p g) * D = A ∧ nv B (lo ++ W1 ++ hi) < B ^ p * D := by
  have e1 : nv B (lo ++ W1 ++ hi) = nv B lo + B ^ p * nv B W1 := by rw [nv_append, nv_append, hh, hlo]; omega
  have e2 := nv_set' B Q p g 0 hp hq
  rw [Nat.mul_zero, Nat.add_zero] at e2
  rw [hv] at hA
  have h1 := nv_lt hB slo
  rw [hlo] at h1
  rw [e1, e2]
  exact rem_step hA hw h1 hlt

end Go.Proofs.Ytefpjjonmoofpaa
