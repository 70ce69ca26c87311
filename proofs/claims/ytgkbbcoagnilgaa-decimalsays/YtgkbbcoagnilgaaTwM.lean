import Derived.Test.YtgkbbcoagnilgaaBase
namespace Go.Proofs.Ytgkbbcoagnilgaa
open Go.RowKit

/-- The number of digits, the lowest first. -/
def lv : List Nat → Nat
  | [] => 0
  | a :: t => a + 10 * lv t

theorem lv_app (s t : List Nat) : lv (s ++ t) = lv s + 10 ^ s.length * lv t := by
  induction s with
  | nil => simp [lv]
  | cons a s ih =>
    show a + 10 * lv (s ++ t) = a + 10 * lv s + 10 ^ (s.length + 1) * lv t
    rw [ih, Nat.mul_add, Nat.pow_succ, Nat.mul_comm (10 ^ s.length) 10, Nat.mul_assoc, Nat.add_assoc]

theorem lv_lt (l : List Nat) (h : ∀ d ∈ l, d < 10) : lv l < 10 ^ l.length := by
  induction l with
  | nil => simp [lv]
  | cons a t ih =>
    have h1 := h a (List.mem_cons_self ..)
    have h2 := ih (fun d hd => h d (List.mem_cons_of_mem _ hd))
    show a + 10 * lv t < 10 ^ (t.length + 1)
    rw [Nat.pow_succ]
    omega

/-- Digits of a number, the lowest first, none at the top that is nought. -/
structure Dg (l : List Nat) (V : Nat) : Prop where
  dig : ∀ d ∈ l, d < 10
  val : lv l = V
  top : l ≠ [] → 10 ^ (l.length - 1) ≤ V

/-- Digits of a number that is taken apart, F of it left. -/
structure Tk (l : List Nat) (F F0 : Nat) : Prop where
  dig : ∀ d ∈ l, d < 10
  val : lv l + 10 ^ l.length * F = F0
  top : l ≠ [] → 10 ^ (l.length - 1) ≤ F0

theorem Tk.start (F : Nat) : Tk [] F F := ⟨fun d hd => by simp at hd, by simp [lv], fun h => absurd rfl h⟩

theorem Tk.step {l : List Nat} {F F0 : Nat} (h : Tk l F F0) (hF : 0 < F) : Tk (l ++ [F % 10]) (F / 10) F0 := by
  refine ⟨fun d hd => ?_, ?_, fun _ => ?_⟩
  · rcases List.mem_append.1 hd with h1 | h1
    · exact h.dig d h1
    · have : d = F % 10 := by simpa using h1
      rw [this]; exact Nat.mod_lt _ (by decide)
  · rw [lv_app, List.length_append, List.length_singleton, Nat.pow_succ, ← h.val]
    show lv l + 10 ^ l.length * (F % 10 + 10 * 0) + 10 ^ l.length * 10 * (F / 10) = lv l + 10 ^ l.length * F
    rw [Nat.mul_zero, Nat.add_zero, Nat.mul_assoc, Nat.add_assoc, ← Nat.mul_add]
    congr 2
    omega
  · rw [List.length_append, List.length_singleton, Nat.add_sub_cancel, ← h.val]
    have := Nat.mul_le_mul_left (10 ^ l.length) hF
    omega

theorem Tk.done {l : List Nat} {F0 : Nat} (h : Tk l 0 F0) : Dg l F0 := ⟨h.dig, by have := h.val; simpa using this, h.top⟩

/-- Digits that are multiplied, the first k of them done: c is carried. -/
structure Ml (l0 l : List Nat) (b k c : Nat) : Prop where
  len : l.length = l0.length
  dig : ∀ d ∈ l, d < 10
  val : lv (l.take k) + 10 ^ k * c = b * lv (l0.take k)
  rest : l.drop k = l0.drop k
  car : c < b

theorem Ml.start (l : List Nat) (b : Nat) (hb : 0 < b) (h : ∀ d ∈ l, d < 10) : Ml l l b 0 0 := ⟨rfl, h, by simp [lv], rfl, hb⟩

theorem Ml.step {l0 l : List Nat} {b k c d : Nat} (h : Ml l0 l b k c) (hk : k < l.length) (hd : d = l[k]) (_hb : b ≤ 10) : Ml l0 (l.set k ((c + d * b) % 10)) b (k + 1) ((c + d * b) / 10) := by
  have hk0 : k < l0.length := by rw [← h.len]; exact hk
  have hd0 : l0[k] = d := by
    have e1 : (l.drop k)[0]? = (l0.drop k)[0]? := by rw [h.rest]
    rw [List.getElem?_drop, List.getElem?_drop, Nat.add_zero, List.getElem?_eq_getElem hk, List.getElem?_eq_getElem hk0] at e1
    rw [hd]
    exact (Option.some.inj e1).symm
  have hd10 : d < 10 := by rw [hd]; exact h.dig _ (List.getElem_mem hk)
  have hc := h.car
  refine ⟨by rw [List.length_set]; exact h.len, fun x hx => ?_, ?_, ?_, ?_⟩
  · rcases List.mem_or_eq_of_mem_set hx with h1 | h1
    · exact h.dig x h1
    · rw [h1]; exact Nat.mod_lt _ (by decide)
  · have e1 : (l.set k ((c + d * b) % 10)).take (k + 1) = l.take k ++ [(c + d * b) % 10] := by
      rw [List.take_succ_eq_append_getElem (by rw [List.length_set]; exact hk), List.getElem_set_self, List.take_set_of_le (Nat.le_refl _)]
    have e2 : l0.take (k + 1) = l0.take k ++ [d] := by rw [List.take_succ_eq_append_getElem hk0, hd0]
    have l1 : (l.take k).length = k := by rw [List.length_take]; omega
    have l2 : (l0.take k).length = k := by rw [List.length_take]; omega
    rw [e1, e2, lv_app, lv_app, l1, l2, Nat.mul_add b, ← h.val, Nat.pow_succ]
    show lv (l.take k) + 10 ^ k * ((c + d * b) % 10 + 10 * 0) + 10 ^ k * 10 * ((c + d * b) / 10) = lv (l.take k) + 10 ^ k * c + b * (10 ^ k * (d + 10 * 0))
    rw [Nat.mul_zero, Nat.add_zero, Nat.add_zero, Nat.mul_assoc, Nat.add_assoc, ← Nat.mul_add, Nat.mul_left_comm b, Nat.add_assoc, ← Nat.mul_add]
    congr 2
    rw [Nat.mul_comm b d]
    omega
  · rw [List.drop_set_of_lt (by omega)]
    have := congrArg (List.drop 1) h.rest
    rw [List.drop_drop, List.drop_drop] at this
    exact this
  · have : d * b ≤ 9 * b := Nat.mul_le_mul_right _ (by omega)
    omega

theorem Ml.done {l0 l : List Nat} {b c V : Nat} (h : Ml l0 l b l.length c) (h0 : Dg l0 V) (hb1 : 1 ≤ b) (hb : b ≤ 10) : Dg (if 0 < c then l ++ [c] else l) (b * V) := by
  have hv := h.val
  rw [List.take_length, h.len, List.take_length, h0.val] at hv
  have hc := h.car
  have hbV : V ≤ b * V := by have := Nat.mul_le_mul_right V hb1; omega
  by_cases c0 : 0 < c
  · rw [if_pos c0]
    refine ⟨fun d hd => ?_, ?_, fun _ => ?_⟩
    · rcases List.mem_append.1 hd with h1 | h1
      · exact h.dig d h1
      · have : d = c := by simpa using h1
        omega
    · rw [lv_app, h.len]
      show lv l + 10 ^ l0.length * (c + 10 * 0) = _
      rw [Nat.mul_zero, Nat.add_zero]
      exact hv
    · rw [List.length_append, List.length_singleton, Nat.add_sub_cancel, h.len]
      have := Nat.mul_le_mul_left (10 ^ l0.length) c0
      omega
  · rw [if_neg c0]
    have hc0 : c = 0 := by omega
    rw [hc0, Nat.mul_zero, Nat.add_zero] at hv
    refine ⟨h.dig, hv, fun hne => ?_⟩
    have hne0 : l0 ≠ [] := fun e => hne (List.eq_nil_of_length_eq_zero (by rw [h.len, e]; rfl))
    rw [h.len]
    exact Nat.le_trans (h0.top hne0) hbV

end Go.Proofs.Ytgkbbcoagnilgaa
