import Derived.Test.YtnifjhmjpbihoaaGreatDoorCT
import Derived.Test.YtnifjhmjpbihoaaGreatDoorCNg
namespace Go.Proofs.YtnifjhmjpbihoaaGreatDoor
open Go.RowKit

set_option maxRecDepth 100000

theorem Pa.open {w w' : World} {v : Value} {P : Pt} (h : Pa w w' v P) : ∃ (x0 y0 : Option Addr) (x1 x2 y1 y2 X Y : Nat) (f : Bool), v = .agg #[.slice x0 x1 x2, .slice y0 y1 y2, .bool f] ∧ Mk w' 0 (.slice x0 x1 x2) X 384 ∧ Mk w' 0 (.slice y0 y1 y2) Y 384 ∧ ptO X Y f = P ∧ (f = true → X = 0 ∧ Y = 0) := by
  cases P with
  | O => exact ⟨none, none, 0, 0, 0, 0, 0, 0, true, h.1, Mk.none _ _ _, Mk.none _ _ _, rfl, fun _ => ⟨rfl, rfl⟩⟩
  | A a c =>
    obtain ⟨⟨x, y, rfl, m1, m2, _⟩, _⟩ := h
    obtain ⟨x0, x1, x2, rfl⟩ := m1.nk.sl
    obtain ⟨y0, y1, y2, rfl⟩ := m2.nk.sl
    exact ⟨x0, y0, x1, x2, y1, y2, a, c, false, rfl, m1.base (Nat.zero_le _), m2.base (Nat.zero_le _), rfl, fun h => by cases h⟩
theorem pt_inj {X Y X' Y' : Nat} {f f' : Bool} {P : Pt} (h : ptO X Y f = P) (hz : f = true → X = 0 ∧ Y = 0) (h' : ptO X' Y' f' = P) (hz' : f' = true → X' = 0 ∧ Y' = 0) : X' = X ∧ Y' = Y ∧ f' = f := by
  subst h
  cases f with
  | true =>
    obtain ⟨rfl, rfl⟩ := hz rfl
    cases f' with
    | true => obtain ⟨rfl, rfl⟩ := hz' rfl; exact ⟨rfl, rfl, rfl⟩
    | false => simp [ptO] at h'
  | false =>
    cases f' with
    | true => simp [ptO] at h'
    | false => simp [ptO] at h'; exact ⟨h'.1, h'.2, rfl⟩
theorem same_pt (x y u v : Value) (X Y X' Y' : Nat) (f f' : Bool) (P : Pt) (w : World) (hx : Mk w 0 x X 384) (hy : Mk w 0 y Y 384) (hu : Mk w 0 u X' 384) (hv : Mk w 0 v Y' 384) (h : ptO X Y f = P ∧ (f = true → X = 0 ∧ Y = 0)) (h' : ptO X' Y' f' = P ∧ (f' = true → X' = 0 ∧ Y' = 0)) :
    Calls Tryz.prog 42 #[.agg #[x, y, .bool f], .agg #[u, v, .bool f']] w fun e w' => e = .returned (.bool true) ∧ Below w.heap.size w w' := by
  obtain ⟨rfl, rfl, rfl⟩ := pt_inj h.1 h.2 h'.1 h'.2
  exact same_v x y u v _ _ _ w hx.nm hy.nm hu.nm hv.nm hx.2.1 hy.2.1
theorem onB_of {p b X Y : Nat} {f : Bool} {P : Pt} (hp : Pm p) (h : ptO X Y f = P ∧ (f = true → X = 0 ∧ Y = 0)) (ho : onP p b P) : onB p b X Y f = true := (onB_iff hp).2 ⟨by rw [h.1]; exact ho, h.2⟩
theorem neg_pt {p b X Y : Nat} {f : Bool} (hp : Pm p) (ho : onB p b X Y f = true) : ptO X (fS p 0 Y) f = ng p (ptO X Y f) ∧ (f = true → X = 0 ∧ fS p 0 Y = 0) := by
  obtain ⟨h1, h2⟩ := (onB_iff hp).1 ho
  have hp1 := hp.1
  cases f with
  | true =>
    obtain ⟨rfl, rfl⟩ := h2 rfl
    refine ⟨rfl, fun _ => ⟨rfl, ?_⟩⟩
    unfold fS lessV
    rw [Nat.zero_mod, if_neg (by omega)]
  | false =>
    have hY : Y < p := h1.2.1
    refine ⟨?_, fun h => by cases h⟩
    show Pt.A X (fS p 0 Y) = Pt.A X ((p - Y) % p)
    congr 1
    unfold fS lessV
    rw [Nat.zero_mod, Nat.mod_eq_of_lt hY]
    split
    · rw [Nat.mod_eq_of_lt (by omega)]; omega
    · obtain rfl : Y = 0 := by omega
      simp
theorem Lf.of3 {w wN : World} {a b c : List Value} {ax : List (Value × Nat)} (h : Fm w wN [(45, a), (45, b), (45, c)] [] []) (ha : ∀ q ∈ ax, Nu w q.1 q.2) : Lf w wN [(w.heap.size + 2, c), (w.heap.size + 1, b), (w.heap.size, a)] ax [] := by
  refine ⟨fun q hq => ?_, fun q hq => (ha q hq).below h.bel (Nat.le_refl _), fun q hq => (by cases hq), h.bel⟩
  simp only [List.mem_cons, List.not_mem_nil, or_false] at hq
  rcases hq with rfl | rfl | rfl
  · exact h.bx 2 (by simp)
  · exact h.bx 1 (by simp)
  · exact h.bx 0 (by simp)
end Go.Proofs.YtnifjhmjpbihoaaGreatDoor
