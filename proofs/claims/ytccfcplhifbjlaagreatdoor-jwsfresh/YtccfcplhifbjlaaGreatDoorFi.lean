import Derived.Test.YtccfcplhifbjlaaGreatDoorFh
import Derived.Test.YtccfcplhifbjlaaGreatDoorTal
namespace Go.Proofs.YtccfcplhifbjlaaGreatDoor
open Go.RowKit
set_option maxRecDepth 100000

theorem db_sz (l : List UInt8) (hl : l.length ≤ 65536) : (dbF l).length ≤ 100000000 := by
  unfold dbF
  rcases B64.decU_cases l with ⟨b, e, he⟩ | ⟨x, y, e, _⟩
  · rw [e]
    have h := B64.enc_length B64.urlRow b
    rw [he] at h
    show b.length ≤ _
    omega
  · rw [e]
    show 0 ≤ _
    omega
theorem dcF_sz (t : List UInt8) : (dcF t).1.1.length ≤ 100000000 ∧ (dcF t).1.2.1.length ≤ 100000000 ∧ (dcF t).1.2.2.length ≤ 100000000 := by
  obtain ⟨l1, l2, l3⟩ := splF_len t
  unfold dcF
  split
  · simp
  · split
    · simp
    · split
      · simp
      · split
        · simp
        · exact ⟨db_sz _ l1, db_sz _ l2, db_sz _ l3⟩

def mB (j : Nat) : UInt8 := UInt8.ofNat (1 + j)
def nB (j : Nat) : UInt8 := UInt8.ofNat (11 + j)

/-- Three rows of one's own, each below N1. -/
structure FV (N0 N1 : Nat) (w3 W : World) (A : Nat → Option Addr) (n C : Nat → Nat) (L : Nat → List UInt8) : Prop where
  hi : Hi N0 N1 w3 W
  o : ∀ j, j < 3 → Owb W N0 (.slice (A j) (n j) (C j)) (L j)
  b : ∀ j, j < 3 → ∀ g, (Value.slice (A j) (n j) (C j)).ownBlock = Option.some g → N0 ≤ g ∧ g < N1
  t : ∀ j k, j < 3 → k < 3 → j ≠ k → Apt (.slice (A j) (n j) (C j)) (.slice (A k) (n k) (C k))
  s : N1 ≤ w3.heap.size
theorem FV.len {N0 N1 : Nat} {w3 W : World} {A : Nat → Option Addr} {n C : Nat → Nat} {L : Nat → List UInt8} (h : FV N0 N1 w3 W A n C L) (j : Nat) (hj : j < 3) : (L j).length = n j := by
  obtain ⟨a, c, e, _⟩ := (h.o j hj).nb
  injection e with e1 e2 e3
  exact e2.symm
theorem FV.drewN {N0 N1 : Nat} {w3 W : World} {A : Nat → Option Addr} {n C : Nat → Nat} {L : Nat → List UInt8} (h : FV N0 N1 w3 W A n C L) (q : Nat) : FV N0 N1 w3 (W.drewN q) A n C L :=
  ⟨h.hi.below (below_drewN (Below.refl _ _) _), fun j hj => (h.o j hj).drewN q, h.b, h.t, h.s⟩
theorem FV.below {N0 N1 : Nat} {w3 W W' : World} {A : Nat → Option Addr} {n C : Nat → Nat} {L : Nat → List UInt8} (h : FV N0 N1 w3 W A n C L) (hb : Below W.heap.size W W') : FV N0 N1 w3 W' A n C L :=
  ⟨h.hi.below hb, fun j hj => (h.o j hj).below hb (Nat.le_refl _), h.b, h.t, h.s⟩

/-- Row i is marked up to k, those before it whole. -/
def F1 (N0 N1 : Nat) (w3 W : World) (A : Nat → Option Addr) (n C : Nat → Nat) (i k : Nat) : Prop :=
  ∃ L, FV N0 N1 w3 W A n C L ∧ (∀ j, j < i → j < 3 → L j = List.replicate (n j) (mB j)) ∧ ∀ q, q < k → (L i).getD q 0 = mB i
theorem F1.step {N0 N1 : Nat} {w3 W : World} {A : Nat → Option Addr} {n C : Nat → Nat} {i k : Nat} (h : F1 N0 N1 w3 W A n C i k) (hi : i < 3) (hk : k < n i) :
    ∃ g x, A i = Option.some ⟨g, 0, none⟩ ∧ n i ≤ C i ∧ C i ≤ 9223372036854775807 ∧ W.cell? ⟨g, k, none⟩ = Option.some (.int .u8 x) ∧ W.frozen? ⟨g, k, none⟩ = false ∧ F1 N0 N1 w3 (W.setCell ⟨g, k, none⟩ (.int .u8 ((mB i).toNat : Int))) A n C i (k + 1) := by
  obtain ⟨L, hv, h1, h2⟩ := h
  have hl := hv.len i hi
  obtain ⟨g, e, _, hc, hm, _, _⟩ := (hv.o i hi).some (by omega)
  have ho := hv.o i hi
  rw [e] at ho
  unfold maxLen at hm
  have hg := hv.b i hi g (by rw [e]; rfl)
  refine ⟨g, _, e, by omega, by omega, ho.cell k (by omega), ho.frozen k, fun j => if j = i then (L i).set k (mB i) else L j, ⟨hv.hi.set hg.1 hg.2 k _, fun j hj => ?_, hv.b, hv.t, hv.s⟩, fun j hj hj3 => ?_, fun q hq => ?_⟩
  · by_cases eji : j = i
    · subst eji
      rw [if_pos rfl, e]
      exact ho.put k (mB j)
    · rw [if_neg eji]
      refine (hv.o j hj).setOther (fun e2 => ?_)
      exact hv.t j i hj hi eji g e2 (by rw [e]; rfl)
  · show (if j = i then (L i).set k (mB i) else L j) = _
    rw [if_neg (by omega)]
    exact h1 j hj hj3
  · show (if i = i then (L i).set k (mB i) else L i).getD q 0 = _
    rw [if_pos rfl, List.getD_eq_getElem?_getD, List.getElem?_set]
    by_cases ek : k = q
    · subst ek; simp [hl, hk]
    · rw [if_neg ek, ← List.getD_eq_getElem?_getD]
      exact h2 q (by omega)
theorem F1.next {N0 N1 : Nat} {w3 W : World} {A : Nat → Option Addr} {n C : Nat → Nat} {i k : Nat} (h : F1 N0 N1 w3 W A n C i k) (hi : i < 3) (hk : k = n i) : F1 N0 N1 w3 W A n C (i + 1) 0 := by
  obtain ⟨L, hv, h1, h2⟩ := h
  subst hk
  refine ⟨L, hv, fun j hj hj3 => ?_, fun q hq => by omega⟩
  by_cases e : j = i
  · subst e
    have hl := hv.len j hi
    apply List.ext_getElem
    · simp [hl]
    · intro q h3 h4
      have := h2 q (by omega)
      rw [List.getD_eq_getElem?_getD, List.getElem?_eq_getElem h3] at this
      simpa using this
  · exact h1 j (by omega) hj3
/-- All three rows marked. -/
abbrev FM (N0 N1 : Nat) (w3 W : World) (A : Nat → Option Addr) (n C : Nat → Nat) : Prop := FV N0 N1 w3 W A n C fun j => List.replicate (n j) (mB j)
theorem F1.done {N0 N1 : Nat} {w3 W : World} {A : Nat → Option Addr} {n C : Nat → Nat} {k : Nat} (h : F1 N0 N1 w3 W A n C 3 k) : FM N0 N1 w3 W A n C := by
  obtain ⟨L, hv, h1, _⟩ := h
  exact ⟨hv.hi, fun j hj => by rw [← h1 j hj hj]; exact hv.o j hj, hv.b, hv.t, hv.s⟩

/-- The rows that were gone on with, in a list of one's own. -/
structure F2 (N0 N1 : Nat) (w3 W : World) (A : Nat → Option Addr) (n C : Nat → Nat) (M : List Value) (v : Value) : Prop where
  f : FM N0 N1 w3 W A n C
  l : OL W w3.heap.size v M
  m : ∀ j x, M[j]? = Option.some x → Owb W 0 x (List.replicate (n j) (mB j) ++ List.replicate 70 (nB j)) ∧ (x.ownBlock = (Value.slice (A j) (n j) (C j)).ownBlock ∨ ∃ g, x.ownBlock = Option.some g ∧ N1 ≤ g)
theorem F2.grow {N0 N1 : Nat} {w3 W W' : World} {A : Nat → Option Addr} {n C : Nat → Nat} {M : List Value} {v more : Value} {ys : List UInt8} {i : Nat} (h : F2 N0 N1 w3 W A n C M v) (hi : i = M.length) (hi3 : i < 3) (hm : Mr W W' (.slice (A i) (n i) (C i)) more (List.replicate (n i) (mB i)) ys) : F2 N0 N1 w3 W' A n C M v := by
  refine ⟨⟨h.f.hi.grown hm.g (fun g e => .inl (h.f.b i hi3 g e)), fun j hj => ?_, h.f.b, h.f.t, h.f.s⟩, ?_, fun j x hx => ⟨?_, (h.m j x hx).2⟩⟩
  · by_cases e : j = i
    · subst e
      have hb := hm.b
      have h0 := h.f.o j hj
      refine ⟨hb.1, ?_⟩
      rcases hb.2 with h0 | ⟨g, cap, cur, e, _, r⟩
      · exact .inl h0
      · exact .inr ⟨g, cap, cur, e, (h.f.b j hj g (by rw [e]; rfl)).1, r⟩
    · exact (h.f.o j hj).grown hm.g (fun g e1 e2 => h.f.t j i hj hi3 e g e1 e2)
  · exact own_keep h.l fun g e => hm.g.block g (h.l.lt g e).2 (fun e2 => by
      have h1 := (h.l.lt g e).1
      have h2 := h.f.b i hi3 g (by first | exact e2 | exact e2.symm)
      have := h.f.s
      omega)
  · have hj : j < M.length := (List.getElem?_eq_some_iff.1 hx).1
    refine (h.m j x hx).1.grown hm.g (fun g e1 e2 => ?_)
    rcases (h.m j x hx).2 with e | ⟨g', e, hg⟩
    · exact h.f.t j i (by omega) hi3 (by omega) g (by rw [← e]; exact e1) e2
    · have := h.f.b i hi3 g e2
      rw [e] at e1
      injection e1 with e1
      omega
theorem F2.app {N0 N1 : Nat} {w3 W W1 W2 : World} {A : Nat → Option Addr} {n C : Nat → Nat} {M : List Value} {v v2 x : Value} {i : Nat} (h : F2 N0 N1 w3 W A n C M v) (hi : i = M.length) (hx : Owb W 0 x (List.replicate (n i) (mB i) ++ List.replicate 70 (nB i))) (hb : x.ownBlock = (Value.slice (A i) (n i) (C i)).ownBlock ∨ ∃ g, x.ownBlock = Option.some g ∧ N1 ≤ g)
    (hB : Below W.heap.size W W1) (hg : W1.grownBy W2 v.ownBlock) (ho : OL W2 w3.heap.size v2 (M ++ [x])) : F2 N0 N1 w3 W2 A n C (M ++ [x]) v2 := by
  have l1 : OL W1 w3.heap.size v M := own_below h.l hB (Nat.le_refl _)
  have f1 := h.f.below hB
  refine ⟨⟨f1.hi.grown hg (fun g e => .inr (h.l.lt g e).1), fun j hj => (f1.o j hj).grownL l1 hg, h.f.b, h.f.t, h.f.s⟩, ho, fun j y hy => ?_⟩
  by_cases hj : j < M.length
  · rw [List.getElem?_append_left hj] at hy
    exact ⟨((h.m j y hy).1.below hB (Nat.le_refl _)).grownL l1 hg, (h.m j y hy).2⟩
  · have hj2 := (List.getElem?_eq_some_iff.1 hy).1
    rw [List.length_append, List.length_singleton] at hj2
    obtain rfl : j = M.length := by omega
    rw [List.getElem?_append_right (Nat.le_refl _), Nat.sub_self] at hy
    cases hy
    subst hi
    exact ⟨(hx.below hB (Nat.le_refl _)).grownL l1 hg, hb⟩
theorem F2.drewN {N0 N1 : Nat} {w3 W : World} {A : Nat → Option Addr} {n C : Nat → Nat} {M : List Value} {v : Value} (h : F2 N0 N1 w3 W A n C M v) (q : Nat) : F2 N0 N1 w3 (W.drewN q) A n C M v :=
  ⟨h.f.drewN q, h.l, fun j x hx => ⟨(h.m j x hx).1.drewN q, (h.m j x hx).2⟩⟩

theorem mB_val {i : Nat} (h : i < 3) : ((mB i).toNat : Int) = 1 + (i : Int) := by
  match i, h with
  | 0, _ => rfl
  | 1, _ => rfl
  | 2, _ => rfl
theorem nB_val {i : Nat} (h : i < 3) : ((nB i).toNat : Int) = 11 + (i : Int) := by
  match i, h with
  | 0, _ => rfl
  | 1, _ => rfl
  | 2, _ => rfl
theorem OL.nil (W : World) (B0 : Nat) : OL W B0 (.slice none 0 0) [] := ⟨rfl, .inl ⟨rfl, rfl⟩⟩
theorem OL.sl {W : World} {B0 : Nat} {v : Value} {M : List Value} (h : OL W B0 v M) : ∃ a c, v = .slice a M.length c := by
  rcases h.2 with ⟨rfl, h0⟩ | ⟨g, cap, cur, rfl, _⟩
  · exact ⟨none, 0, by rw [h0]⟩
  · exact ⟨_, cap, rfl⟩
theorem OL.cell {W : World} {B0 : Nat} {v : Value} {M : List Value} (h : OL W B0 v M) (h0 : 0 < M.length) : ∃ g c, v = .slice (Option.some ⟨g, 0, none⟩) M.length c ∧ M.length ≤ c ∧ c ≤ 9223372036854775807 ∧ ∀ j m, M[j]? = Option.some m → W.cell? ⟨g, j, none⟩ = Option.some m := by
  have hh := h
  rcases h.2 with ⟨_, h1⟩ | ⟨g, cap, cur, rfl, hg, hc, hn, hm, _⟩
  · omega
  · unfold maxLen at hm
    refine ⟨g, cap, rfl, hn, by omega, fun j m hj => ?_⟩
    have hlt := (List.getElem?_eq_some_iff.1 hj).1
    rw [World.ownsRow.cellAt hh j (by omega)]
    exact hj
theorem FV.row {N0 N1 : Nat} {w3 W : World} {A : Nat → Option Addr} {n C : Nat → Nat} (h : FM N0 N1 w3 W A n C) {i k : Nat} (hi : i < 3) (hk : k < n i) : ∃ g, A i = Option.some ⟨g, 0, none⟩ ∧ n i ≤ C i ∧ C i ≤ 9223372036854775807 ∧ W.cell? ⟨g, k, none⟩ = Option.some (.int .u8 (1 + (i : Int))) := by
  have ho := h.o i hi
  have hl : (List.replicate (n i) (mB i)).length = n i := by simp
  obtain ⟨g, e, _, hc, hm, _, _⟩ := ho.some (by omega)
  rw [e] at ho
  unfold maxLen at hm
  refine ⟨g, e, by omega, by omega, ?_⟩
  have := ho.cell k (by omega)
  rw [List.getD_eq_getElem?_getD, List.getElem?_replicate, if_pos hk, Option.getD_some, mB_val hi] at this
  exact this
theorem F2.row {N0 N1 : Nat} {w3 W : World} {A : Nat → Option Addr} {n C : Nat → Nat} {M : List Value} {v : Value} (h : F2 N0 N1 w3 W A n C M v) (hM : M.length = 3) {i : Nat} (hi : i < 3) :
    ∃ g c, M[i]? = Option.some (.slice (Option.some ⟨g, 0, none⟩) (n i + 70) c) ∧ n i + 70 ≤ c ∧ c ≤ 9223372036854775807 ∧ (∀ k, k < n i → W.cell? ⟨g, k, none⟩ = Option.some (.int .u8 (1 + (i : Int)))) ∧ ∀ k, n i ≤ k → k < n i + 70 → W.cell? ⟨g, k, none⟩ = Option.some (.int .u8 (11 + (i : Int))) := by
  obtain ⟨x, hx⟩ : ∃ x, M[i]? = Option.some x := ⟨M[i], List.getElem?_eq_getElem (by omega)⟩
  have ho := (h.m i x hx).1
  have hl : (List.replicate (n i) (mB i) ++ List.replicate 70 (nB i)).length = n i + 70 := by simp
  obtain ⟨a, c, e, _, _⟩ := ho.nb
  subst e
  obtain ⟨g, e, _, hc, hm, _, _⟩ := ho.some (by omega)
  subst e
  rw [hl] at hx
  unfold maxLen at hm
  refine ⟨g, c, hx, by omega, by omega, fun k hk => ?_, fun k h1 h2 => ?_⟩
  · have := ho.cell k (by omega)
    rw [List.getD_eq_getElem?_getD, List.getElem?_append_left (by simp; omega), List.getElem?_replicate, if_pos hk, Option.getD_some, mB_val hi] at this
    exact this
  · have := ho.cell k (by omega)
    rw [List.getD_eq_getElem?_getD, List.getElem?_append_right (by simp; omega), List.getElem?_replicate, if_pos (by simp; omega), Option.getD_some, nB_val hi] at this
    exact this

end Go.Proofs.YtccfcplhifbjlaaGreatDoor
