import Derived.Test.YtnccalbeidkeiabKeep
import Derived.Test.YtnccalbeidkeiabFacts
import Derived.Test.YtnccalbeidkeiabAwake
namespace Go.Proofs.Ytnccalbeidkeiab
open Go.RowKit

theorem ownsRow0 {w : World} {base : Nat} {e : TypeId} {v : Value} {n : Nat} {xs : List Value} (h : w.ownsRow base e 1 v n xs) : w.ownsRow 0 e 1 v n xs := by
  refine ⟨h.1, ?_⟩
  rcases h.2 with h0 | ⟨g, cap, cur, e1, hb, r⟩
  · exact .inl h0
  · exact .inr ⟨g, cap, cur, e1, Nat.zero_le _, r⟩

/-- An answer of bytes: a slice over a row of its own, from B0 on. -/
theorem Ans.own {w : World} {B0 : Nat} {v : Value} {o : Option (List UInt8)} (h : Ans w B0 v o) : ∃ ao cap, v = .slice ao (o.getD []).length cap ∧ w.ownsRow 0 5 1 v (o.getD []).length ((o.getD []).map B) ∧ ∀ g, v.ownBlock = some g → B0 ≤ g ∧ g < w.heap.size := by
  cases o with
  | none =>
    have h' : v = .slice none 0 0 := h
    subst h'
    exact ⟨none, 0, rfl, World.ownsRow_nil _ _ _ _, fun g hg => by cases hg⟩
  | some bs =>
    obtain ⟨g, cap, hg, hv, hown⟩ := h
    exact ⟨_, cap, hv, ownsRow0 hown, fun k hk => hown.lt k hk⟩

theorem own_read {w : World} {n : Nat} {ao : Option Addr} {cap : Nat} {l : List UInt8} (h : w.ownsRow 0 5 1 (.slice ao n cap) n (l.map B)) : Rd w ao l := by
  have hl : l.length = n := by have := h.1; simpa using this
  rcases h.2 with ⟨h0, rfl⟩ | ⟨g, cap', cur, e1, _⟩
  · exact .inl (List.eq_nil_of_length_eq_zero hl)
  · cases e1
    subst hl
    exact (Rd.ofOwn h).1

theorem own_some {w : World} {n : Nat} {ao : Option Addr} {cap : Nat} {xs : List Value} (h : w.ownsRow 0 5 1 (.slice ao n cap) n xs) (hn : 0 < n) : ∃ g, ao = some ⟨g, 0, none⟩ := by
  rcases h.2 with ⟨_, rfl⟩ | ⟨g, cap', cur, e1, _⟩
  · omega
  · cases e1; exact ⟨g, rfl⟩

/-- A byte written over one of a row that is being filled. -/
theorem fill_step {w : World} {g n c k : Nat} {l : List UInt8} (y : UInt8) (h : w.ownsRow 0 5 1 (.slice (some ⟨g, 0, none⟩) n c) n ((List.replicate k y ++ l.drop k).map B)) (hl : l.length = n) (hk : k < n) :
    (∃ u, w.cell? ⟨g, k, none⟩ = some (.int .u8 u)) ∧ w.frozen? ⟨g, k, none⟩ = false ∧ (w.setCell ⟨g, k, none⟩ (B y)).ownsRow 0 5 1 (.slice (some ⟨g, 0, none⟩) n c) n ((List.replicate (k + 1) y ++ l.drop (k + 1)).map B) ∧ w.grownBy (w.setCell ⟨g, k, none⟩ (B y)) (some g) := by
  refine ⟨?_, h.frozenAt k, ?_, (h.stored k (B y)).2⟩
  · rw [h.cellAt k (by omega), List.getElem?_map, List.getElem?_append_right (by simp), List.length_replicate, Nat.sub_self, List.getElem?_drop, Nat.add_zero, List.getElem?_eq_getElem (by omega)]
    exact ⟨_, rfl⟩
  · have hs := (h.stored k (B y)).1
    rw [← List.map_set] at hs
    have e : (List.replicate k y ++ l.drop k).set k y = List.replicate (k + 1) y ++ l.drop (k + 1) := by
      rw [List.set_append_right _ _ (by simp), List.length_replicate, Nat.sub_self, List.drop_eq_getElem_cons (by omega), List.set_cons_zero, List.replicate_succ', List.append_assoc]
      rfl
    rw [e] at hs
    exact hs

theorem block_ne {v : Value} {a b : Nat} {r : Option Nat} (h : ∀ g, v.ownBlock = some g → a ≤ g ∧ g < b) (hr : ∀ g, r = some g → g < a ∨ b ≤ g) : v.ownBlock = none ∨ v.ownBlock ≠ r := by
  cases hv : v.ownBlock with
  | none => exact .inl rfl
  | some g =>
    right
    intro e
    have h1 := h g hv
    have h2 := hr g e.symm
    omega

theorem decU_len (s : List UInt8) : ((decU s).1.getD []).length ≤ s.length := by
  rcases decU_cases s with ⟨b, h1, h2⟩ | ⟨e, p, h1, _⟩
  · rw [h1]
    have := enc_length urlRow b
    rw [h2] at this
    show b.length ≤ _
    omega
  · rw [h1]; simp

theorem decS_len (s : List UInt8) : ((decS s).1.getD []).length ≤ s.length := by
  rcases decS_cases s with ⟨b, h1, h2⟩ | ⟨e, p, h1, _⟩
  · rw [h1]
    have h3 := enc_length stdRow b
    have h4 : (enc stdRow b ++ fill b.length).length = s.length := by rw [h2]
    rw [List.length_append] at h4
    show b.length ≤ _
    omega
  · rw [h1]; simp

theorem grown_drewN (w : World) (n : Nat) (row : Option Nat) : w.grownBy (w.drewN n) row := ⟨rfl, rfl, rfl, Nat.le_refl _, fun _ _ _ => rfl⟩

end Go.Proofs.Ytnccalbeidkeiab
