import Derived.Test.YtefpjjonmoofpaaDoorShAwake
import Derived.Deep.DeepAppendWide
import Derived.OwnWalk
namespace Go.Proofs.YtefpjjonmoofpaaDoor.Sha
open Go.RowKit
set_option maxRecDepth 100000

theorem infoBs : (Tryd.prog.info? 23).map (fun i => (i.zero, i.size, i.bytes)) = some (some (.slice none 0 0), 1, 24) := by kernel_rfl

theorem own_below {w w' : World} {base n k : Nat} {e : TypeId} {v : Value} {xs : List Value} (h : w.ownsRow base e 1 v n xs) (hb : Below k w w') (hk : w.heap.size ≤ k) : w'.ownsRow base e 1 v n xs := by
  refine ⟨h.1, ?_⟩
  rcases h.2 with h0 | ⟨g, cap, cur, e, hg, hh, r⟩
  · exact .inl h0
  · exact .inr ⟨g, cap, cur, e, hg, by rw [hb.block g (Nat.lt_of_lt_of_le (Array.getElem?_eq_some_iff.1 hh).1 hk)]; exact hh, r⟩
theorem own_but {w w' : World} {base n b : Nat} {e : TypeId} {v : Value} {xs : List Value} (h : w.ownsRow base e 1 v n xs) (hb : But w w' b) (hk : b < base) : w'.ownsRow base e 1 v n xs := by
  refine ⟨h.1, ?_⟩
  rcases h.2 with h0 | ⟨g, cap, cur, e, hg, hh, r⟩
  · exact .inl h0
  · exact .inr ⟨g, cap, cur, e, hg, by rw [hb.block g (Array.getElem?_eq_some_iff.1 hh).1 (by omega)]; exact hh, r⟩
theorem own_drewN {w : World} {base n : Nat} {e : TypeId} {v : Value} {xs : List Value} (h : w.ownsRow base e 1 v n xs) (q : Nat) : (w.drewN q).ownsRow base e 1 v n xs := h
theorem own_block {w : World} {base n : Nat} {e : TypeId} {v : Value} {xs : List Value} (h : w.ownsRow base e 1 v n xs) : ∀ k, v.ownBlock = some k → base ≤ k := by
  intro k hk
  rcases h.2 with ⟨rfl, _⟩ | ⟨g, cap, cur, rfl, hg, _⟩
  · cases hk
  · cases hk; exact hg
/-- The parts that a row of one's own holds. -/
theorem own_pts {w : World} {base : Nat} {v : Value} {ps : List Prt} (h : w.ownsRow base 23 1 v ps.length (ps.map prV)) (hp : ∀ p ∈ ps, prOk w p) : ∃ pa pc, v = .slice pa ps.length pc ∧ Pts w pa ps := by
  rcases h.2 with ⟨rfl, hn⟩ | ⟨g, cap, cur, rfl, hg, hh, hn, hm, hs, ht⟩
  · obtain rfl := List.eq_nil_of_length_eq_zero hn
    exact ⟨none, 0, rfl, .inl rfl, hp⟩
  · refine ⟨_, cap, rfl, .inr ⟨g, 0, rfl, fun j hj => ?_⟩, hp⟩
    have h1 := h.cells (g := g) rfl j (prV ps[j]) (by simp [hj])
    rw [Addr.add_mid] at h1
    exact h1

/-- A slice of bytes cut at its end. -/
theorem slice_high (a : Option Addr) (n cap k : Nat) (W : World) (h1 : k ≤ cap) : (Instr.sliceAt 23 (.slice a n cap) none (some (.int .i64 (k : Int))) none).run Tryd.prog W = .ok (.slice a k cap) W := by
  have e0 : Tryd.prog.elem 23 = 5 := by kernel_rfl
  have e2 := run_size1 (P := Tryd.prog) (e := 5) (by kernel_rfl)
  rw [run_sliceAt_slice _ _ _ _ _ _ Tryd.underlying23, run_slice_h W 23 a n cap Tryd.underlying23 .i64 (k : Int) (by omega) (by omega), e0, e2]
  show Result.ok (sliced _ _ _ _ 1) W = _
  unfold sliced
  simp only [Int.toNat_natCast, Nat.zero_mul, Nat.sub_zero]
  congr 2
  split
  · rfl
  · cases a with
    | none => rfl
    | some x => simp [Addr.add]

/-- A slice of bytes cut from its head, wherever it lies. -/
theorem slice_low' (a : Option Addr) (len cap n : Nat) (h1 : n ≤ len) (h2 : len ≤ cap) : ∃ a2, (∀ W, (Instr.sliceAt 23 (.slice a len cap) (some (.int .i64 (n : Int))) none none).run Tryd.prog W = .ok (.slice a2 (len - n) (cap - n)) W) ∧ (∀ g o, a = some ⟨g, o, none⟩ → n < len → a2 = some ⟨g, o + n, none⟩) := by
  have e0 : Tryd.prog.elem 23 = 5 := by kernel_rfl
  have e2 := run_size1 (P := Tryd.prog) (e := 5) (by kernel_rfl)
  refine ⟨if cap = n then a else a.map (·.add n), fun W => ?_, fun g o e hn => ?_⟩
  · rw [run_sliceAt_slice _ _ _ _ _ _ Tryd.underlying23, run_slice_l W 23 a len cap Tryd.underlying23 .i64 (n : Int) (by omega) (by omega), e0, e2]
    show Result.ok (sliced _ _ _ _ 1) W = _
    unfold sliced
    simp only [Int.toNat_natCast, Nat.mul_one]
  · rw [if_neg (by omega), e]
    simp [Addr.add_mid]

end Go.Proofs.YtefpjjonmoofpaaDoor.Sha