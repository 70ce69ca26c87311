import Derived.Test.YtpfdaclmchcbiaaDoorB6Dec
namespace Go.Proofs.YtpfdaclmchcbiaaDoor.B64
open Go.RowKit
set_option maxRecDepth 100000

theorem Rd.ofOwn {w : World} {base g cap : Nat} {l : List UInt8} (h : w.ownsRow base 5 1 (.slice (some ⟨g, 0, none⟩) l.length cap) l.length (l.map B)) : Rd w (some ⟨g, 0, none⟩) l ∧ l.length ≤ cap := by
  refine ⟨.inr ⟨g, 0, rfl, (h.lt g rfl).2, fun j hj => ?_⟩, ?_⟩
  · rw [Nat.zero_add, h.cellAt j (by omega)]
    simp [hj]
  · rcases h.2 with ⟨h0, _⟩ | ⟨g', cap', cur, e, _, _, hn, _⟩
    · cases h0
    · cases e; exact hn

theorem Rd.drewN {w : World} {ao : Option Addr} {l : List UInt8} (h : Rd w ao l) (q : Nat) : Rd (w.drewN q) ao l := h

theorem Ans.rd {w : World} {B0 : Nat} {v : Value} {bs : List UInt8} (h : Ans w B0 v (some bs)) : ∃ g cap, v = .slice (some ⟨g, 0, none⟩) bs.length cap ∧ B0 ≤ g ∧ bs.length ≤ cap ∧ Rd w (some ⟨g, 0, none⟩) bs := by
  obtain ⟨g, cap, hg, rfl, hown⟩ := h
  have := Rd.ofOwn hown
  exact ⟨g, cap, rfl, hg, this.2, this.1⟩

theorem take_iff {l1 l2 : List UInt8} {k : Nat} (h1 : k < l1.length) (h2 : k < l2.length) (h : l1.take k = l2.take k) : l1[k] = l2[k] ↔ l1.take (k + 1) = l2.take (k + 1) := by
  rw [List.take_succ_eq_append_getElem h1, List.take_succ_eq_append_getElem h2, h]
  constructor
  · intro e; rw [e]
  · intro e
    have := List.append_cancel_left e
    exact (List.cons.inj this).1

theorem ne_byte (x y : UInt8) : ((x.toNat : Int) != (y.toNat : Int)) = !decide (x = y) := by
  by_cases h : x = y
  · subst h; simp
  · have : x.toNat ≠ y.toNat := fun e => h (UInt8.toNat_inj.1 e)
    simp [h]; omega

end Go.Proofs.YtpfdaclmchcbiaaDoor.B64