import Derived.Test.YtapljedegjiliaaGreatDoorTZ
namespace Go.Proofs.YtapljedegjiliaaGreatDoor
open Go.RowKit Go.Shelf

end Go.Proofs.YtapljedegjiliaaGreatDoor

namespace Go.Proofs.YtapljedegjiliaaGreatDoor
open Go.RowKit Go.Shelf

theorem NR.but {w w' : World} {v : Value} {l : List Nd} {ao : Option Addr} {cap mb : Nat} {m : List (Nat × List UInt8)} (h : NR w v l ao cap) (hm : Mp w mb m) (hb : But w w' mb) : NR w' v l ao cap := by
  refine ⟨h.val, h.cap, ?_⟩
  rcases h.cell with h0 | ⟨g, off, e, hg, hc⟩
  · exact .inl h0
  · refine .inr ⟨g, off, e, Nat.lt_of_lt_of_le hg hb.size, fun j u hu => cell_but (hc j u hu) fun hlt => hb.block g hlt fun e2 => ?_⟩
    subst e2
    obtain ⟨es, clk, hw, _⟩ := hm
    have := hc j u hu
    unfold World.cell? at this
    simp only [hw] at this
    cases this

/-- What the nodes' texts are bound by. -/
def TB (l : List Nd) : Prop := ∀ n ∈ l, n.text.length ≤ 1073741824 ∧ n.key.length ≤ 1073741824
theorem TB.at {l : List Nd} (h : TB l) {i : Nat} (hi : i < l.length) : (l.getD i (nd0 0)).text.length ≤ 1073741824 ∧ (l.getD i (nd0 0)).key.length ≤ 1073741824 := by
  refine h _ ?_
  rw [List.getD_eq_getElem?_getD, List.getElem?_eq_getElem hi]
  exact List.getElem_mem hi

end Go.Proofs.YtapljedegjiliaaGreatDoor

namespace Go.Proofs.YtapljedegjiliaaGreatDoor
open Go.RowKit Go.Shelf

end Go.Proofs.YtapljedegjiliaaGreatDoor

namespace Go.Proofs.YtapljedegjiliaaGreatDoor
open Go.RowKit Go.Shelf

end Go.Proofs.YtapljedegjiliaaGreatDoor
