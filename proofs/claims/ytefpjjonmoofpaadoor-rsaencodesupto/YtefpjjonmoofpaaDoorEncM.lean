import Derived.Test.YtefpjjonmoofpaaDoorREnc
import Derived.Test.YtefpjjonmoofpaaDoorKeepR
import Derived.Test.YtefpjjonmoofpaaDoorStill
import Derived.Test.YtefpjjonmoofpaaDoorTurn
namespace Go.Proofs.YtefpjjonmoofpaaDoor
open Go.RowKit

theorem encV_length (h : Int) (m : List UInt8) (size : Int) : (encV h m size).length ≤ 512 := by
  unfold encV
  by_cases he : ecode h size = 0
  · rw [if_pos he]
    have he2 := he
    unfold ecode at he2
    by_cases h1 : isHB h = false
    · rw [if_pos h1] at he2; cases he2
    rw [if_neg h1] at he2
    by_cases h2 : size < 30 + Sha.siz h ∨ 512 < size
    · rw [if_pos h2] at he2; cases he2
    rw [emV_length h m size.toNat (by omega)]
    omega
  · rw [if_neg he]; simp
/-- A row of one's own, as a slice. -/
theorem Owb.form {w : World} {base : Nat} {v : Value} {l : List UInt8} (h : Owb w base v l) : ∃ a c, v = .slice a l.length c ∧ Rd w a l := by
  obtain ⟨a, c, e, _, hr⟩ := h.nb
  exact ⟨a, c, e, hr⟩
/-- What stays beside the row that is written over. -/
structure Oth (W wr : World) (gm km B1 B2 : Nat) (l E : List UInt8) (v2 v3 : Value) : Prop where
  ln : Ln wr W.heap.size gm km l
  two : Owb wr B2 v2 E
  b : Owb wr B2 v3 E
  bel : Below W.heap.size W wr
  g1 : gm < B1
  w1 : W.heap.size ≤ B1
  b12 : B1 ≤ B2
  bs : B2 ≤ wr.heap.size
theorem Oth.below {W w w' : World} {gm km B1 B2 : Nat} {l E : List UInt8} {v2 v3 : Value} (h : Oth W w gm km B1 B2 l E v2 v3) (hb : Below w.heap.size w w') : Oth W w' gm km B1 B2 l E v2 v3 :=
  ⟨h.ln.below hb (Nat.le_refl _), h.two.below hb (Nat.le_refl _), h.b.below hb (Nat.le_refl _), h.bel.trans (hb.mono h.bel.size), h.g1, h.w1, h.b12, Nat.le_trans h.bs hb.size⟩
theorem Oth.drewN {W w : World} {gm km B1 B2 : Nat} {l E : List UInt8} {v2 v3 : Value} (h : Oth W w gm km B1 B2 l E v2 v3) (q : Nat) : Oth W (w.drewN q) gm km B1 B2 l E v2 v3 := ⟨h.ln, h.two, h.b, below_drewN h.bel q, h.g1, h.w1, h.b12, h.bs⟩
theorem Oth.chg {W w w' : World} {gm km B1 B2 : Nat} {l E : List UInt8} {v2 v3 : Value} (h : Oth W w gm km B1 B2 l E v2 v3) (hc : Chg B1 B2 w w') : Oth W w' gm km B1 B2 l E v2 v3 := by
  refine ⟨h.ln.chg hc h.g1, h.two.chg hc (Nat.le_refl _), h.b.chg hc (Nat.le_refl _), h.bel.trans ?_, h.g1, h.w1, h.b12, Nat.le_trans h.bs hc.size⟩
  exact ⟨hc.os, hc.tape, hc.output, hc.size, fun k hk => hc.block k (Nat.lt_of_lt_of_le hk h.bel.size) (.inl (Nat.lt_of_lt_of_le hk h.w1))⟩

theorem fill_set (n i : Nat) (E : List UInt8) (hE : E.length = n) (hi : i < n) : ((List.replicate i (119 : UInt8) ++ E.drop i).map B).set i (B 119) = (List.replicate (i + 1) (119 : UInt8) ++ E.drop (i + 1)).map B := by
  rw [← List.map_set, List.set_append_right _ _ (by simp), List.length_replicate, Nat.sub_self, List.drop_eq_getElem_cons (by omega), List.set_cons_zero, List.replicate_succ', List.append_assoc]
  rfl
theorem L2.cellA {lo hi : Nat} {ws wr : World} {more : Value} {g n c j : Nat} (h : L2 lo hi ws wr (.slice (some ⟨g, 0, none⟩) n c) more n j) (i : Nat) (hi2 : i < n) : wr.cell? ⟨g, i, none⟩ = some (.int .u8 119) := by
  rw [h.ownA.cellAt i (by omega), List.getElem?_map, List.getElem?_replicate, if_pos hi2]
  rfl
theorem L2.cellM {lo hi : Nat} {ws wr : World} {va : Value} {g n c j : Nat} (h : L2 lo hi ws wr va (.slice (some ⟨g, 0, none⟩) (n + j) c) n j) (i : Nat) : (i < n → wr.cell? ⟨g, i, none⟩ = some (.int .u8 119)) ∧ (n ≤ i → i < n + j → wr.cell? ⟨g, i, none⟩ = some (.int .u8 120)) := by
  constructor
  · intro hi2
    rw [h.own.cellAt i (by omega), List.getElem?_map, List.getElem?_append_left (by simpa using hi2), List.getElem?_replicate, if_pos hi2]
    rfl
  · intro h1 h2
    rw [h.own.cellAt i (by omega), List.getElem?_map, List.getElem?_append_right (by simpa using h1), List.getElem?_replicate, if_pos (by simp; omega)]
    rfl
theorem L2.later {lo hi : Nat} {ws wr w' : World} {va more : Value} {n j : Nat} (h : L2 lo hi ws wr va more n j) (hb : Below wr.heap.size wr w') : L2 lo hi ws w' va more n j := by
  have hg : wr.grownBy w' none := ⟨hb.os, hb.tape, hb.output, hb.size, fun k hk _ => hb.block k hk⟩
  have e1 : ∀ {v m xs}, wr.ownsRow 0 5 1 v m xs → w'.ownsRow 0 5 1 v m xs := fun {v m xs} ho => by
    rcases ho.2 with h0 | ⟨g, cap, cur, e, hg2, hh, r⟩
    · exact ⟨ho.1, .inl h0⟩
    · exact ⟨ho.1, .inr ⟨g, cap, cur, e, hg2, by rw [hb.block g (Array.getElem?_eq_some_iff.1 hh).1]; exact hh, r⟩⟩
  exact ⟨e1 h.own, e1 h.ownA, h.blk, h.ina, h.his, h.chg.grown hg (fun g e => by cases e)⟩
theorem L2.drewN {lo hi : Nat} {ws wr : World} {va more : Value} {n j : Nat} (h : L2 lo hi ws wr va more n j) (q : Nat) : L2 lo hi ws (wr.drewN q) va more n j := ⟨h.own, h.ownA, h.blk, h.ina, h.his, ⟨h.chg.os, h.chg.tape, h.chg.output, h.chg.size, h.chg.block⟩⟩

end Go.Proofs.YtefpjjonmoofpaaDoor
