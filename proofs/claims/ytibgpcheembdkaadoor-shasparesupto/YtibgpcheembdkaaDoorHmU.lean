import Derived.Test.YtibgpcheembdkaaDoorHmT
import Derived.Test.YtibgpcheembdkaaDoorKeep
namespace Go.Proofs.YtibgpcheembdkaaDoor
open Go.RowKit

/-- One byte more behind a row of one's own: all blocks that there were but G stand. -/
theorem app_step {w6 wr : World} {G n : Nat} {v y : Value} {xs : List Value} (hb : But w6 wr G) (hv : ∀ k, v.ownBlock = some k → k = G ∨ w6.heap.size ≤ k) (hown : wr.ownsRow 0 5 1 v n xs) (hy : y.oneCell' = true) (hn : n ≤ 1000000000) :
    ∃ v' w', (Builtin.append_ #[23, 23] 23 #[v, .slice (some ⟨wr.heap.size, 0, none⟩) 1 1]).run Tryd.prog (wr.alloc (.cells #[y] 5)) = .ok v' w' ∧ w'.ownsRow 0 5 1 v' (n + 1) (xs ++ [y]) ∧ But w6 w' G ∧ (∀ k, v'.ownBlock = some k → k = G ∨ w6.heap.size ≤ k) := by
  obtain ⟨i0, hi, hz0, hz1, hz2⟩ := info_parts infoB
  obtain ⟨v', w', hrun, h1, h2, h3, h4⟩ := append_keep (wr.alloc (.cells #[y] 5)) 23 5 23 i0 (.int .u8 0) 1 Tryd.underlying23 hi hz0 hz1 hz2 rfl v n xs (hown.alloc _) ⟨wr.heap.size, 0, none⟩ y (by rw [World.cell?_alloc_at _ _ _ _ rfl]; rfl) hy (by omega) (by unfold maxLen; omega)
  have hs := hb.size
  have ha := alloc_below wr (.cells #[y] 5)
  have hsz := alloc_size wr (.cells #[y] 5)
  refine ⟨v', w', hrun, h1, ⟨?_, ?_, ?_, ?_, fun k hk hne => ?_⟩, fun k hk => ?_⟩
  · rw [h2.os, ha.os, hb.os]
  · rw [h2.tape, ha.tape, hb.tape]
  · rw [h2.output, ha.output, hb.output]
  · have := h2.size; omega
  · rw [h2.block k (by omega) (fun e => ?_), ha.block k (by omega), hb.block k hk hne]
    rcases hv k e.symm with h | h
    · exact hne h
    · omega
  · rcases h3 with h | ⟨g, e, hg⟩
    · exact hv k (by rw [← h]; exact hk)
    · rw [e] at hk
      cases hk
      exact .inr (by omega)

/-- What a law of layer 5 keeps at hand: its key and its text, copied, with the marks behind them. -/
structure HSt (w0 : World) (key data : List UInt8) (gk gd : Nat) (rk rd : List Value) (w : World) : Prop where
  K : Cl w gk ((key ++ mrk).map B ++ rk)
  D : Cl w gd ((data ++ mrk).map B ++ rd)
  bel : Below w0.heap.size w0 w
theorem HSt.below {w0 w w' : World} {key data : List UInt8} {gk gd n : Nat} {rk rd : List Value} (h : HSt w0 key data gk gd rk rd w) (hb : Below n w w') (hn : w.heap.size ≤ n) : HSt w0 key data gk gd rk rd w' :=
  ⟨h.K.below hb (by have := h.K.lt; omega), h.D.below hb (by have := h.D.lt; omega), h.bel.trans (hb.mono (by have := h.bel.size; omega))⟩
theorem HSt.but {w0 w w' : World} {key data : List UInt8} {gk gd g : Nat} {rk rd : List Value} (h : HSt w0 key data gk gd rk rd w) (hb : But w w' g) (h0 : w0.heap.size ≤ g) (h1 : gk ≠ g) (h2 : gd ≠ g) : HSt w0 key data gk gd rk rd w' :=
  ⟨hb.other h.K h1, hb.other h.D h2, h.bel.trans (hb.below h.bel.size h0)⟩
theorem HSt.drewN {w0 w : World} {key data : List UInt8} {gk gd : Nat} {rk rd : List Value} (h : HSt w0 key data gk gd rk rd w) (q : Nat) : HSt w0 key data gk gd rk rd (w.drewN q) := ⟨h.K, h.D, below_drewN h.bel q⟩
theorem HSt.drew {w0 w : World} {key data : List UInt8} {gk gd : Nat} {rk rd : List Value} (h : HSt w0 key data gk gd rk rd w) : HSt w0 key data gk gd rk rd w.drew := ⟨h.K, h.D, Below.drew h.bel⟩
theorem Rd.drew {w : World} {a : Option Addr} {l : List UInt8} (h : Rd w a l) : Rd w.drew a l := h
theorem HSt.kr {w0 w : World} {key data : List UInt8} {gk gd : Nat} {rk rd : List Value} (h : HSt w0 key data gk gd rk rd w) : Rd w (some ⟨gk, 0, none⟩) key := clr_rd (r := mrk.map B ++ rk) (by rw [← List.append_assoc, ← List.map_append]; exact h.K)
theorem HSt.dr {w0 w : World} {key data : List UInt8} {gk gd : Nat} {rk rd : List Value} (h : HSt w0 key data gk gd rk rd w) : Rd w (some ⟨gd, 0, none⟩) data := clr_rd (r := mrk.map B ++ rd) (by rw [← List.append_assoc, ← List.map_append]; exact h.D)

/-- The answer of a sum as a row of one's own. -/
theorem own_row0 {w : World} {B0 n : Nat} {a : Option Addr} {l : List UInt8} (h : Own w B0 a l) (hl : l.length = n) (hn : n ≤ 1000000) : w.ownsRow 0 5 1 (.slice a n n) n (l.map B) := by
  refine ⟨by simpa using hl, ?_⟩
  rcases h with ⟨rfl, rfl⟩ | ⟨g, rfl, _, hb⟩
  · simp at hl
    subst hl
    exact .inl ⟨rfl, rfl⟩
  · refine .inr ⟨g, n, _, rfl, Nat.zero_le _, hb, Nat.le_refl _, by unfold maxLen; omega, by simpa using hl, ?_⟩
    rw [List.toList_toArray, List.take_of_length_le (by simp [hl])]
theorem Own.length_block {w : World} {B0 : Nat} {a : Option Addr} {l : List UInt8} (h : Own w B0 a l) (k : Nat) (n : Nat) (hk : (Value.slice a n n).ownBlock = some k) : B0 ≤ k ∧ k < w.heap.size := by
  rcases h with ⟨rfl, _⟩ | ⟨g, rfl, hg, hb⟩
  · cases hk
  · cases hk; exact ⟨hg, hb.lt⟩

end Go.Proofs.YtibgpcheembdkaaDoor
