import Derived.Test.YtidmjojlhcgedaaTi
namespace Go.Proofs.Ytidmjojlhcgedaa
open Go.RowKit Go.Maps
set_option maxRecDepth 100000

/-- Blocks that are neither the book's two nor the document's, of those that there were, stand as they stood. -/
structure Fr (bb mb : Nat) (w w' : World) : Prop where
  size : w.heap.size ≤ w'.heap.size
  block : ∀ k, k < w.heap.size → k ≠ bb → k ≠ mb → (∀ cs fr, w.heap[k]? ≠ some (.cells cs 74 fr)) → (∀ cs fr, w.heap[k]? ≠ some (.cells cs 78 fr)) → w'.heap[k]? = w.heap[k]?
theorem Fr.refl (bb mb : Nat) (w : World) : Fr bb mb w w := ⟨Nat.le_refl _, fun _ _ _ _ _ _ => rfl⟩
theorem Fr.trans {bb mb : Nat} {a b c : World} (h1 : Fr bb mb a b) (h2 : Fr bb mb b c) : Fr bb mb a c :=
  ⟨Nat.le_trans h1.size h2.size, fun k hk hx hy hn hm => by
    have e := h1.block k hk hx hy hn hm
    exact (h2.block k (Nat.lt_of_lt_of_le hk h1.size) hx hy (by rw [e]; exact hn) (by rw [e]; exact hm)).trans e⟩
theorem Fr.of_md {bb mb : Nat} {w w' : World} (h : Md w w') : Fr bb mb w w' := ⟨h.size, fun k hk _ _ hn hm => h.block k hk hn hm⟩
theorem Fr.of_below {bb mb : Nat} {w w' : World} (h : Below w.heap.size w w') : Fr bb mb w w' := Fr.of_md (Md.of_below h)
theorem Fr.of_chf {bb mb : Nat} {w w' : World} (h : Chf (fun k => k = bb ∨ k = mb) w w') : Fr bb mb w w' := ⟨h.size, fun k hk hx hy _ _ => h.block k hk (fun e => by rcases e with e | e; exact hx e; exact hy e)⟩
theorem Fr.drewN {bb mb : Nat} {a w : World} (h : Fr bb mb a w) (q : Nat) : Fr bb mb a (w.drewN q) := ⟨h.size, h.block⟩
theorem own_fr {w w' : World} {bb mb b0 n s : Nat} {e : TypeId} {v : Value} {xs : List Value} {b : Bk} (h : w.ownsRow b0 e s v n xs) (hB : Bok w bb mb b) (hc : Fr bb mb w w') (h1 : e ≠ 63) (h2 : e ≠ 74) (h3 : e ≠ 78) : w'.ownsRow b0 e s v n xs := by
  refine ⟨h.1, ?_⟩
  rcases h.2 with h0 | ⟨g, cap, cur, e, hg, hh, hr⟩
  · exact .inl h0
  · refine .inr ⟨g, cap, cur, e, hg, ?_, hr⟩
    rw [hc.block g (Array.getElem?_eq_some_iff.1 hh).1 (fun e => ?_) (fun e => ?_) (fun cs fr e => ?_) (fun cs fr e => ?_)]
    · exact hh
    · subst e
      have k1 := hB.cells
      unfold Bl at k1
      rw [hh] at k1
      simp at k1
      exact h1 k1.2
    · subst e
      obtain ⟨es, clock, k1, _⟩ := hB.own
      rw [hh] at k1
      simp at k1
    · rw [hh] at e
      simp at e
      exact h2 e.2.1
    · rw [hh] at e
      simp at e
      exact h3 e.2.1
theorem Owb.fr {w w' : World} {bb mb b0 : Nat} {v : Value} {xs : List UInt8} {b : Bk} (h : Owb w b0 v xs) (hB : Bok w bb mb b) (hc : Fr bb mb w w') : Owb w' b0 v xs := own_fr h hB hc (by decide) (by decide) (by decide)

theorem tells_any (B0 bb mb gm : Nat) (b : Bk) (w : World) (hB : Bok w bb mb b) (hM : Mq w B0 gm b) (hk : BkOk b) :
    Calls Try.prog 26 #[.pointer (some ⟨bb, 0, none⟩), .pointer (some ⟨gm, 0, none⟩)] w fun e w' => e = .returned (.bool true) ∧ Below w.heap.size w w' := by
  have C1 := last_any bb mb b w hB
  have C2 : Hid (∀ q, Calls Try.prog 42 #[.pointer (some ⟨gm, 0, none⟩)] (w.drewN q) fun e w' => e = .returned (.tuple #[.int .i64 b.clk, .bool b.has]) ∧ ∃ q2, w' = (w.drewN q).drewN q2) := fun q => rlast_any B0 gm b _ (hM.drewN q)
  have C3 : Hid (∀ q, Calls Try.prog 18 #[.pointer (some ⟨bb, 0, none⟩)] (w.drewN q) fun e w' => e = .returned (.int .i64 b.L.length) ∧ w' = w.drewN q) := fun q => len_any bb mb b _ (hB.below (below_drewN (Below.refl _ _) q) hB.lt hB.lt2)
  have C4 : Hid (∀ q, Calls Try.prog 43 #[.pointer (some ⟨gm, 0, none⟩)] (w.drewN q) fun e w' => e = .returned (.int .i64 b.L.length) ∧ Below (w.drewN q).heap.size (w.drewN q) w') := fun q => rlen_any B0 gm b _ (hM.drewN q) hk
  clear hB hM hk
  obtain ⟨n, hn⟩ : ∃ n, b.L.length = n := ⟨_, rfl⟩
  rw [hn] at C3 C4
  clear hn
  generalize b.clk = ck at C1 C2
  generalize b.has = hs at C1 C2
  have q1 : ((n : Int) == (n : Int)) = true := by simp
  have q2 : (ck == ck) = true := by simp
  have q3 : (hs == hs) = true := by simp
  go_enter Try.func26, Try.ntmps26
  go_wp2_with fail
  refine C1.mono ?_
  rintro e w1 ⟨rfl, q, rfl⟩
  go_wp2_with fail
  refine (C2.out _).mono ?_
  rintro e w1 ⟨rfl, q2', rfl⟩
  rw [World.drewN_drewN]
  go_wp2_with fail
  refine (C3.out _).mono ?_
  rintro e w1 ⟨rfl, rfl⟩
  go_wp2_with fail
  refine (C4.out _).mono ?_
  rintro e w5 ⟨rfl, hb5⟩
  have hb : Hid (Below w.heap.size w w5) := (below_drewN (Below.refl _ w) _).trans hb5
  clear hb5
  go_wp2_with fail
  go_ret
  exact ⟨by go_num, hb.out⟩

end Go.Proofs.Ytidmjojlhcgedaa
