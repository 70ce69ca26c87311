import Derived.Test.YthnogdkkdekgpaaDoorNtZ7
import Derived.Test.YthnogdkkdekgpaaDoorRsLent
import Derived.Laws.OwnMore
import Derived.Lib.AppendZeros
namespace Go.Proofs.YthnogdkkdekgpaaDoor
open Go.RowKit

set_option maxRecDepth 100000 in
/-- append of one value behind a row of one's own: what was there stays, shorter slices over the same row too. -/
theorem append_keep (w : World) (t e ty : TypeId) (i : TypeInfo) (z : Value) (bytes : Nat) (ht : Tryd.prog.underlying t = some (.slice e)) (hi : Tryd.prog.info? e = some i) (hz : i.zero = some z) (hsize : i.size = 1) (hby : i.bytes = bytes) (hzs : z.cells.size = 1)
    (v : Value) (n : Nat) (xs : List Value) (hown : w.ownsRow 0 e 1 v n xs) (ad : Addr) (u : Value) (hu : w.cell? ad = some u) (h1 : u.oneCell' = true) (hbytes : (n + 1) * bytes ≤ 140737488355328) (hn : n + 1 ≤ maxLen) :
    ∃ v' w', (Builtin.append_ #[t, t] ty #[v, .slice (some ad) 1 1]).run Tryd.prog w = .ok v' w' ∧ w'.ownsRow 0 e 1 v' (n + 1) (xs ++ [u]) ∧ w.grownBy w' v.ownBlock ∧
      (v'.ownBlock = v.ownBlock ∨ ∃ g, v'.ownBlock = some g ∧ w.heap.size ≤ g) ∧ (∀ v2 m ys, m ≤ n → v2.ownBlock = v.ownBlock → w.ownsRow 0 e 1 v2 m ys → w'.ownsRow 0 e 1 v2 m ys) := by
  have hadd : ∀ j u', [u][j]? = some u' → w.cell? (ad.add j) = some u' := fun j u' hj => by
    match j, hj with
    | 0, hj => simp at hj; subst hj; simpa [Addr.add] using hu
  obtain ⟨v', w', hrun, hown', hgr, hnil⟩ := run_append_own (P := Tryd.prog) w 0 t ty e i z 1 bytes ht hi hz hsize hby hzs (by decide) v n xs hown ad 1 1 [u] rfl hadd (fun x hx => by simp at hx; subst hx; exact h1) hn hbytes (Nat.zero_le _)
  refine ⟨v', w', hrun, hown', hgr, ?_⟩
  have keepAlloc : ∀ o v2 m ys, w.ownsRow 0 e 1 v2 m ys → (w.drew.alloc o).ownsRow 0 e 1 v2 m ys := fun o v2 m ys h => World.ownsRow.alloc (w := w.drew) h o
  rcases hown.2 with ⟨rfl, rfl⟩ | ⟨g, cap, cur, rfl, hb, hg, hnc, hcm, hcs, htake⟩
  · have hr := run_append_nil (P := Tryd.prog) w t ty e i z ht hi hz ad 1 1 [u] (by rw [hsize]; rfl) hadd (by decide) (by decide) (by rw [hby]; omega)
    rw [hr] at hrun
    injection hrun with h2 h3
    subst h2; subst h3
    exact ⟨.inr ⟨_, rfl, Nat.le_refl _⟩, fun v2 m ys _ _ h => keepAlloc _ v2 m ys h⟩
  · by_cases hroom : n + 1 ≤ cap
    · have hr := run_append_room (P := Tryd.prog) w t ty e i ht hi g n cap cur hg ad 1 1 [u] (by rw [hsize]; rfl) hadd (fun x hx => by simp at hx; subst hx; exact h1) hroom (by rw [hsize]; simp; omega)
      rw [hr] at hrun
      injection hrun with h2 h3
      subst h2; subst h3
      refine ⟨.inl rfl, fun v2 m ys hm hv2 h => ⟨h.1, ?_⟩⟩
      rcases h.2 with ⟨rfl, _⟩ | ⟨g2, cap2, cur2, rfl, hb2, hg2, hnc2, hcm2, hcs2, htake2⟩
      · simp [Value.ownBlock] at hv2
      · simp [Value.ownBlock] at hv2
        subst hv2
        rw [hg2] at hg
        injection hg with hg
        injection hg with hg
        subst hg
        refine .inr ⟨g2, cap2, _, rfl, hb2, setRow_heap w g2 cur2 _ e _ hg2, hnc2, hcm2, ?_, ?_⟩
        · simp [hsize]; omega
        · rw [← htake2]
          simp only [hsize, Nat.mul_one, List.length_singleton]
          rw [List.append_assoc, List.take_append_of_le_length (by simp; omega), List.take_take]
          congr 1
          omega
    · have holds : ∀ j u', xs[j]? = some u' → w.cell? ((⟨g, 0, none⟩ : Addr).add j) = some u' := hown.cells (g := g) rfl
      have hr := run_append_grow (P := Tryd.prog) w t ty e i z ht hi hz ⟨g, 0, none⟩ n cap xs (by rw [hsize]; exact hown.1) holds ad 1 1 [u] (by rw [hsize]; rfl) hadd (by omega) (by simp only [maxLen] at hn; omega) (by rw [hby]; exact growslice_fits (by omega) hbytes)
      rw [hr] at hrun
      injection hrun with h2 h3
      subst h2; subst h3
      exact ⟨.inr ⟨_, rfl, Nat.le_refl _⟩, fun v2 m ys _ _ h => keepAlloc _ v2 m ys h⟩

/-- Since ws only blocks from lo on and below hi, and new ones, have changed. -/
structure Chg (lo hi : Nat) (ws wr : World) : Prop where
  os : wr.os = ws.os
  tape : wr.tape = ws.tape
  output : wr.output = ws.output
  size : ws.heap.size ≤ wr.heap.size
  block : ∀ k, k < ws.heap.size → (k < lo ∨ hi ≤ k) → wr.heap[k]? = ws.heap[k]?
theorem Chg.refl (lo hi : Nat) (w : World) : Chg lo hi w w := ⟨rfl, rfl, rfl, Nat.le_refl _, fun _ _ _ => rfl⟩
theorem Chg.grown {lo hi : Nat} {ws wr w' : World} {r : Option Nat} (h : Chg lo hi ws wr) (hg : wr.grownBy w' r) (hr : ∀ g, r = some g → (lo ≤ g ∧ g < hi) ∨ ws.heap.size ≤ g) : Chg lo hi ws w' :=
  ⟨hg.os.trans h.os, hg.tape.trans h.tape, hg.output.trans h.output, Nat.le_trans h.size hg.size, fun k hk hc => (hg.block k (Nat.lt_of_lt_of_le hk h.size) (fun e => by have := hr k e.symm; omega)).trans (h.block k hk hc)⟩
theorem Chg.alloc {lo hi : Nat} {ws wr : World} (h : Chg lo hi ws wr) (o : Obj) : Chg lo hi ws (wr.alloc o) := by
  have b := alloc_below wr o
  exact ⟨b.os.trans h.os, b.tape.trans h.tape, b.output.trans h.output, Nat.le_trans h.size b.size, fun k hk hc => (b.block k (Nat.lt_of_lt_of_le hk h.size)).trans (h.block k hk hc)⟩
theorem Chg.set {lo hi : Nat} {ws wr : World} (h : Chg lo hi ws wr) (g j : Nat) (v : Value) (hg : lo ≤ g ∧ g < hi) : Chg lo hi ws (wr.setCell ⟨g, j, none⟩ v) :=
  ⟨h.os, h.tape, h.output, by simpa using h.size, fun k hk hc => by rw [heap_setCell_other wr _ k v (by show k ≠ g; omega)]; exact h.block k hk hc⟩
theorem Chg.trans {lo hi : Nat} {a b c : World} (h : Chg lo hi a b) (h2 : Chg lo hi b c) : Chg lo hi a c :=
  ⟨h2.os.trans h.os, h2.tape.trans h.tape, h2.output.trans h.output, Nat.le_trans h.size h2.size, fun k hk hc => (h2.block k (Nat.lt_of_lt_of_le hk h.size) hc).trans (h.block k hk hc)⟩
theorem Chg.below {lo hi n : Nat} {ws wr : World} (h : Chg lo hi ws wr) (hn : n ≤ lo) : Below n ws wr ∨ ws.heap.size < n := by
  rcases Nat.lt_or_ge ws.heap.size n with h1 | h1
  · exact .inr h1
  · exact .inl ⟨h.os, h.tape, h.output, h.size, fun k hk => h.block k (by omega) (.inl (by omega))⟩
theorem Ln.chg {lo hi B0 g cap : Nat} {ws wr : World} {l : List UInt8} (h : Ln ws B0 g cap l) (hc : Chg lo hi ws wr) (hg : g < lo) : Ln wr B0 g cap l := by
  have hp := h.parts
  rcases h.2 with ⟨h0, _⟩ | ⟨g2, cap2, cur, e, hg2, hh, r⟩
  · cases h0
  · injection e with e1 e2 e3
    injection e1 with e1
    injection e1 with e1
    subst e1; subst e3
    exact ⟨h.1, .inr ⟨g, cap, cur, by rw [show (l ++ mk40).length = l.length + 40 by simp [mk40_length]], hg2, by rw [hc.block g hp.2.1 (.inl hg)]; exact hh, r⟩⟩
theorem Owb.chg {lo hi base : Nat} {ws wr : World} {v : Value} {l : List UInt8} (h : Owb ws base v l) (hc : Chg lo hi ws wr) (hb : hi ≤ base) : Owb wr base v l := by
  rcases h.2 with h0 | ⟨g, cap, cur, e, hg, hh, r⟩
  · exact ⟨h.1, .inl h0⟩
  · exact ⟨h.1, .inr ⟨g, cap, cur, e, hg, by rw [hc.block g (Array.getElem?_eq_some_iff.1 hh).1 (.inr (Nat.le_trans hb hg))]; exact hh, r⟩⟩
theorem Owb.but {base b : Nat} {w w' : World} {v : Value} {l : List UInt8} (h : Owb w base v l) (hb : But w w' b) (hlt : b < base) : Owb w' base v l := by
  rcases h.2 with h0 | ⟨g, cap, cur, e, hg, hh, r⟩
  · exact ⟨h.1, .inl h0⟩
  · exact ⟨h.1, .inr ⟨g, cap, cur, e, hg, by rw [hb.block g (Array.getElem?_eq_some_iff.1 hh).1 (by omega)]; exact hh, r⟩⟩

/-- The row a of n bytes 77, and what grew out of it by j bytes 78. -/
structure L2 (lo hi : Nat) (ws wr : World) (va more : Value) (n j : Nat) : Prop where
  own : wr.ownsRow 0 5 1 more (n + j) ((List.replicate n (119 : UInt8) ++ List.replicate j 120).map B)
  ownA : wr.ownsRow 0 5 1 va n ((List.replicate n (119 : UInt8)).map B)
  blk : more.ownBlock = va.ownBlock ∨ ∃ g, more.ownBlock = some g ∧ ws.heap.size ≤ g
  ina : ∀ g, va.ownBlock = some g → lo ≤ g ∧ g < hi
  his : hi ≤ ws.heap.size
  chg : Chg lo hi ws wr
theorem L2.step {lo hi : Nat} {ws wr : World} {va more : Value} {n j : Nat} (h : L2 lo hi ws wr va more n j) (hn : n + j ≤ 10000) :
    ∃ v' w', (Builtin.append_ #[23, 23] 23 #[more, .slice (some ⟨wr.heap.size, 0, none⟩) 1 1]).run Tryd.prog (wr.alloc (.cells #[.int .u8 120] 5)) = .ok v' w' ∧ L2 lo hi ws w' va v' n (j + 1) := by
  obtain ⟨i, hi1, hz, hsize, hby⟩ := info_parts infoB
  have hcell : (wr.alloc (.cells #[.int .u8 120] 5)).cell? ⟨wr.heap.size, 0, none⟩ = some (B 120) := (alloc_bl wr (([120] : List UInt8).map B) 5).cell 0 (by simp)
  obtain ⟨v', w', hrun, hown, hgr, hblk, hkeep⟩ := append_keep (wr.alloc (.cells #[.int .u8 120] 5)) 23 5 23 i (.int .u8 0) 1 Tryd.underlying23 hi1 hz hsize hby rfl more (n + j) _ (h.own.alloc _) ⟨wr.heap.size, 0, none⟩ (B 120) hcell rfl (by omega) (by unfold maxLen; omega)
  have hsA : (wr.alloc (.cells #[.int .u8 120] 5)).heap.size = wr.heap.size + 1 := World.size_alloc _ _
  have hrow : ∀ g, more.ownBlock = some g → (lo ≤ g ∧ g < hi) ∨ ws.heap.size ≤ g := fun g hg => by
    rcases h.blk with e | ⟨g2, e, hg2⟩
    · rw [hg] at e; exact .inl (h.ina g e.symm)
    · rw [hg] at e; injection e with e; subst e; exact .inr hg2
  refine ⟨v', w', hrun, ?_, ?_, ?_, h.ina, h.his, (h.chg.alloc _).grown hgr hrow⟩
  · rw [show n + (j + 1) = n + j + 1 by omega, List.replicate_succ', ← List.append_assoc, List.map_append]
    exact hown
  · by_cases hb : va.ownBlock = more.ownBlock
    · exact hkeep va n _ (by omega) hb (h.ownA.alloc _)
    · exact (h.ownA.alloc _).kept hgr (.inr hb)
  · rcases hblk with e | ⟨g, e, hg⟩
    · rw [e]; exact h.blk
    · exact .inr ⟨g, e, by have := h.chg.size; omega⟩

end Go.Proofs.YthnogdkkdekgpaaDoor
