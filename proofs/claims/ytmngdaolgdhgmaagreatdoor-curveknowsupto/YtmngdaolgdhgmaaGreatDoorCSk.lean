import Derived.Test.YtmngdaolgdhgmaaGreatDoorCRo
import Derived.Laws.OwnMore
import Derived.Lib.AppendZeros
namespace Go.Proofs.YtmngdaolgdhgmaaGreatDoor
open Go.RowKit

set_option maxRecDepth 100000 in
/-- append of one value behind a row of one's own: what was there stays, shorter slices over the same row too. -/
theorem append_keep (w : World) (t e ty : TypeId) (i : TypeInfo) (z : Value) (bytes : Nat) (ht : Tryz.prog.underlying t = some (.slice e)) (hi : Tryz.prog.info? e = some i) (hz : i.zero = some z) (hsize : i.size = 1) (hby : i.bytes = bytes) (hzs : z.cells.size = 1)
    (v : Value) (n : Nat) (xs : List Value) (hown : w.ownsRow 0 e 1 v n xs) (ad : Addr) (u : Value) (hu : w.cell? ad = some u) (h1 : u.oneCell' = true) (hbytes : (n + 1) * bytes ≤ 140737488355328) (hn : n + 1 ≤ maxLen) :
    ∃ v' w', (Builtin.append_ #[t, t] ty #[v, .slice (some ad) 1 1]).run Tryz.prog w = .ok v' w' ∧ w'.ownsRow 0 e 1 v' (n + 1) (xs ++ [u]) ∧ w.grownBy w' v.ownBlock ∧
      (v'.ownBlock = v.ownBlock ∨ ∃ g, v'.ownBlock = some g ∧ w.heap.size ≤ g) ∧ (∀ v2 m ys, m ≤ n → v2.ownBlock = v.ownBlock → w.ownsRow 0 e 1 v2 m ys → w'.ownsRow 0 e 1 v2 m ys) := by
  have hadd : ∀ j u', [u][j]? = some u' → w.cell? (ad.add j) = some u' := fun j u' hj => by
    match j, hj with
    | 0, hj => simp at hj; subst hj; simpa [Addr.add] using hu
  obtain ⟨v', w', hrun, hown', hgr, hnil⟩ := run_append_own (P := Tryz.prog) w 0 t ty e i z 1 bytes ht hi hz hsize hby hzs (by decide) v n xs hown ad 1 1 [u] rfl hadd (fun x hx => by simp at hx; subst hx; exact h1) hn hbytes (Nat.zero_le _)
  refine ⟨v', w', hrun, hown', hgr, ?_⟩
  have keepAlloc : ∀ o v2 m ys, w.ownsRow 0 e 1 v2 m ys → (w.drew.alloc o).ownsRow 0 e 1 v2 m ys := fun o v2 m ys h => World.ownsRow.alloc (w := w.drew) h o
  rcases hown.2 with ⟨rfl, rfl⟩ | ⟨g, cap, cur, rfl, hb, hg, hnc, hcm, hcs, htake⟩
  · have hr := run_append_nil (P := Tryz.prog) w t ty e i z ht hi hz ad 1 1 [u] (by rw [hsize]; rfl) hadd (by decide) (by decide) (by rw [hby]; omega)
    rw [hr] at hrun
    injection hrun with h2 h3
    subst h2; subst h3
    exact ⟨.inr ⟨_, rfl, Nat.le_refl _⟩, fun v2 m ys _ _ h => keepAlloc _ v2 m ys h⟩
  · by_cases hroom : n + 1 ≤ cap
    · have hr := run_append_room (P := Tryz.prog) w t ty e i ht hi g n cap cur hg ad 1 1 [u] (by rw [hsize]; rfl) hadd (fun x hx => by simp at hx; subst hx; exact h1) hroom (by rw [hsize]; simp; omega)
      rw [hr] at hrun
      injection hrun with h2 h3
      subst h2; subst h3
      refine ⟨.inl rfl, fun v2 m ys hm hv2 h => ⟨h.1, ?_⟩⟩
      rcases h.2 with ⟨rfl, _⟩ | ⟨g2, cap2, cur2, rfl, hb2, hg2, hnc2, hcm2, hcs2, htake2⟩
      · simp [Value.ownBlock] at hv2
      · simp [Value.ownBlock] at hv2
        subst hv2
        rw [hg2] at hg
        injection hg with hg
        injection hg with hg
        subst hg
        refine .inr ⟨g2, cap2, _, rfl, hb2, setRow_heap w g2 cur2 _ e _ hg2, hnc2, hcm2, ?_, ?_⟩
        · simp [hsize]; omega
        · rw [← htake2]
          simp only [hsize, Nat.mul_one, List.length_singleton]
          rw [List.append_assoc, List.take_append_of_le_length (by simp; omega), List.take_take]
          congr 1
          omega
    · have holds : ∀ j u', xs[j]? = some u' → w.cell? ((⟨g, 0, none⟩ : Addr).add j) = some u' := hown.cells (g := g) rfl
      have hr := run_append_grow (P := Tryz.prog) w t ty e i z ht hi hz ⟨g, 0, none⟩ n cap xs (by rw [hsize]; exact hown.1) holds ad 1 1 [u] (by rw [hsize]; rfl) hadd (by omega) (by simp only [maxLen] at hn; omega) (by rw [hby]; exact growslice_fits (by omega) hbytes)
      rw [hr] at hrun
      injection hrun with h2 h3
      subst h2; subst h3
      exact ⟨.inr ⟨_, rfl, Nat.le_refl _⟩, fun v2 m ys _ _ h => keepAlloc _ v2 m ys h⟩


set_option maxRecDepth 100000

/-- Since ws only blocks that f names, and new ones, have changed. -/
structure Chf (f : Nat → Prop) (ws wr : World) : Prop where
  os : wr.os = ws.os
  tape : wr.tape = ws.tape
  output : wr.output = ws.output
  size : ws.heap.size ≤ wr.heap.size
  block : ∀ k, k < ws.heap.size → ¬ f k → wr.heap[k]? = ws.heap[k]?
theorem Chf.refl (f : Nat → Prop) (w : World) : Chf f w w := ⟨rfl, rfl, rfl, Nat.le_refl _, fun _ _ _ => rfl⟩
theorem Chf.grown {f : Nat → Prop} {ws wr w' : World} {r : Option Nat} (h : Chf f ws wr) (hg : wr.grownBy w' r) (hr : ∀ g, r = some g → f g ∨ ws.heap.size ≤ g) : Chf f ws w' :=
  ⟨hg.os.trans h.os, hg.tape.trans h.tape, hg.output.trans h.output, Nat.le_trans h.size hg.size, fun k hk hc => (hg.block k (Nat.lt_of_lt_of_le hk h.size) (fun e => by rcases hr k e.symm with h1 | h1; exact hc h1; omega)).trans (h.block k hk hc)⟩
theorem Chf.alloc {f : Nat → Prop} {ws wr : World} (h : Chf f ws wr) (o : Obj) : Chf f ws (wr.alloc o) := by
  have b := alloc_below wr o
  exact ⟨b.os.trans h.os, b.tape.trans h.tape, b.output.trans h.output, Nat.le_trans h.size b.size, fun k hk hc => (b.block k (Nat.lt_of_lt_of_le hk h.size)).trans (h.block k hk hc)⟩
theorem Chf.drewN {f : Nat → Prop} {ws wr : World} (h : Chf f ws wr) (q : Nat) : Chf f ws (wr.drewN q) := ⟨h.os, h.tape, h.output, h.size, h.block⟩
theorem Chf.below {f : Nat → Prop} {W ws wr : World} (h : Chf f ws wr) (hb : Below W.heap.size W ws) (hf : ∀ k, k < W.heap.size → ¬ f k) : Below W.heap.size W wr :=
  ⟨h.os.trans hb.os, h.tape.trans hb.tape, h.output.trans hb.output, Nat.le_trans hb.size h.size, fun k hk => (h.block k (Nat.lt_of_lt_of_le hk hb.size) (hf k hk)).trans (hb.block k hk)⟩
theorem Chf.of_alloc {f : Nat → Prop} {w wr : World} {o : Obj} (h : Chf f (w.alloc o) wr) : Chf f w wr := by
  have b := alloc_below w o
  exact ⟨h.os.trans b.os, h.tape.trans b.tape, h.output.trans b.output, Nat.le_trans b.size h.size, fun k hk hc => (h.block k (Nat.lt_of_lt_of_le hk b.size) hc).trans (b.block k hk)⟩
theorem Chf.trans {f : Nat → Prop} {a b c : World} (h1 : Chf f a b) (h2 : Chf f b c) : Chf f a c :=
  ⟨h2.os.trans h1.os, h2.tape.trans h1.tape, h2.output.trans h1.output, Nat.le_trans h1.size h2.size, fun k hk hc => (h2.block k (Nat.lt_of_lt_of_le hk h1.size) hc).trans (h1.block k hk hc)⟩
theorem Chf.weak {f g : Nat → Prop} {a b : World} (h : Chf f a b) (hw : ∀ k, f k → g k) : Chf g a b := ⟨h.os, h.tape, h.output, h.size, fun k hk hc => h.block k hk (fun x => hc (hw k x))⟩
theorem Bl.chf {e : TypeId} {f : Nat → Prop} {ws wr : World} {g : Nat} {cs : List Value} (h : Bl e ws g cs) (hc : Chf f ws wr) (hf : ¬ f g) : Bl e wr g cs := by
  have hl := h.lt
  unfold Bl at h ⊢
  rw [hc.block g hl hf]
  exact h
theorem Rn.chf {f : Nat → Prop} {ws wr : World} {ao : Option Addr} {l : List Nat} (h : Rn ws ao l) (hc : Chf f ws wr) (hf : ∀ a, ao = some a → ¬ f a.block) : Rn wr ao l := by
  rcases h with h | ⟨g, off, e, hg, hcell⟩
  · exact .inl h
  · exact .inr ⟨g, off, e, Nat.lt_of_lt_of_le hg hc.size, fun j hj => cell_but (hcell j hj) fun h1 => hc.block g h1 (hf _ e)⟩
theorem own_chf {f : Nat → Prop} {w w' : World} {b0 n : Nat} {e : TypeId} {v : Value} {xs : List Value} (h : w.ownsRow b0 e 1 v n xs) (hc : Chf f w w') (hf : ∀ g, v.ownBlock = some g → ¬ f g) : w'.ownsRow b0 e 1 v n xs := by
  refine ⟨h.1, ?_⟩
  rcases h.2 with h1 | ⟨g, cap, cur, e, hg, hh, hr⟩
  · exact .inl h1
  · refine .inr ⟨g, cap, cur, e, hg, ?_, hr⟩
    rw [hc.block g (Array.getElem?_eq_some_iff.1 hh).1 (hf g (by rw [e]; rfl))]
    exact hh
theorem fill_setN (p : Nat) (n i : Nat) (E : List Nat) (hE : E.length = n) (hi : i < n) : ((List.replicate i p ++ E.drop i).map U).set i (U p) = (List.replicate (i + 1) p ++ E.drop (i + 1)).map U := by
  rw [← List.map_set, List.set_append_right _ _ (by simp), List.length_replicate, Nat.sub_self, List.drop_eq_getElem_cons (by omega), List.set_cons_zero, List.replicate_succ', List.append_assoc]
  rfl
/-- A row of n limbs p, and what grew out of it by j limbs q. -/
structure G1 (ws wr : World) (p q : Nat) (va x : Value) (n j : Nat) : Prop where
  own : wr.ownsRow 0 51 1 x (n + j) ((List.replicate n p ++ List.replicate j q).map U)
  ownA : wr.ownsRow 0 51 1 va n ((List.replicate n p).map U)
  blk : x.ownBlock = va.ownBlock ∨ ∃ g, x.ownBlock = some g ∧ ws.heap.size ≤ g
  ina : ∀ g, va.ownBlock = some g → g < ws.heap.size
theorem G1.row {ws wr : World} {p q : Nat} {va x : Value} {n j : Nat} (h : G1 ws wr p q va x n j) : ∀ g, x.ownBlock = some g → va.ownBlock = some g ∨ ws.heap.size ≤ g := fun g hg => by
  rcases h.blk with e | ⟨g2, e, hg2⟩
  · rw [hg] at e; exact .inl e.symm
  · rw [hg] at e; injection e with e; subst e; exact .inr hg2
theorem G1.alloc {ws wr : World} {p q : Nat} {va x : Value} {n j : Nat} (h : G1 ws wr p q va x n j) (o : Obj) : G1 ws (wr.alloc o) p q va x n j := ⟨h.own.alloc _, h.ownA.alloc _, h.blk, h.ina⟩
theorem G1.other {ws wr w' : World} {p q : Nat} {va x : Value} {n j : Nat} {r : Option Nat} (h : G1 ws wr p q va x n j) (hg : wr.grownBy w' r) (h1 : ∀ g, r = some g → va.ownBlock ≠ some g) (h2 : ∀ g, r = some g → x.ownBlock ≠ some g) : G1 ws w' p q va x n j := by
  have key : ∀ v : Value, (∀ g, r = some g → v.ownBlock ≠ some g) → v.ownBlock = none ∨ v.ownBlock ≠ r := fun v hv => by
    cases hb : v.ownBlock with
    | none => exact .inl rfl
    | some g => exact .inr (fun e => hv g e.symm hb)
  exact ⟨h.own.kept hg (key x h2), h.ownA.kept hg (key va h1), h.blk, h.ina⟩
theorem G1.step {ws wr : World} {p q : Nat} {va x : Value} {n j : Nat} (h : G1 ws wr p q va x n j) (hn : n + j ≤ 10000000) (hws : ws.heap.size ≤ wr.heap.size) :
    ∃ v' w', (Builtin.append_ #[24, 24] 24 #[x, .slice (some ⟨wr.heap.size, 0, none⟩) 1 1]).run Tryz.prog (wr.alloc (.cells #[.int .u32 (q : Int)] 51)) = .ok v' w' ∧ G1 ws w' p q va v' n (j + 1) ∧ (wr.alloc (.cells #[.int .u32 (q : Int)] 51)).grownBy w' x.ownBlock ∧ (v'.ownBlock = x.ownBlock ∨ ∃ g, v'.ownBlock = some g ∧ wr.heap.size < g) := by
  obtain ⟨i, hi1, hz, hsize, hby⟩ := info_parts infoU
  have hcell : (wr.alloc (.cells #[.int .u32 (q : Int)] 51)).cell? ⟨wr.heap.size, 0, none⟩ = some (U q) := (alloc_bl wr (([q] : List Nat).map U) 51).cell 0 (by simp)
  obtain ⟨v', w', hrun, hown, hgr, hblk, hkeep⟩ := append_keep (wr.alloc (.cells #[.int .u32 (q : Int)] 51)) 24 51 24 i (.int .u32 0) 4 Tryz.underlying24 hi1 hz hsize hby rfl x (n + j) _ (h.own.alloc _) ⟨wr.heap.size, 0, none⟩ (U q) hcell rfl (by omega) (by unfold maxLen; omega)
  have hsA : (wr.alloc (.cells #[.int .u32 (q : Int)] 51)).heap.size = wr.heap.size + 1 := World.size_alloc _ _
  refine ⟨v', w', hrun, ⟨?_, ?_, ?_, h.ina⟩, hgr, ?_⟩
  · rw [show n + (j + 1) = n + j + 1 by omega, List.replicate_succ', ← List.append_assoc, List.map_append]
    exact hown
  · by_cases hb : va.ownBlock = x.ownBlock
    · exact hkeep va n _ (by omega) hb (h.ownA.alloc _)
    · exact (h.ownA.alloc _).kept hgr (.inr hb)
  · rcases hblk with e | ⟨g, e, hg⟩
    · rw [e]; exact h.blk
    · exact .inr ⟨g, e, by omega⟩
  · rcases hblk with e | ⟨g, e, hg⟩
    · exact .inl e
    · exact .inr ⟨g, e, by omega⟩
theorem G1.cellA {ws wr : World} {p q : Nat} {x : Value} {g n c j : Nat} (h : G1 ws wr p q (.slice (some ⟨g, 0, none⟩) n c) x n j) (i : Nat) (hi2 : i < n) : wr.cell? ⟨g, i, none⟩ = some (.int .u32 (p : Int)) := by
  rw [h.ownA.cellAt i (by omega), List.getElem?_map, List.getElem?_replicate, if_pos hi2]
  rfl
theorem G1.cellX {ws wr : World} {p q : Nat} {va : Value} {g n c j : Nat} (h : G1 ws wr p q va (.slice (some ⟨g, 0, none⟩) (n + j) c) n j) (i : Nat) (h1 : n ≤ i) (h2 : i < n + j) : wr.cell? ⟨g, i, none⟩ = some (.int .u32 (q : Int)) := by
  rw [h.own.cellAt i (by omega), List.getElem?_map, List.getElem?_append_right (by simpa using h1), List.getElem?_replicate, if_pos (by rw [List.length_replicate]; omega)]
  rfl
/-- Both rows. -/
structure S2 (ws wr : World) (va x vc y : Value) (na nc j1 j2 : Nat) : Prop where
  A : G1 ws wr 11 13 va x na j1
  C : G1 ws wr 12 14 vc y nc j2
  ap : ∀ g, x.ownBlock = some g → y.ownBlock ≠ some g
  ap0 : ∀ g, va.ownBlock = some g → vc.ownBlock ≠ some g
  chg : Chf (fun k => va.ownBlock = some k ∨ vc.ownBlock = some k) ws wr
theorem S2.stepX {ws wr : World} {va x vc y : Value} {na nc j1 j2 : Nat} (h : S2 ws wr va x vc y na nc j1 j2) (hn : na + j1 ≤ 10000000) :
    ∃ v' w', (Builtin.append_ #[24, 24] 24 #[x, .slice (some ⟨wr.heap.size, 0, none⟩) 1 1]).run Tryz.prog (wr.alloc (.cells #[.int .u32 13] 51)) = .ok v' w' ∧ S2 ws w' va v' vc y na nc (j1 + 1) j2 := by
  obtain ⟨v', w', hrun, hA, hgr, hb⟩ := h.A.step hn h.chg.size
  have hx := h.A.row
  refine ⟨v', w', hrun, hA, (h.C.alloc _).other hgr (fun g e e2 => ?_) (fun g e => h.ap g e), ?_, h.ap0, (h.chg.alloc _).grown hgr (fun g e => ?_)⟩
  · have h3 := h.C.ina g e2
    rcases hx g e with h4 | h4
    · exact h.ap0 g h4 e2
    · omega
  · intro g e
    rcases hb with e2 | ⟨g2, e2, hg2⟩
    · rw [e2] at e; exact h.ap g e
    · rw [e2] at e; injection e with e; subst e
      intro e3
      have := (World.ownsRow.lt h.C.own g2 e3).2
      omega
  · rcases hx g e with h4 | h4
    · exact .inl (.inl h4)
    · exact .inr h4
theorem S2.stepY {ws wr : World} {va x vc y : Value} {na nc j1 j2 : Nat} (h : S2 ws wr va x vc y na nc j1 j2) (hn : nc + j2 ≤ 10000000) :
    ∃ v' w', (Builtin.append_ #[24, 24] 24 #[y, .slice (some ⟨wr.heap.size, 0, none⟩) 1 1]).run Tryz.prog (wr.alloc (.cells #[.int .u32 14] 51)) = .ok v' w' ∧ S2 ws w' va x vc v' na nc j1 (j2 + 1) := by
  obtain ⟨v', w', hrun, hC, hgr, hb⟩ := h.C.step hn h.chg.size
  have hy := h.C.row
  refine ⟨v', w', hrun, (h.A.alloc _).other hgr (fun g e e2 => ?_) (fun g e e2 => h.ap g e2 e), hC, ?_, h.ap0, (h.chg.alloc _).grown hgr (fun g e => ?_)⟩
  · have h3 := h.A.ina g e2
    rcases hy g e with h4 | h4
    · exact h.ap0 g e2 h4
    · omega
  · intro g e
    rcases hb with e2 | ⟨g2, e2, hg2⟩
    · rw [e2]; exact h.ap g e
    · rw [e2]
      intro e3
      injection e3 with e3
      subst e3
      have := (World.ownsRow.lt h.A.own g2 e).2
      omega
  · rcases hy g e with h4 | h4
    · exact .inl (.inr h4)
    · exact .inr h4
end Go.Proofs.YtmngdaolgdhgmaaGreatDoor
