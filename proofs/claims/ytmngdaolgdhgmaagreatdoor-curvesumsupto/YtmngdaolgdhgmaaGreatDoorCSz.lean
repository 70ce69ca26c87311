import Derived.Test.YtmngdaolgdhgmaaGreatDoorCRz
import Derived.Laws.OwnMore
import Derived.Lib.AppendZeros
import Derived.Test.YtmngdaolgdhgmaaGreatDoorCSm
namespace Go.Proofs.YtmngdaolgdhgmaaGreatDoor
open Go.RowKit

set_option maxRecDepth 100000 in
/-- append of one value behind a row of one's own: what was there stays, shorter slices over the same row too. -/
theorem append_keep (w : World) (t e ty : TypeId) (i : TypeInfo) (z : Value) (bytes : Nat) (ht : Tryz.prog.underlying t = some (.slice e)) (hi : Tryz.prog.info? e = some i) (hz : i.zero = some z) (hsize : i.size = 1) (hby : i.bytes = bytes) (hzs : z.cells.size = 1)
    (v : Value) (n : Nat) (xs : List Value) (hown : w.ownsRow 0 e 1 v n xs) (ad : Addr) (u : Value) (hu : w.cell? ad = some u) (h1 : u.oneCell' = true) (hbytes : (n + 1) * bytes ≤ 140737488355328) (hn : n + 1 ≤ maxLen) :
    ∃ v' w', (Builtin.append_ #[t, t] ty #[v, .slice (some ad) 1 1]).run Tryz.prog w = .ok v' w' ∧ w'.ownsRow 0 e 1 v' (n + 1) (xs ++ [u]) ∧ w.grownBy w' v.ownBlock ∧
      (v'.ownBlock = v.ownBlock ∨ ∃ g, v'.ownBlock = some g ∧ w.heap.size ≤ g) ∧ (∀ v2 m ys, m ≤ n → v2.ownBlock = v.ownBlock → w.ownsRow 0 e 1 v2 m ys → w'.ownsRow 0 e 1 v2 m ys) := by
  have hadd : ∀ j u', [u][j]? = some u' → w.cell? (ad.add j) = some u' := fun j u' hj => by
    match j, hj with
    | 0, hj => simp at hj; subst hj; simpa [Addr.add] using hu
  obtain ⟨v', w', hrun, hown', hgr, hnil⟩ := run_append_own (P := Tryz.prog) w 0 t ty e i z 1 bytes ht hi hz hsize hby hzs (by decide) v n xs hown ad 1 1 [u] rfl hadd (fun x hx => by simp at hx; subst hx; exact h1) hn hbytes (Nat.zero_le _)
  refine ⟨v', w', hrun, hown', hgr, ?_⟩
  have keepAlloc : ∀ o v2 m ys, w.ownsRow 0 e 1 v2 m ys → (w.drew.alloc o).ownsRow 0 e 1 v2 m ys := fun o v2 m ys h => World.ownsRow.alloc (w := w.drew) h o
  rcases hown.2 with ⟨rfl, rfl⟩ | ⟨g, cap, cur, rfl, hb, hg, hnc, hcm, hcs, htake⟩
  · have hr := run_append_nil (P := Tryz.prog) w t ty e i z ht hi hz ad 1 1 [u] (by rw [hsize]; rfl) hadd (by decide) (by decide) (by rw [hby]; omega)
    rw [hr] at hrun
    injection hrun with h2 h3
    subst h2; subst h3
    exact ⟨.inr ⟨_, rfl, Nat.le_refl _⟩, fun v2 m ys _ _ h => keepAlloc _ v2 m ys h⟩
  · by_cases hroom : n + 1 ≤ cap
    · have hr := run_append_room (P := Tryz.prog) w t ty e i ht hi g n cap cur hg ad 1 1 [u] (by rw [hsize]; rfl) hadd (fun x hx => by simp at hx; subst hx; exact h1) hroom (by rw [hsize]; simp; omega)
      rw [hr] at hrun
      injection hrun with h2 h3
      subst h2; subst h3
      refine ⟨.inl rfl, fun v2 m ys hm hv2 h => ⟨h.1, ?_⟩⟩
      rcases h.2 with ⟨rfl, _⟩ | ⟨g2, cap2, cur2, rfl, hb2, hg2, hnc2, hcm2, hcs2, htake2⟩
      · simp [Value.ownBlock] at hv2
      · simp [Value.ownBlock] at hv2
        subst hv2
        rw [hg2] at hg
        injection hg with hg
        injection hg with hg
        subst hg
        refine .inr ⟨g2, cap2, _, rfl, hb2, setRow_heap w g2 cur2 _ e _ hg2, hnc2, hcm2, ?_, ?_⟩
        · simp [hsize]; omega
        · rw [← htake2]
          simp only [hsize, Nat.mul_one, List.length_singleton]
          rw [List.append_assoc, List.take_append_of_le_length (by simp; omega), List.take_take]
          congr 1
          omega
    · have holds : ∀ j u', xs[j]? = some u' → w.cell? ((⟨g, 0, none⟩ : Addr).add j) = some u' := hown.cells (g := g) rfl
      have hr := run_append_grow (P := Tryz.prog) w t ty e i z ht hi hz ⟨g, 0, none⟩ n cap xs (by rw [hsize]; exact hown.1) holds ad 1 1 [u] (by rw [hsize]; rfl) hadd (by omega) (by simp only [maxLen] at hn; omega) (by rw [hby]; exact growslice_fits (by omega) hbytes)
      rw [hr] at hrun
      injection hrun with h2 h3
      subst h2; subst h3
      exact ⟨.inr ⟨_, rfl, Nat.le_refl _⟩, fun v2 m ys _ _ h => keepAlloc _ v2 m ys h⟩


set_option maxRecDepth 100000

/-- Since ws only blocks that f names, and new ones, have changed. -/
structure Chf (f : Nat → Prop) (ws wr : World) : Prop where
  os : wr.os = ws.os
  tape : wr.tape = ws.tape
  output : wr.output = ws.output
  size : ws.heap.size ≤ wr.heap.size
  block : ∀ k, k < ws.heap.size → ¬ f k → wr.heap[k]? = ws.heap[k]?
theorem Chf.refl (f : Nat → Prop) (w : World) : Chf f w w := ⟨rfl, rfl, rfl, Nat.le_refl _, fun _ _ _ => rfl⟩
theorem Chf.grown {f : Nat → Prop} {ws wr w' : World} {r : Option Nat} (h : Chf f ws wr) (hg : wr.grownBy w' r) (hr : ∀ g, r = some g → f g ∨ ws.heap.size ≤ g) : Chf f ws w' :=
  ⟨hg.os.trans h.os, hg.tape.trans h.tape, hg.output.trans h.output, Nat.le_trans h.size hg.size, fun k hk hc => (hg.block k (Nat.lt_of_lt_of_le hk h.size) (fun e => by rcases hr k e.symm with h1 | h1; exact hc h1; omega)).trans (h.block k hk hc)⟩
theorem Chf.alloc {f : Nat → Prop} {ws wr : World} (h : Chf f ws wr) (o : Obj) : Chf f ws (wr.alloc o) := by
  have b := alloc_below wr o
  exact ⟨b.os.trans h.os, b.tape.trans h.tape, b.output.trans h.output, Nat.le_trans h.size b.size, fun k hk hc => (b.block k (Nat.lt_of_lt_of_le hk h.size)).trans (h.block k hk hc)⟩
theorem Chf.drewN {f : Nat → Prop} {ws wr : World} (h : Chf f ws wr) (q : Nat) : Chf f ws (wr.drewN q) := ⟨h.os, h.tape, h.output, h.size, h.block⟩
theorem Chf.below {f : Nat → Prop} {W ws wr : World} (h : Chf f ws wr) (hb : Below W.heap.size W ws) (hf : ∀ k, k < W.heap.size → ¬ f k) : Below W.heap.size W wr :=
  ⟨h.os.trans hb.os, h.tape.trans hb.tape, h.output.trans hb.output, Nat.le_trans hb.size h.size, fun k hk => (h.block k (Nat.lt_of_lt_of_le hk hb.size) (hf k hk)).trans (hb.block k hk)⟩
theorem Chf.of_alloc {f : Nat → Prop} {w wr : World} {o : Obj} (h : Chf f (w.alloc o) wr) : Chf f w wr := by
  have b := alloc_below w o
  exact ⟨h.os.trans b.os, h.tape.trans b.tape, h.output.trans b.output, Nat.le_trans b.size h.size, fun k hk hc => (h.block k (Nat.lt_of_lt_of_le hk b.size) hc).trans (b.block k hk)⟩
theorem Chf.trans {f : Nat → Prop} {a b c : World} (h1 : Chf f a b) (h2 : Chf f b c) : Chf f a c :=
  ⟨h2.os.trans h1.os, h2.tape.trans h1.tape, h2.output.trans h1.output, Nat.le_trans h1.size h2.size, fun k hk hc => (h2.block k (Nat.lt_of_lt_of_le hk h1.size) hc).trans (h1.block k hk hc)⟩
theorem Bl.chf {e : TypeId} {f : Nat → Prop} {ws wr : World} {g : Nat} {cs : List Value} (h : Bl e ws g cs) (hc : Chf f ws wr) (hf : ¬ f g) : Bl e wr g cs := by
  have hl := h.lt
  unfold Bl at h ⊢
  rw [hc.block g hl hf]
  exact h
theorem Rn.chf {f : Nat → Prop} {ws wr : World} {ao : Option Addr} {l : List Nat} (h : Rn ws ao l) (hc : Chf f ws wr) (hf : ∀ a, ao = some a → ¬ f a.block) : Rn wr ao l := by
  rcases h with h | ⟨g, off, e, hg, hcell⟩
  · exact .inl h
  · exact .inr ⟨g, off, e, Nat.lt_of_lt_of_le hg hc.size, fun j hj => cell_but (hcell j hj) fun h1 => hc.block g h1 (hf _ e)⟩
theorem own_chf {f : Nat → Prop} {w w' : World} {b0 n : Nat} {e : TypeId} {v : Value} {xs : List Value} (h : w.ownsRow b0 e 1 v n xs) (hc : Chf f w w') (hf : ∀ g, v.ownBlock = some g → ¬ f g) : w'.ownsRow b0 e 1 v n xs := by
  refine ⟨h.1, ?_⟩
  rcases h.2 with h1 | ⟨g, cap, cur, e, hg, hh, hr⟩
  · exact .inl h1
  · refine .inr ⟨g, cap, cur, e, hg, ?_, hr⟩
    rw [hc.block g (Array.getElem?_eq_some_iff.1 hh).1 (hf g (by rw [e]; rfl))]
    exact hh
theorem fill_setN (p : Nat) (n i : Nat) (E : List Nat) (hE : E.length = n) (hi : i < n) : ((List.replicate i p ++ E.drop i).map U).set i (U p) = (List.replicate (i + 1) p ++ E.drop (i + 1)).map U := by
  rw [← List.map_set, List.set_append_right _ _ (by simp), List.length_replicate, Nat.sub_self, List.drop_eq_getElem_cons (by omega), List.set_cons_zero, List.replicate_succ', List.append_assoc]
  rfl
/-- A row of n limbs p, and what grew out of it by j limbs q. -/
structure G1 (ws wr : World) (p q : Nat) (va x : Value) (n j : Nat) : Prop where
  own : wr.ownsRow 0 51 1 x (n + j) ((List.replicate n p ++ List.replicate j q).map U)
  ownA : wr.ownsRow 0 51 1 va n ((List.replicate n p).map U)
  blk : x.ownBlock = va.ownBlock ∨ ∃ g, x.ownBlock = some g ∧ ws.heap.size ≤ g
  ina : ∀ g, va.ownBlock = some g → g < ws.heap.size
theorem G1.row {ws wr : World} {p q : Nat} {va x : Value} {n j : Nat} (h : G1 ws wr p q va x n j) : ∀ g, x.ownBlock = some g → va.ownBlock = some g ∨ ws.heap.size ≤ g := fun g hg => by
  rcases h.blk with e | ⟨g2, e, hg2⟩
  · rw [hg] at e; exact .inl e.symm
  · rw [hg] at e; injection e with e; subst e; exact .inr hg2
theorem G1.alloc {ws wr : World} {p q : Nat} {va x : Value} {n j : Nat} (h : G1 ws wr p q va x n j) (o : Obj) : G1 ws (wr.alloc o) p q va x n j := ⟨h.own.alloc _, h.ownA.alloc _, h.blk, h.ina⟩
theorem G1.other {ws wr w' : World} {p q : Nat} {va x : Value} {n j : Nat} {r : Option Nat} (h : G1 ws wr p q va x n j) (hg : wr.grownBy w' r) (h1 : ∀ g, r = some g → va.ownBlock ≠ some g) (h2 : ∀ g, r = some g → x.ownBlock ≠ some g) : G1 ws w' p q va x n j := by
  have key : ∀ v : Value, (∀ g, r = some g → v.ownBlock ≠ some g) → v.ownBlock = none ∨ v.ownBlock ≠ r := fun v hv => by
    cases hb : v.ownBlock with
    | none => exact .inl rfl
    | some g => exact .inr (fun e => hv g e.symm hb)
  exact ⟨h.own.kept hg (key x h2), h.ownA.kept hg (key va h1), h.blk, h.ina⟩
theorem G1.step {ws wr : World} {p q : Nat} {va x : Value} {n j : Nat} (h : G1 ws wr p q va x n j) (hn : n + j ≤ 10000000) (hws : ws.heap.size ≤ wr.heap.size) :
    ∃ v' w', (Builtin.append_ #[24, 24] 24 #[x, .slice (some ⟨wr.heap.size, 0, none⟩) 1 1]).run Tryz.prog (wr.alloc (.cells #[.int .u32 (q : Int)] 51)) = .ok v' w' ∧ G1 ws w' p q va v' n (j + 1) ∧ (wr.alloc (.cells #[.int .u32 (q : Int)] 51)).grownBy w' x.ownBlock ∧ (v'.ownBlock = x.ownBlock ∨ ∃ g, v'.ownBlock = some g ∧ wr.heap.size < g) := by
  obtain ⟨i, hi1, hz, hsize, hby⟩ := info_parts infoU
  have hcell : (wr.alloc (.cells #[.int .u32 (q : Int)] 51)).cell? ⟨wr.heap.size, 0, none⟩ = some (U q) := (alloc_bl wr (([q] : List Nat).map U) 51).cell 0 (by simp)
  obtain ⟨v', w', hrun, hown, hgr, hblk, hkeep⟩ := append_keep (wr.alloc (.cells #[.int .u32 (q : Int)] 51)) 24 51 24 i (.int .u32 0) 4 Tryz.underlying24 hi1 hz hsize hby rfl x (n + j) _ (h.own.alloc _) ⟨wr.heap.size, 0, none⟩ (U q) hcell rfl (by omega) (by unfold maxLen; omega)
  have hsA : (wr.alloc (.cells #[.int .u32 (q : Int)] 51)).heap.size = wr.heap.size + 1 := World.size_alloc _ _
  refine ⟨v', w', hrun, ⟨?_, ?_, ?_, h.ina⟩, hgr, ?_⟩
  · rw [show n + (j + 1) = n + j + 1 by omega, List.replicate_succ', ← List.append_assoc, List.map_append]
    exact hown
  · by_cases hb : va.ownBlock = x.ownBlock
    · exact hkeep va n _ (by omega) hb (h.ownA.alloc _)
    · exact (h.ownA.alloc _).kept hgr (.inr hb)
  · rcases hblk with e | ⟨g, e, hg⟩
    · rw [e]; exact h.blk
    · exact .inr ⟨g, e, by omega⟩
  · rcases hblk with e | ⟨g, e, hg⟩
    · exact .inl e
    · exact .inr ⟨g, e, by omega⟩
theorem G1.cellA {ws wr : World} {p q : Nat} {x : Value} {g n c j : Nat} (h : G1 ws wr p q (.slice (some ⟨g, 0, none⟩) n c) x n j) (i : Nat) (hi2 : i < n) : wr.cell? ⟨g, i, none⟩ = some (.int .u32 (p : Int)) := by
  rw [h.ownA.cellAt i (by omega), List.getElem?_map, List.getElem?_replicate, if_pos hi2]
  rfl
theorem G1.cellX {ws wr : World} {p q : Nat} {va : Value} {g n c j : Nat} (h : G1 ws wr p q va (.slice (some ⟨g, 0, none⟩) (n + j) c) n j) (i : Nat) (h1 : n ≤ i) (h2 : i < n + j) : wr.cell? ⟨g, i, none⟩ = some (.int .u32 (q : Int)) := by
  rw [h.own.cellAt i (by omega), List.getElem?_map, List.getElem?_append_right (by simpa using h1), List.getElem?_replicate, if_pos (by rw [List.length_replicate]; omega)]
  rfl
/-- Both rows. -/
structure S2 (ws wr : World) (va x vc y : Value) (na nc j1 j2 : Nat) : Prop where
  A : G1 ws wr 11 13 va x na j1
  C : G1 ws wr 12 14 vc y nc j2
  ap : ∀ g, x.ownBlock = some g → y.ownBlock ≠ some g
  ap0 : ∀ g, va.ownBlock = some g → vc.ownBlock ≠ some g
  chg : Chf (fun k => va.ownBlock = some k ∨ vc.ownBlock = some k) ws wr
theorem S2.stepX {ws wr : World} {va x vc y : Value} {na nc j1 j2 : Nat} (h : S2 ws wr va x vc y na nc j1 j2) (hn : na + j1 ≤ 10000000) :
    ∃ v' w', (Builtin.append_ #[24, 24] 24 #[x, .slice (some ⟨wr.heap.size, 0, none⟩) 1 1]).run Tryz.prog (wr.alloc (.cells #[.int .u32 13] 51)) = .ok v' w' ∧ S2 ws w' va v' vc y na nc (j1 + 1) j2 := by
  obtain ⟨v', w', hrun, hA, hgr, hb⟩ := h.A.step hn h.chg.size
  have hx := h.A.row
  refine ⟨v', w', hrun, hA, (h.C.alloc _).other hgr (fun g e e2 => ?_) (fun g e => h.ap g e), ?_, h.ap0, (h.chg.alloc _).grown hgr (fun g e => ?_)⟩
  · have h3 := h.C.ina g e2
    rcases hx g e with h4 | h4
    · exact h.ap0 g h4 e2
    · omega
  · intro g e
    rcases hb with e2 | ⟨g2, e2, hg2⟩
    · rw [e2] at e; exact h.ap g e
    · rw [e2] at e; injection e with e; subst e
      intro e3
      have := (World.ownsRow.lt h.C.own g2 e3).2
      omega
  · rcases hx g e with h4 | h4
    · exact .inl (.inl h4)
    · exact .inr h4
theorem S2.stepY {ws wr : World} {va x vc y : Value} {na nc j1 j2 : Nat} (h : S2 ws wr va x vc y na nc j1 j2) (hn : nc + j2 ≤ 10000000) :
    ∃ v' w', (Builtin.append_ #[24, 24] 24 #[y, .slice (some ⟨wr.heap.size, 0, none⟩) 1 1]).run Tryz.prog (wr.alloc (.cells #[.int .u32 14] 51)) = .ok v' w' ∧ S2 ws w' va x vc v' na nc j1 (j2 + 1) := by
  obtain ⟨v', w', hrun, hC, hgr, hb⟩ := h.C.step hn h.chg.size
  have hy := h.C.row
  refine ⟨v', w', hrun, (h.A.alloc _).other hgr (fun g e e2 => ?_) (fun g e e2 => h.ap g e2 e), hC, ?_, h.ap0, (h.chg.alloc _).grown hgr (fun g e => ?_)⟩
  · have h3 := h.A.ina g e2
    rcases hy g e with h4 | h4
    · exact h.ap0 g e2 h4
    · omega
  · intro g e
    rcases hb with e2 | ⟨g2, e2, hg2⟩
    · rw [e2]; exact h.ap g e
    · rw [e2]
      intro e3
      injection e3 with e3
      subst e3
      have := (World.ownsRow.lt h.A.own g2 e).2
      omega
  · rcases hy g e with h4 | h4
    · exact .inl (.inr h4)
    · exact .inr h4
end Go.Proofs.YtmngdaolgdhgmaaGreatDoor

namespace Go.Proofs.YtmngdaolgdhgmaaGreatDoor
open Go.RowKit

set_option maxRecDepth 100000

set_option maxHeartbeats 8000000 in
theorem spoil_v (x y : Value) (EA EC : List Nat) (inf : Bool) (w : World) (hx : Ow w 0 x EA) (hy : Ow w 0 y EC) (ap : Apt x y) (l1 : EA.length ≤ 5000000) (l2 : EC.length ≤ 5000000) :
    Calls Tryz.prog 21 #[.agg #[x, y, .bool inf]] w fun e w' => e = .returned (.bool true) ∧ Chf (fun k => x.ownBlock = some k ∨ y.ownBlock = some k) w w' := by
  obtain ⟨aa, ca, rfl⟩ : ∃ a c, x = .slice a EA.length c := (show OB 0 w w x EA from ⟨hx, Below.refl _ _⟩).shape
  obtain ⟨ac, cc, rfl⟩ : ∃ a c, y = .slice a EC.length c := (show OB 0 w w y EC from ⟨hy, Below.refl _ _⟩).shape
  have HO : Hid (w.ownsRow 0 51 1 (.slice aa EA.length ca) EA.length ((EA).map U) ∧ w.ownsRow 0 51 1 (.slice ac EC.length cc) EC.length ((EC).map U)) := ⟨hx, hy⟩
  have HAp : Hid (Apt (.slice aa EA.length ca) (.slice ac EC.length cc)) := ap
  clear hx hy ap
  obtain ⟨na, Hna⟩ : ∃ n, Hid (EA.length = n) := ⟨_, rfl⟩
  obtain ⟨nc, Hnc⟩ : ∃ n, Hid (EC.length = n) := ⟨_, rfl⟩
  rw [Hna.out] at HO HAp l1
  rw [Hnc.out] at HO HAp l2
  rw [Hna.out, Hnc.out]
  obtain ⟨f, Hf⟩ : ∃ f : Nat → Prop, Hid (f = fun k => (Value.slice aa na ca).ownBlock = some k ∨ (Value.slice ac nc cc).ownBlock = some k) := ⟨_, rfl⟩
  have Hina : Hid ((∀ g, (Value.slice aa na ca).ownBlock = some g → g < w.heap.size) ∧ ∀ g, (Value.slice ac nc cc).ownBlock = some g → g < w.heap.size) := ⟨fun g hg => (World.ownsRow.lt HO.out.1 g hg).2, fun g hg => (World.ownsRow.lt HO.out.2 g hg).2⟩
  have Hnf : Hid (¬ f w.heap.size) := (fun h => by rw [Hf.out] at h; rcases h with h | h; exact absurd (Hina.out.1 _ h) (Nat.lt_irrefl _); exact absurd (Hina.out.2 _ h) (Nat.lt_irrefl _) : ¬ f w.heap.size)
  have HBx : Hid (Bl _ _ _ _) := alloc_bl w [.slice aa na ca, .slice ac nc cc, .bool inf] 26
  have Hsz : Hid ((w.alloc (.cells #[.slice aa na ca, .slice ac nc cc, .bool inf] 26)).heap.size = w.heap.size + 1) := World.size_alloc _ _
  have HF0 : Hid ((w.alloc (.cells #[.slice aa na ca, .slice ac nc cc, .bool inf] 26)).ownsRow 0 51 1 (.slice aa na ca) na ((List.replicate 0 11 ++ EA.drop 0).map U) ∧ (w.alloc (.cells #[.slice aa na ca, .slice ac nc cc, .bool inf] 26)).ownsRow 0 51 1 (.slice ac nc cc) nc ((EC).map U) ∧ Chf f (w.alloc (.cells #[.slice aa na ca, .slice ac nc cc, .bool inf] 26)) (w.alloc (.cells #[.slice aa na ca, .slice ac nc cc, .bool inf] 26))) := ⟨HO.out.1.alloc _, HO.out.2.alloc _, Chf.refl _ _⟩
  have Hend : Hid (∀ wr, Chf f (w.alloc (.cells #[.slice aa na ca, .slice ac nc cc, .bool inf] 26)) wr → Chf f w wr) := fun wr h => h.of_alloc
  go_enter Tryz.func21, Tryz.ntmps21
  go_wp2_with fail
  generalize (w.alloc (.cells #[.slice aa na ca, .slice ac nc cc, .bool inf] 26)) = w0 at *
  go_loopw [3] (fun s wr => ∃ i : Nat, s = .int .i64 (i : Int) ∧ i ≤ na ∧ Hid (wr.ownsRow 0 51 1 (.slice aa na ca) na ((List.replicate i 11 ++ EA.drop i).map U) ∧ wr.ownsRow 0 51 1 (.slice ac nc cc) nc ((EC).map U) ∧ Chf f w0 wr)) (fun s _ => na - (intOf s).toNat)
  case atStart => exact ⟨0, rfl, Nat.zero_le _, HF0⟩
  case round =>
    clear HF0
    obtain ⟨i, rfl, hi, HF⟩ := hrel
    have kb0 : wr.cell? ⟨w.heap.size, 0, none⟩ = some (.slice aa na ca) := (HBx.out.chf HF.out.2.2 Hnf.out).cell 0 (by simp)
    have kb1 : wr.cell? ⟨w.heap.size, 1, none⟩ = some (.slice ac nc cc) := (HBx.out.chf HF.out.2.2 Hnf.out).cell 1 (by simp)
    by_cases hlt : i < na
    · obtain ⟨ga, ega⟩ : ∃ ga, aa = some ⟨ga, 0, none⟩ := by
        rcases HF.out.1.2 with ⟨_, h0⟩ | ⟨g, cap, cur, e, _⟩
        · omega
        · injection e with e1; exact ⟨g, e1⟩
      subst ega
      have gc := HF.out.1.cellAt i (by omega)
      have gf := HF.out.1.frozenAt i
      obtain ⟨old, hold⟩ : ∃ v, wr.cell? ⟨ga, i, none⟩ = some v := by
        rw [gc, List.getElem?_eq_getElem (by rw [List.length_map]; simp [Hna.out]; omega)]
        exact ⟨_, rfl⟩
      have hst := HF.out.1.stored i (U 11)
      have HF2 : Hid ((wr.setCell ⟨ga, i, none⟩ (.int .u32 11)).ownsRow 0 51 1 (.slice (some ⟨ga, 0, none⟩) na ca) na ((List.replicate (i + 1) 11 ++ EA.drop (i + 1)).map U) ∧ (wr.setCell ⟨ga, i, none⟩ (.int .u32 11)).ownsRow 0 51 1 (.slice ac nc cc) nc ((EC).map U) ∧ Chf f w0 (wr.setCell ⟨ga, i, none⟩ (.int .u32 11))) := by
        refine ⟨?_, HF.out.2.1.kept hst.2 ?_, HF.out.2.2.grown hst.2 (fun g e => .inl ?_)⟩
        · have := hst.1
          rw [fill_setN 11 na i EA Hna.out hlt] at this
          exact this
        · cases hb : (Value.slice ac nc cc).ownBlock with
          | none => exact .inl rfl
          | some g => exact .inr (fun e => by injection e with e; subst e; exact HAp.out g rfl hb)
        · injection e with e; subst e; rw [Hf.out]; exact .inl rfl
      clear gc hst
      go_wp2
      exact ⟨⟨i + 1, by go_num, by omega, HF2⟩, by simp [intOf]; omega⟩
    · obtain rfl : na = i := by omega
      have HG0 : Hid (wr.ownsRow 0 51 1 (.slice aa na ca) na ((List.replicate na 11).map U) ∧ wr.ownsRow 0 51 1 (.slice ac nc cc) nc ((List.replicate 0 12 ++ EC.drop 0).map U) ∧ Chf f w0 wr) := by
        refine ⟨?_, HF.out.2.1, HF.out.2.2⟩
        have := HF.out.1
        rw [List.drop_of_length_le (by rw [Hna.out]; exact Nat.le_refl _), List.append_nil] at this
        exact this
      clear HF hlt hi
      go_wp2
      clear kb0 kb1
      go_loopw [4] (fun s wr => ∃ k : Nat, s = .int .i64 (k : Int) ∧ k ≤ nc ∧ Hid (wr.ownsRow 0 51 1 (.slice aa na ca) na ((List.replicate na 11).map U) ∧ wr.ownsRow 0 51 1 (.slice ac nc cc) nc ((List.replicate k 12 ++ EC.drop k).map U) ∧ Chf f w0 wr)) (fun s _ => nc - (intOf s).toNat)
      case atStart => exact ⟨0, rfl, Nat.zero_le _, HG0⟩
      case round =>
        clear HG0
        obtain ⟨k, rfl, hi, HF⟩ := hrel
        have kb0 : wr.cell? ⟨w.heap.size, 0, none⟩ = some (.slice aa na ca) := (HBx.out.chf HF.out.2.2 Hnf.out).cell 0 (by simp)
        have kb1 : wr.cell? ⟨w.heap.size, 1, none⟩ = some (.slice ac nc cc) := (HBx.out.chf HF.out.2.2 Hnf.out).cell 1 (by simp)
        by_cases hlt : k < nc
        · obtain ⟨ga, ega⟩ : ∃ ga, ac = some ⟨ga, 0, none⟩ := by
            rcases HF.out.2.1.2 with ⟨_, h0⟩ | ⟨g, cap, cur, e, _⟩
            · omega
            · injection e with e1; exact ⟨g, e1⟩
          subst ega
          have gc := HF.out.2.1.cellAt k (by omega)
          have gf := HF.out.2.1.frozenAt k
          obtain ⟨old, hold⟩ : ∃ v, wr.cell? ⟨ga, k, none⟩ = some v := by
            rw [gc, List.getElem?_eq_getElem (by rw [List.length_map]; simp [Hnc.out]; omega)]
            exact ⟨_, rfl⟩
          have hst := HF.out.2.1.stored k (U 12)
          have HF2 : Hid ((wr.setCell ⟨ga, k, none⟩ (.int .u32 12)).ownsRow 0 51 1 (.slice aa na ca) na ((List.replicate na 11).map U) ∧ (wr.setCell ⟨ga, k, none⟩ (.int .u32 12)).ownsRow 0 51 1 (.slice (some ⟨ga, 0, none⟩) nc cc) nc ((List.replicate (k + 1) 12 ++ EC.drop (k + 1)).map U) ∧ Chf f w0 (wr.setCell ⟨ga, k, none⟩ (.int .u32 12))) := by
            refine ⟨HF.out.1.kept hst.2 ?_, ?_, HF.out.2.2.grown hst.2 (fun g e => .inl ?_)⟩
            · cases hb : (Value.slice aa na ca).ownBlock with
              | none => exact .inl rfl
              | some g => exact .inr (fun e => by injection e with e; subst e; exact HAp.out g hb rfl)
            · have := hst.1
              rw [fill_setN 12 nc k EC Hnc.out hlt] at this
              exact this
            · injection e with e; subst e; rw [Hf.out]; exact .inr rfl
          clear gc hst
          go_wp2
          exact ⟨⟨k + 1, by go_num, by omega, HF2⟩, by simp [intOf]; omega⟩
        · obtain rfl : nc = k := by omega
          have HS0 : Hid (S2 w0 wr (.slice aa na ca) (.slice aa na ca) (.slice ac nc cc) (.slice ac nc cc) na nc 0 0) := by
            have h1 := HF.out.1
            have h2 := HF.out.2.1
            rw [List.drop_of_length_le (by rw [Hnc.out]; exact Nat.le_refl _), List.append_nil] at h2
            have h3 := HF.out.2.2
            rw [Hf.out] at h3
            have hs := Hsz.out
            refine ⟨⟨by rw [List.replicate_zero, List.append_nil]; exact h1, h1, .inl rfl, fun g hg => by have := Hina.out.1 g hg; omega⟩, ⟨by rw [List.replicate_zero, List.append_nil]; exact h2, h2, .inl rfl, fun g hg => by have := Hina.out.2 g hg; omega⟩, HAp.out, HAp.out, h3⟩
          clear HF hlt hi
          go_wp2
          clear kb0 kb1
          go_loopw [5, 6, 7] (fun s5 s6 s7 wr => ∃ (j : Nat) (ax ay : Option Addr) (cx cy : Nat), s7 = .int .i64 (j : Int) ∧ j ≤ 70 ∧ s5 = .slice ax (na + j) cx ∧ s6 = .slice ay (nc + j) cy ∧ Hid (S2 w0 wr (.slice aa na ca) s5 (.slice ac nc cc) s6 na nc j j)) (fun _ _ s7 _ => 70 - (intOf s7).toNat)
          case atStart => exact ⟨0, _, _, _, _, rfl, by omega, rfl, rfl, HS0⟩
          case round =>
            clear HS0
            obtain ⟨j, ax, ay, cx, cy, rfl, hj, rfl, rfl, HS⟩ := hrel
            by_cases hlt : j < 70
            · obtain ⟨v', w', hrun, hS'⟩ := HS.out.stepX (by omega)
              obtain ⟨am', cm', ev⟩ : ∃ a c, v' = .slice a (na + (j + 1)) c := by
                rcases hS'.A.own.2 with ⟨_, h0⟩ | ⟨g, cap, cur, e, _⟩
                · omega
                · exact ⟨_, _, e⟩
              subst ev
              obtain ⟨v2, w2', hrun2, hS2⟩ := hS'.stepY (by omega)
              obtain ⟨an', cn', ev2⟩ : ∃ a c, v2 = .slice a (nc + (j + 1)) c := by
                rcases hS2.C.own.2 with ⟨_, h0⟩ | ⟨g, cap, cur, e, _⟩
                · omega
                · exact ⟨_, _, e⟩
              subst ev2
              have HS2 : Hid (S2 w0 w2' (.slice aa na ca) (.slice am' (na + (j + 1)) cm') (.slice ac nc cc) (.slice an' (nc + (j + 1)) cn') na nc (j + 1) (j + 1)) := hS2
              clear hS' hS2 HS
              go_wp2_with (first | (at_builtin; refine Lib.wpList_append_run _ rfl _ _ 24 24 rfl _ _ rfl rfl _ _ hrun ?_) | (at_builtin; refine Lib.wpList_append_run _ rfl _ _ 24 24 rfl _ _ rfl rfl _ _ hrun2 ?_) | fail)
              go_roundw
              case rel => exact ⟨j + 1, am', an', cm', cn', by go_num, by omega, rfl, rfl, HS2⟩
              case measure => simp [intOf]; omega
            · obtain rfl : j = 70 := by omega
              clear hlt hj
              obtain ⟨gx, egx⟩ : ∃ g, ax = some ⟨g, 0, none⟩ := by
                rcases HS.out.A.own.2 with ⟨_, h0⟩ | ⟨g, cap, cur, e, _⟩
                · omega
                · injection e with e1; exact ⟨g, e1⟩
              subst egx
              obtain ⟨gy, egy⟩ : ∃ g, ay = some ⟨g, 0, none⟩ := by
                rcases HS.out.C.own.2 with ⟨_, h0⟩ | ⟨g, cap, cur, e, _⟩
                · omega
                · injection e with e1; exact ⟨g, e1⟩
              subst egy
              have kb0 : wr.cell? ⟨w.heap.size, 0, none⟩ = some (.slice aa na ca) := (HBx.out.chf (by rw [Hf.out]; exact HS.out.chg) Hnf.out).cell 0 (by simp)
              have kb1 : wr.cell? ⟨w.heap.size, 1, none⟩ = some (.slice ac nc cc) := (HBx.out.chf (by rw [Hf.out]; exact HS.out.chg) Hnf.out).cell 1 (by simp)
              have HcX : Hid (∀ m, m < 70 → wr.cell? ⟨gx, na + m, none⟩ = some (.int .u32 13)) := fun m hm => HS.out.A.cellX (na + m) (by omega) (by omega)
              have HcY : Hid (∀ m, m < 70 → wr.cell? ⟨gy, nc + m, none⟩ = some (.int .u32 14)) := fun m hm => HS.out.C.cellX (nc + m) (by omega) (by omega)
              have HcA : Hid (∀ m, m < na → ∃ g, aa = some ⟨g, 0, none⟩ ∧ wr.cell? ⟨g, m, none⟩ = some (.int .u32 11)) := fun m hm => by
                obtain ⟨ga, ega⟩ : ∃ g, aa = some ⟨g, 0, none⟩ := by
                  rcases HS.out.A.ownA.2 with ⟨_, h0⟩ | ⟨g, cap, cur, e, _⟩
                  · omega
                  · injection e with e1; exact ⟨g, e1⟩
                subst ega
                exact ⟨ga, rfl, HS.out.A.cellA m hm⟩
              have HcC : Hid (∀ m, m < nc → ∃ g, ac = some ⟨g, 0, none⟩ ∧ wr.cell? ⟨g, m, none⟩ = some (.int .u32 12)) := fun m hm => by
                obtain ⟨ga, ega⟩ : ∃ g, ac = some ⟨g, 0, none⟩ := by
                  rcases HS.out.C.ownA.2 with ⟨_, h0⟩ | ⟨g, cap, cur, e, _⟩
                  · omega
                  · injection e with e1; exact ⟨g, e1⟩
                subst ega
                exact ⟨ga, rfl, HS.out.C.cellA m hm⟩
              have HC9 : Hid (Chf f w wr) := Hend.out wr (by rw [Hf.out]; exact HS.out.chg)
              go_wp2
              go_loop [8] (fun s => ∃ m : Nat, s = .int .i64 (m : Int) ∧ m ≤ na) (fun s => na - (intOf s).toNat)
              case atStart => exact ⟨0, rfl, by omega⟩
              case round =>
                obtain ⟨m, rfl, hm⟩ := hrel
                by_cases hlt : m < na
                · obtain ⟨ga, rfl, y1⟩ := HcA.out m hlt
                  have d1 : decide ((m : Int) < (na : Int)) = true := decide_eq_true (by omega)
                  go_wp2
                  go_round
                  case rel => exact ⟨m + 1, by go_num, by omega⟩
                  case measure => simp [intOf]; omega
                · obtain rfl : na = m := by omega
                  go_wp2
                  go_loop [9] (fun s => ∃ m : Nat, s = .int .i64 (m : Int) ∧ m ≤ nc) (fun s => nc - (intOf s).toNat)
                  case atStart => exact ⟨0, rfl, by omega⟩
                  case round =>
                    obtain ⟨m, rfl, hm⟩ := hrel
                    by_cases hlt : m < nc
                    · obtain ⟨ga, rfl, y1⟩ := HcC.out m hlt
                      have d1 : decide ((m : Int) < (nc : Int)) = true := decide_eq_true (by omega)
                      go_wp2
                      go_round
                      case rel => exact ⟨m + 1, by go_num, by omega⟩
                      case measure => simp [intOf]; omega
                    · obtain rfl : nc = m := by omega
                      go_wp2
                      go_loop [10] (fun s => ∃ q : Nat, s = .int .i64 (q : Int) ∧ q ≤ 70) (fun s => 70 - (intOf s).toNat)
                      case atStart => exact ⟨0, rfl, by omega⟩
                      case round =>
                        obtain ⟨q, rfl, hq⟩ := hrel
                        by_cases hlt : q < 70
                        · have y1 := HcX.out q hlt
                          have y2 := HcY.out q hlt
                          go_wp2
                          go_round
                          case rel => exact ⟨q + 1, by go_num, by omega⟩
                          case measure => simp [intOf]; omega
                        · obtain rfl : q = 70 := by omega
                          go_wp2
                          go_ret
                          refine ⟨rfl, ?_⟩
                          have h := HC9.out
                          rw [Hf.out] at h
                          exact h
end Go.Proofs.YtmngdaolgdhgmaaGreatDoor

namespace Go.Proofs.YtmngdaolgdhgmaaGreatDoor
open Go.RowKit

set_option maxRecDepth 100000

theorem row_below' {w w' : World} {e : TypeId} {b0 : Nat} {v : Value} {n k : Nat} {xs : List Value} (h : w.ownsRow b0 e 1 v n xs) (hb : Below k w w') (hk : w.heap.size ≤ k) : w'.ownsRow b0 e 1 v n xs := by
  refine ⟨h.1, ?_⟩
  rcases h.2 with h1 | ⟨g, cap, cur, e1, hg, hh, hr⟩
  · exact .inl h1
  · refine .inr ⟨g, cap, cur, e1, hg, ?_, hr⟩
    rw [hb.block g (by have := (Array.getElem?_eq_some_iff.1 hh).1; omega)]
    exact hh
/-- The marks behind a copy. -/
def mkL (k : Nat) : List Nat := (List.range k).map fun i => 7000 + i
theorem mkL_length (k : Nat) : (mkL k).length = k := by simp [mkL]
theorem mkL_succ (k : Nat) : mkL (k + 1) = mkL k ++ [7000 + k] := by simp [mkL, List.range_succ]
/-- A copy with forty marks behind it. -/
def Lk (w : World) (base g cap : Nat) (xs : List Nat) : Prop := w.ownsRow base 51 1 (.slice (some ⟨g, 0, none⟩) (xs.length + 40) cap) (xs.length + 40) ((xs ++ mkL 40).map U)
theorem Lk.lt {w : World} {base g cap : Nat} {xs : List Nat} (h : Lk w base g cap xs) : base ≤ g ∧ g < w.heap.size := World.ownsRow.lt h g rfl
theorem Lk.cell {w : World} {base g cap : Nat} {xs : List Nat} (h : Lk w base g cap xs) (i : Nat) (hi : i < xs.length + 40) : w.cell? ⟨g, i, none⟩ = some (U ((xs ++ mkL 40).getD i 0)) := by
  rw [World.ownsRow.cellAt h i (by omega), List.getElem?_map, List.getElem?_eq_getElem (by rw [List.length_append, mkL_length]; exact hi), List.getD_eq_getElem?_getD, List.getElem?_eq_getElem (by rw [List.length_append, mkL_length]; exact hi)]
  rfl
theorem Lk.rn {w : World} {base g cap : Nat} {xs : List Nat} (h : Lk w base g cap xs) : Rn w (some ⟨g, 0, none⟩) xs := by
  refine .inr ⟨g, 0, rfl, h.lt.2, fun j hj => ?_⟩
  rw [Nat.zero_add, h.cell j (by omega), List.getD_eq_getElem?_getD, List.getD_eq_getElem?_getD, List.getElem?_append_left hj]
theorem Lk.mark {w : World} {base g cap : Nat} {xs : List Nat} (h : Lk w base g cap xs) (i : Nat) (hi : i < 40) : w.cell? ⟨g, xs.length + i, none⟩ = some (.int .u32 (7000 + (i : Int))) := by
  rw [h.cell _ (by omega), List.getD_eq_getElem?_getD, List.getElem?_append_right (by omega), Nat.add_sub_cancel_left, List.getElem?_eq_getElem (by rw [mkL_length]; exact hi)]
  simp [mkL, U]
theorem Lk.below {w w' : World} {base g cap k : Nat} {xs : List Nat} (h : Lk w base g cap xs) (hb : Below k w w') (hn : w.heap.size ≤ k) : Lk w' base g cap xs := row_below' h hb hn
theorem Lk.chf {f : Nat → Prop} {w w' : World} {base g cap : Nat} {xs : List Nat} (h : Lk w base g cap xs) (hc : Chf f w w') (hf : ¬ f g) : Lk w' base g cap xs := own_chf h hc (fun g' e => by injection e with e; subst e; exact hf)
theorem Lk.cap {w : World} {base g cap : Nat} {xs : List Nat} (h : Lk w base g cap xs) : xs.length + 40 ≤ cap ∧ cap ≤ maxLen := by
  rcases h.2 with ⟨e, _⟩ | ⟨g', cap', cur, e, _, _, hr⟩
  · cases e
  · injection e with e1 e2 e3
    subst e3
    exact ⟨hr.1, hr.2.1⟩
set_option maxHeartbeats 4000000 in
theorem marked_v (ao : Option Addr) (c : Nat) (xs : List Nat) (w : World) (hr : Rn w ao xs) (hl : xs.length ≤ 3000000) :
    Calls Tryz.prog 35 #[.slice ao xs.length c] w fun e w' => ∃ g cap, e = .returned (.slice (some ⟨g, 0, none⟩) xs.length cap) ∧ Lk w' w.heap.size g cap xs ∧ Below w.heap.size w w' := by
  have HR : Hid (Rn w ao xs) := hr
  have HO0 : Hid (OB w.heap.size w w (.slice none 0 0) (xs.take 0)) := OB.nil w
  clear hr
  go_enter Tryz.func35, Tryz.ntmps35
  go_wp2
  go_loopw [3, 4] (fun s3 s4 wr => ∃ i : Nat, s4 = .int .i64 (i : Int) ∧ i ≤ xs.length ∧ Hid (OB w.heap.size w wr s3 (xs.take i))) (fun _ s _ => xs.length - (intOf s).toNat)
  case atStart => exact ⟨0, rfl, Nat.zero_le _, HO0⟩
  case round =>
    clear HO0
    obtain ⟨i, rfl, hi, HI⟩ := hrel
    by_cases hlt : i < xs.length
    · obtain ⟨g, off, rfl, _, hcell⟩ := (HR.out.below HI.out.bel (Nat.le_refl _)).cell (by omega)
      have gc := hcell i hlt
      obtain ⟨y, Hy⟩ : ∃ y, Hid (xs.getD i 0 = y) := ⟨_, rfl⟩
      rw [Hy.out] at gc
      have HL : Hid ((xs.take i).length ≤ 1000000000) := by show _ ≤ _; rw [List.length_take]; omega
      clear hcell
      go_wp2_with (at_builtin; refine append_one (w := w) rfl (.tmp 12) (.tmp 17) rfl w.heap.size _ (xs.take i) y rfl HI.out rfl HL.out (Nat.le_refl _) ?_; intro v5 w5 h5)
      have HO : Hid (OB w.heap.size w w5 v5 (xs.take (i + 1))) := by
        rw [List.take_succ_eq_append_getElem hlt, ← getD_eq _ _ hlt, Hy.out]; exact h5
      clear h5
      go_wp2
      go_roundw
      case rel => exact ⟨i + 1, by go_num, by omega, HO⟩
      case measure => simp [intOf]; omega
    · have HO1 : Hid (OB w.heap.size w wr u3 (xs ++ mkL 0)) := by
        have := HI.out
        rw [List.take_of_length_le (by omega)] at this
        rw [show mkL 0 = [] from rfl, List.append_nil]
        exact this
      clear HI
      go_wp2
      go_loopw [3, 5] (fun s3 s5 wq => ∃ k : Nat, s5 = .int .i64 (k : Int) ∧ k ≤ 40 ∧ Hid (OB w.heap.size w wq s3 (xs ++ mkL k))) (fun _ s _ => 40 - (intOf s).toNat)
      case atStart => exact ⟨0, rfl, Nat.zero_le _, HO1⟩
      case round =>
        clear HO1
        obtain ⟨m, rfl, hm, HI⟩ := hrel
        by_cases hml : m < 40
        · have HL : Hid ((xs ++ mkL m).length ≤ 1000000000) := by show _ ≤ _; rw [List.length_append, mkL_length]; omega
          go_wp2_with (at_builtin; refine append_one (w := w) rfl (.tmp 23) (.tmp 27) rfl w.heap.size _ (xs ++ mkL m) (7000 + m) rfl HI.out rfl HL.out (Nat.le_refl _) ?_; intro v5 w5 h5)
          have HO : Hid (OB w.heap.size w w5 v5 (xs ++ mkL (m + 1))) := by
            rw [mkL_succ, ← List.append_assoc]; exact h5
          clear h5
          go_wp2
          go_roundw
          case rel => exact ⟨m + 1, by go_num, by omega, HO⟩
          case measure => simp [intOf]; omega
        · obtain rfl : m = 40 := by omega
          have hown := HI.out.own
          have hlen : (xs ++ mkL 40).length = xs.length + 40 := by rw [List.length_append, mkL_length]
          unfold Ow at hown
          rw [hlen] at hown
          obtain ⟨g, cap, eu⟩ : ∃ g cap, u3 = .slice (some ⟨g, 0, none⟩) (xs.length + 40) cap := by
            rcases hown.2 with ⟨_, h0⟩ | ⟨g, cap, cur, e, _⟩
            · omega
            · exact ⟨g, cap, e⟩
          subst eu
          have HK : Hid (Lk wr w.heap.size g cap xs ∧ Below w.heap.size w wr) := ⟨hown, HI.out.bel⟩
          have hcap := HK.out.1.cap.1
          clear hown hlen HI
          go_wp2
          go_ret
          exact ⟨_, _, rfl, HK.out⟩
set_option maxHeartbeats 4000000 in
theorem whole_v (base g cap : Nat) (ao : Option Addr) (c : Nat) (xs : List Nat) (w : World) (h : Lk w base g cap xs) (hr : Rn w ao xs) (hl : xs.length ≤ 3000000) :
    Calls Tryz.prog 40 #[.slice (some ⟨g, 0, none⟩) xs.length cap, .slice ao xs.length c] w fun e w' => e = .returned (.bool true) ∧ ∃ q, w' = w.drewN q := by
  have HK : Hid (Lk w base g cap xs) := h
  have HR : Hid (Rn w ao xs) := hr
  have hcap := h.cap.1
  have C := sameNat_all (some ⟨g, 0, none⟩) ao cap c xs.length xs w h.rn hr rfl (by omega)
  clear h hr
  go_enter Tryz.func40, Tryz.ntmps40
  go_wp2
  go_loop [6] (fun s => ∃ m : Nat, s = .int .i64 (m : Int) ∧ m ≤ 40) (fun s => 40 - (intOf s).toNat)
  case atStart => exact ⟨0, rfl, Nat.zero_le _⟩
  case round =>
    obtain ⟨m, rfl, hm⟩ := hrel
    by_cases hml : m < 40
    · have gc := HK.out.mark m hml
      go_wp2
      go_round
      case rel => exact ⟨m + 1, by go_num, by omega⟩
      case measure => simp [intOf]; omega
    · obtain rfl : m = 40 := by omega
      go_wp2_with fail
      refine C.mono ?_
      rintro e w1 ⟨rfl, q, hq⟩
      go_wp2
      go_ret
      first | exact ⟨rfl, q, hq⟩ | exact ⟨rfl, q, rfl⟩
end Go.Proofs.YtmngdaolgdhgmaaGreatDoor

namespace Go.Proofs.YtmngdaolgdhgmaaGreatDoor
open Go.RowKit

set_option maxRecDepth 100000

theorem own_but {w w' : World} {b0 n b : Nat} {e : TypeId} {v : Value} {xs : List Value} (h : w.ownsRow b0 e 1 v n xs) (hb : But w w' b) (hf : v.ownBlock ≠ some b) : w'.ownsRow b0 e 1 v n xs := by
  refine ⟨h.1, ?_⟩
  rcases h.2 with h1 | ⟨g, cap, cur, e, hg, hh, hr⟩
  · exact .inl h1
  · refine .inr ⟨g, cap, cur, e, hg, ?_, hr⟩
    rw [hb.block g (Array.getElem?_eq_some_iff.1 hh).1 (fun e2 => hf (by rw [e, ← e2]; rfl))]
    exact hh
theorem Lk.but {w w' : World} {base g cap b : Nat} {xs : List Nat} (h : Lk w base g cap xs) (hb : But w w' b) (hf : g ≠ b) : Lk w' base g cap xs := own_but h hb (fun e => by injection e with e; exact hf e)
theorem Lk.base {w : World} {base base' g cap : Nat} {xs : List Nat} (h : Lk w base g cap xs) (hb : base' ≤ base) : Lk w base' g cap xs := by
  refine ⟨h.1, ?_⟩
  rcases h.2 with h1 | ⟨g, cap, cur, e, hg, hh, hr⟩
  · exact .inl h1
  · exact .inr ⟨g, cap, cur, e, Nat.le_trans hb hg, hh, hr⟩
theorem marked_w (ao : Option Addr) (n c : Nat) (xs : List Nat) (w : World) (hr : Rn w ao xs) (hl : xs.length ≤ 3000000) (hn : xs.length = n) :
    Calls Tryz.prog 35 #[.slice ao n c] w fun e w' => ∃ g cap, e = .returned (.slice (some ⟨g, 0, none⟩) n cap) ∧ Lk w' w.heap.size g cap xs ∧ Below w.heap.size w w' := by
  subst hn
  exact marked_v ao c xs w hr hl
set_option maxHeartbeats 8000000 in
theorem lent_v (x y : Value) (xs ys : List Nat) (inf : Bool) (w : World) (hx : Nm w x xs) (hy : Nm w y ys) (l1 : xs.length ≤ 3000000) (l2 : ys.length ≤ 3000000) :
    Calls Tryz.prog 7 #[.agg #[x, y, .bool inf]] w fun e w' => ∃ g1 d1 g2 d2, e = .returned (.agg #[.slice (some ⟨g1, 0, none⟩) xs.length d1, .slice (some ⟨g2, 0, none⟩) ys.length d2, .bool inf]) ∧ Lk w' w.heap.size g1 d1 xs ∧ Lk w' w.heap.size g2 d2 ys ∧ g1 < g2 ∧ Below w.heap.size w w' := by
  obtain ⟨x0, x2, rfl, _, rx, _⟩ := hx
  obtain ⟨y0, y2, rfl, _, ry, _⟩ := hy
  have HR : Hid (Rn w x0 xs ∧ Rn w y0 ys) := ⟨rx, ry⟩
  have HL : Hid (xs.length ≤ 3000000 ∧ ys.length ≤ 3000000) := ⟨l1, l2⟩
  obtain ⟨x1, Hx1⟩ : ∃ n, Hid (xs.length = n) := ⟨_, rfl⟩
  obtain ⟨y1, Hy1⟩ : ∃ n, Hid (ys.length = n) := ⟨_, rfl⟩
  rw [Hx1.out, Hy1.out]
  clear rx ry
  have HF0 : Hid (Fm w ((w.alloc (.cells #[.slice x0 x1 x2, .slice y0 y1 y2, .bool inf] 26)).alloc (.cells #[.slice none 0 0, .slice none 0 0, .bool false] 26)) [(26, [.slice x0 x1 x2, .slice y0 y1 y2, .bool inf]), (26, [.slice none 0 0, .slice none 0 0, .bool false])] [] []) := (((Fm.nil (w := w) (A := []) ar_nil).push (by simp) 26 [.slice x0 x1 x2, .slice y0 y1 y2, .bool inf]).push (by simp) 26 [.slice none 0 0, .slice none 0 0, .bool false])
  go_enter Tryz.func7, Tryz.ntmps7
  go_wp2_with fail
  generalize ((w.alloc (.cells #[.slice x0 x1 x2, .slice y0 y1 y2, .bool inf] 26)).alloc (.cells #[.slice none 0 0, .slice none 0 0, .bool false] 26)) = w0 at *
  have HFd : Hid (Fm _ _ _ _ _) := HF0.out.drew
  have Hsz : Hid (w.heap.size + 2 ≤ w0.drew.heap.size) := HFd.out.sz
  refine wp_region_K 9 (fun (w' : World) => w'.cell? ⟨w.heap.size, 0, none⟩ = some (.slice x0 x1 x2) ∧ w'.cell? ⟨w.heap.size, 1, none⟩ = some (.slice y0 y1 y2) ∧ w'.cell? ⟨w.heap.size, 2, none⟩ = some (.bool inf)) (by kernel_rfl) ?_
  have hHeld : ((fun (w' : World) => w'.cell? ⟨w.heap.size, 0, none⟩ = some (.slice x0 x1 x2) ∧ w'.cell? ⟨w.heap.size, 1, none⟩ = some (.slice y0 y1 y2) ∧ w'.cell? ⟨w.heap.size, 2, none⟩ = some (.bool inf))) (World.drew _) := ⟨HFd.out.cell 0 0 (Nat.le_of_ble_eq_true rfl) (Nat.le_of_ble_eq_true rfl), HFd.out.cell 0 1 (Nat.le_of_ble_eq_true rfl) (Nat.le_of_ble_eq_true rfl), HFd.out.cell 0 2 (Nat.le_of_ble_eq_true rfl) (Nat.le_of_ble_eq_true rfl)⟩
  refine wpAnyK_take0 0 (v := ?v1) rfl (by kernel_rfl) (fun _ _ _ h => h) (Or.inl ⟨by rfl, ?hy1⟩) (fun _ => hHeld) ?_
  case hy1 => (intro w hSw; go_simp; try with_reducible rfl)
  try simp only [Act.put, List.setIfInBounds_toArray, List.set_cons_zero, List.set_cons_succ]
  refine wpAnyK_take 1 [2, 8, 9] (v := ?v2) rfl (by kernel_rfl) (fun _ _ _ h => h) (Or.inl ⟨by rfl, ?hy2⟩) hHeld ?_
  case hy2 => (intro w hSw; (try dsimp only at hSw); go_simp; try with_reducible rfl)
  try simp only [Act.put, List.setIfInBounds_toArray, List.set_cons_zero, List.set_cons_succ]
  refine wpAnyK_take0 3 (v := ?v3) rfl (by kernel_rfl) (fun _ _ _ h => h) (Or.inl ⟨by rfl, ?hy3⟩) (fun _ => hHeld) ?_
  case hy3 => (intro w hSw; go_simp; try with_reducible rfl)
  try simp only [Act.put, List.setIfInBounds_toArray, List.set_cons_zero, List.set_cons_succ]
  refine wpAnyK_take 4 [5, 8, 9] (v := ?v4) rfl (by kernel_rfl) (fun _ _ _ h => h) (Or.inl ⟨by rfl, ?hy4⟩) hHeld ?_
  case hy4 => (intro w hSw; (try dsimp only at hSw); go_simp; try with_reducible rfl)
  try simp only [Act.put, List.setIfInBounds_toArray, List.set_cons_zero, List.set_cons_succ]
  refine wpAnyK_take0 6 (v := ?v5) rfl (by kernel_rfl) (fun _ _ _ h => h) (Or.inl ⟨by rfl, ?hy5⟩) (fun _ => hHeld) ?_
  case hy5 => (intro w hSw; go_simp; try with_reducible rfl)
  try simp only [Act.put, List.setIfInBounds_toArray, List.set_cons_zero, List.set_cons_succ]
  refine wpAnyK_take 7 [8, 9] (v := ?v6) rfl (by kernel_rfl) (fun _ _ _ h => h) (Or.inl ⟨by rfl, ?hy6⟩) hHeld ?_
  case hy6 => (intro w hSw; (try dsimp only at hSw); go_simp; try with_reducible rfl)
  try simp only [Act.put, List.setIfInBounds_toArray, List.set_cons_zero, List.set_cons_succ]
  refine wpAnyK_step 2 rfl (by kernel_rfl) (fun K hK => ?_)
  go_simp
  refine (marked_w x0 x1 x2 xs _ (HR.out.1.below HFd.out.bel (Nat.le_refl _)) HL.out.1 Hx1.out).mono ?_
  rintro e w1 ⟨g1, d1, rfl, k1, hB⟩
  have HK1 : Hid (Lk w1 w0.drew.heap.size g1 d1 xs) := k1
  clear k1
  have HF1 : Hid (Fm _ _ _ _ _) := HFd.out.below hB
  clear hB
  try dsimp only
  refine (fun hHeld => hK.out _ _ (fun _ => hHeld) ?_) ⟨HF1.out.cell 0 0 (Nat.le_of_ble_eq_true rfl) (Nat.le_of_ble_eq_true rfl), HF1.out.cell 0 1 (Nat.le_of_ble_eq_true rfl) (Nat.le_of_ble_eq_true rfl), HF1.out.cell 0 2 (Nat.le_of_ble_eq_true rfl) (Nat.le_of_ble_eq_true rfl)⟩
  clear hK K
  try simp only [Act.put, List.setIfInBounds_toArray, List.set_cons_zero, List.set_cons_succ]
  refine wpAnyK_step 5 rfl (by kernel_rfl) (fun K hK => ?_)
  go_simp
  refine (marked_w y0 y1 y2 ys _ (HR.out.2.below HF1.out.bel (Nat.le_refl _)) HL.out.2 Hy1.out).mono ?_
  rintro e w2 ⟨g2, d2, rfl, k2, hB⟩
  have HK2 : Hid (Lk w2 w1.heap.size g2 d2 ys) := k2
  clear k2
  have HF2 : Hid (Fm _ _ _ _ _) := HF1.out.below hB
  have HK3 : Hid (Lk w2 w0.drew.heap.size g1 d1 xs ∧ g1 < w1.heap.size) := ⟨HK1.out.below hB (Nat.le_refl _), HK1.out.lt.2⟩
  clear hB
  try dsimp only
  refine (fun hHeld => hK.out _ _ (fun _ => hHeld) ?_) ⟨HF2.out.cell 0 0 (Nat.le_of_ble_eq_true rfl) (Nat.le_of_ble_eq_true rfl), HF2.out.cell 0 1 (Nat.le_of_ble_eq_true rfl) (Nat.le_of_ble_eq_true rfl), HF2.out.cell 0 2 (Nat.le_of_ble_eq_true rfl) (Nat.le_of_ble_eq_true rfl)⟩
  clear hK K
  try simp only [Act.put, List.setIfInBounds_toArray, List.set_cons_zero, List.set_cons_succ]
  refine wpAnyK_take0 8 (v := ?v9) rfl (by kernel_rfl) (fun _ _ _ h => h) (Or.inl ⟨by rfl, ?hy9⟩) (fun _ => hHeld) ?_
  case hy9 => (intro w hSw; go_simp; try with_reducible rfl)
  try simp only [Act.put, List.setIfInBounds_toArray, List.set_cons_zero, List.set_cons_succ]
  refine wpAnyK_step 9 rfl (by kernel_rfl) (fun K hK => ?_)
  rw [if_pos (by kernel_rfl)]
  refine wp_store_row 26 _ _ rfl (w.heap.size + 1) #[.slice (some ⟨g1, 0, none⟩) x1 d1, .slice (some ⟨g2, 0, none⟩) y1 d2, .bool inf] rfl rfl 26 #[.slice none 0 0, .slice none 0 0, .bool false] (HF2.out.bx 1 (Nat.le_of_ble_eq_true rfl)) (by kernel_rfl) rfl (by simp [Value.oneCell']) ?_
  refine hK.out _ _ ?hk10 ?_
  case hk10 => exact (fun h => nomatch (h.symm.trans (show _ = true by kernel_rfl)))
  clear hK K
  try simp only [Act.put]
  refine wpAnyK_done (by kernel_rfl) ?_ _
  go_wp2
  (try simp only [Exit.inBlock, Exit.then])
  have hb := But.setRow w2 (w.heap.size + 1) #[.slice (some ⟨g1, 0, none⟩) x1 d1, .slice (some ⟨g2, 0, none⟩) y1 d2, .bool inf]
  have hs2 := Hsz.out
  refine bodyPost_ret (v := .agg #[.slice (some ⟨g1, 0, none⟩) x1 d1, .slice (some ⟨g2, 0, none⟩) y1 d2, .bool inf]) ?_ rfl ⟨g1, d1, g2, d2, rfl, (HK3.out.1.but hb (by have := HK3.out.1.lt; omega)).base (by omega), (HK2.out.but hb (by have := HK2.out.lt; have := HF1.out.bel.size; have := HF1.out.sz; simp at this; omega)).base (by have := HF1.out.bel.size; omega), by have := HK2.out.lt; have := HK3.out.2; omega, HF2.out.outB 1 (by simp) hb⟩
  exact results_cell_row rfl _ _ (w.heap.size + 1) 26 _ (0, 0) _ rfl (setRow_heap _ _ _ _ _ _ (HF2.out.bx 1 (Nat.le_of_ble_eq_true rfl))) Tryz.underlying26 rfl (by kernel_rfl)
set_option maxHeartbeats 8000000 in
theorem still_v {b1 g1 d1 b2 g2 d2 : Nat} (x y : Value) (xs ys : List Nat) (inf : Bool) (w : World) (k1 : Lk w b1 g1 d1 xs) (k2 : Lk w b2 g2 d2 ys) (hx : Nm w x xs) (hy : Nm w y ys) (l1 : xs.length ≤ 3000000) (l2 : ys.length ≤ 3000000) :
    Calls Tryz.prog 20 #[.agg #[.slice (some ⟨g1, 0, none⟩) xs.length d1, .slice (some ⟨g2, 0, none⟩) ys.length d2, .bool inf], .agg #[x, y, .bool inf]] w fun e w' => e = .returned (.bool true) ∧ Below w.heap.size w w' := by
  obtain ⟨x0, x2, rfl, _, rx, _⟩ := hx
  obtain ⟨y0, y2, rfl, _, ry, _⟩ := hy
  have Hr0 : Hid (Rn w x0 xs) := rx
  have Hq0 : Hid (Rn w y0 ys) := ry
  have Hu0 : Hid (Lk w b1 g1 d1 xs) := k1
  have Hv0 : Hid (Lk w b2 g2 d2 ys) := k2
  have HB0 : Hid (Below w.heap.size w w) := Below.refl _ _
  have HL : Hid (xs.length ≤ 3000000 ∧ ys.length ≤ 3000000) := ⟨l1, l2⟩
  have hff : (inf == inf) = true := by simp
  clear rx ry k1 k2
  have hfm : Fm w ((w.alloc (.cells #[.slice (some ⟨g1, 0, none⟩) xs.length d1, .slice (some ⟨g2, 0, none⟩) ys.length d2, .bool inf] 26)).alloc (.cells #[.slice x0 xs.length x2, .slice y0 ys.length y2, .bool inf] 26)) [(26, [.slice (some ⟨g1, 0, none⟩) xs.length d1, .slice (some ⟨g2, 0, none⟩) ys.length d2, .bool inf]), (26, [.slice x0 xs.length x2, .slice y0 ys.length y2, .bool inf])] [] [] := ((Fm.nil (w := w) (A := []) ar_nil).push (by simp) 26 [.slice (some ⟨g1, 0, none⟩) xs.length d1, .slice (some ⟨g2, 0, none⟩) ys.length d2, .bool inf]).push (by simp) 26 [.slice x0 xs.length x2, .slice y0 ys.length y2, .bool inf]
  have Hs1 : Hid (Below w.heap.size w ((w.alloc (.cells #[.slice (some ⟨g1, 0, none⟩) xs.length d1, .slice (some ⟨g2, 0, none⟩) ys.length d2, .bool inf] 26)).alloc (.cells #[.slice x0 xs.length x2, .slice y0 ys.length y2, .bool inf] 26))) := hfm.bel
  have Hba0 : Hid (Bl 26 ((w.alloc (.cells #[.slice (some ⟨g1, 0, none⟩) xs.length d1, .slice (some ⟨g2, 0, none⟩) ys.length d2, .bool inf] 26)).alloc (.cells #[.slice x0 xs.length x2, .slice y0 ys.length y2, .bool inf] 26)) w.heap.size [.slice (some ⟨g1, 0, none⟩) xs.length d1, .slice (some ⟨g2, 0, none⟩) ys.length d2, .bool inf]) := hfm.bx 0 (by simp)
  have Hbb0 : Hid (Bl 26 ((w.alloc (.cells #[.slice (some ⟨g1, 0, none⟩) xs.length d1, .slice (some ⟨g2, 0, none⟩) ys.length d2, .bool inf] 26)).alloc (.cells #[.slice x0 xs.length x2, .slice y0 ys.length y2, .bool inf] 26)) (w.heap.size + 1) [.slice x0 xs.length x2, .slice y0 ys.length y2, .bool inf]) := hfm.bx 1 (by simp)
  clear hfm
  go_enter Tryz.func20, Tryz.ntmps20
  have ka_0 : ((w.alloc (.cells #[.slice (some ⟨g1, 0, none⟩) xs.length d1, .slice (some ⟨g2, 0, none⟩) ys.length d2, .bool inf] 26)).alloc (.cells #[.slice x0 xs.length x2, .slice y0 ys.length y2, .bool inf] 26)).cell? ⟨w.heap.size, 0, none⟩ = some (.slice (some ⟨g1, 0, none⟩) xs.length d1) := Hba0.out.cell 0 (by simp)
  have ka_1 : ((w.alloc (.cells #[.slice (some ⟨g1, 0, none⟩) xs.length d1, .slice (some ⟨g2, 0, none⟩) ys.length d2, .bool inf] 26)).alloc (.cells #[.slice x0 xs.length x2, .slice y0 ys.length y2, .bool inf] 26)).cell? ⟨w.heap.size, 1, none⟩ = some (.slice (some ⟨g2, 0, none⟩) ys.length d2) := Hba0.out.cell 1 (by simp)
  have ka_2 : ((w.alloc (.cells #[.slice (some ⟨g1, 0, none⟩) xs.length d1, .slice (some ⟨g2, 0, none⟩) ys.length d2, .bool inf] 26)).alloc (.cells #[.slice x0 xs.length x2, .slice y0 ys.length y2, .bool inf] 26)).cell? ⟨w.heap.size, 2, none⟩ = some (.bool inf) := Hba0.out.cell 2 (by simp)
  have kb_0 : ((w.alloc (.cells #[.slice (some ⟨g1, 0, none⟩) xs.length d1, .slice (some ⟨g2, 0, none⟩) ys.length d2, .bool inf] 26)).alloc (.cells #[.slice x0 xs.length x2, .slice y0 ys.length y2, .bool inf] 26)).cell? ⟨w.heap.size + 1, 0, none⟩ = some (.slice x0 xs.length x2) := Hbb0.out.cell 0 (by simp)
  have kb_1 : ((w.alloc (.cells #[.slice (some ⟨g1, 0, none⟩) xs.length d1, .slice (some ⟨g2, 0, none⟩) ys.length d2, .bool inf] 26)).alloc (.cells #[.slice x0 xs.length x2, .slice y0 ys.length y2, .bool inf] 26)).cell? ⟨w.heap.size + 1, 1, none⟩ = some (.slice y0 ys.length y2) := Hbb0.out.cell 1 (by simp)
  have kb_2 : ((w.alloc (.cells #[.slice (some ⟨g1, 0, none⟩) xs.length d1, .slice (some ⟨g2, 0, none⟩) ys.length d2, .bool inf] 26)).alloc (.cells #[.slice x0 xs.length x2, .slice y0 ys.length y2, .bool inf] 26)).cell? ⟨w.heap.size + 1, 2, none⟩ = some (.bool inf) := Hbb0.out.cell 2 (by simp)
  go_wp2_with fail
  clear ka_0 ka_1 ka_2 kb_0 kb_1 kb_2
  generalize ((w.alloc (.cells #[.slice (some ⟨g1, 0, none⟩) xs.length d1, .slice (some ⟨g2, 0, none⟩) ys.length d2, .bool inf] 26)).alloc (.cells #[.slice x0 xs.length x2, .slice y0 ys.length y2, .bool inf] 26)) = wv2 at *
  have Hu1 : Hid (Lk _ _ _ _ _) := Hu0.out.below Hs1.out (Nat.le_refl _)
  have Hr1 : Hid (Rn wv2 x0 xs) := Hr0.out.below Hs1.out (Nat.le_refl _)
  refine (whole_v b1 g1 d1 x0 x2 xs _ Hu1.out Hr1.out HL.out.1).mono ?_
  rintro e w3 ⟨rfl, q_, hq_⟩
  have Hs4 : Hid (Below wv2.heap.size wv2 w3) := (by rw [hq_]; exact below_drewN (Below.refl _ _) q_ : Below _ _ _)
  clear hq_ q_
  have Hba1 : Hid (Bl _ _ _ _) := Hba0.out.below Hs4.out Hba0.out.lt
  have ka_0 : w3.cell? ⟨w.heap.size, 0, none⟩ = some (.slice (some ⟨g1, 0, none⟩) xs.length d1) := Hba1.out.cell 0 (by simp)
  have ka_1 : w3.cell? ⟨w.heap.size, 1, none⟩ = some (.slice (some ⟨g2, 0, none⟩) ys.length d2) := Hba1.out.cell 1 (by simp)
  have ka_2 : w3.cell? ⟨w.heap.size, 2, none⟩ = some (.bool inf) := Hba1.out.cell 2 (by simp)
  have Hbb1 : Hid (Bl _ _ _ _) := Hbb0.out.below Hs4.out Hbb0.out.lt
  have kb_0 : w3.cell? ⟨w.heap.size + 1, 0, none⟩ = some (.slice x0 xs.length x2) := Hbb1.out.cell 0 (by simp)
  have kb_1 : w3.cell? ⟨w.heap.size + 1, 1, none⟩ = some (.slice y0 ys.length y2) := Hbb1.out.cell 1 (by simp)
  have kb_2 : w3.cell? ⟨w.heap.size + 1, 2, none⟩ = some (.bool inf) := Hbb1.out.cell 2 (by simp)
  go_wp2_with fail
  clear ka_0 ka_1 ka_2 kb_0 kb_1 kb_2
  have Hv1 : Hid (Lk _ _ _ _ _) := Hv0.out.below (btr Hs1.out Hs4.out) (Nat.le_refl _)
  have Hq1 : Hid (Rn w3 y0 ys) := Hq0.out.below (btr Hs1.out Hs4.out) (Nat.le_refl _)
  refine (whole_v b2 g2 d2 y0 y2 ys _ Hv1.out Hq1.out HL.out.2).mono ?_
  rintro e w5 ⟨rfl, q_, hq_⟩
  have Hs6 : Hid (Below w3.heap.size w3 w5) := (by rw [hq_]; exact below_drewN (Below.refl _ _) q_ : Below _ _ _)
  clear hq_ q_
  have HB1 : Hid (Below _ _ _) := HB0.out.trans ((btr Hs1.out (btr Hs4.out Hs6.out)).mono HB0.out.size)
  go_wp2
  go_ret
  exact ⟨rfl, HB1.out⟩
theorem Ob'.but {w w' : World} {base b : Nat} {v : Value} {V : Nat} (h : Ob' w base v V) (hb : But w w' b) (hf : b < base) : Ob' w' base v V := ⟨own_but h.1 hb (fun e => by have := (World.ownsRow.lt h.1 b e).1; omega), h.2⟩
theorem Ob'.base {w : World} {base base' : Nat} {v : Value} {V : Nat} (h : Ob' w base v V) (hb : base' ≤ base) : Ob' w base' v V := ⟨h.1.base hb, h.2⟩
set_option maxHeartbeats 8000000 in
theorem proper_p (x y : Value) (X Y : Nat) (inf : Bool) (w : World) (hx : Nu w x X) (hy : Nu w y Y) :
    Calls Tryz.prog 55 #[.agg #[x, y, .bool inf]] w fun e w' => ∃ a b, e = .returned (.agg #[a, b, .bool inf]) ∧ Ob' w' w.heap.size a X ∧ Ob' w' w.heap.size b Y ∧ Below w.heap.size w w' := by
  obtain ⟨x0, x1, x2, rfl⟩ := hx.shape
  obtain ⟨y0, y1, y2, rfl⟩ := hy.shape
  have HR : Hid (Nu w (.slice x0 x1 x2) X ∧ Nu w (.slice y0 y1 y2) Y) := ⟨hx, hy⟩
  clear hx hy
  have HF0 : Hid (Fm w ((w.alloc (.cells #[.slice x0 x1 x2, .slice y0 y1 y2, .bool inf] 26)).alloc (.cells #[.slice none 0 0, .slice none 0 0, .bool false] 26)) [(26, [.slice x0 x1 x2, .slice y0 y1 y2, .bool inf]), (26, [.slice none 0 0, .slice none 0 0, .bool false])] [] []) := (((Fm.nil (w := w) (A := []) ar_nil).push (by simp) 26 [.slice x0 x1 x2, .slice y0 y1 y2, .bool inf]).push (by simp) 26 [.slice none 0 0, .slice none 0 0, .bool false])
  go_enter Tryz.func55, Tryz.ntmps55
  go_wp2_with fail
  generalize ((w.alloc (.cells #[.slice x0 x1 x2, .slice y0 y1 y2, .bool inf] 26)).alloc (.cells #[.slice none 0 0, .slice none 0 0, .bool false] 26)) = w0 at *
  have HFd : Hid (Fm _ _ _ _ _) := HF0.out.drew
  have Hsz : Hid (w.heap.size + 2 ≤ w0.drew.heap.size) := HFd.out.sz
  refine wp_region_K 9 (fun (w' : World) => w'.cell? ⟨w.heap.size, 0, none⟩ = some (.slice x0 x1 x2) ∧ w'.cell? ⟨w.heap.size, 1, none⟩ = some (.slice y0 y1 y2) ∧ w'.cell? ⟨w.heap.size, 2, none⟩ = some (.bool inf)) (by kernel_rfl) ?_
  have hHeld : ((fun (w' : World) => w'.cell? ⟨w.heap.size, 0, none⟩ = some (.slice x0 x1 x2) ∧ w'.cell? ⟨w.heap.size, 1, none⟩ = some (.slice y0 y1 y2) ∧ w'.cell? ⟨w.heap.size, 2, none⟩ = some (.bool inf))) (World.drew _) := ⟨HFd.out.cell 0 0 (Nat.le_of_ble_eq_true rfl) (Nat.le_of_ble_eq_true rfl), HFd.out.cell 0 1 (Nat.le_of_ble_eq_true rfl) (Nat.le_of_ble_eq_true rfl), HFd.out.cell 0 2 (Nat.le_of_ble_eq_true rfl) (Nat.le_of_ble_eq_true rfl)⟩
  refine wpAnyK_take0 0 (v := ?v11) rfl (by kernel_rfl) (fun _ _ _ h => h) (Or.inl ⟨by rfl, ?hy11⟩) (fun _ => hHeld) ?_
  case hy11 => (intro w hSw; go_simp; try with_reducible rfl)
  try simp only [Act.put, List.setIfInBounds_toArray, List.set_cons_zero, List.set_cons_succ]
  refine wpAnyK_take 1 [2, 8, 9] (v := ?v12) rfl (by kernel_rfl) (fun _ _ _ h => h) (Or.inl ⟨by rfl, ?hy12⟩) hHeld ?_
  case hy12 => (intro w hSw; (try dsimp only at hSw); go_simp; try with_reducible rfl)
  try simp only [Act.put, List.setIfInBounds_toArray, List.set_cons_zero, List.set_cons_succ]
  refine wpAnyK_take0 3 (v := ?v13) rfl (by kernel_rfl) (fun _ _ _ h => h) (Or.inl ⟨by rfl, ?hy13⟩) (fun _ => hHeld) ?_
  case hy13 => (intro w hSw; go_simp; try with_reducible rfl)
  try simp only [Act.put, List.setIfInBounds_toArray, List.set_cons_zero, List.set_cons_succ]
  refine wpAnyK_take 4 [5, 8, 9] (v := ?v14) rfl (by kernel_rfl) (fun _ _ _ h => h) (Or.inl ⟨by rfl, ?hy14⟩) hHeld ?_
  case hy14 => (intro w hSw; (try dsimp only at hSw); go_simp; try with_reducible rfl)
  try simp only [Act.put, List.setIfInBounds_toArray, List.set_cons_zero, List.set_cons_succ]
  refine wpAnyK_take0 6 (v := ?v15) rfl (by kernel_rfl) (fun _ _ _ h => h) (Or.inl ⟨by rfl, ?hy15⟩) (fun _ => hHeld) ?_
  case hy15 => (intro w hSw; go_simp; try with_reducible rfl)
  try simp only [Act.put, List.setIfInBounds_toArray, List.set_cons_zero, List.set_cons_succ]
  refine wpAnyK_take 7 [8, 9] (v := ?v16) rfl (by kernel_rfl) (fun _ _ _ h => h) (Or.inl ⟨by rfl, ?hy16⟩) hHeld ?_
  case hy16 => (intro w hSw; (try dsimp only at hSw); go_simp; try with_reducible rfl)
  try simp only [Act.put, List.setIfInBounds_toArray, List.set_cons_zero, List.set_cons_succ]
  refine wpAnyK_step 2 rfl (by kernel_rfl) (fun K hK => ?_)
  go_simp
  refine (properq (HR.out.1.below HFd.out.bel (Nat.le_refl _))).mono ?_
  rintro e w1 ⟨r1, rfl, k1, hB⟩
  obtain ⟨a1, n1, d1, rfl⟩ := k1.nu.shape
  have HK1 : Hid (Ob' w1 w0.drew.heap.size (.slice a1 n1 d1) X) := k1
  clear k1
  have HF1 : Hid (Fm _ _ _ _ _) := HFd.out.below hB
  clear hB
  try dsimp only
  refine (fun hHeld => hK.out _ _ (fun _ => hHeld) ?_) ⟨HF1.out.cell 0 0 (Nat.le_of_ble_eq_true rfl) (Nat.le_of_ble_eq_true rfl), HF1.out.cell 0 1 (Nat.le_of_ble_eq_true rfl) (Nat.le_of_ble_eq_true rfl), HF1.out.cell 0 2 (Nat.le_of_ble_eq_true rfl) (Nat.le_of_ble_eq_true rfl)⟩
  clear hK K
  try simp only [Act.put, List.setIfInBounds_toArray, List.set_cons_zero, List.set_cons_succ]
  refine wpAnyK_step 5 rfl (by kernel_rfl) (fun K hK => ?_)
  go_simp
  refine (properq (HR.out.2.below HF1.out.bel (Nat.le_refl _))).mono ?_
  rintro e w2 ⟨r2, rfl, k2, hB⟩
  obtain ⟨a2, n2, d2, rfl⟩ := k2.nu.shape
  have HK2 : Hid (Ob' w2 w1.heap.size (.slice a2 n2 d2) Y) := k2
  clear k2
  have HF2 : Hid (Fm _ _ _ _ _) := HF1.out.below hB
  have HK3 : Hid (Ob' w2 w0.drew.heap.size (.slice a1 n1 d1) X) := HK1.out.below hB
  clear hB
  try dsimp only
  refine (fun hHeld => hK.out _ _ (fun _ => hHeld) ?_) ⟨HF2.out.cell 0 0 (Nat.le_of_ble_eq_true rfl) (Nat.le_of_ble_eq_true rfl), HF2.out.cell 0 1 (Nat.le_of_ble_eq_true rfl) (Nat.le_of_ble_eq_true rfl), HF2.out.cell 0 2 (Nat.le_of_ble_eq_true rfl) (Nat.le_of_ble_eq_true rfl)⟩
  clear hK K
  try simp only [Act.put, List.setIfInBounds_toArray, List.set_cons_zero, List.set_cons_succ]
  refine wpAnyK_take0 8 (v := ?v19) rfl (by kernel_rfl) (fun _ _ _ h => h) (Or.inl ⟨by rfl, ?hy19⟩) (fun _ => hHeld) ?_
  case hy19 => (intro w hSw; go_simp; try with_reducible rfl)
  try simp only [Act.put, List.setIfInBounds_toArray, List.set_cons_zero, List.set_cons_succ]
  refine wpAnyK_step 9 rfl (by kernel_rfl) (fun K hK => ?_)
  rw [if_pos (by kernel_rfl)]
  refine wp_store_row 26 _ _ rfl (w.heap.size + 1) #[.slice a1 n1 d1, .slice a2 n2 d2, .bool inf] rfl rfl 26 #[.slice none 0 0, .slice none 0 0, .bool false] (HF2.out.bx 1 (Nat.le_of_ble_eq_true rfl)) (by kernel_rfl) rfl (by simp [Value.oneCell']) ?_
  refine hK.out _ _ ?hk20 ?_
  case hk20 => exact (fun h => nomatch (h.symm.trans (show _ = true by kernel_rfl)))
  clear hK K
  try simp only [Act.put]
  refine wpAnyK_done (by kernel_rfl) ?_ _
  go_wp2
  (try simp only [Exit.inBlock, Exit.then])
  have hb := But.setRow w2 (w.heap.size + 1) #[.slice a1 n1 d1, .slice a2 n2 d2, .bool inf]
  have hs2 := Hsz.out
  refine bodyPost_ret (v := .agg #[.slice a1 n1 d1, .slice a2 n2 d2, .bool inf]) ?_ rfl ⟨_, _, rfl, (HK3.out.but hb (by omega)).base (by omega), (HK2.out.but hb (by have := HF1.out.sz; simp at this; omega)).base (by have := HF1.out.bel.size; omega), HF2.out.outB 1 (by simp) hb⟩
  exact results_cell_row rfl _ _ (w.heap.size + 1) 26 _ (0, 0) _ rfl (setRow_heap _ _ _ _ _ _ (HF2.out.bx 1 (Nat.le_of_ble_eq_true rfl))) Tryz.underlying26 rfl (by kernel_rfl)
end Go.Proofs.YtmngdaolgdhgmaaGreatDoor
