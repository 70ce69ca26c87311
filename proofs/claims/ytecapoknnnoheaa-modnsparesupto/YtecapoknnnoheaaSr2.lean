import Derived.Test.YtecapoknnnoheaaSr1
namespace Go.Proofs.Ytecapoknnnoheaa
open Go.RowKit

theorem wpList_append_run {w : World} {ops : Array Oper} {rest : List Oper} {o : Oper} {a : Act} {Q : Exit → Act → World → Prop} (hgd : o.guard = none) (s x : Operand) (t : TypeId)
    (ho : o.op = .call { callee := .builtin .append, args := #[s, x], argTypes := #[t, t] }) (v vx v' : Value) (w' : World) (hs : a.eval s = v) (hx : a.eval x = vx)
    (hrun : (Builtin.append_ #[t, t] o.type #[v, vx]).run Try.prog w = .ok v' w') (h : wpList Try.prog ops Q rest (a.put o.dst v') w') : wpList Try.prog ops Q (o :: rest) a w := by
  refine wpList_plain hgd fun K hK => ?_
  unfold Oper.wp
  simp [execOp, ho, resolve, invoke, builtin, hs, hx, hrun, Result.andThen]
  exact hK _ _ h

theorem grownBy.trans {a b c : World} {r : Option Nat} (h1 : a.grownBy b r) (h2 : b.grownBy c r) : a.grownBy c r :=
  ⟨h2.os.trans h1.os, h2.tape.trans h1.tape, h2.output.trans h1.output, Nat.le_trans h1.size h2.size, fun k hk hne => (h2.block k (Nat.lt_of_lt_of_le hk h1.size) hne).trans (h1.block k hk hne)⟩

/-- append of one value behind a row of one's own: what was there stays, shorter slices over the same row too. -/
theorem append_keep (w : World) (t e ty : TypeId) (i : TypeInfo) (z : Value) (bytes : Nat) (ht : Try.prog.underlying t = some (.slice e)) (hi : Try.prog.info? e = some i) (hz : i.zero = some z) (hsize : i.size = 1) (hby : i.bytes = bytes) (hzs : z.cells.size = 1)
    (v : Value) (n : Nat) (xs : List Value) (hown : w.ownsRow 0 e 1 v n xs) (ad : Addr) (u : Value) (hu : w.cell? ad = some u) (h1 : u.oneCell' = true) (hbytes : (n + 1) * bytes ≤ 140737488355328) (hn : n + 1 ≤ maxLen) :
    ∃ v' w', (Builtin.append_ #[t, t] ty #[v, .slice (some ad) 1 1]).run Try.prog w = .ok v' w' ∧ w'.ownsRow 0 e 1 v' (n + 1) (xs ++ [u]) ∧ w.grownBy w' v.ownBlock ∧
      (v'.ownBlock = v.ownBlock ∨ ∃ g, v'.ownBlock = some g ∧ w.heap.size ≤ g) ∧ (∀ v2 m ys, m ≤ n → v2.ownBlock = v.ownBlock → w.ownsRow 0 e 1 v2 m ys → w'.ownsRow 0 e 1 v2 m ys) := by
  have hadd : ∀ j u', [u][j]? = some u' → w.cell? (ad.add j) = some u' := fun j u' hj => by
    match j, hj with
    | 0, hj => simp at hj; subst hj; simpa [Addr.add] using hu
  obtain ⟨v', w', hrun, hown', hgr, hnil⟩ := run_append_own (P := Try.prog) w 0 t ty e i z 1 bytes ht hi hz hsize hby hzs (by decide) v n xs hown ad 1 1 [u] rfl hadd (fun x hx => by simp at hx; subst hx; exact h1) hn hbytes (Nat.zero_le _)
  refine ⟨v', w', hrun, hown', hgr, ?_⟩
  have keepAlloc : ∀ o v2 m ys, w.ownsRow 0 e 1 v2 m ys → (w.drew.alloc o).ownsRow 0 e 1 v2 m ys := fun o v2 m ys h => World.ownsRow.alloc (w := w.drew) h o
  rcases hown.2 with ⟨rfl, rfl⟩ | ⟨g, cap, cur, rfl, hb, hg, hnc, hcm, hcs, htake⟩
  · have hr := run_append_nil (P := Try.prog) w t ty e i z ht hi hz ad 1 1 [u] (by rw [hsize]; rfl) hadd (by decide) (by decide) (by rw [hby]; omega)
    rw [hr] at hrun
    injection hrun with h2 h3
    subst h2; subst h3
    exact ⟨.inr ⟨_, rfl, Nat.le_refl _⟩, fun v2 m ys _ _ h => keepAlloc _ v2 m ys h⟩
  · by_cases hroom : n + 1 ≤ cap
    · have hr := run_append_room (P := Try.prog) w t ty e i ht hi g n cap cur hg ad 1 1 [u] (by rw [hsize]; rfl) hadd (fun x hx => by simp at hx; subst hx; exact h1) hroom (by rw [hsize]; simp; omega)
      rw [hr] at hrun
      injection hrun with h2 h3
      subst h2; subst h3
      refine ⟨.inl rfl, fun v2 m ys hm hv2 h => ⟨h.1, ?_⟩⟩
      rcases h.2 with ⟨rfl, _⟩ | ⟨g2, cap2, cur2, rfl, hb2, hg2, hnc2, hcm2, hcs2, htake2⟩
      · simp [Value.ownBlock] at hv2
      · simp [Value.ownBlock] at hv2
        subst hv2
        rw [hg2] at hg
        injection hg with hg
        injection hg with hg
        subst hg
        refine .inr ⟨g2, cap2, _, rfl, hb2, setRow_heap w g2 cur2 _ e _ hg2, hnc2, hcm2, ?_, ?_⟩
        · simp [hsize]; omega
        · rw [← htake2]
          simp only [hsize, Nat.mul_one, List.length_singleton]
          rw [List.append_assoc, List.take_append_of_le_length (by simp; omega), List.take_take]
          congr 1
          omega
    · have holds : ∀ j u', xs[j]? = some u' → w.cell? ((⟨g, 0, none⟩ : Addr).add j) = some u' := hown.cells (g := g) rfl
      have hr := run_append_grow (P := Try.prog) w t ty e i z ht hi hz ⟨g, 0, none⟩ n cap xs (by rw [hsize]; exact hown.1) holds ad 1 1 [u] (by rw [hsize]; rfl) hadd (by omega) (by simp only [maxLen] at hn; omega) (by rw [hby]; exact growslice_fits (by omega) hbytes)
      rw [hr] at hrun
      injection hrun with h2 h3
      subst h2; subst h3
      exact ⟨.inr ⟨_, rfl, Nat.le_refl _⟩, fun v2 m ys _ _ h => keepAlloc _ v2 m ys h⟩

theorem row_some {w : World} {base n : Nat} {t : TypeId} {v : Value} {xs : List Value} (h : w.ownsRow base t 1 v n xs) (hn : 0 < n) : ∃ g c, v = .slice (some ⟨g, 0, none⟩) n c ∧ base ≤ g ∧ g < w.heap.size := by
  rcases h.2 with ⟨_, h0⟩ | ⟨g, cap, cur, rfl, hg, hh, _⟩
  · omega
  · exact ⟨g, cap, rfl, hg, (Array.getElem?_eq_some_iff.1 hh).1⟩
theorem row_at {w : World} {base n g c : Nat} {t : TypeId} {xs : List Value} (h : w.ownsRow base t 1 (.slice (some ⟨g, 0, none⟩) n c) n xs) (i : Nat) (x : Value) (hx : xs[i]? = some x) : w.cell? ⟨g, i, none⟩ = some x := by
  have h1 := h.cells (g := g) rfl i x hx
  rw [Addr.add_mid, Nat.zero_add] at h1
  exact h1
theorem tab_at {w : World} {B n g c : Nat} {V : Nat → Value} (h : Tb w B (.slice (some ⟨g, 0, none⟩) n c) n V) (j : Nat) (hj : j < n) : w.cell? ⟨g, j, none⟩ = some (V j) := by
  refine row_at h j _ ?_
  rw [List.getElem?_map, List.getElem?_range hj]
  rfl
theorem ow_at {w : World} {base g n c : Nat} {xs : List Nat} (h : Ow w base (.slice (some ⟨g, 0, none⟩) n c) xs) (hn : xs.length = n) (j : Nat) (hj : j < n) : w.cell? ⟨g, j, none⟩ = some (.int .u32 ((xs.getD j 0 : Nat) : Int)) := by
  subst hn
  refine row_at h j _ ?_
  rw [List.getElem?_map, List.getElem?_eq_getElem hj, getD_eq _ _ hj]
  rfl
theorem ow_set {w : World} {base g n c : Nat} {xs : List Nat} (h : Ow w base (.slice (some ⟨g, 0, none⟩) n c) xs) (hn : xs.length = n) (j y : Nat) : Ow (w.setCell ⟨g, j, none⟩ (.int .u32 (y : Int))) base (.slice (some ⟨g, 0, none⟩) n c) (xs.set j y) := by
  subst hn
  have h1 := World.ownsRow.stored h j (U y)
  unfold Ow
  rw [List.length_set, List.map_set]
  exact h1.1
/-- append of one limb behind a slice v that began as v0: what was known of v0 stays. -/
theorem more_one {wi wr : World} {v v0 : Value} {xs x0 : List Nat} (y : Nat) (hown : Ow wr 0 v xs) (hown0 : Ow wr 0 v0 x0) (hn : x0.length ≤ xs.length) (hgr : wi.grownBy wr v0.ownBlock) (hlt : ∀ g, v0.ownBlock = some g → g < wi.heap.size)
    (hblk : v.ownBlock = v0.ownBlock ∨ ∃ g, v.ownBlock = some g ∧ wi.heap.size ≤ g) (hb : xs.length ≤ 10000000) :
    ∃ v' w', (Builtin.append_ #[23, 23] 23 #[v, .slice (some ⟨wr.heap.size, 0, none⟩) 1 1]).run Try.prog (wr.alloc (.cells #[.int .u32 (y : Int)] 29)) = .ok v' w' ∧ Ow w' 0 v' (xs ++ [y]) ∧ Ow w' 0 v0 x0 ∧ wi.grownBy w' v0.ownBlock ∧ (v'.ownBlock = v0.ownBlock ∨ ∃ g, v'.ownBlock = some g ∧ wi.heap.size ≤ g) := by
  obtain ⟨i0, hi, hz0, hz1, hz2⟩ := info_parts infoU
  obtain ⟨v', w', hrun, h1, h2, h3, h4⟩ := append_keep (wr.alloc (.cells #[.int .u32 (y : Int)] 29)) 23 29 23 i0 (.int .u32 0) 4 Try.underlying23 hi hz0 hz1 hz2 rfl v xs.length (xs.map U) (World.ownsRow.alloc hown _) ⟨wr.heap.size, 0, none⟩ (.int .u32 (y : Int)) (by rw [World.cell?_alloc_at _ _ _ _ rfl]; rfl) rfl (by omega) (by unfold maxLen; omega)
  have ha := World.grownBy_alloc wr (.cells #[.int .u32 (y : Int)] 29) v0.ownBlock
  have hs := hgr.size
  have hsz : (wr.alloc (.cells #[.int .u32 (y : Int)] 29)).heap.size = wr.heap.size + 1 := World.size_alloc _ _
  refine ⟨v', w', hrun, ?_, ?_, ⟨?_, ?_, ?_, ?_, fun k hk hne => ?_⟩, ?_⟩
  · unfold Ow
    rw [List.length_append, List.map_append]
    exact h1
  · rcases hblk with e | ⟨g, e, hg⟩
    · exact h4 v0 x0.length (x0.map U) hn e.symm (World.ownsRow.alloc hown0 _)
    · refine Ow.kept (World.ownsRow.alloc hown0 _) h2 fun g0 hg0 e2 => ?_
      rw [e] at e2
      injection e2 with e2
      have := hlt g0 hg0
      omega
  · rw [h2.os, ha.os, hgr.os]
  · rw [h2.tape, ha.tape, hgr.tape]
  · rw [h2.output, ha.output, hgr.output]
  · have := h2.size; omega
  · rw [h2.block k (by omega) (fun e => ?_), ha.block k (by omega) hne, hgr.block k hk hne]
    rcases hblk with e1 | ⟨g, e1, hg⟩
    · rw [e1] at e; exact hne e
    · rw [e1] at e; cases e; omega
  · rcases h3 with e | ⟨g, e, hg⟩
    · rcases hblk with e1 | ⟨g, e1, hg⟩
      · exact .inl (e.trans e1)
      · exact .inr ⟨g, e.trans e1, hg⟩
    · exact .inr ⟨g, e, by omega⟩
theorem range1 (n : Nat) (V : Nat → Value) (r : Value) : (List.range (n + 1)).map (updV V n r) = (List.range n).map V ++ [r] := by
  rw [List.range_succ, List.map_append]
  congr 1
  · refine List.map_congr_left fun j hj => ?_
    have := List.mem_range.1 hj
    unfold updV
    rw [if_neg (by omega)]
  · unfold updV
    simp
theorem rm_kept {w w' : World} {g : Nat} {xs : List Nat} {r : Option Nat} (h : Rm w g xs) (hg : w.grownBy w' r) (hne : ∀ g', r = some g' → g' ≠ g) : Rm w' g xs := by
  unfold Rm Bl at *
  rw [hg.block g (Array.getElem?_eq_some_iff.1 h).1 (fun e => hne g e.symm rfl)]
  exact h
theorem kind_bl {w : World} {l : Value} {n g b0 : Nat} {xs : List Value} {ys : List Nat} (h : w.ownsRow b0 23 1 l n xs) (hr : Rm w g ys) (g' : Nat) (hg : l.ownBlock = some g') : g' ≠ g := by
  rintro rfl
  rcases h.2 with ⟨h1, _⟩ | ⟨g1, c1, r1, e1, _, hh1, _⟩
  · rw [h1] at hg; cases hg
  · rw [e1] at hg
    cases hg
    unfold Rm Bl at hr
    rw [hh1] at hr
    injection hr with h3
    injection h3 with h4 h5
    exact absurd h5 (by decide)
theorem lf_sm (D0 D1 D2 D3 D4 j : Nat) : Sm Bs (Lf D0 D1 D2 D3 D4 j) := by
  unfold Lf
  (repeat' split) <;> exact dg_sm Bs_two _
/-- The first i of the answers are written over. -/
def fil (L : Nat → List Nat) (i : Nat) : Nat → List Nat := fun j => if j < i then List.replicate (L j).length (1000 + j) else L j
theorem fil_zero (L : Nat → List Nat) : fil L 0 = L := by funext j; simp [fil]
theorem fil_succ (L : Nat → List Nat) (i : Nat) : updL (fil L i) i (List.replicate (L i).length (1000 + i)) = fil L (i + 1) := by
  funext j
  unfold updL fil
  by_cases e : j = i
  · subst e; simp
  · rw [if_neg e]
    by_cases h : j < i
    · rw [if_pos h, if_pos (by omega)]
    · rw [if_neg h, if_neg (by omega)]
theorem fil_len (L : Nat → List Nat) (i j : Nat) : (fil L i j).length = (L j).length := by
  unfold fil
  split <;> simp
theorem rep_set (l : List Nat) (k x : Nat) (hk : k < l.length) : (List.replicate k x ++ l.drop k).set k x = List.replicate (k + 1) x ++ l.drop (k + 1) := by
  rw [List.set_append_right _ _ (by simp), List.length_replicate, Nat.sub_self, List.drop_eq_getElem_cons hk, List.set_cons_zero, List.replicate_succ', List.append_assoc]
  rfl

end Go.Proofs.Ytecapoknnnoheaa
