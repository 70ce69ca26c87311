import Derived.Test.YtjncpibhnpoghaaKp4
import Derived.Lib.AppendZeros
namespace Go.Proofs.Ytjncpibhnpoghaa
open Go.RowKit

theorem own_rebase {w : World} {base n size : Nat} {e : TypeId} {v : Value} {xs : List Value} (h : w.ownsRow 0 e size v n xs) (hb : ∀ g, v.ownBlock = some g → base ≤ g) : w.ownsRow base e size v n xs := by
  rcases h.2 with h0 | ⟨g, cap, cur, e1, _, r⟩
  · exact ⟨h.1, .inl h0⟩
  · exact ⟨h.1, .inr ⟨g, cap, cur, e1, hb g (by rw [e1]; rfl), r⟩⟩

theorem alloc_cell0 (w : World) (v : Value) (t : TypeId) : (w.alloc (.cells #[v] t)).cell? ⟨w.heap.size, 0, none⟩ = some v := by unfold World.cell? World.alloc; simp
/-- A list of elements, where one element's row has grown. -/
theorem Lst.grown {base : Nat} {w w' : World} {lv : Value} {pre post : List X} {y : X} {r : Option Nat} (h : Lst base w lv (pre ++ y :: post)) (hg : w.grownBy w' r)
    (hr : r = (xD y).ownBlock ∨ ∀ g, r = some g → w.heap.size ≤ g ∨ ∀ x ∈ pre ++ y :: post, (xD x).ownBlock ≠ some g)
    (hl : ∀ g, r = some g → lv.ownBlock ≠ some g)
    (hk : r = (xD y).ownBlock → w'.ownsRow 0 5 1 (xD y) y.e.data.length (y.e.data.map B)) : Lst base w' lv (pre ++ y :: post) := by
  have hsep := List.pairwise_append.1 h.sep
  have hc := List.pairwise_cons.1 hsep.2.1
  have keep : ∀ x, x ∈ pre ++ y :: post → (∀ g, r = some g → (xD x).ownBlock ≠ some g) → w'.ownsRow base 5 1 (xD x) x.e.data.length (x.e.data.map B) := fun x hx hne => by
    have ho := h.dat x hx
    exact own_keep ho fun g hgx => hg.block g (ho.lt g hgx).2 (fun e => hne g e.symm hgx)
  refine ⟨own_keep h.own fun g hgx => hg.block g (h.own.lt g hgx).2 (fun e => hl g e.symm hgx), fun x hx => ?_, h.sep, h.num⟩
  rcases hr with hr | hr
  · rcases List.mem_append.1 hx with hx' | hx'
    · exact keep x hx (fun g e hgx => hsep.2.2 x hx' y (List.mem_cons_self ..) g hgx (by rw [← hr]; exact e))
    · rcases List.mem_cons.1 hx' with rfl | hx'
      · exact own_rebase (hk hr) (fun g hgx => ((h.dat x hx).lt g hgx).1)
      · exact keep x hx (fun g e hgx => hc.1 x hx' g (by rw [← hr]; exact e) hgx)
  · refine keep x hx fun g e hgx => ?_
    rcases hr g e with h1 | h1
    · have := ((h.dat x hx).lt g hgx).2; omega
    · exact h1 x hx hgx

/-- What a row has become by 90 bytes more. -/
def grw (n a b : Nat) (j : Nat) : List UInt8 := List.replicate n (UInt8.ofNat a) ++ List.replicate j (UInt8.ofNat b)
theorem grw_length (n a b j : Nat) : (grw n a b j).length = n + j := by unfold grw; simp
theorem grw_succ (n a b j : Nat) : grw n a b (j + 1) = grw n a b j ++ [UInt8.ofNat b] := by unfold grw; rw [List.replicate_succ', List.append_assoc]

/-- The rows that grew out of the first elements, and the list of them. -/
structure GS (base : Nat) (xs ys : List X) (p : Int) (w ws wr : World) (lv vG : Value) (gs : List Value) : Prop where
  lst : Lst base wr lv ys
  own : wr.ownsRow 0 22 1 vG gs.length gs
  gblk : ∀ g, vG.ownBlock = some g → ws.heap.size ≤ g
  rows : ∀ j, (hj : j < gs.length) → wr.ownsRow 0 5 1 gs[j] ((ys.getD j ⟨⟨0, [], 0⟩, none, 0⟩).e.data.length + 90) ((grw (ys.getD j ⟨⟨0, [], 0⟩, none, 0⟩).e.data.length (mkV j p) (moV j p) 90).map B)
  blk : ∀ j, (hj : j < gs.length) → ∀ g, gs[j].ownBlock = some g → (xD (ys.getD j ⟨⟨0, [], 0⟩, none, 0⟩)).ownBlock = some g ∨ ws.heap.size ≤ g
  sepG : ∀ j, (hj : j < gs.length) → ∀ g, gs[j].ownBlock = some g → vG.ownBlock ≠ some g
  old : ∀ x ∈ ys, ∀ g, (xD x).ownBlock = some g → g < ws.heap.size
  lold : ∀ g, lv.ownBlock = some g → g < ws.heap.size
  siz : ws.heap.size ≤ wr.heap.size
  fr : Fr xs w wr
  own2 : ∀ y ∈ ys, ∃ x ∈ xs, xD y = xD x
  wsz : w.heap.size ≤ ws.heap.size

theorem Fr.grown {xs : List X} {w wr w' : World} {r : Option Nat} (h : Fr xs w wr) (hg : wr.grownBy w' r) (hr : ∀ g, r = some g → w.heap.size ≤ g ∨ ∃ x ∈ xs, (xD x).ownBlock = some g) : Fr xs w w' :=
  ⟨hg.os.trans h.os, hg.tape.trans h.tape, hg.output.trans h.output, Nat.le_trans h.size hg.size, fun k hk hne => by
    rw [hg.block k (Nat.lt_of_lt_of_le hk h.size) (fun e => by
      rcases hr k e.symm with h1 | ⟨x, hx, h1⟩
      · omega
      · exact hne x hx h1)]
    exact h.block k hk hne⟩
theorem Fr.alloc {xs : List X} {w wr : World} (h : Fr xs w wr) (o : Obj) : Fr xs w (wr.alloc o) := by
  have b := alloc_below wr o
  exact ⟨b.os.trans h.os, b.tape.trans h.tape, b.output.trans h.output, Nat.le_trans h.size b.size, fun k hk hne => (b.block k (Nat.lt_of_lt_of_le hk h.size)).trans (h.block k hk hne)⟩

theorem GS.alloc {base : Nat} {xs ys : List X} {p : Int} {w ws wr : World} {lv vG : Value} {gs : List Value} (h : GS base xs ys p w ws wr lv vG gs) (o : Obj) : GS base xs ys p w ws (wr.alloc o) lv vG gs := by
  have b := alloc_below wr o
  exact ⟨h.lst.below b (Nat.le_refl _), h.own.alloc o, h.gblk, fun j hj => (h.rows j hj).alloc o, h.blk, h.sepG, h.old, h.lold, Nat.le_trans h.siz b.size, h.fr.alloc o, h.own2, h.wsz⟩

/-- The next row on its way. -/
structure LG (base : Nat) (xs pre post : List X) (y : X) (p : Int) (w ws wr : World) (lv vG : Value) (gs : List Value) (v : Value) (j : Nat) : Prop where
  st : GS base xs (pre ++ y :: post) p w ws wr lv vG gs
  len : gs.length = pre.length
  own : wr.ownsRow 0 5 1 v (y.e.data.length + j) ((grw y.e.data.length (mkV pre.length p) (moV pre.length p) j).map B)
  blk : v.ownBlock = (xD y).ownBlock ∨ ∃ g, v.ownBlock = some g ∧ ws.heap.size ≤ g
  sepG : ∀ g, v.ownBlock = some g → vG.ownBlock ≠ some g
  sepR : ∀ k, (hk : k < gs.length) → ∀ g, v.ownBlock = some g → gs[k].ownBlock ≠ some g

theorem getD_pre {pre post : List X} {y d : X} (j : Nat) (hj : j < pre.length) : (pre ++ y :: post).getD j d = pre[j] := by
  rw [List.getD_eq_getElem?_getD, List.getElem?_append_left hj, List.getElem?_eq_getElem hj]; rfl
theorem getD_at {pre post : List X} {y d : X} : (pre ++ y :: post).getD pre.length d = y := by
  rw [List.getD_eq_getElem?_getD, List.getElem?_append_right (Nat.le_refl _), Nat.sub_self]; rfl

theorem LG.start {base : Nat} {xs pre post : List X} {y : X} {p : Int} {w ws wr : World} {lv vG : Value} {gs : List Value} (h : GS base xs (pre ++ y :: post) p w ws wr lv vG gs) (hl : gs.length = pre.length)
    (hf : y.e.data = List.replicate y.e.data.length (UInt8.ofNat (mkV pre.length p))) : LG base xs pre post y p w ws wr lv vG gs (xD y) 0 := by
  have hy : y ∈ pre ++ y :: post := List.mem_append.2 (.inr (List.mem_cons_self ..))
  have hsep := List.pairwise_append.1 h.lst.sep
  refine ⟨h, hl, ?_, .inl rfl, fun g hg e => ?_, fun k hk g hg e => ?_⟩
  · have ho := own_base (h.lst.dat y hy) (Nat.zero_le base)
    unfold grw
    rw [List.replicate_zero, List.append_nil, ← hf]
    exact ho
  · have h1 := h.old y hy g hg
    have h2 := h.gblk g e
    omega
  · have h1 := h.old y hy g hg
    rcases h.blk k hk g e with h2 | h2
    · rw [getD_pre k (by omega)] at h2
      exact hsep.2.2 _ (List.getElem_mem (by omega)) y (List.mem_cons_self ..) g h2 hg
    · omega

set_option maxRecDepth 100000 in
theorem LG.step {base : Nat} {xs pre post : List X} {y : X} {p : Int} {w ws wr : World} {lv vG : Value} {gs : List Value} {v : Value} {j : Nat} (h : LG base xs pre post y p w ws wr lv vG gs v j) (hn : y.e.data.length + j ≤ 10000000) :
    ∃ v' w', (Builtin.append_ #[22, 22] 22 #[v, .slice (some ⟨wr.heap.size, 0, none⟩) 1 1]).run Try.prog (wr.alloc (.cells #[.int .u8 ((moV pre.length p : Nat) : Int)] 5)) = .ok v' w' ∧ LG base xs pre post y p w ws w' lv vG gs v' (j + 1) := by
  have hy : y ∈ pre ++ y :: post := List.mem_append.2 (.inr (List.mem_cons_self ..))
  have hsep := List.pairwise_append.1 h.st.lst.sep
  obtain ⟨i, hi1, hz, hsize, hby⟩ := info_parts infoB
  have eB : B (UInt8.ofNat (moV pre.length p)) = .int .u8 ((moV pre.length p : Nat) : Int) := by unfold B; rw [u8_ofNat _ (moV_lt pre.length p)]
  obtain ⟨wa, hwa⟩ : ∃ wa, wa = wr.alloc (.cells #[.int .u8 ((moV pre.length p : Nat) : Int)] 5) := ⟨_, rfl⟩
  have hcell : wa.cell? ⟨wr.heap.size, 0, none⟩ = some (B (UInt8.ofNat (moV pre.length p))) := by
    rw [hwa, eB]
    exact alloc_cell0 _ _ _
  have hG := h.st.alloc (.cells #[.int .u8 ((moV pre.length p : Nat) : Int)] 5)
  have hO := h.own.alloc (.cells #[.int .u8 ((moV pre.length p : Nat) : Int)] 5)
  rw [← hwa] at hG hO ⊢
  obtain ⟨v', w', hrun, hown, hgr, hblk, hkeep⟩ := append_keep wa 22 5 22 i (.int .u8 0) 1 Try.underlying22 hi1 hz hsize hby rfl v (y.e.data.length + j) _ hO ⟨wr.heap.size, 0, none⟩ (B (UInt8.ofNat (moV pre.length p))) hcell rfl (by omega) (by unfold maxLen; omega)
  have hut : 5 ≠ 36 := by decide
  have hub : 5 ≠ 22 := by decide
  have hlst : Lst base w' lv (pre ++ y :: post) := by
    refine hG.lst.grown hgr ?_ ?_ ?_
    · rcases h.blk with e | ⟨g, e, hg⟩
      · exact .inl e
      · right
        intro g' e'
        right
        intro x hx hgx
        have h1 := hG.old x hx g' hgx
        rw [e'] at e
        injection e with e
        omega
    · intro g e e2
      exact kinds_apart hO hG.lst.own hut e e2
    · intro e
      exact hkeep (xD y) y.e.data.length _ (by omega) e.symm (own_base (hG.lst.dat y hy) (Nat.zero_le base))
  have hrow : ∀ k, (hk : k < gs.length) → ∀ {n : Nat} {l : List Value}, wa.ownsRow 0 5 1 gs[k] n l → w'.ownsRow 0 5 1 gs[k] n l := fun k hk {n l} ho =>
    own_keep ho fun g hg => hgr.block g (ho.lt g hg).2 (fun e => h.sepR k hk g e.symm hg)
  have hGown : w'.ownsRow 0 22 1 vG gs.length gs := own_keep hG.own fun g hg => hgr.block g (hG.own.lt g hg).2 (fun e => h.sepG g e.symm hg)
  have hfr : Fr xs w w' := hG.fr.grown hgr fun g e => by
    rcases h.blk with e2 | ⟨g2, e2, hg2⟩
    · obtain ⟨x, hx, ex⟩ := hG.own2 y hy
      exact .inr ⟨x, hx, by rw [← ex, ← e2]; exact e⟩
    · rw [e] at e2; injection e2 with e2; subst e2; exact .inl (Nat.le_trans hG.wsz hg2)
  refine ⟨v', w', hrun, ⟨hlst, hGown, hG.gblk, fun k hk => hrow k hk (hG.rows k hk), hG.blk, hG.sepG, hG.old, hG.lold, Nat.le_trans hG.siz hgr.size, hfr, hG.own2, hG.wsz⟩, h.len, ?_, ?_, ?_, ?_⟩
  · rw [grw_succ, List.map_append, ← Nat.add_assoc]
    exact hown
  · rcases hblk with e | ⟨g, e, hg⟩
    · rw [e]; exact h.blk
    · exact .inr ⟨g, e, Nat.le_trans hG.siz hg⟩
  · intro g hg e
    rcases hblk with e2 | ⟨g2, e2, hg2⟩
    · exact h.sepG g (by rw [← e2]; exact hg) e
    · rw [hg] at e2; injection e2 with e2; subst e2
      have := (hG.own.lt g e).2
      omega
  · intro k hk g hg e
    rcases hblk with e2 | ⟨g2, e2, hg2⟩
    · exact h.sepR k hk g (by rw [← e2]; exact hg) e
    · rw [hg] at e2; injection e2 with e2; subst e2
      have := ((hG.rows k hk).lt g e).2
      omega

theorem infoBs : (Try.prog.info? 22).map (fun i => (i.zero, i.size, i.bytes)) = some (some (.slice none 0 0), 1, 24) := by kernel_rfl

set_option maxRecDepth 100000 in
theorem LG.done {base : Nat} {xs pre post : List X} {y : X} {p : Int} {w ws wr : World} {lv vG : Value} {gs : List Value} {v : Value} (h : LG base xs pre post y p w ws wr lv vG gs v 90) (hn : gs.length ≤ 1000000) :
    ∃ v' w', (Builtin.append_ #[64, 64] 64 #[vG, .slice (some ⟨wr.heap.size, 0, none⟩) 1 1]).run Try.prog (wr.alloc (.cells #[v] 22)) = .ok v' w' ∧ GS base xs (pre ++ y :: post) p w ws w' lv v' (gs ++ [v]) := by
  obtain ⟨i, hi1, hz, hsize, hby⟩ := info_parts infoBs
  obtain ⟨wa, hwa⟩ : ∃ wa, wa = wr.alloc (.cells #[v] 22) := ⟨_, rfl⟩
  have hcell : wa.cell? ⟨wr.heap.size, 0, none⟩ = some v := by
    rw [hwa]
    exact alloc_cell0 _ _ _
  have hG := h.st.alloc (.cells #[v] 22)
  have hO := h.own.alloc (.cells #[v] 22)
  rw [← hwa] at hG hO ⊢
  have hone : v.oneCell' = true := by obtain ⟨a, c, e⟩ := own_slice hO; rw [e]; rfl
  obtain ⟨v', w', hrun, hown, hgr, hblk, _⟩ := append_keep wa 64 22 64 i (.slice none 0 0) 24 Try.underlying64 hi1 hz hsize hby rfl vG gs.length gs hG.own ⟨wr.heap.size, 0, none⟩ v hcell hone (by omega) (by unfold maxLen; omega)
  have hut : 22 ≠ 36 := by decide
  have hub : 5 ≠ 22 := by decide
  have hy : y ∈ pre ++ y :: post := List.mem_append.2 (.inr (List.mem_cons_self ..))
  have hold : ∀ g, vG.ownBlock = some g → ∀ x ∈ pre ++ y :: post, (xD x).ownBlock ≠ some g := fun g hg x hx hgx => by
    have := hG.old x hx g hgx
    have := hG.gblk g hg
    omega
  have hlst : Lst base w' lv (pre ++ y :: post) := by
    have dat : ∀ x ∈ pre ++ y :: post, w'.ownsRow base 5 1 (xD x) x.e.data.length (x.e.data.map B) := fun x hx =>
      own_keep (hG.lst.dat x hx) fun g hg => hgr.block g ((hG.lst.dat x hx).lt g hg).2 (fun e => hold g e.symm x hx hg)
    refine ⟨own_keep hG.lst.own fun g hg => hgr.block g (hG.lst.own.lt g hg).2 (fun e => ?_), dat, hG.lst.sep, hG.lst.num⟩
    have h1 := hG.lold g hg
    have h2 := hG.gblk g e.symm
    omega
  have hnew : ∀ g, v'.ownBlock = some g → vG.ownBlock = some g ∨ wa.heap.size ≤ g := fun g hg => by
    rcases hblk with e | ⟨g2, e, hg2⟩
    · exact .inl (by rw [← e]; exact hg)
    · rw [hg] at e; injection e with e; subst e; exact .inr hg2
  have hrow : ∀ {u : Value} {n : Nat} {l : List Value}, wa.ownsRow 0 5 1 u n l → (∀ g, u.ownBlock = some g → vG.ownBlock ≠ some g) → w'.ownsRow 0 5 1 u n l := fun {u n l} ho hne =>
    own_keep ho fun g hg => hgr.block g (ho.lt g hg).2 (fun e => hne g hg e.symm)
  have hfr : Fr xs w w' := hG.fr.grown hgr fun g e => .inl (Nat.le_trans hG.wsz (hG.gblk g e))
  refine ⟨v', w', hrun, hlst, ?_, ?_, ?_, ?_, ?_, hG.old, hG.lold, Nat.le_trans hG.siz hgr.size, hfr, hG.own2, hG.wsz⟩
  · rw [List.length_append]; exact hown
  · intro g hg
    rcases hnew g hg with h1 | h1
    · exact hG.gblk g h1
    · exact Nat.le_trans hG.siz h1
  · intro j hj
    rw [List.length_append, List.length_singleton] at hj
    by_cases hjl : j < gs.length
    · rw [List.getElem_append_left hjl]
      exact hrow (hG.rows j hjl) (hG.sepG j hjl)
    · obtain rfl : j = gs.length := by omega
      rw [List.getElem_append_right (Nat.le_refl _)]
      simp only [Nat.sub_self, List.getElem_cons_zero]
      rw [h.len, getD_at]
      exact hrow hO h.sepG
  · intro j hj g hg
    rw [List.length_append, List.length_singleton] at hj
    by_cases hjl : j < gs.length
    · rw [List.getElem_append_left hjl] at hg
      exact hG.blk j hjl g hg
    · obtain rfl : j = gs.length := by omega
      rw [List.getElem_append_right (Nat.le_refl _)] at hg
      simp only [Nat.sub_self, List.getElem_cons_zero] at hg
      rw [h.len, getD_at]
      rcases h.blk with e | ⟨g2, e, hg2⟩
      · exact .inl (by rw [← e]; exact hg)
      · rw [hg] at e; injection e with e; subst e; exact .inr hg2
  · intro j hj g hg e
    rw [List.length_append, List.length_singleton] at hj
    by_cases hjl : j < gs.length
    · rw [List.getElem_append_left hjl] at hg
      rcases hnew g e with h1 | h1
      · exact hG.sepG j hjl g hg h1
      · have := ((hG.rows j hjl).lt g hg).2; omega
    · obtain rfl : j = gs.length := by omega
      rw [List.getElem_append_right (Nat.le_refl _)] at hg
      simp only [Nat.sub_self, List.getElem_cons_zero] at hg
      rcases hnew g e with h1 | h1
      · exact h.sepG g hg h1
      · have := (hO.lt g hg).2; omega

end Go.Proofs.Ytjncpibhnpoghaa
