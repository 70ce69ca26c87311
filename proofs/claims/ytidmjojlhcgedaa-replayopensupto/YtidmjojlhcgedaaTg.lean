import Derived.Test.YtidmjojlhcgedaaTf
namespace Go.Proofs.Ytidmjojlhcgedaa
open Go.RowKit Go.Maps
set_option maxRecDepth 100000

/-- Blocks that are neither a document's book nor a list of its entries, of those that there were, stand as they stood. -/
structure Md (w w' : World) : Prop where
  size : w.heap.size ≤ w'.heap.size
  block : ∀ k, k < w.heap.size → (∀ cs fr, w.heap[k]? ≠ some (.cells cs 74 fr)) → (∀ cs fr, w.heap[k]? ≠ some (.cells cs 78 fr)) → w'.heap[k]? = w.heap[k]?
theorem Md.refl (w : World) : Md w w := ⟨Nat.le_refl _, fun _ _ _ _ => rfl⟩
theorem Md.trans {a b c : World} (h1 : Md a b) (h2 : Md b c) : Md a c :=
  ⟨Nat.le_trans h1.size h2.size, fun k hk hn hm => (h2.block k (Nat.lt_of_lt_of_le hk h1.size) (by rw [h1.block k hk hn hm]; exact hn) (by rw [h1.block k hk hn hm]; exact hm)).trans (h1.block k hk hn hm)⟩
theorem Md.of_below {w w' : World} (h : Below w.heap.size w w') : Md w w' := ⟨h.size, fun k hk _ _ => h.block k hk⟩
theorem Md.drewN {a w : World} (h : Md a w) (q : Nat) : Md a (w.drewN q) := ⟨h.size, h.block⟩
theorem Md.of_chf {f : Nat → Prop} {w w' : World} (hc : Chf f w w') (hf : ∀ k, f k → k < w.heap.size → (∃ cs fr, w.heap[k]? = some (.cells cs 74 fr)) ∨ (∃ cs fr, w.heap[k]? = some (.cells cs 78 fr))) : Md w w' :=
  ⟨hc.size, fun k hk hn hm => hc.block k hk (fun hfk => by
    rcases hf k hfk hk with ⟨cs, fr, e⟩ | ⟨cs, fr, e⟩
    · exact hn cs fr e
    · exact hm cs fr e)⟩
theorem Bl.md {t : TypeId} {w w' : World} {b : Nat} {vs : List Value} (h : Bl t w b vs) (hk : Md w w') (h1 : t ≠ 74) (h2 : t ≠ 78) : Bl t w' b vs := by
  have hl := h.lt
  unfold Bl at *
  rw [hk.block b hl (fun cs fr e => by rw [h] at e; simp at e; exact h1 e.2.1) (fun cs fr e => by rw [h] at e; simp at e; exact h2 e.2.1)]
  exact h
theorem Bok.md {w w' : World} {bb mb : Nat} {b : Bk} (h : Bok w bb mb b) (hk : Md w w') : Bok w' bb mb b := by
  refine ⟨h.cells.md hk (by decide) (by decide), ?_, h.ne⟩
  have hlt := h.own.lt
  obtain ⟨es, clock, hb, F, hs, hD⟩ := h.own
  exact ⟨es, clock, (hk.block mb hlt (fun cs fr e => by rw [hb] at e; cases e) (fun cs fr e => by rw [hb] at e; cases e)).trans hb, F, hs, hD⟩
theorem Owb.md {w w' : World} {base : Nat} {v : Value} {xs : List UInt8} (h : Owb w base v xs) (hk : Md w w') : Owb w' base v xs := by
  rcases h.2 with h0 | ⟨g, cap, cur, e, hg, hh, r⟩
  · exact ⟨h.1, .inl h0⟩
  · refine ⟨h.1, .inr ⟨g, cap, cur, e, hg, ?_, r⟩⟩
    rw [hk.block g (Array.getElem?_eq_some_iff.1 hh).1 (fun cs fr e => by rw [hh] at e; simp at e) (fun cs fr e => by rw [hh] at e; simp at e)]
    exact hh

/-- The document's book with a list of its own. -/
structure Mr (w : World) (B0 gm : Nat) (has : Bool) (clk : Int) (v : Value) (l : List En) : Prop where
  cells : Bl 74 w gm [.bool has, .int .i64 clk, v]
  own : Oq w B0 v l
  low : B0 ≤ gm
theorem Mr.chf {f : Nat → Prop} {w w' : World} {B0 gm : Nat} {has : Bool} {clk : Int} {v : Value} {l : List En} (h : Mr w B0 gm has clk v l) (hc : Chf f w w') (h1 : ¬ f gm) (h2 : ∀ g, v.ownBlock = some g → ¬ f g) : Mr w' B0 gm has clk v l :=
  ⟨h.cells.chf hc h1, h.own.chf hc h2, h.low⟩
theorem Mr.below {w w' : World} {B0 gm n : Nat} {has : Bool} {clk : Int} {v : Value} {l : List En} (h : Mr w B0 gm has clk v l) (hb : Below n w w') (hn : w.heap.size ≤ n) : Mr w' B0 gm has clk v l :=
  ⟨h.cells.below hb (Nat.lt_of_lt_of_le h.cells.lt hn), h.own.below hb hn, h.low⟩
theorem Mr.drewN {w : World} {B0 gm : Nat} {has : Bool} {clk : Int} {v : Value} {l : List En} (h : Mr w B0 gm has clk v l) (q : Nat) : Mr (w.drewN q) B0 gm has clk v l := ⟨h.cells, h.own, h.low⟩
theorem Mr.mok {w : World} {B0 gm : Nat} {has : Bool} {clk : Int} {v : Value} {l : List En} (h : Mr w B0 gm has clk v l) : ∃ ao cap, v = .slice ao l.length cap ∧ Mok w gm has clk ao cap l := by
  obtain ⟨ao, c, e, hr⟩ := h.own.rd
  subst e
  exact ⟨ao, c, rfl, h.cells, hr⟩
theorem Mr.mok' {w : World} {B0 gm cap : Nat} {has : Bool} {clk : Int} {ao : Option Addr} {l : List En} (h : Mr w B0 gm has clk (.slice ao l.length cap) l) : Mok w gm has clk ao cap l := by
  obtain ⟨ao', c', e, hr⟩ := h.mok
  cases e
  exact hr
theorem Mr.book {w w' : World} {B0 gm bb mb : Nat} {has : Bool} {clk : Int} {v : Value} {l : List En} {b : Bk} (h : Mr w B0 gm has clk v l) (hB : Bok w bb mb b) (hc : Chf (fun k => k = bb ∨ k = mb) w w') : Mr w' B0 gm has clk v l := by
  refine h.chf hc ?_ (h.own.ne hB)
  have h1 := h.cells
  rintro (rfl | rfl)
  · have h2 := hB.cells
    unfold Bl at h1 h2
    rw [h1] at h2
    simp at h2
  · obtain ⟨es, clock, h2, _⟩ := hB.own
    unfold Bl at h1
    rw [h1] at h2
    cases h2
/-- It is that of a book. -/
def Mq (w : World) (B0 gm : Nat) (b : Bk) : Prop := ∃ v l, Mr w B0 gm b.has b.clk v l ∧ l.Perm b.L
theorem Mq.below {w w' : World} {B0 gm n : Nat} {b : Bk} (h : Mq w B0 gm b) (hb : Below n w w') (hn : w.heap.size ≤ n) : Mq w' B0 gm b := by
  obtain ⟨v, l, h1, h2⟩ := h
  exact ⟨v, l, h1.below hb hn, h2⟩
theorem Mq.drewN {w : World} {B0 gm : Nat} {b : Bk} (h : Mq w B0 gm b) (q : Nat) : Mq (w.drewN q) B0 gm b := by
  obtain ⟨v, l, h1, h2⟩ := h
  exact ⟨v, l, h1.drewN q, h2⟩
theorem Mq.book {w w' : World} {B0 gm bb mb : Nat} {b b' : Bk} (h : Mq w B0 gm b) (hB : Bok w bb mb b') (hc : Chf (fun k => k = bb ∨ k = mb) w w') : Mq w' B0 gm b := by
  obtain ⟨v, l, h1, h2⟩ := h
  exact ⟨v, l, h1.book hB hc, h2⟩
theorem perm_nodup {l L : List En} (hp : l.Perm L) (hs : Srt L) : (l.map (·.1)).Nodup := (hp.map _).nodup_iff.2 hs.nodup
theorem last_nodup : ∀ {l : List En}, (l.map (·.1)).Nodup → lastOnes l = l
  | [], _ => rfl
  | p :: r, h => by
    rw [List.map_cons, List.nodup_cons] at h
    unfold lastOnes
    have : hasF p.1 r = false := by
      cases hq : hasF p.1 r with
      | false => rfl
      | true =>
        obtain ⟨e, he⟩ := hasF_mem.1 hq
        exact absurd (List.mem_map.2 ⟨_, he, rfl⟩) h.1
    rw [this, if_neg (by simp), last_nodup h.2]
theorem live_perm {l L : List En} (hp : l.Perm L) (hs : Srt L) (k : List UInt8) (c : Int) : liveF l k c = hasF k (livF c L) := by
  rw [live_has, last_nodup (perm_nodup hp hs)]
  exact hasF_perm (hp.filter _)

theorem rhasq_any (B0 gm : Nat) (b : Bk) (k : List UInt8) (w : World) (h : Mq w B0 gm b) (hb : BkOk b) :
    Calls Try.prog 48 #[.pointer (some ⟨gm, 0, none⟩), .string ⟨k.toArray⟩] w fun e w' => e = .returned (.bool (hasF k b.L)) ∧ ∃ q, w' = w.drewN q := by
  obtain ⟨v, l, h1, h2⟩ := h
  obtain ⟨ao, cap, rfl, hM⟩ := h1.mok
  have := rhas_any gm b.has b.clk ao cap l k w hM (by have := h2.length_eq; have := hb.len; omega)
  rw [live_perm h2 hb.srt, livF_of (fun p hp => (hb.ends p hp).1)] at this
  exact this
theorem rkeptq_any (B0 gm : Nat) (b : Bk) (w : World) (h : Mq w B0 gm b) (hb : BkOk b) :
    Calls Try.prog 45 #[.pointer (some ⟨gm, 0, none⟩)] w fun e w' => ∃ v, e = .returned v ∧ Oq w' w.heap.size v b.L ∧ Below w.heap.size w w' := by
  obtain ⟨v, l, h1, h2⟩ := h
  obtain ⟨ao, cap, rfl, hM⟩ := h1.mok
  exact rkept_any gm b.has b.clk ao cap l b.L w hM (by have := h2.length_eq; have := hb.len; omega) (perm_nodup h2 hb.srt) hb.srt (by
    have := (h2.filter (fun p => decide (b.clk ≤ p.2))).symm
    have e : b.L.filter (fun p => decide (b.clk ≤ p.2)) = b.L := livF_of (fun p hp => (hb.ends p hp).1)
    rw [e] at this
    exact this)
theorem rlen_any (B0 gm : Nat) (b : Bk) (w : World) (h : Mq w B0 gm b) (hb : BkOk b) :
    Calls Try.prog 43 #[.pointer (some ⟨gm, 0, none⟩)] w fun e w' => e = .returned (.int .i64 b.L.length) ∧ Below w.heap.size w w' := by
  have K := rkeptq_any B0 gm b w h hb
  clear h hb
  go_enter Try.func43, Try.ntmps43
  go_wp2_with fail
  refine K.mono ?_
  rintro e w1 ⟨v, rfl, hO, hb1⟩
  obtain ⟨ao, c, rfl, _⟩ := hO.rd
  have hb2 : Hid (Below w.heap.size w w1) := hb1
  clear hO hb1 K
  go_wp2_with fail
  go_ret
  exact ⟨rfl, hb2.out⟩
theorem rlast_any (B0 gm : Nat) (b : Bk) (w : World) (h : Mq w B0 gm b) :
    Calls Try.prog 42 #[.pointer (some ⟨gm, 0, none⟩)] w fun e w' => e = .returned (.tuple #[.int .i64 b.clk, .bool b.has]) ∧ ∃ q, w' = w.drewN q := by
  obtain ⟨v, l, h1, h2⟩ := h
  have c0 := h1.cells.cell 0 (by simp)
  have c1 := h1.cells.cell 1 (by simp)
  simp only [List.getElem_cons_zero, List.getElem_cons_succ] at c0 c1
  clear h1 h2
  go_enter Try.func42, Try.ntmps42
  go_wp2
  go_quiet (fail)
  go_wp2
  go_ret2
  exact ⟨rfl, _, rfl⟩
theorem rnew_any (w : World) :
    Calls Try.prog 46 #[] w fun e w' => e = .returned (.pointer (some ⟨w.heap.size, 0, none⟩)) ∧ Mq w' w.heap.size w.heap.size bk0 ∧ Below w.heap.size w w' := by
  go_enter Try.func46, Try.ntmps46
  go_wp2
  go_ret
  have b1 := alloc_bl w [.bool false, .int .i64 0, .slice none 0 0] 74
  exact ⟨rfl, ⟨_, [], ⟨b1, Oq.nil _ _, Nat.le_refl _⟩, .refl _⟩, alloc_below _ _⟩
set_option maxHeartbeats 4000000 in
theorem rimage_any (B0 gm : Nat) (b : Bk) (w : World) (h : Mq w B0 gm b) (hb : BkOk b) :
    Calls Try.prog 27 #[.pointer (some ⟨gm, 0, none⟩)] w fun e w' => ∃ v, e = .returned v ∧ Owb w' w.heap.size v (imgF b) ∧ Below w.heap.size w w' := by
  have hnm : Hid (∀ p ∈ b.L, p.1.length ≤ 1024) := hb.nm
  have hlen : Hid (b.L.length ≤ 4096) := hb.len
  have KC : Hid (∀ w', Below w.heap.size w w' → Calls Try.prog 45 #[.pointer (some ⟨gm, 0, none⟩)] w' fun e w'' => ∃ v, e = .returned v ∧ Oq w'' w'.heap.size v b.L ∧ Below w'.heap.size w' w'') := fun w' hw => rkeptq_any B0 gm b w' (h.below hw (Nat.le_refl _)) hb
  have HSS : Hid (∀ w', Below w.heap.size w w' → (fun (w' : World) => w'.cell? ⟨gm, 0, none⟩ = some (.bool b.has) ∧ w'.cell? ⟨gm, 1, none⟩ = some (.int .i64 b.clk)) w') := fun w' hw => by
    obtain ⟨v, l, h1, h2⟩ := h.below hw (Nat.le_refl _)
    have c0 := h1.cells.cell 0 (by simp)
    have c1 := h1.cells.cell 1 (by simp)
    simp only [List.getElem_cons_zero, List.getElem_cons_succ] at c0 c1
    exact ⟨c0, c1⟩
  clear h hb
  go_enter Try.func27, Try.ntmps27
  go_wp2
  refine wp_region_K 10 (fun (w' : World) => w'.cell? ⟨gm, 0, none⟩ = some (.bool b.has) ∧ w'.cell? ⟨gm, 1, none⟩ = some (.int .i64 b.clk)) (by kernel_rfl) ?_
  have hHeld : ((fun (w' : World) => w'.cell? ⟨gm, 0, none⟩ = some (.bool b.has) ∧ w'.cell? ⟨gm, 1, none⟩ = some (.int .i64 b.clk))) (World.drew _) := HSS.out _ (below_drewN (Below.refl _ _) 1)
  refine wpAnyK_take0 0 (v := ?v1) rfl (by kernel_rfl) (fun _ _ _ h => h) (Or.inl ⟨by rfl, ?hy1⟩) (fun _ => hHeld) ?_
  case hy1 => (intro w hSw; go_simp; try with_reducible rfl)
  try simp only [Act.put, List.setIfInBounds_toArray, List.set_cons_zero, List.set_cons_succ]
  refine wpAnyK_take0 1 (v := ?v2) rfl (by kernel_rfl) (fun _ _ _ h => h) (Or.inl ⟨by rfl, ?hy2⟩) (fun _ => hHeld) ?_
  case hy2 => (intro w hSw; go_simp; try with_reducible rfl)
  try simp only [Act.put, List.setIfInBounds_toArray, List.set_cons_zero, List.set_cons_succ]
  refine wpAnyK_take0 2 (v := ?v3) rfl (by kernel_rfl) (fun _ _ _ h => h) (Or.inl ⟨by rfl, ?hy3⟩) (fun _ => hHeld) ?_
  case hy3 => (intro w hSw; go_simp; try with_reducible rfl)
  try simp only [Act.put, List.setIfInBounds_toArray, List.set_cons_zero, List.set_cons_succ]
  refine wpAnyK_take 3 [10] (v := ?v4) rfl (by kernel_rfl) (fun _ _ _ h => h) (Or.inl ⟨by rfl, ?hy4⟩) hHeld ?_
  case hy4 => (intro w hSw; (try dsimp only at hSw); go_simp; try with_reducible rfl)
  try simp only [Act.put, List.setIfInBounds_toArray, List.set_cons_zero, List.set_cons_succ]
  refine wpAnyK_take0 4 (v := ?v5) rfl (by kernel_rfl) (fun _ _ _ h => h) (Or.inl ⟨by rfl, ?hy5⟩) (fun _ => hHeld) ?_
  case hy5 => (intro w hSw; go_simp; try with_reducible rfl)
  try simp only [Act.put, List.setIfInBounds_toArray, List.set_cons_zero, List.set_cons_succ]
  refine wpAnyK_take0 5 (v := ?v6) rfl (by kernel_rfl) (fun _ _ _ h => h) (Or.inl ⟨by rfl, ?hy6⟩) (fun _ => hHeld) ?_
  case hy6 => (intro w hSw; go_simp; try with_reducible rfl)
  try simp only [Act.put, List.setIfInBounds_toArray, List.set_cons_zero, List.set_cons_succ]
  refine wpAnyK_take0 6 (v := ?v7) rfl (by kernel_rfl) (fun _ _ _ h => h) (Or.inl ⟨by rfl, ?hy7⟩) (fun _ => hHeld) ?_
  case hy7 => (intro w hSw; go_simp; try with_reducible rfl)
  try simp only [Act.put, List.setIfInBounds_toArray, List.set_cons_zero, List.set_cons_succ]
  refine wpAnyK_take 7 [10] (v := ?v8) rfl (by kernel_rfl) (fun _ _ _ h => h) (Or.inl ⟨by rfl, ?hy8⟩) hHeld ?_
  case hy8 => (intro w hSw; (try dsimp only at hSw); go_simp; try with_reducible rfl)
  try simp only [Act.put, List.setIfInBounds_toArray, List.set_cons_zero, List.set_cons_succ]
  refine wpAnyK_take0 8 (v := ?v9) rfl (by kernel_rfl) (fun _ _ _ h => h) (Or.inl ⟨by rfl, ?hy9⟩) (fun _ => hHeld) ?_
  case hy9 => (intro w hSw; go_simp; try with_reducible rfl)
  try simp only [Act.put, List.setIfInBounds_toArray, List.set_cons_zero, List.set_cons_succ]
  refine wpAnyK_step 9 rfl (by kernel_rfl) (fun K hK => ?_)
  go_simp
  refine (KC.out _ (below_drewN (Below.refl _ _) 1)).mono ?_
  rintro e w1 ⟨v1, rfl, hO1, hb1⟩
  obtain ⟨ao1, cap1, rfl, hr1⟩ := hO1.rd
  have HB1 : Hid (Below w.heap.size w w1) := (below_drewN (Below.refl _ _) 1).trans hb1
  have HR1 : Hid (RdE w1 ao1 b.L) := hr1
  clear hO1 hb1 hr1
  dsimp only
  refine hK.out _ _ ?hk10 ?_
  case hk10 => exact fun _ => HSS.out _ HB1.out
  have hHeld : ((fun (w' : World) => w'.cell? ⟨gm, 0, none⟩ = some (.bool b.has) ∧ w'.cell? ⟨gm, 1, none⟩ = some (.int .i64 b.clk))) _ := HSS.out _ HB1.out
  clear hK K
  try simp only [Act.put, List.setIfInBounds_toArray, List.set_cons_zero, List.set_cons_succ]
  refine wpAnyK_step 10 rfl (by kernel_rfl) (fun K hK => ?_)
  go_simp
  refine (rbytes_any b.has b.clk ao1 cap1 b.L w1 HR1.out hnm.out hlen.out).mono ?_
  rintro e w2 ⟨v2, rfl, hO2⟩
  have HO2 : Hid (OBb w1.heap.size w1 w2 v2 (imgF ⟨b.has, b.clk, b.L⟩)) := hO2
  clear hO2
  dsimp only
  refine hK.out _ _ ?hk11 ?_
  case hk11 => exact (fun h => nomatch (h.symm.trans (show _ = true by kernel_rfl)))
  clear hK K
  try simp only [Act.put, List.setIfInBounds_toArray, List.set_cons_zero, List.set_cons_succ]
  refine wpAnyK_take0 11 (v := ?v12) rfl (by kernel_rfl) (fun _ _ _ h => h) (Or.inl ⟨by rfl, ?hy12⟩) (fun h => nomatch (h.symm.trans (show _ = true by kernel_rfl))) ?_
  case hy12 => (intro w hSw; go_simp; try with_reducible rfl)
  try simp only [Act.put, List.setIfInBounds_toArray, List.set_cons_zero, List.set_cons_succ]
  refine wpAnyK_done (by kernel_rfl) ?_ _
  go_wp2
  go_ret
  have := HB1.out.size
  exact ⟨_, rfl, HO2.out.own.base this, HB1.out.trans (HO2.out.bel.mono this)⟩

end Go.Proofs.Ytidmjojlhcgedaa
