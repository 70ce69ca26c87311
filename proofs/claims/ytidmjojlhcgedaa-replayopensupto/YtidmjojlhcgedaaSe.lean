import Derived.Test.YtidmjojlhcgedaaRv
namespace Go.Proofs.Ytidmjojlhcgedaa
open Go.RowKit Go.Maps
set_option maxRecDepth 100000

theorem imgF_head (b : Bk) : (imgF b).getD 0 0 = 82 := rfl
theorem Owb.chf {f : Nat → Prop} {w w' : World} {base : Nat} {v : Value} {L : List UInt8} (h : Owb w base v L) (hc : Chf f w w') (hf : ∀ g, v.ownBlock = some g → ¬ f g) : Owb w' base v L := by
  rcases h.2 with h0 | ⟨g, cap, cur, e, hg, hh, r⟩
  · exact ⟨h.1, .inl h0⟩
  · exact ⟨h.1, .inr ⟨g, cap, cur, e, hg, by rw [hc.block g (Array.getElem?_eq_some_iff.1 hh).1 (hf g (by rw [e]; rfl))]; exact hh, r⟩⟩
theorem Owb.ne {w : World} {base bb mb : Nat} {b : Bk} {v : Value} {L : List UInt8} (h : Owb w base v L) (hB : Bok w bb mb b) : ∀ g, v.ownBlock = some g → ¬ (g = bb ∨ g = mb) := by
  intro g hg
  rcases h.2 with ⟨rfl, _⟩ | ⟨g', cap, cur, rfl, _, hh, _⟩
  · cases hg
  · have e : g' = g := by simpa [Value.ownBlock] using hg
    subst e
    rintro (e | e)
    · subst e
      have h1 := hB.cells
      unfold Bl at h1
      rw [hh] at h1
      simp at h1
    · subst e
      obtain ⟨es, clock, h1, _⟩ := hB.own
      rw [hh] at h1
      simp at h1
/-- Rows that begin otherwise lie elsewhere. -/
theorem Owb.apart {w : World} {b1 b2 : Nat} {v1 v2 : Value} {xs ys : List UInt8} (h1 : Owb w b1 v1 xs) (h2 : Owb w b2 v2 ys) (hx : 0 < xs.length) (hy : 0 < ys.length) (hne : xs.getD 0 0 ≠ ys.getD 0 0) : ∀ g, v1.ownBlock = some g → v2.ownBlock ≠ some g := by
  intro g e1 e2
  obtain ⟨a1, c1, rfl, _, r1⟩ := h1.nb
  obtain ⟨a2, c2, rfl, _, r2⟩ := h2.nb
  rcases r1 with r1 | ⟨g1, o1, rfl, _, k1⟩
  · rw [r1] at hx; simp at hx
  rcases r2 with r2 | ⟨g2, o2, rfl, _, k2⟩
  · rw [r2] at hy; simp at hy
  simp only [Value.ownBlock, Option.some.injEq] at e1 e2
  subst e1 e2
  rcases h1.2 with ⟨e, _⟩ | ⟨_, _, _, e, _⟩
  · cases e
  rcases h2.2 with ⟨e', _⟩ | ⟨_, _, _, e', _⟩
  · cases e'
  cases e
  cases e'
  have q1 := k1 0 hx
  have q2 := k2 0 hy
  rw [q1] at q2
  have q3 := Option.some.inj q2
  injection q3 with _ q4
  exact hne (UInt8.toNat_inj.1 (by omega))
theorem Owb.set {w : World} {base g n c : Nat} {xs : List UInt8} (h : Owb w base (.slice (some ⟨g, 0, none⟩) n c) xs) (j : Nat) (z : UInt8) : Owb (w.setCell ⟨g, j, none⟩ (.int .u8 (z.toNat : Int))) base (.slice (some ⟨g, 0, none⟩) n c) (xs.set j z) := by
  rcases h.2 with ⟨h0, _⟩ | ⟨g', cap, cur, e, hg, hh, hn, hc, hsz, ht⟩
  · cases h0
  · cases e
    have hB : Bl 5 w g cur.toList := by unfold Bl; simpa using hh
    have h2 := hB.set j (.int .u8 (z.toNat : Int))
    refine ⟨by simp, .inr ⟨g, c, (cur.toList.set j (.int .u8 (z.toNat : Int))).toArray, by simp, hg, h2, by simpa using hn, hc, by simpa using hsz, ?_⟩⟩
    rw [List.length_set, List.take_set, ht, List.map_set]
    rfl

theorem Owb.addr {w : World} {base : Nat} {v : Value} {xs : List UInt8} (h : Owb w base v xs) (h0 : 0 < xs.length) : ∃ g c, v = .slice (some ⟨g, 0, none⟩) xs.length c ∧ base ≤ g ∧ g < w.heap.size ∧ xs.length ≤ c ∧ Rd w (some ⟨g, 0, none⟩) xs := by
  obtain ⟨ao, c, rfl, hc, hr⟩ := h.nb
  rcases h.2 with ⟨_, h1⟩ | ⟨g, cap, cur, e, hg, hh, _⟩
  · omega
  · cases e
    exact ⟨g, c, rfl, hg, (Array.getElem?_eq_some_iff.1 hh).1, hc, hr⟩
theorem Owb.at {w : World} {base g n c : Nat} {xs : List UInt8} (h : Owb w base (.slice (some ⟨g, 0, none⟩) n c) xs) {j : Nat} (hj : j < xs.length) : w.cell? ⟨g, j, none⟩ = some (.int .u8 ((xs.getD j 0).toNat : Int)) ∧ w.frozen? ⟨g, j, none⟩ = false := by
  obtain ⟨g', c', e, _, _, _, hr⟩ := h.addr (by omega)
  cases e
  rcases h.2 with ⟨e, _⟩ | ⟨g', cap, cur, e, hg, hh, _⟩
  · cases e
  · cases e
    have hB : Bl 5 w g cur.toList := by unfold Bl; simpa using hh
    refine ⟨?_, hB.frozen j⟩
    rcases hr with h0 | ⟨g2, o2, e, _, k2⟩
    · rw [h0] at hj; simp at hj
    · cases e
      have := k2 j hj
      rwa [Nat.zero_add] at this
theorem over_set (im : List UInt8) {j : Nat} (hj : j < im.length) : (List.replicate j (1 : UInt8) ++ im.drop j).set j 1 = List.replicate (j + 1) 1 ++ im.drop (j + 1) := by
  rw [List.set_append_right _ _ (by simp), List.length_replicate, Nat.sub_self, List.drop_eq_getElem_cons hj, List.set_cons_zero, List.replicate_succ', List.append_assoc]
  rfl
theorem over_head (n j : Nat) (h : 0 < n) : (List.replicate n (1 : UInt8) ++ List.replicate j 2).getD 0 0 = 1 := by
  cases n with
  | zero => omega
  | succ n => rfl

/-- What stands while an image is written over. -/
structure Own5 (w0 wx : World) (vl vk vw : Value) (xs im : List UInt8) (ba ma bl ml bb mb : Nat) (A D : Bk) : Prop where
  l : Owb wx w0.heap.size vl xs
  k : Owb wx w0.heap.size vk im
  w : Owb wx w0.heap.size vw im
  a : Bok wx ba ma A
  al : Bok wx bl ml A
  b : Bok wx bb mb D
  bel : Below w0.heap.size w0 wx
theorem Own5.step {w0 wx wy : World} {vl vl' vk vw : Value} {xs ys im : List UInt8} {ba ma bl ml bb mb : Nat} {A D : Bk} (h : Own5 w0 wx vl vk vw xs im ba ma bl ml bb mb A D) (hc : Chf (fun k => vl.ownBlock = some k) wx wy) (hl : Owb wy w0.heap.size vl' ys)
    (hk : ∀ g, vl.ownBlock = some g → vk.ownBlock ≠ some g) (hw : ∀ g, vl.ownBlock = some g → vw.ownBlock ≠ some g) : Own5 w0 wy vl' vk vw ys im ba ma bl ml bb mb A D :=
  ⟨hl, h.k.chf hc (fun g e f => hk g f e), h.w.chf hc (fun g e f => hw g f e), h.a.chf hc (fun e => h.l.ne h.a _ e (.inl rfl)) (fun e => h.l.ne h.a _ e (.inr rfl)),
    h.al.chf hc (fun e => h.l.ne h.al _ e (.inl rfl)) (fun e => h.l.ne h.al _ e (.inr rfl)), h.b.chf hc (fun e => h.l.ne h.b _ e (.inl rfl)) (fun e => h.l.ne h.b _ e (.inr rfl)), chf_new h.bel hc (own_block h.l)⟩
/-- One byte behind it. -/
theorem append_own5 {w0 wr : World} {ops : Array Oper} {rest : List Oper} {o : Oper} {a : Act} {Q : Exit → Act → World → Prop} (hgd : o.guard = none) (s x : Operand)
    (ho : o.op = .call { callee := .builtin .append, args := #[s, x], argTypes := #[30, 30] })
    (v vk vw : Value) (xs im : List UInt8) (ba ma bl ml bb mb : Nat) (A D : Bk) (z : UInt8) (hs : a.eval s = v) (hob : Own5 w0 wr v vk vw xs im ba ma bl ml bb mb A D) (hx : a.eval x = .slice (some ⟨wr.heap.size, 0, none⟩) 1 1) (hl : xs.length ≤ 1000000000)
    (h0 : 0 < xs.length) (h1 : 0 < im.length) (hne : xs.getD 0 0 ≠ im.getD 0 0)
    (h : ∀ v' w', Own5 w0 w' v' vk vw (xs ++ [z]) im ba ma bl ml bb mb A D → wpList Try.prog ops Q rest (a.put o.dst v') w') : wpList Try.prog ops Q (o :: rest) a (wr.alloc (.cells #[.int .u8 (z.toNat : Int)] 5)) := by
  have hsz := hob.bel.size
  have hbl := alloc_bl wr (([z] : List UInt8).map B) 5
  refine append_rdb hgd s x ho w0.heap.size v xs hs (hob.l.below (alloc_below wr _) (Nat.le_refl _)) (some ⟨wr.heap.size, 0, none⟩) 1 1 [z] hx rfl (fun e => by cases e) hbl.rdb (by omega) (by rw [World.size_alloc]; omega) ?_
  intro v' w' g1 g2
  exact h v' w' (hob.step (((Chf.refl _ wr).alloc _).grown g2 (fun g hg => .inl hg)) g1 (hob.l.apart hob.k h0 h1 hne) (hob.l.apart hob.w h0 h1 hne))

end Go.Proofs.Ytidmjojlhcgedaa
