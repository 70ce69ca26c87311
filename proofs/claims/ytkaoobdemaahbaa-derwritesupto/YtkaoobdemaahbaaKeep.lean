import Derived.Test.YtkaoobdemaahbaaKp2
namespace Go.Proofs.Ytkaoobdemaahbaa
open Go.RowKit

theorem wpList_append_run {w : World} {ops : Array Oper} {rest : List Oper} {o : Oper} {a : Act} {Q : Exit → Act → World → Prop} (hgd : o.guard = none) (s x : Operand) (t : TypeId)
    (ho : o.op = .call { callee := .builtin .append, args := #[s, x], argTypes := #[t, t] }) (v vx v' : Value) (w' : World) (hs : a.eval s = v) (hx : a.eval x = vx)
    (hrun : (Builtin.append_ #[t, t] o.type #[v, vx]).run Try.prog w = .ok v' w') (h : wpList Try.prog ops Q rest (a.put o.dst v') w') : wpList Try.prog ops Q (o :: rest) a w := by
  refine wpList_plain hgd fun K hK => ?_
  unfold Oper.wp
  simp [execOp, ho, resolve, invoke, builtin, hs, hx, hrun, Result.andThen]
  exact hK _ _ h

theorem grownBy.trans {a b c : World} {r : Option Nat} (h1 : a.grownBy b r) (h2 : b.grownBy c r) : a.grownBy c r :=
  ⟨h2.os.trans h1.os, h2.tape.trans h1.tape, h2.output.trans h1.output, Nat.le_trans h1.size h2.size, fun k hk hne => (h2.block k (Nat.lt_of_lt_of_le hk h1.size) hne).trans (h1.block k hk hne)⟩

/-- append of one value behind a row of one's own: what was there stays, shorter slices over the same row too. -/
theorem append_keep (w : World) (t e ty : TypeId) (i : TypeInfo) (z : Value) (bytes : Nat) (ht : Try.prog.underlying t = some (.slice e)) (hi : Try.prog.info? e = some i) (hz : i.zero = some z) (hsize : i.size = 1) (hby : i.bytes = bytes) (hzs : z.cells.size = 1)
    (v : Value) (n : Nat) (xs : List Value) (hown : w.ownsRow 0 e 1 v n xs) (ad : Addr) (u : Value) (hu : w.cell? ad = some u) (h1 : u.oneCell' = true) (hbytes : (n + 1) * bytes ≤ 140737488355328) (hn : n + 1 ≤ maxLen) :
    ∃ v' w', (Builtin.append_ #[t, t] ty #[v, .slice (some ad) 1 1]).run Try.prog w = .ok v' w' ∧ w'.ownsRow 0 e 1 v' (n + 1) (xs ++ [u]) ∧ w.grownBy w' v.ownBlock ∧
      (v'.ownBlock = v.ownBlock ∨ ∃ g, v'.ownBlock = some g ∧ w.heap.size ≤ g) ∧ (∀ v2 m ys, m ≤ n → v2.ownBlock = v.ownBlock → w.ownsRow 0 e 1 v2 m ys → w'.ownsRow 0 e 1 v2 m ys) := by
  have hadd : ∀ j u', [u][j]? = some u' → w.cell? (ad.add j) = some u' := fun j u' hj => by
    match j, hj with
    | 0, hj => simp at hj; subst hj; simpa [Addr.add] using hu
  obtain ⟨v', w', hrun, hown', hgr, hnil⟩ := run_append_own (P := Try.prog) w 0 t ty e i z 1 bytes ht hi hz hsize hby hzs (by decide) v n xs hown ad 1 1 [u] rfl hadd (fun x hx => by simp at hx; subst hx; exact h1) hn hbytes (Nat.zero_le _)
  refine ⟨v', w', hrun, hown', hgr, ?_⟩
  have keepAlloc : ∀ o v2 m ys, w.ownsRow 0 e 1 v2 m ys → (w.drew.alloc o).ownsRow 0 e 1 v2 m ys := fun o v2 m ys h => World.ownsRow.alloc (w := w.drew) h o
  rcases hown.2 with ⟨rfl, rfl⟩ | ⟨g, cap, cur, rfl, hb, hg, hnc, hcm, hcs, htake⟩
  · have hr := run_append_nil (P := Try.prog) w t ty e i z ht hi hz ad 1 1 [u] (by rw [hsize]; rfl) hadd (by decide) (by decide) (by rw [hby]; omega)
    rw [hr] at hrun
    injection hrun with h2 h3
    subst h2; subst h3
    exact ⟨.inr ⟨_, rfl, Nat.le_refl _⟩, fun v2 m ys _ _ h => keepAlloc _ v2 m ys h⟩
  · by_cases hroom : n + 1 ≤ cap
    · have hr := run_append_room (P := Try.prog) w t ty e i ht hi g n cap cur hg ad 1 1 [u] (by rw [hsize]; rfl) hadd (fun x hx => by simp at hx; subst hx; exact h1) hroom (by rw [hsize]; simp; omega)
      rw [hr] at hrun
      injection hrun with h2 h3
      subst h2; subst h3
      refine ⟨.inl rfl, fun v2 m ys hm hv2 h => ⟨h.1, ?_⟩⟩
      rcases h.2 with ⟨rfl, _⟩ | ⟨g2, cap2, cur2, rfl, hb2, hg2, hnc2, hcm2, hcs2, htake2⟩
      · simp [Value.ownBlock] at hv2
      · simp [Value.ownBlock] at hv2
        subst hv2
        rw [hg2] at hg
        injection hg with hg
        injection hg with hg
        subst hg
        refine .inr ⟨g2, cap2, _, rfl, hb2, setRow_heap w g2 cur2 _ e _ hg2, hnc2, hcm2, ?_, ?_⟩
        · simp [hsize]; omega
        · rw [← htake2]
          simp only [hsize, Nat.mul_one, List.length_singleton]
          rw [List.append_assoc, List.take_append_of_le_length (by simp; omega), List.take_take]
          congr 1
          omega
    · have holds : ∀ j u', xs[j]? = some u' → w.cell? ((⟨g, 0, none⟩ : Addr).add j) = some u' := hown.cells (g := g) rfl
      have hr := run_append_grow (P := Try.prog) w t ty e i z ht hi hz ⟨g, 0, none⟩ n cap xs (by rw [hsize]; exact hown.1) holds ad 1 1 [u] (by rw [hsize]; rfl) hadd (by omega) (by simp only [maxLen] at hn; omega) (by rw [hby]; exact growslice_fits (by omega) hbytes)
      rw [hr] at hrun
      injection hrun with h2 h3
      subst h2; subst h3
      exact ⟨.inr ⟨_, rfl, Nat.le_refl _⟩, fun v2 m ys _ _ h => keepAlloc _ v2 m ys h⟩

end Go.Proofs.Ytkaoobdemaahbaa
