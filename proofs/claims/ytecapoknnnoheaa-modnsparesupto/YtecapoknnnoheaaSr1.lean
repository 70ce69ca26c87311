import Derived.Test.YtecapoknnnoheaaPwLaw
import Derived.Laws.OwnMore
namespace Go.Proofs.Ytecapoknnnoheaa
open Go.RowKit

theorem Ow.kept {w w' : World} {v : Value} {xs : List Nat} {r : Option Nat} (h : Ow w 0 v xs) (hg : w.grownBy w' r) (hne : ∀ g, v.ownBlock = some g → r ≠ some g) : Ow w' 0 v xs := by
  refine World.ownsRow.kept h hg ?_
  cases hv : v.ownBlock with
  | none => exact .inl rfl
  | some g => exact .inr (fun e => hne g hv e.symm)
theorem Ow.but {w w' : World} {base x : Nat} {v : Value} {xs : List Nat} (h : Ow w base v xs) (hb : But w w' x) (hne : v.ownBlock ≠ some x) : Ow w' base v xs := by
  refine ⟨h.1, ?_⟩
  rcases h.2 with h1 | ⟨g, cap, cur, e, hg, hh, hr⟩
  · exact .inl h1
  · refine .inr ⟨g, cap, cur, e, hg, ?_, hr⟩
    rw [hb.block g (Array.getElem?_eq_some_iff.1 hh).1 (fun e2 => hne (by rw [e, ← e2]; rfl))]
    exact hh

def updV (V : Nat → Value) (n : Nat) (r : Value) : Nat → Value := fun j => if j = n then r else V j
def updL (L : Nat → List Nat) (n : Nat) (l : List Nat) : Nat → List Nat := fun j => if j = n then l else L j

/-- Rows of limbs of one's own, apart from each other. -/
structure Fam (w : World) (B n : Nat) (V : Nat → Value) (L : Nat → List Nat) : Prop where
  own : ∀ j, j < n → Ow w 0 (V j) (L j)
  low : ∀ j, j < n → ∀ g, (V j).ownBlock = some g → B ≤ g
  sep : ∀ i j, i < n → j < n → i ≠ j → ∀ g, (V i).ownBlock = some g → (V j).ownBlock ≠ some g
theorem Fam.none (w : World) (B : Nat) (V : Nat → Value) (L : Nat → List Nat) : Fam w B 0 V L := ⟨fun _ h => by omega, fun _ h => by omega, fun _ _ h => by omega⟩
theorem Fam.below {w w' : World} {B n k : Nat} {V : Nat → Value} {L : Nat → List Nat} (h : Fam w B n V L) (hb : Below k w w') (hk : w.heap.size ≤ k) : Fam w' B n V L := ⟨fun j hj => (h.own j hj).below hb hk, h.low, h.sep⟩
theorem Fam.drewN {w : World} {B n : Nat} {V : Nat → Value} {L : Nat → List Nat} (h : Fam w B n V L) (q : Nat) : Fam (w.drewN q) B n V L := ⟨h.own, h.low, h.sep⟩
theorem Fam.grown {w w' : World} {B n : Nat} {V : Nat → Value} {L : Nat → List Nat} {r : Option Nat} (h : Fam w B n V L) (hg : w.grownBy w' r) (hne : ∀ j, j < n → ∀ g, (V j).ownBlock = some g → r ≠ some g) : Fam w' B n V L := ⟨fun j hj => (h.own j hj).kept hg (hne j hj), h.low, h.sep⟩
theorem Fam.but {w w' : World} {B n x : Nat} {V : Nat → Value} {L : Nat → List Nat} (h : Fam w B n V L) (hb : But w w' x) (hne : ∀ j, j < n → (V j).ownBlock ≠ some x) : Fam w' B n V L := ⟨fun j hj => (h.own j hj).but hb (hne j hj), h.low, h.sep⟩
theorem Fam.lt {w : World} {B n : Nat} {V : Nat → Value} {L : Nat → List Nat} (h : Fam w B n V L) (j : Nat) (hj : j < n) (g : Nat) (hg : (V j).ownBlock = some g) : g < w.heap.size := (World.ownsRow.lt (h.own j hj) g hg).2
theorem Fam.add {w w' : World} {B n : Nat} {V : Nat → Value} {L : Nat → List Nat} {r : Value} (h : Fam w B n V L) (hb : Below w.heap.size w w') (hr : Ow w' w.heap.size r (L n)) (hB : B ≤ w.heap.size) : Fam w' B (n + 1) (updV V n r) L := by
  have hV : ∀ j, j < n → updV V n r j = V j := fun j hj => by unfold updV; rw [if_neg (by omega)]
  have hN : updV V n r n = r := by unfold updV; rw [if_pos rfl]
  have hrl : ∀ g, r.ownBlock = some g → w.heap.size ≤ g := fun g hg => (World.ownsRow.lt hr g hg).1
  refine ⟨fun j hj => ?_, fun j hj g hg => ?_, fun i j hi hj hij g hg => ?_⟩
  · by_cases e : j = n
    · subst e; rw [hN]; exact hr.base (Nat.zero_le _)
    · rw [hV j (by omega)]; exact (h.own j (by omega)).below hb (Nat.le_refl _)
  · by_cases e : j = n
    · subst e; rw [hN] at hg; exact Nat.le_trans hB (hrl g hg)
    · rw [hV j (by omega)] at hg; exact h.low j (by omega) g hg
  · by_cases e1 : i = n
    · subst e1
      rw [hN] at hg
      rw [hV j (by omega)]
      intro e2
      have h1 := h.lt j (by omega) g e2
      have h2 := hrl g hg
      omega
    · rw [hV i (by omega)] at hg
      by_cases e3 : j = n
      · subst e3
        rw [hN]
        intro e2
        have h1 := h.lt i (by omega) g hg
        have h2 := hrl g e2
        omega
      · rw [hV j (by omega)]
        exact h.sep i j (by omega) (by omega) hij g hg
theorem Fam.write {w w' : World} {B n i g : Nat} {V : Nat → Value} {L : Nat → List Nat} {l : List Nat} (h : Fam w B n V L) (hi : i < n) (hg : (V i).ownBlock = some g) (hb : But w w' g) (hl : Ow w' 0 (V i) l) : Fam w' B n V (updL L i l) := by
  refine ⟨fun j hj => ?_, h.low, h.sep⟩
  unfold updL
  by_cases e : j = i
  · subst e; rw [if_pos rfl]; exact hl
  · rw [if_neg e]; exact (h.own j hj).but hb (h.sep i j hi hj (fun e2 => e e2.symm) g hg)

/-- A list of numbers of one's own. -/
def Tb (w : World) (B : Nat) (l : Value) (n : Nat) (V : Nat → Value) : Prop := w.ownsRow B 23 1 l n ((List.range n).map V)
theorem row_below {w w' : World} {e : TypeId} {b0 : Nat} {v : Value} {n k : Nat} {xs : List Value} (h : w.ownsRow b0 e 1 v n xs) (hb : Below k w w') (hk : w.heap.size ≤ k) : w'.ownsRow b0 e 1 v n xs := by
  refine ⟨h.1, ?_⟩
  rcases h.2 with h1 | ⟨g, cap, cur, e1, hg, hh, hr⟩
  · exact .inl h1
  · refine .inr ⟨g, cap, cur, e1, hg, ?_, hr⟩
    rw [hb.block g (by have := (Array.getElem?_eq_some_iff.1 hh).1; omega)]
    exact hh
theorem row_but {w w' : World} {e : TypeId} {b0 : Nat} {v : Value} {n x : Nat} {xs : List Value} (h : w.ownsRow b0 e 1 v n xs) (hb : But w w' x) (hne : v.ownBlock ≠ some x) : w'.ownsRow b0 e 1 v n xs := by
  refine ⟨h.1, ?_⟩
  rcases h.2 with h1 | ⟨g, cap, cur, e1, hg, hh, hr⟩
  · exact .inl h1
  · refine .inr ⟨g, cap, cur, e1, hg, ?_, hr⟩
    rw [hb.block g (Array.getElem?_eq_some_iff.1 hh).1 (fun e2 => hne (by rw [e1, ← e2]; rfl))]
    exact hh
theorem row_kept {w w' : World} {e : TypeId} {b0 : Nat} {v : Value} {n : Nat} {xs : List Value} {r : Option Nat} (h : w.ownsRow b0 e 1 v n xs) (hg : w.grownBy w' r) (hne : ∀ g, v.ownBlock = some g → r ≠ some g) : w'.ownsRow b0 e 1 v n xs := by
  refine h.kept hg ?_
  cases hv : v.ownBlock with
  | none => exact .inl rfl
  | some g => exact .inr (fun e => hne g hv e.symm)
/-- A list of numbers is no list of limbs. -/
theorem kind_apart {w : World} {l v : Value} {n m b0 b1 : Nat} {xs ys : List Value} (h : w.ownsRow b0 23 1 l n xs) (hv : w.ownsRow b1 29 1 v m ys) (g : Nat) (hg : v.ownBlock = some g) : l.ownBlock ≠ some g := by
  intro hl
  rcases h.2 with ⟨h1, _⟩ | ⟨g1, c1, r1, e1, _, hh1, _⟩
  · rw [h1] at hl; cases hl
  · rcases hv.2 with ⟨h2, _⟩ | ⟨g2, c2, r2, e2, _, hh2, _⟩
    · rw [h2] at hg; cases hg
    · rw [e1] at hl; rw [e2] at hg
      cases hl; cases hg
      rw [hh1] at hh2
      injection hh2 with h3
      injection h3 with h4 h5
      exact absurd h5 (by decide)

theorem infoN : (Try.prog.info? 23).map (fun i => (i.zero, i.size, i.bytes)) = some (some (.slice none 0 0), 1, 24) := by kernel_rfl
/-- append of numbers behind a list of one's own. -/
theorem append_tab {w : World} {ops : Array Oper} {rest : List Oper} {o : Oper} {a : Act} {Q : Exit → Act → World → Prop} (hgd : o.guard = none) (s x : Operand)
    (ho : o.op = .call { callee := .builtin .append, args := #[s, x], argTypes := #[32, 32] })
    (b0 : Nat) (hb0 : b0 ≤ w.heap.size) (v : Value) (n : Nat) (vs : List Value) (hs : a.eval s = v) (hown : w.ownsRow b0 23 1 v n vs)
    (g m : Nat) (news : List Value) (hx : a.eval x = .slice (some ⟨g, 0, none⟩) m m) (hl : news.length = m) (hc : ∀ j u, news[j]? = some u → w.cell? ⟨g, j, none⟩ = some u) (hone : ∀ u ∈ news, u.oneCell' = true) (hb : n + m ≤ 1000)
    (h : ∀ v' w', w'.ownsRow b0 23 1 v' (n + m) (vs ++ news) → w.grownBy w' v.ownBlock → wpList Try.prog ops Q rest (a.put o.dst v') w') : wpList Try.prog ops Q (o :: rest) a w := by
  obtain ⟨i, hi, hz, hsize, hby⟩ := info_parts infoN
  refine wpList_append_own_wide w hgd s x 32 ho b0 23 i (.slice none 0 0) 1 24 Try.underlying32 hi hz hsize hby rfl (by decide) v n vs hs hown ⟨g, 0, none⟩ m m news hx (by simpa using hl) ?_ hone (by unfold maxLen; omega) (by omega) hb0 ?_
  · intro j u hu
    rw [Addr.add_lit, Nat.zero_add]
    exact hc j u hu
  · intro v' w' h1 h2 _
    exact h v' w' h1 h2

/-- What the calls answer, in one form: a new number. -/
theorem Ans.re {w w' : World} {e : Ending} {c V : Nat} (h : Ans w w' e c V) : ∃ r, e = .returned (.tuple #[r, .int .i64 (c : Int)]) ∧ Re w w' r (if c = 0 then V else 0) := by
  rcases h with ⟨h0, h1, h2⟩ | ⟨h0, r, h1, h2⟩
  · refine ⟨_, h1, ?_⟩
    rw [if_neg h0]
    exact ⟨by rw [dg_zero]; exact Ow.nil _ _, by rw [dg_zero]; exact Nat.zero_le _, h2⟩
  · subst h0
    exact ⟨r, h1, h2⟩
theorem inv_re (A M : Nat) : ∃ c V : Nat, V ≤ M ∧ ∀ (w w' : World) (e : Ending), AnsI w w' e A M → ∃ r, e = .returned (.tuple #[r, .int .i64 (c : Int)]) ∧ Re w w' r V := by
  have hnil : ∀ w w' : World, Below w.heap.size w w' → Re w w' (.slice none 0 0) 0 := fun w w' h => ⟨by rw [dg_zero]; exact Ow.nil _ _, by rw [dg_zero]; exact Nat.zero_le _, h⟩
  by_cases h0 : rcode M (Lg A) = 0
  · by_cases h1 : Nat.gcd A M = 1
    · obtain ⟨Y, hY⟩ := inz_exists A M (rcode_zero h0).2.2 h1
      exact ⟨0, Y, Nat.le_of_lt hY.1, fun w w' e h => h.ok h0 hY⟩
    · refine ⟨61, 0, Nat.zero_le _, fun w w' e h => ?_⟩
      obtain ⟨h2, h3⟩ := h.nope h0 h1
      exact ⟨_, h2, hnil w w' h3⟩
  · refine ⟨rcode M (Lg A), 0, Nat.zero_le _, fun w w' e h => ?_⟩
    obtain ⟨h2, h3⟩ := h.bad h0
    exact ⟨_, h2, hnil w w' h3⟩
theorem Re.sl {w w' : World} {r : Value} {V : Nat} (h : Re w w' r V) : Sl r := h.nu.shape
theorem sl_one {v : Value} (h : Sl v) : v.oneCell' = true := by obtain ⟨a, n, c, rfl⟩ := h; rfl
theorem range5 (n : Nat) (V : Nat → Value) (r0 r1 r2 r3 r4 : Value) : (List.range (n + 5)).map (updV (updV (updV (updV (updV V n r0) (n + 1) r1) (n + 2) r2) (n + 3) r3) (n + 4) r4) = (List.range n).map V ++ [r0, r1, r2, r3, r4] := by
  have e : List.range (n + 5) = List.range n ++ [n, n + 1, n + 2, n + 3, n + 4] := by
    rw [List.range_succ, List.range_succ, List.range_succ, List.range_succ, List.range_succ]
    simp
  rw [e, List.map_append]
  congr 1
  · refine List.map_congr_left fun j hj => ?_
    have := List.mem_range.1 hj
    unfold updV
    rw [if_neg (by omega), if_neg (by omega), if_neg (by omega), if_neg (by omega), if_neg (by omega)]
  · unfold updV
    simp

/-- The three numbers with room, and all that was there before. -/
structure Rms (w0 : World) (B gx gy gz : Nat) (la lb lm : List Nat) (w : World) : Prop where
  x : Rm w gx la
  y : Rm w gy lb
  z : Rm w gz lm
  bel : Below w0.heap.size w0 w
  big : B ≤ w.heap.size
  lx : gx < B
  ly : gy < B
  lz : gz < B
  l0 : w0.heap.size ≤ B
section
variable {w0 w w' : World} {B gx gy gz : Nat} {la lb lm : List Nat}
theorem Rms.below {n : Nat} (H : Rms w0 B gx gy gz la lb lm w) (hb : Below n w w') (hn : w.heap.size ≤ n) : Rms w0 B gx gy gz la lb lm w' :=
  ⟨H.x.below hb hn, H.y.below hb hn, H.z.below hb hn, H.bel.trans (hb.mono (Nat.le_trans H.bel.size hn)), Nat.le_trans H.big hb.size, H.lx, H.ly, H.lz, H.l0⟩
theorem Rms.but {g : Nat} (H : Rms w0 B gx gy gz la lb lm w) (hb : But w w' g) (hg : B ≤ g) : Rms w0 B gx gy gz la lb lm w' :=
  ⟨H.x.but hb (by have := H.lx; omega), H.y.but hb (by have := H.ly; omega), H.z.but hb (by have := H.lz; omega), H.bel.trans (hb.below H.bel.size (Nat.le_trans H.l0 hg)), Nat.le_trans H.big hb.size, H.lx, H.ly, H.lz, H.l0⟩
theorem but_grown {r : Nat} (hg : w.grownBy w' (some r)) : But w w' r := ⟨hg.os, hg.tape, hg.output, hg.size, fun k hk hne => hg.block k hk (fun e => hne (by cases e; rfl))⟩
theorem below_grown (hg : w.grownBy w' none) : Below w.heap.size w w' := ⟨hg.os, hg.tape, hg.output, hg.size, fun k hk => hg.block k hk (fun e => by cases e)⟩
theorem Rms.grown {r : Option Nat} (H : Rms w0 B gx gy gz la lb lm w) (hg : w.grownBy w' r) (hr : ∀ g, r = some g → B ≤ g) : Rms w0 B gx gy gz la lb lm w' := by
  cases r with
  | none => exact H.below (below_grown hg) (Nat.le_refl _)
  | some g => exact H.but (but_grown hg) (hr g rfl)
end

/-- The five answers, over and over. -/
def Lf (D0 D1 D2 D3 D4 : Nat) (j : Nat) : List Nat := if j % 5 = 0 then dg Bs D0 else if j % 5 = 1 then dg Bs D1 else if j % 5 = 2 then dg Bs D2 else if j % 5 = 3 then dg Bs D3 else dg Bs D4
theorem Lf_at (D0 D1 D2 D3 D4 n : Nat) : Lf D0 D1 D2 D3 D4 (5 * n + 0) = dg Bs D0 ∧ Lf D0 D1 D2 D3 D4 (5 * n + 1) = dg Bs D1 ∧ Lf D0 D1 D2 D3 D4 (5 * n + 2) = dg Bs D2 ∧ Lf D0 D1 D2 D3 D4 (5 * n + 3) = dg Bs D3 ∧ Lf D0 D1 D2 D3 D4 (5 * n + 4) = dg Bs D4 := by
  unfold Lf
  refine ⟨?_, ?_, ?_, ?_, ?_⟩
  · rw [if_pos (by omega)]
  · rw [if_neg (by omega), if_pos (by omega)]
  · rw [if_neg (by omega), if_neg (by omega), if_pos (by omega)]
  · rw [if_neg (by omega), if_neg (by omega), if_neg (by omega), if_pos (by omega)]
  · rw [if_neg (by omega), if_neg (by omega), if_neg (by omega), if_neg (by omega)]
theorem Lf_len (D0 D1 D2 D3 D4 M j : Nat) (hM : (dg Bs M).length ≤ 1048576) (h0 : D0 ≤ M) (h1 : D1 ≤ M) (h2 : D2 ≤ M) (h3 : D3 ≤ M) (h4 : D4 ≤ M) : (Lf D0 D1 D2 D3 D4 j).length ≤ 1048576 := by
  unfold Lf
  split
  · exact dgl_le _ _ _ h0 hM
  · split
    · exact dgl_le _ _ _ h1 hM
    · split
      · exact dgl_le _ _ _ h2 hM
      · split
        · exact dgl_le _ _ _ h3 hM
        · exact dgl_le _ _ _ h4 hM
theorem ifz_le {c V M : Nat} (h : c = 0 → V < M) : (if c = 0 then V else 0) ≤ M := by
  split
  · rename_i e; exact Nat.le_of_lt (h e)
  · exact Nat.zero_le _

end Go.Proofs.Ytecapoknnnoheaa
