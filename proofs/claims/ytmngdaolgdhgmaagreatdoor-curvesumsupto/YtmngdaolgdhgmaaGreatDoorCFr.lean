import Derived.Test.YtmngdaolgdhgmaaGreatDoorCF
import Derived.Test.YtmngdaolgdhgmaaGreatDoorNtY2
import Derived.Laws.ResultCell
import Derived.Laws.Rows
namespace Go.Proofs.YtmngdaolgdhgmaaGreatDoor
open Go.RowKit

/-- A number in a row of one's own, from the block base on. -/
def Mk (w : World) (base : Nat) (r : Value) (V k : Nat) : Prop := Ow w base r (dg Bs V) ∧ (dg Bs V).length ≤ 3000000 ∧ V < pw k
theorem Mk.nk {w : World} {base : Nat} {r : Value} {V k : Nat} (h : Mk w base r V k) : Nk w r V k := ⟨h.1.vl h.2.1, h.2.2⟩
theorem Mk.below {w w' : World} {base : Nat} {r : Value} {V k : Nat} (h : Mk w base r V k) (hb : Below w.heap.size w w') : Mk w' base r V k := ⟨h.1.below hb (Nat.le_refl _), h.2⟩
theorem Mk.base {w : World} {base base' : Nat} {r : Value} {V k : Nat} (h : Mk w base r V k) (hb : base' ≤ base) : Mk w base' r V k := ⟨h.1.base hb, h.2⟩
theorem Rk.mk {w w' : World} {r : Value} {V k : Nat} (h : Rk w w' r V k) : Mk w' w.heap.size r V k := ⟨h.1.1, h.1.2.1, h.2⟩
theorem Ow.block {w : World} {base g : Nat} {v : Value} {xs : List Nat} (h : Ow w base v xs) (hg : v.ownBlock = some g) : base ≤ g ∧ g < w.heap.size := by
  rcases h.2 with ⟨rfl, _⟩ | ⟨b, cap, cur, rfl, h1, h2, _⟩
  · cases hg
  · cases hg
    refine ⟨h1, ?_⟩
    rcases Nat.lt_or_ge b w.heap.size with h3 | h3
    · exact h3
    · rw [Array.getElem?_eq_none h3] at h2
      cases h2
theorem Ow.but' {w w' : World} {base x : Nat} {v : Value} {xs : List Nat} (h : Ow w base v xs) (hb : But w w' x) (hne : v.ownBlock ≠ some x) : Ow w' base v xs := by
  obtain ⟨h1, h2⟩ := h
  refine ⟨h1, ?_⟩
  rcases h2 with h2 | ⟨g, cap, cur, rfl, hg, hc, hr⟩
  · exact .inl h2
  · have hlt : g < w.heap.size := by
      rcases Nat.lt_or_ge g w.heap.size with h3 | h3
      · exact h3
      · rw [Array.getElem?_eq_none h3] at hc; cases hc
    exact .inr ⟨g, cap, cur, rfl, hg, by rw [hb.block g hlt (fun e => hne (by rw [e]; rfl))]; exact hc, hr⟩
theorem Mk.but {w w' : World} {base x : Nat} {r : Value} {V k : Nat} (h : Mk w base r V k) (hb : But w w' x) (hx : x < base) : Mk w' base r V k := ⟨h.1.but' hb fun e => by have := (h.1.block e).1; omega, h.2⟩
/-- Two rows apart. -/
def Apt (u v : Value) : Prop := ∀ g, u.ownBlock = some g → v.ownBlock ≠ some g
/-- What a call has at hand: its boxes, from the first block of its own on, numbers that were handed in, numbers that it has made (the newest first), and all elder memory as it was. -/
structure Fm (w wN : World) (bs : List (TypeId × List Value)) (A M : List (Value × Nat × Nat)) : Prop where
  bx : ∀ (i : Nat) (h : i < bs.length), Bl (bs[i]).1 wN (w.heap.size + i) (bs[i]).2
  ar : ∀ q ∈ A, Nk wN q.1 q.2.1 q.2.2
  made : ∀ q ∈ M, Mk wN (w.heap.size + bs.length) q.1 q.2.1 q.2.2
  ap : M.Pairwise fun q r => Apt q.1 r.1
  sz : w.heap.size + bs.length ≤ wN.heap.size
  bel : Below w.heap.size w wN
section
variable {w wN w' : World} {bs : List (TypeId × List Value)} {A M : List (Value × Nat × Nat)}
theorem Fm.nil (h : ∀ q ∈ A, Nk w q.1 q.2.1 q.2.2) : Fm w w [] A [] := ⟨fun i h => absurd h (by simp), h, fun q hq => absurd hq (by simp), .nil, by simp, Below.refl _ _⟩
theorem Fm.push (h : Fm w wN bs A []) (hs : wN.heap.size = w.heap.size + bs.length) (t : TypeId) (vs : List Value) : Fm w (wN.alloc (.cells vs.toArray t)) (bs ++ [(t, vs)]) A [] := by
  have hb := alloc_below wN (.cells vs.toArray t)
  refine ⟨fun i hi => ?_, fun q hq => (h.ar q hq).below hb (Nat.le_refl _), fun q hq => absurd hq (by simp), .nil, by rw [World.size_alloc, List.length_append, List.length_singleton]; omega, h.bel.trans (hb.mono h.bel.size)⟩
  by_cases h1 : i < bs.length
  · rw [List.getElem_append_left h1]
    exact (h.bx i h1).below hb (by omega)
  · have h2 : i = bs.length := by rw [List.length_append, List.length_singleton] at hi; omega
    subst h2
    rw [List.getElem_append_right (by omega)]
    simp only [Nat.sub_self, List.getElem_cons_zero]
    rw [← hs]
    exact alloc_bl wN vs t
theorem Fm.cell (h : Fm w wN bs A M) (i j : Nat) (hi : i < bs.length) (hj : j < (bs[i]).2.length) : wN.cell? ⟨w.heap.size + i, j, none⟩ = some ((bs[i]).2[j]) := (h.bx i hi).cell j hj
theorem Fm.frozen (h : Fm w wN bs A M) (i j : Nat) (hi : i < bs.length) : wN.frozen? ⟨w.heap.size + i, j, none⟩ = false := (h.bx i hi).frozen j
theorem Fm.below (h : Fm w wN bs A M) (hb : Below wN.heap.size wN w') : Fm w w' bs A M :=
  ⟨fun i hi => (h.bx i hi).below hb (h.bx i hi).lt, fun q hq => (h.ar q hq).below hb (Nat.le_refl _), fun q hq => (h.made q hq).below hb, h.ap, Nat.le_trans h.sz hb.size, h.bel.trans (hb.mono h.bel.size)⟩
theorem Fm.drewN (h : Fm w wN bs A M) (q : Nat) : Fm w (wN.drewN q) bs A M := h.below (below_drewN (Below.refl _ _) q)
theorem Fm.drew (h : Fm w wN bs A M) : Fm w wN.drew bs A M := h.drewN 1
theorem Fm.step {r : Value} {V k : Nat} (h : Fm w wN bs A M) (hn : Rk wN w' r V k) : Fm w w' bs A ((r, V, k) :: M) := by
  have h2 := h.below hn.bel
  refine ⟨h2.bx, h2.ar, fun q hq => ?_, List.pairwise_cons.2 ⟨fun q hq g hg e => ?_, h.ap⟩, h2.sz, h2.bel⟩
  · rcases List.mem_cons.1 hq with rfl | hq
    · exact hn.mk.base h.sz
    · exact h2.made q hq
  · have a := (hn.mk.1.block hg).1
    have b := ((h.made q hq).1.block e).2
    omega
theorem Fm.arg (h : Fm w wN bs A M) (i : Nat) (hi : i < A.length) : Nk wN A[i].1 A[i].2.1 A[i].2.2 := h.ar _ (List.getElem_mem hi)
theorem Fm.got (h : Fm w wN bs A M) (i : Nat) (hi : i < M.length) : Nk wN M[i].1 M[i].2.1 M[i].2.2 := (h.made _ (List.getElem_mem hi)).nk
/-- What is made, behind a write to a box: new since the call began. -/
theorem Fm.out (h : Fm w wN bs A M) (x : Nat) (hx : x < bs.length) (hb : But wN w' (w.heap.size + x)) (i : Nat) (hi : i < M.length) : Mk w' w.heap.size M[i].1 M[i].2.1 M[i].2.2 :=
  ((h.made _ (List.getElem_mem hi)).but hb (by omega)).base (by omega)
theorem Fm.outB (h : Fm w wN bs A M) (x : Nat) (_hx : x < bs.length) (hb : But wN w' (w.heap.size + x)) : Below w.heap.size w w' := h.bel.trans (hb.below h.bel.size (by omega))
theorem Fm.apt (h : Fm w wN bs A M) (i j : Nat) (hi : i < M.length) (hj : j < M.length) (hij : i < j) : Apt M[i].1 M[j].1 := List.pairwise_iff_getElem.1 h.ap i j hi hj hij
theorem Rk.sl {r : Value} {V k : Nat} (h : Rk wN w' r V k) : Sl3 r := h.1.nu.shape
theorem Nk.sl {r : Value} {V k : Nat} (h : Nk w r V k) : Sl3 r := h.1.shape
end
theorem results_cell {fn : Func} {p : Tmp} {ty : TypeId} (h : fn.results = #[.cell p ty]) (tmps : Array Value) (P : Program) (w : World) :
    (results fn tmps).run P w = ((asAddr (tmps.getD p undef)).run P w).andThen fun a w₁ => (loadVar ty a).run P w₁ := by
  simp only [results, h]
  simp [Sem.run_bind, Result.andThen]
theorem proper11_v (v : Value) (V k : Nat) (w : World) (hv : Nk w v V k) : Calls Tryz.prog 51 #[v] w fun e w' => ∃ r, e = .returned r ∧ Rk w w' r V k := by
  have C := shr0_v v V w hv.1
  have HL : Hid (V < pw k) := hv.2
  clear hv
  go_enter Tryz.func51, Tryz.ntmps51
  go_wp2_with fail
  refine C.mono ?_
  rintro e w1 ⟨r, rfl, h⟩
  have H : Hid (Re w w1 r V) := h
  clear C h
  go_wp2
  go_ret
  exact ⟨r, rfl, H.out, HL.out⟩
theorem infinity_v (w : World) : Calls Tryz.prog 85 #[] w fun e w' => ∃ r, e = .returned (.agg #[.slice none 0 0, r, .slice none 0 0]) ∧ Mk w' w.heap.size r 1 1 ∧ Below w.heap.size w w' := by
  have C := small_v 1 1 (by decide) (by decide) (w.alloc (.cells #[.slice none 0 0, .slice none 0 0, .slice none 0 0] 66))
  have HF : Hid (Fm w (w.alloc (.cells #[.slice none 0 0, .slice none 0 0, .slice none 0 0] 66)) [(66, [.slice none 0 0, .slice none 0 0, .slice none 0 0])] [] []) := (Fm.nil (w := w) (A := []) (by simp)).push (by simp) 66 [.slice none 0 0, .slice none 0 0, .slice none 0 0]
  go_enter Tryz.func85, Tryz.ntmps85
  go_wp2_with fail
  generalize w.alloc (.cells #[.slice none 0 0, .slice none 0 0, .slice none 0 0] 66) = w0 at *
  refine C.mono ?_
  clear C
  rintro e w1 ⟨r, rfl, h⟩
  have HF1 : Hid (Fm _ _ _ _ _) := HF.out.step h
  obtain ⟨r0, r1, r2, rfl⟩ := h.sl
  have c0 : w1.cell? ⟨w.heap.size, 0, none⟩ = some (.slice none 0 0) := HF1.out.cell 0 0 (by decide) (by decide)
  have c1 : w1.cell? ⟨w.heap.size, 1, none⟩ = some (.slice none 0 0) := HF1.out.cell 0 1 (by decide) (by decide)
  have c2 : w1.cell? ⟨w.heap.size, 2, none⟩ = some (.slice none 0 0) := HF1.out.cell 0 2 (by decide) (by decide)
  have f0 : w1.frozen? ⟨w.heap.size, 0, none⟩ = false := HF1.out.frozen 0 0 (by decide)
  have f1 : w1.frozen? ⟨w.heap.size, 1, none⟩ = false := HF1.out.frozen 0 1 (by decide)
  have f2 : w1.frozen? ⟨w.heap.size, 2, none⟩ = false := HF1.out.frozen 0 2 (by decide)
  clear h
  go_wp2
  (try simp only [Exit.inBlock, Exit.then])
  have hb := (((But.refl w1 w.heap.size).set 0 (.slice none 0 0)).set 1 (.slice r0 r1 r2)).set 2 (.slice none 0 0)
  refine bodyPost_ret (v := .agg #[.slice none 0 0, .slice r0 r1 r2, .slice none 0 0]) ?_ rfl ⟨_, rfl, HF1.out.out 0 (by simp) hb 0 (by simp), HF1.out.outB 0 (by simp) hb⟩
  rw [results_cell rfl]; go_simp
end Go.Proofs.YtmngdaolgdhgmaaGreatDoor
