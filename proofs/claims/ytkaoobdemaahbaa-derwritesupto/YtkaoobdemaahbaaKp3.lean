import Derived.Test.YtkaoobdemaahbaaKeep
namespace Go.Proofs.Ytkaoobdemaahbaa
open Go.RowKit

/-- A byte of an element written over. -/
def xSet (x : X) (k : Nat) (b : UInt8) : X := ⟨⟨x.e.tag, x.e.data.set k b, x.e.kids⟩, x.a, x.c⟩
theorem xD_set (x : X) (k : Nat) (b : UInt8) : xD (xSet x k b) = xD x := by simp [xD, xSet]
theorem xC_set (x : X) (k : Nat) (b : UInt8) : xC (xSet x k b) = xC x := by simp only [xC, xD_set]; rfl

theorem Lst.write {base g : Nat} {w : World} {v : Value} {xs ys : List X} {x : X} (h : Lst base w v (xs ++ x :: ys)) (k : Nat) (b : UInt8) (hg : (xD x).ownBlock = some g) :
    Lst base (w.setCell ⟨g, k, none⟩ (B b)) v (xs ++ xSet x k b :: ys) := by
  have hut : 5 ≠ 32 := by decide
  have hx := h.dat x (List.mem_append.2 (.inr (List.mem_cons_self ..)))
  have hsep := List.pairwise_append.1 h.sep
  have hc := List.pairwise_cons.1 hsep.2.1
  have hlen : (xs ++ xSet x k b :: ys).length = (xs ++ x :: ys).length := by simp
  have hxcs : xCs (xs ++ xSet x k b :: ys) = xCs (xs ++ x :: ys) := by
    simp only [xCs_append]
    congr 1
    simp only [xCs, List.flatMap_cons, xC_set]
  have keep : ∀ y : X, w.ownsRow base 5 1 (xD y) y.e.data.length (y.e.data.map B) → (xD y).ownBlock ≠ some g → (w.setCell ⟨g, k, none⟩ (B b)).ownsRow base 5 1 (xD y) y.e.data.length (y.e.data.map B) := fun y hy hne =>
    own_keep hy fun q hq => heap_setCell_other w _ q _ (fun e => hne (by rw [hq]; exact congrArg some e))
  refine ⟨?_, ?_, ?_, ?_⟩
  · rw [hlen, hxcs]
    exact own_keep h.own fun q hq => heap_setCell_other w _ q _ (fun e => kinds_apart hx h.own hut hg (by rw [hq]; exact congrArg some e))
  · intro y hy
    rcases List.mem_append.1 hy with hy | hy
    · exact keep y (h.dat y (List.mem_append.2 (.inl hy))) (fun e => hsep.2.2 y hy x (List.mem_cons_self ..) g e hg)
    · rcases List.mem_cons.1 hy with rfl | hy
      · have hg2 : ∃ c, xD x = .slice (some ⟨g, 0, none⟩) x.e.data.length c := by
          rcases hx.2 with ⟨h', _⟩ | ⟨g', cap, cur, h', _⟩
          · rw [h'] at hg; simp [Value.ownBlock] at hg
          · rw [h'] at hg
            simp only [Value.ownBlock, Option.some.injEq] at hg
            exact ⟨_, by rw [h', hg]⟩
        obtain ⟨c, hd⟩ := hg2
        rw [xD_set]
        have hs : (w.setCell ⟨g, k, none⟩ (B b)).ownsRow base 5 1 (xD x) x.e.data.length ((x.e.data.map B).set k (B b)) := by
          rw [hd] at hx ⊢
          exact (hx.stored k (B b)).1
        simp only [xSet, List.length_set]
        rw [← List.map_set] at hs
        exact hs
      · exact keep y (h.dat y (List.mem_append.2 (.inr (List.mem_cons_of_mem _ hy)))) (fun e => hc.1 y hy g hg e)
  · rw [List.pairwise_append, List.pairwise_cons]
    refine ⟨hsep.1, ⟨?_, hc.2⟩, ?_⟩
    · intro y hy q hq
      rw [xD_set] at hq
      exact hc.1 y hy q hq
    · intro y hy z hz q hq
      rcases List.mem_cons.1 hz with rfl | hz
      · rw [xD_set]; exact hsep.2.2 y hy x (List.mem_cons_self ..) q hq
      · exact hsep.2.2 y hy z (List.mem_cons_of_mem _ hz) q hq
  · intro y hy
    rcases List.mem_append.1 hy with hy | hy
    · exact h.num y (List.mem_append.2 (.inl hy))
    · rcases List.mem_cons.1 hy with rfl | hy
      · exact h.num x (List.mem_append.2 (.inr (List.mem_cons_self ..)))
      · exact h.num y (List.mem_append.2 (.inr (List.mem_cons_of_mem _ hy)))

/-- An element of which the first k bytes are marks. -/
def xFul (x : X) (k m : Nat) : X := ⟨⟨x.e.tag, List.replicate k (UInt8.ofNat m) ++ x.e.data.drop k, x.e.kids⟩, x.a, x.c⟩
/-- The elements, the i-th on, each written full. -/
def fulls (p : Int) : Nat → List X → List X
  | _, [] => []
  | i, x :: r => xFul x x.e.data.length (mkV i p) :: fulls p (i + 1) r

theorem xFul_zero (x : X) (m : Nat) : xFul x 0 m = x := by simp [xFul]
theorem xFul_length (x : X) (k m : Nat) (h : k ≤ x.e.data.length) : (xFul x k m).e.data.length = x.e.data.length := by simp [xFul]; omega
theorem xFul_step (x : X) (k m : Nat) (h : k < x.e.data.length) : xSet (xFul x k m) k (UInt8.ofNat m) = xFul x (k + 1) m := by
  unfold xSet xFul
  congr 2
  simp only
  rw [List.set_append_right _ _ (by simp), List.length_replicate, Nat.sub_self, List.drop_eq_getElem_cons h, List.set_cons_zero, List.replicate_succ', List.append_assoc]
  rfl
theorem fulls_length (p : Int) : ∀ (xs : List X) (i : Nat), (fulls p i xs).length = xs.length
  | [], _ => rfl
  | x :: r, i => by simp [fulls, fulls_length p r (i + 1)]
theorem fulls_append (p : Int) : ∀ (xs ys : List X) (i : Nat), fulls p i (xs ++ ys) = fulls p i xs ++ fulls p (i + xs.length) ys
  | [], ys, i => by simp [fulls]
  | x :: r, ys, i => by
    simp only [List.cons_append, fulls, fulls_append p r ys (i + 1), List.length_cons]
    rw [show i + 1 + r.length = i + (r.length + 1) from by omega]

end Go.Proofs.Ytkaoobdemaahbaa
