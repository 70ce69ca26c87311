import Derived.Test.YtkaoobdemaahbaaWdF
import Derived.Test.YtkaoobdemaahbaaKp3
import Derived.Test.YtkaoobdemaahbaaBy
namespace Go.Proofs.Ytkaoobdemaahbaa
open Go.RowKit

/-- A byte of a twin's element written over. -/
theorem Tm.write {base g : Nat} {w : World} {v : Value} {xs ys : List X} {x : X} {j : Nat} (h : Tm base w v (xs ++ x :: ys) j) (k : Nat) (b : UInt8) (hk : k < x.e.data.length) (hg : (xD x).ownBlock = some g) :
    Tm base (w.setCell ⟨g, k, none⟩ (B b)) v (xs ++ xSet x k b :: ys) j := by
  have hut : 5 ≠ 32 := by decide
  have hx := h.dat x (List.mem_append.2 (.inr (List.mem_cons_self ..)))
  have hgx : (Value.slice x.a (x.e.data.length + 90) x.c).ownBlock = some g := by rw [own_blk]; exact hg
  have hsep := List.pairwise_append.1 h.sep
  have hc := List.pairwise_cons.1 hsep.2.1
  have hlen : (xs ++ xSet x k b :: ys ++ fil j).length = (xs ++ x :: ys ++ fil j).length := by simp
  have hxcs : xCs (xs ++ xSet x k b :: ys ++ fil j) = xCs (xs ++ x :: ys ++ fil j) := by
    simp only [xCs_append]
    congr 2
    simp only [xCs, List.flatMap_cons, xC_set]
  have keep : ∀ y : X, w.ownsRow base 5 1 (.slice y.a (y.e.data.length + 90) y.c) (y.e.data.length + 90) ((y.e.data ++ mks 90).map B) → (xD y).ownBlock ≠ some g → (w.setCell ⟨g, k, none⟩ (B b)).ownsRow base 5 1 (.slice y.a (y.e.data.length + 90) y.c) (y.e.data.length + 90) ((y.e.data ++ mks 90).map B) := fun y hy hne =>
    own_keep hy fun q hq => heap_setCell_other w _ q _ (fun e => hne (by rw [← own_blk y (y.e.data.length + 90), hq]; exact congrArg some e))
  refine ⟨?_, ?_, ?_⟩
  · rw [hlen, hxcs]
    exact own_keep h.own fun q hq => heap_setCell_other w _ q _ (fun e => kinds_apart hx h.own hut hgx (by rw [hq]; exact congrArg some e))
  · intro y hy
    rcases List.mem_append.1 hy with hy | hy
    · exact keep y (h.dat y (List.mem_append.2 (.inl hy))) (fun e => hsep.2.2 y hy x (List.mem_cons_self ..) g e hg)
    · rcases List.mem_cons.1 hy with rfl | hy
      · have hg2 : x.a = some ⟨g, 0, none⟩ := by
          rcases hx.2 with ⟨h', _⟩ | ⟨g', cap, cur, h', _⟩
          · rw [h'] at hgx; simp [Value.ownBlock] at hgx
          · rw [h'] at hgx
            simp only [Value.ownBlock, Option.some.injEq] at hgx
            injection h' with h1
            rw [h1, hgx]
        rw [hg2] at hx
        have hs := (hx.stored k (B b)).1
        rw [← List.map_set, List.set_append_left _ _ hk] at hs
        show (w.setCell ⟨g, k, none⟩ (B b)).ownsRow base 5 1 (.slice x.a ((x.e.data.set k b).length + 90) x.c) ((x.e.data.set k b).length + 90) ((x.e.data.set k b ++ mks 90).map B)
        rw [List.length_set, hg2]
        exact hs
      · exact keep y (h.dat y (List.mem_append.2 (.inr (List.mem_cons_of_mem _ hy)))) (fun e => hc.1 y hy g hg e)
  · rw [List.pairwise_append, List.pairwise_cons]
    refine ⟨hsep.1, ⟨?_, hc.2⟩, ?_⟩
    · intro y hy q hq
      rw [xD_set] at hq
      exact hc.1 y hy q hq
    · intro y hy z hz q hq
      rcases List.mem_cons.1 hz with rfl | hz
      · rw [xD_set]; exact hsep.2.2 y hy x (List.mem_cons_self ..) q hq
      · exact hsep.2.2 y hy z (List.mem_cons_of_mem _ hz) q hq

/-- Elements that differ in their bytes alone, which are as many. -/
def shp (y : X) : Int × Nat × Int := (y.e.tag, y.e.data.length, y.e.kids)
def Like (ys zs : List X) : Prop := ys.map shp = zs.map shp
theorem Like.len {ys zs : List X} (h : Like ys zs) : ys.length = zs.length := by have := congrArg List.length h; simpa using this
theorem like_tot : ∀ {ys zs : List X}, Like ys zs → tot (es ys) = tot (es zs)
  | [], [], _ => rfl
  | [], _ :: _, h => by simp [Like] at h
  | _ :: _, [], h => by simp [Like] at h
  | y :: ys, z :: zs, h => by
    simp only [Like, List.map_cons, List.cons.injEq, shp, Prod.mk.injEq] at h
    have ih := like_tot (ys := ys) (zs := zs) h.2
    show y.e.data.length + 10 + tot (es ys) = z.e.data.length + 10 + tot (es zs)
    rw [h.1.2.1, ih]
theorem Like.one {ys zs : List X} (h : Like ys zs) {y : X} (hy : y ∈ ys) : ∃ z ∈ zs, z.e.tag = y.e.tag ∧ z.e.data.length = y.e.data.length ∧ z.e.kids = y.e.kids := by
  have h1 : shp y ∈ ys.map shp := List.mem_map.2 ⟨y, hy, rfl⟩
  rw [h] at h1
  obtain ⟨z, hz, e⟩ := List.mem_map.1 h1
  simp only [shp, Prod.mk.injEq] at e
  exact ⟨z, hz, e.1, e.2.1, e.2.2⟩
theorem Like.max {ys zs : List X} (h : Like ys zs) {B : Nat} (hB : ∀ z ∈ zs, z.e.data.length ≤ B) : ∀ y ∈ ys, y.e.data.length ≤ B := fun y hy => by
  obtain ⟨z, hz, _, e, _⟩ := h.one hy
  rw [← e]
  exact hB z hz
theorem Like.of_es {ys zs : List X} (h : es ys = es zs) : Like ys zs := by
  have := congrArg (List.map (fun e : E => ((e.tag, e.data.length, e.kids) : Int × Nat × Int))) h
  unfold es at this
  rw [List.map_map, List.map_map] at this
  exact this
theorem Like.set {xs ys zs : List X} {x : X} (h : Like (xs ++ x :: ys) zs) (k : Nat) (b : UInt8) : Like (xs ++ xSet x k b :: ys) zs := by
  unfold Like at *
  rw [← h]
  simp [xSet, shp]
theorem Tm.rowS {base : Nat} {w : World} {g n c : Nat} {ys xs : List X} {j : Nat} {ao : Option Addr} (h : Tm base w (.slice (some ⟨g, 0, none⟩) n c) ys j) (hn : (ys ++ fil j).length = n) (he : Like ys xs) (hR : Row w ao xs) : Row w (some ⟨g, 0, none⟩) ys := by
  refine ⟨.inr ⟨g, 0, rfl, (h.own.lt g rfl).2, fun k hk => ?_⟩, fun y hy => ?_⟩
  · have := h.cells hn k (by rw [List.length_append]; omega)
    rw [List.getElem_append_left hk] at this
    exact this
  · obtain ⟨g', e1, r, l1, l2⟩ := h.full y hy
    obtain ⟨x, hx, _, _, ex2⟩ := he.one hy
    have hX := hR.ok x hx
    have r2 := rd_take r y.e.data.length
    rw [List.take_left] at r2
    rw [← e1] at r2
    have q1 := hX.lo
    have q2 := hX.hi
    rw [ex2] at q1 q2
    exact ⟨r2, by omega, l2, q1, q2⟩
theorem prints_len (v : List E) : (prints v).1.length ≤ 20000000 := by
  cases hs : shaped v with
  | false => unfold prints; rw [hs]; simp
  | true =>
    obtain ⟨bs, h⟩ := shaped_El.1 hs
    obtain ⟨h1, h2⟩ := prints_El h
    by_cases hb : bs.length ≤ 65536
    · rw [h1 hb]; show bs.length ≤ _; omega
    · rw [h2 (by omega)]; simp
theorem cut_at (ys : List X) {i : Nat} (hi : i < ys.length) : ys = ys.take i ++ ys[i] :: ys.drop (i + 1) := by
  rw [List.getElem_cons_drop, List.take_append_drop]

end Go.Proofs.Ytkaoobdemaahbaa
