import Derived.Test.YtmagjhidgembnaaDoorMa
import Derived.Test.YtmagjhidgembnaaDoorFa
import Derived.Test.YtmagjhidgembnaaDoorGw
import Derived.Test.YtmagjhidgembnaaDoorYZ
import Derived.Test.YtmagjhidgembnaaDoorGd
import Derived.Test.YtmagjhidgembnaaDoorMb
namespace Go.Proofs.YtmagjhidgembnaaDoor
open Go.RowKit Go.Shelf

/-- The two marks behind a list that was lent. -/
def m91 : Nd := ⟨91, [], [], false, 0, 0⟩
def m92 : Nd := ⟨92, [], [], false, 0, 0⟩

theorem no_pre {B : Nat} {w : World} {g n cap : Nat} {l M : List Nd} (h : NO B w (.slice (some ⟨g, 0, none⟩) n cap) (l ++ M)) : NR w (.slice (some ⟨g, 0, none⟩) l.length cap) l (some ⟨g, 0, none⟩) cap := by
  obtain ⟨a, c, e, hc, _⟩ := own_slice h
  cases e
  have hlt := (h.lt g rfl).2
  rw [List.length_append] at hc
  refine ⟨rfl, by omega, .inr ⟨g, 0, rfl, hlt, fun j u hu => ?_⟩⟩
  rw [Nat.zero_add]
  unfold NO at h
  refine (own_cell h j u ?_).1
  rw [nCs_append, List.getElem?_append_left (List.getElem?_eq_some_iff.1 hu).1]
  exact hu
theorem no_kinds {B : Nat} {w : World} {g n cap : Nat} {l : List Nd} (h : NO B w (.slice (some ⟨g, 0, none⟩) n cap) (l ++ [m91, m92])) : w.cell? ⟨g, l.length * 6, none⟩ = some (.int .i64 91) ∧ w.cell? ⟨g, (l.length + 1) * 6, none⟩ = some (.int .i64 92) := by
  unfold NO at h
  obtain ⟨a, c, e2, _, _⟩ := own_slice h
  cases e2
  refine ⟨(own_cell h (l.length * 6) _ ?_).1, (own_cell h ((l.length + 1) * 6) _ ?_).1⟩
  · rw [nCs_append, List.getElem?_append_right (by rw [nCs_length]; omega), nCs_length, show l.length * 6 - l.length * 6 = 0 by omega]
    rfl
  · rw [nCs_append, List.getElem?_append_right (by rw [nCs_length]; omega), nCs_length, show (l.length + 1) * 6 - l.length * 6 = 6 by omega]
    rfl

set_option maxRecDepth 100000 in
set_option maxHeartbeats 16000000 in
theorem lent_any (l : List Nd) (va : Option Addr) (vc : Nat) (w : World) (h : NR w (.slice va l.length vc) l va vc) (hvn : va = none → vc = 0) (hl : l.length ≤ 100000000) :
    Calls Tryd.prog 5 #[.slice va l.length vc] w fun e w' => (∃ g c, e = .returned (.slice (some ⟨g, 0, none⟩) l.length c) ∧ NO w.heap.size w' (.slice (some ⟨g, 0, none⟩) (l.length + 2) c) (l ++ [m91, m92])) ∧ Below w.heap.size w w' := by
  have CT := twin_any (.slice va l.length vc) l va vc w h (by omega) hvn
  clear h hvn
  go_enter Tryd.func5, Tryd.ntmps5
  go_wp2_with fail
  refine CT.mono ?_
  clear CT
  rintro e w1 ⟨hb, v1, rfl, hn⟩
  have HB1 : Hid (Below w.heap.size w w1) := hb
  obtain ⟨n1, c1, e1, _, _⟩ := own_slice hn
  subst e1
  obtain ⟨x2, hx2⟩ : ∃ x, w1.alloc (.cells #[.int .i64 91, .string ⟨#[]⟩, .string ⟨#[]⟩, .bool false, .int .i64 0, .int .i64 0, .int .i64 92, .string ⟨#[]⟩, .string ⟨#[]⟩, .bool false, .int .i64 0, .int .i64 0] 31) = x := ⟨_, rfl⟩
  have hA2 : Below w1.heap.size w1 x2 := by rw [← hx2]; exact alloc_below _ _
  have hM2 : Bl 31 x2 w1.heap.size (nCs [m91, m92]) := by rw [← hx2]; exact alloc_bl w1 (nCs [m91, m92]) _
  have HR2 : NR x2 (.slice (some ⟨w1.heap.size, 0, none⟩) 2 2) [m91, m92] (some ⟨w1.heap.size, 0, none⟩) 2 := ⟨rfl, Nat.le_refl _, .inr ⟨w1.heap.size, 0, rfl, hM2.lt, fun j u hu => by
    rw [Nat.zero_add]
    obtain ⟨hj, e⟩ := List.getElem?_eq_some_iff.1 hu
    rw [← e]
    exact hM2.cell j hj⟩⟩
  have HN2 : Hid (NO w.heap.size x2 (.slice n1 l.length c1) l) := own_below hn hA2 (Nat.le_refl _)
  have HB2 : Hid (Below w.heap.size w x2) := HB1.out.trans (hA2.mono HB1.out.size)
  have HS2 : Hid (w.heap.size ≤ x2.heap.size) := HB2.out.size
  clear hA2 hM2 hb hn HB1
  go_upto_region 3 with (at_builtin; refine append_nds rfl (.tmp 6) (.tmp 9) rfl w.heap.size (.slice n1 l.length c1) l rfl HN2.out (some ⟨w1.heap.size, 0, none⟩) 2 [m91, m92] rfl HR2 (fun h => by cases h) (by simp only [List.length_cons, List.length_nil]; omega) HS2.out ?_; intro v3 w3 ho3 hg3; have HB3 : Hid (Below w.heap.size w w3) := HB2.out.grown hg3 HS2.out (own_block HN2.out); have HO3' : Hid (NO w.heap.size w3 v3 (l ++ [m91, m92])) := ho3; obtain ⟨n3, c3, e3, _, _⟩ := own_slice ho3; subst e3; clear ho3 hg3)
  obtain ⟨n3', c3', e3, hc3, hg3'⟩ := own_slice HO3'.out
  obtain ⟨g, e4⟩ := hg3' (by simp)
  cases e3
  subst e4
  have HO3 : Hid (NO w.heap.size w3 (.slice (some ⟨g, 0, none⟩) (l.length + 2) c3) (l ++ [m91, m92])) := by have h := HO3'.out; rw [show (l ++ [m91, m92]).length = l.length + 2 from by simp] at h; exact h
  have hc4 : l.length + 2 ≤ c3 := by simpa using hc3
  have hcn : l.length ≤ c3 := by omega
  have hcnI : (l.length : Int) ≤ (c3 : Int) := by omega
  clear hg3' hc3 HO3' HR2 HN2 HB2 HS2 hx2 hc4
  go_wp2
  go_ret
  exact ⟨⟨g, c3, rfl, HO3.out⟩, HB3.out⟩

set_option maxRecDepth 100000 in
set_option maxHeartbeats 16000000 in
theorem still_any (l : List Nd) (va : Option Addr) (vc g c B : Nat) (w : World) (h : NR w (.slice va l.length vc) l va vc) (hk : NO B w (.slice (some ⟨g, 0, none⟩) (l.length + 2) c) (l ++ [m91, m92])) (hl : l.length ≤ 100000000) :
    Calls Tryd.prog 9 #[.slice (some ⟨g, 0, none⟩) l.length c, .slice va l.length vc] w fun e w' => e = .returned (.bool true) ∧ ∃ q, w' = w.drewN q := by
  have CS := rsame_any (.slice (some ⟨g, 0, none⟩) l.length c) (.slice va l.length vc) l l (some ⟨g, 0, none⟩) va c vc w (no_pre hk) h (by omega)
  rw [decide_eq_true rfl] at CS
  have hc2 : l.length + 2 ≤ c := by
    obtain ⟨a, c', e, hc, _⟩ := own_slice hk
    injection e with _ _ e3
    rw [e3]
    simpa using hc
  have hcI : (l.length : Int) + 2 ≤ (c : Int) := by omega
  have qb0 : (l.length : Int) < (l.length : Int) + 2 := by omega
  have qb1 : (l.length : Int) + 1 < (l.length : Int) + 2 := by omega
  obtain ⟨k1, k2⟩ := no_kinds hk
  have HK1 : Hid (∀ q, (w.drewN q).cell? ⟨g, l.length * 6, none⟩ = some (.int .i64 91)) := fun _ => k1
  have HK2 : Hid (∀ q, (w.drewN q).cell? ⟨g, (l.length + 1) * 6, none⟩ = some (.int .i64 92)) := fun _ => k2
  clear h hk k1 k2
  go_enter Tryd.func9, Tryd.ntmps9
  go_wp2_with fail
  refine CS.mono ?_
  clear CS
  rintro e w1 ⟨rfl, q, rfl⟩
  have k1 := HK1.out q
  have k2 := HK2.out q
  have HQ : Hid (∃ q', w.drewN q = w.drewN q') := ⟨q, rfl⟩
  generalize w.drewN q = w1 at *
  go_wp2
  go_ret
  exact ⟨rfl, HQ.out⟩

end Go.Proofs.YtmagjhidgembnaaDoor

namespace Go.Proofs.YtmagjhidgembnaaDoor
open Go.RowKit Go.Shelf

/-- The flat list's nodes, as the law's loop writes them. -/
def flN (key : List UInt8) (D : Nat → List UInt8) (i : Nat) : Nd := ⟨1, (key ++ [113]) ++ D i, [], false, 0, 0⟩
def flL (key : List UInt8) (D : Nat → List UInt8) (n : Nat) : List Nd := (List.range n).map (flN key D)
/-- The second node has the name. -/
def keyd2 (key : List UInt8) : List Nd → List Nd
  | a :: b :: r => a :: { b with key := key } :: r
  | l => l
/-- The flat list. -/
def flatF (key : List UInt8) (D : Nat → List UInt8) (n : Nat) : List Nd := keyd2 key ((flL key D n).set 0 ⟨7, [], [], false, 0, (n : Int) - 1⟩)
theorem of_below {w w' : World} (h : Below w.heap.size w w') (row : Option Nat) : w.grownBy w' row := ⟨h.os, h.tape, h.output, h.size, fun k hk _ => h.block k hk⟩

end Go.Proofs.YtmagjhidgembnaaDoor

namespace Go.Proofs.YtmagjhidgembnaaDoor
open Go.RowKit Go.Shelf

end Go.Proofs.YtmagjhidgembnaaDoor

namespace Go.Proofs.YtmagjhidgembnaaDoor
open Go.RowKit Go.Shelf

/-- What stands in the law's flattened. -/
structure FS (B : Nat) (w : World) (g c gw cw gf cf : Nat) (l X Y : List Nd) (wx : World) : Prop where
  gr : w.grownBy wx (some g)
  k : NO B wx (.slice (some ⟨g, 0, none⟩) (l.length + 2) c) (X ++ [m91, m92])
  was : NO w.heap.size wx (.slice (some ⟨gw, 0, none⟩) l.length cw) l
  fl : NO w.heap.size wx (.slice (some ⟨gf, 0, none⟩) l.length cf) Y
theorem FS.below {B : Nat} {w : World} {g c gw cw gf cf : Nat} {l X Y : List Nd} {wx wy : World} (h : FS B w g c gw cw gf cf l X Y wx) (hb : Below wx.heap.size wx wy) : FS B w g c gw cw gf cf l X Y wy :=
  ⟨h.gr.trans (of_below hb _), own_below h.k hb (Nat.le_refl _), own_below h.was hb (Nat.le_refl _), own_below h.fl hb (Nat.le_refl _)⟩
end Go.Proofs.YtmagjhidgembnaaDoor

namespace Go.Proofs.YtmagjhidgembnaaDoor
open Go.RowKit Go.Shelf

theorem nCs_set (P : List Nd) (n m : Nd) (R : List Nd) (j : Nat) (v : Value) (hj : j < 6) (hm : (nC n).set j v = nC m) : (nCs (P ++ n :: R)).set (P.length * 6 + j) v = nCs (P ++ m :: R) := by
  have e1 : ∀ x : Nd, nCs (P ++ x :: R) = nCs P ++ (nC x ++ nCs R) := fun x => by rw [nCs_append]; rfl
  rw [e1, e1, List.set_append_right _ _ (by rw [nCs_length]; omega), nCs_length, show P.length * 6 + j - P.length * 6 = j by omega, List.set_append_left _ _ (by rw [nC_length]; exact hj), hm]
/-- One cell of a node is written over. -/
theorem no_cell {B : Nat} {w : World} {g n cap : Nat} {Y : List Nd} (h : NO B w (.slice (some ⟨g, 0, none⟩) n cap) Y) (hn : Y.length = n) (k j : Nat) (v : Value) (y : Nd) (hk : k < n) (hj : j < 6) (hy : (nC (Y.getD k (nd0 0))).set j v = nC y) :
    NO B (w.setCell ⟨g, k * 6 + j, none⟩ v) (.slice (some ⟨g, 0, none⟩) n cap) (Y.set k y) ∧ w.grownBy (w.setCell ⟨g, k * 6 + j, none⟩ v) (some g) := by
  have hN2 := h
  unfold NO at hN2
  rw [hn] at hN2
  have hYk : Y = Y.take k ++ (Y.getD k (nd0 0) :: Y.drop (k + 1)) := by rw [← dropN (by omega), List.take_append_drop]
  have hs := World.ownsRow.stored hN2 (k * 6 + j) v
  have hsn := nCs_set (Y.take k) (Y.getD k (nd0 0)) y (Y.drop (k + 1)) j v hj hy
  rw [List.length_take_of_le (by omega), ← hYk] at hsn
  rw [hsn] at hs
  refine ⟨?_, hs.2⟩
  unfold NO
  rw [List.length_set, hn, List.set_eq_take_append_cons_drop, if_pos (by omega)]
  exact hs.1
theorem no_at {B : Nat} {w : World} {g n cap : Nat} {Y : List Nd} (h : NO B w (.slice (some ⟨g, 0, none⟩) n cap) Y) (hn : Y.length = n) (k j : Nat) (v : Value) (hk : k < n) (hj : (nC (Y.getD k (nd0 0)))[j]? = some v) : w.cell? ⟨g, k * 6 + j, none⟩ = some v ∧ w.frozen? ⟨g, k * 6 + j, none⟩ = false := by
  have hN2 := h
  unfold NO at hN2
  rw [hn] at hN2
  have hj6 : j < 6 := (List.getElem?_eq_some_iff.1 hj).1
  have hYk : Y = Y.take k ++ (Y.getD k (nd0 0) :: Y.drop (k + 1)) := by rw [← dropN (by omega), List.take_append_drop]
  refine own_cell hN2 (k * 6 + j) v ?_
  have e1 : nCs Y = nCs (Y.take k) ++ (nC (Y.getD k (nd0 0)) ++ nCs (Y.drop (k + 1))) := by
    conv => lhs; rw [hYk]
    rw [nCs_append]
    rfl
  rw [e1, List.getElem?_append_right (by rw [nCs_length, List.length_take_of_le (by omega)]; omega), nCs_length, List.length_take_of_le (by omega), show k * 6 + j - k * 6 = j by omega, List.getElem?_append_left (by rw [nC_length]; exact hj6)]
  exact hj

/-- What stands while the list is written over. -/
structure GS (w : World) (g c n : Nat) (v1 v2 : Value) (L : List Nat) (N : Nat) (wx : World) : Prop where
  bel : Below w.heap.size w wx
  ib : wx.ownsRow w.heap.size 3 1 v1 L.length (L.map iV)
  il : wx.ownsRow w.heap.size 3 1 v2 L.length (L.map iV)
  k : ∃ X : List Nd, (X.length = n ∧ ∀ x ∈ X, x.text.length ≤ N ∧ x.key.length ≤ N) ∧ NO w.heap.size wx (.slice (some ⟨g, 0, none⟩) (n + 2) c) (X ++ [m91, m92])
theorem GS.below {w : World} {g c n : Nat} {v1 v2 : Value} {L : List Nat} {N : Nat} {wx wy : World} (h : GS w g c n v1 v2 L N wx) (hb : Below wx.heap.size wx wy) : GS w g c n v1 v2 L N wy :=
  ⟨h.bel.trans (hb.mono h.bel.size), own_below h.ib hb (Nat.le_refl _), own_below h.il hb (Nat.le_refl _), h.k.elim fun X hX => ⟨X, hX.1, own_below hX.2 hb (Nat.le_refl _)⟩⟩
theorem GS.mono {w : World} {g c n : Nat} {v1 v2 : Value} {L : List Nat} {N M : Nat} {wx : World} (h : GS w g c n v1 v2 L N wx) (hM : N ≤ M) : GS w g c n v1 v2 L M wx :=
  ⟨h.bel, h.ib, h.il, h.k.elim fun X hX => ⟨X, ⟨hX.1.1, fun x hx => by have := hX.1.2 x hx; omega⟩, hX.2⟩⟩
/-- The node at i, and how one of its cells is written over. -/
theorem GS.node {w : World} {g c n : Nat} {v1 v2 : Value} {L : List Nat} {N : Nat} {wx : World} (h : GS w g c n v1 v2 L N wx) (hg : w.heap.size ≤ g) {i : Nat} (hi : i < n) : ∃ x : Nd, (x.text.length ≤ N ∧ x.key.length ≤ N) ∧
    (∀ j v, (nC x)[j]? = some v → wx.cell? ⟨g, i * 6 + j, none⟩ = some v ∧ wx.frozen? ⟨g, i * 6 + j, none⟩ = false) ∧
    ∀ j v (y : Nd) (M : Nat), j < 6 → (nC x).set j v = nC y → N ≤ M → y.text.length ≤ M → y.key.length ≤ M → GS w g c n v1 v2 L M (wx.setCell ⟨g, i * 6 + j, none⟩ v) := by
  obtain ⟨X, ⟨hX, hXl⟩, hO⟩ := h.k
  have hlen : (X ++ [m91, m92]).length = n + 2 := by simp [hX]
  have hg2 : (X ++ [m91, m92]).getD i (nd0 0) = X.getD i (nd0 0) := by
    rw [List.getD_eq_getElem?_getD, List.getD_eq_getElem?_getD, List.getElem?_append_left (by omega)]
  have hm : X.getD i (nd0 0) ∈ X := by rw [List.getD_eq_getElem?_getD, List.getElem?_eq_getElem (by omega)]; exact List.getElem_mem _
  refine ⟨X.getD i (nd0 0), hXl _ hm, fun j v hj => no_at hO hlen i j v (by omega) (by rw [hg2]; exact hj), fun j v y M hj hy hM h1 h2 => ?_⟩
  have hs := no_cell hO hlen i j v y (by omega) hj (by rw [hg2]; exact hy)
  rw [List.set_append_left _ _ (by omega)] at hs
  refine ⟨h.bel.setCell hg _, own_keep h.ib fun b hb => hs.2.block b (h.ib.lt b hb).2 (fun e => kinds_apart h.ib hO (by decide) hb e.symm), own_keep h.il fun b hb => hs.2.block b (h.il.lt b hb).2 (fun e => kinds_apart h.il hO (by decide) hb e.symm), X.set i y, ⟨by rw [List.length_set]; exact hX, fun x hx => ?_⟩, hs.1⟩
  rcases List.mem_or_eq_of_mem_set hx with hx | rfl
  · have := hXl x hx
    omega
  · exact ⟨h1, h2⟩

/-- What stands behind the list's second form. -/
structure HX (w : World) (g c n : Nat) (v1 v2 : Value) (L : List Nat) (X : List Nd) (gt ct : Nat) (wx : World) : Prop where
  bel : Below w.heap.size w wx
  ib : wx.ownsRow w.heap.size 3 1 v1 L.length (L.map iV)
  il : wx.ownsRow w.heap.size 3 1 v2 L.length (L.map iV)
  k : NO w.heap.size wx (.slice (some ⟨g, 0, none⟩) (n + 2) c) (X ++ [m91, m92])
  t : NO w.heap.size wx (.slice (some ⟨gt, 0, none⟩) n ct) X
theorem HX.below {w : World} {g c n : Nat} {v1 v2 : Value} {L : List Nat} {X : List Nd} {gt ct : Nat} {wx wy : World} (h : HX w g c n v1 v2 L X gt ct wx) (hb : Below wx.heap.size wx wy) : HX w g c n v1 v2 L X gt ct wy :=
  ⟨h.bel.trans (hb.mono h.bel.size), own_below h.ib hb (Nat.le_refl _), own_below h.il hb (Nat.le_refl _), own_below h.k hb (Nat.le_refl _), own_below h.t hb (Nat.le_refl _)⟩

end Go.Proofs.YtmagjhidgembnaaDoor
