import Derived.Test.YtccfcplhifbjlaaGreatDoorSg
import Derived.Test.YtccfcplhifbjlaaGreatDoorUf
namespace Go.Proofs.YtccfcplhifbjlaaGreatDoor
open Go.RowKit
set_option maxRecDepth 100000

/-- Only blocks from N0 up to N1, and new ones, have changed since. -/
structure Hi (N0 N1 : Nat) (w0 W : World) : Prop where
  os : W.os = w0.os
  tape : W.tape = w0.tape
  output : W.output = w0.output
  size : w0.heap.size ≤ W.heap.size
  block : ∀ k, k < w0.heap.size → (k < N0 ∨ N1 ≤ k) → W.heap[k]? = w0.heap[k]?
theorem Hi.refl (N0 N1 : Nat) (w : World) : Hi N0 N1 w w := ⟨rfl, rfl, rfl, Nat.le_refl _, fun _ _ _ => rfl⟩
theorem Hi.below {N0 N1 : Nat} {w0 W W' : World} (h : Hi N0 N1 w0 W) (hb : Below W.heap.size W W') : Hi N0 N1 w0 W' :=
  ⟨hb.os.trans h.os, hb.tape.trans h.tape, hb.output.trans h.output, Nat.le_trans h.size hb.size, fun k hk hk2 => (hb.block k (Nat.lt_of_lt_of_le hk h.size)).trans (h.block k hk hk2)⟩
theorem Hi.set {N0 N1 : Nat} {w0 W : World} (h : Hi N0 N1 w0 W) {g : Nat} (h0 : N0 ≤ g) (h1 : g < N1) (j : Nat) (v : Value) : Hi N0 N1 w0 (W.setCell ⟨g, j, none⟩ v) :=
  ⟨h.os, h.tape, h.output, by simpa using h.size, fun k hk hk2 => by rw [heap_setCell_other W ⟨g, j, none⟩ k v (fun e => by have e2 : k = g := e; omega)]; exact h.block k hk hk2⟩
theorem Hi.grown {N0 N1 : Nat} {w0 W W' : World} {r : Option Nat} (h : Hi N0 N1 w0 W) (hg : W.grownBy W' r) (hr : ∀ g, r = Option.some g → (N0 ≤ g ∧ g < N1) ∨ w0.heap.size ≤ g) : Hi N0 N1 w0 W' :=
  ⟨hg.os.trans h.os, hg.tape.trans h.tape, hg.output.trans h.output, Nat.le_trans h.size hg.size, fun k hk hk2 => (hg.block k (Nat.lt_of_lt_of_le hk h.size) (fun e => by have := hr k (by first | exact e | exact e.symm); omega)).trans (h.block k hk hk2)⟩
theorem Hi.owb {N0 N1 : Nat} {w0 W : World} (h : Hi N0 N1 w0 W) {v : Value} {l : List UInt8} (ho : Owb w0 N1 v l) : Owb W N1 v l :=
  own_keep ho fun g e => h.block g (ho.lt g e).2 (.inr (ho.lt g e).1)
theorem Hi.bl {N0 N1 : Nat} {w0 W : World} (h : Hi N0 N1 w0 W) {t : TypeId} {g : Nat} {vs : List Value} (hb : Bl t w0 g vs) (hg : N1 ≤ g) : Bl t W g vs := by
  have := hb.lt
  unfold Bl at *
  rw [h.block g this (.inr hg)]
  exact hb
theorem Hi.to {N0 N1 : Nat} {w w0 W : World} (h : Hi N0 N1 w0 W) (hb : Below N0 w w0) (hs : N0 ≤ w0.heap.size) : Below N0 w W :=
  ⟨h.os.trans hb.os, h.tape.trans hb.tape, h.output.trans hb.output, Nat.le_trans hb.size h.size, fun k hk => (h.block k (by omega) (.inl hk)).trans (hb.block k hk)⟩

/-- The second answer's rows and the copies of them. -/
structure KF (N1 : Nat) (W : World) (x y z u v w : Value) (L1 L2 L3 : List UInt8) : Prop where
  x : Owb W N1 x L1
  y : Owb W N1 y L2
  z : Owb W N1 z L3
  u : Owb W N1 u L1
  v : Owb W N1 v L2
  w : Owb W N1 w L3
theorem KF.hi {N0 N1 : Nat} {w0 W : World} {x y z u v w : Value} {L1 L2 L3 : List UInt8} (k : KF N1 w0 x y z u v w L1 L2 L3) (h : Hi N0 N1 w0 W) : KF N1 W x y z u v w L1 L2 L3 :=
  ⟨h.owb k.x, h.owb k.y, h.owb k.z, h.owb k.u, h.owb k.v, h.owb k.w⟩
theorem KF.below {N1 : Nat} {w0 W : World} {x y z u v w : Value} {L1 L2 L3 : List UInt8} (k : KF N1 w0 x y z u v w L1 L2 L3) (h : Below w0.heap.size w0 W) : KF N1 W x y z u v w L1 L2 L3 :=
  ⟨k.x.below h (Nat.le_refl _), k.y.below h (Nat.le_refl _), k.z.below h (Nat.le_refl _), k.u.below h (Nat.le_refl _), k.v.below h (Nat.le_refl _), k.w.below h (Nat.le_refl _)⟩

theorem Owb.setOther {w : World} {B0 g j : Nat} {v x : Value} {l : List UInt8} (h : Owb w B0 v l) (hne : v.ownBlock ≠ Option.some g) : Owb (w.setCell ⟨g, j, none⟩ x) B0 v l :=
  own_keep h fun g' e => heap_setCell_other w ⟨g, j, none⟩ g' x (fun e2 => hne (by rw [e]; exact congrArg Option.some e2))

/-- A list of rows of one's own. -/
def OL (W : World) (B0 : Nat) (v : Value) (l : List Value) : Prop := W.ownsRow B0 30 1 v l.length l
theorem infoBs : (Tryz.prog.info? 30).map (fun i => (i.zero, i.size, i.bytes)) = Option.some (Option.some (.slice none 0 0), 1, 24) := by kernel_rfl
theorem append_ol {wr : World} {ops : Array Oper} {rest : List Oper} {o : Oper} {a : Act} {Q : Exit → Act → World → Prop} (hgd : o.guard = none) (s x : Operand)
    (ho : o.op = .call { callee := .builtin .append, args := #[s, x], argTypes := #[53, 53] })
    (B0 : Nat) (v : Value) (l : List Value) (ya : Option Addr) (yn yc : Nat) (hs : a.eval s = v) (h : OL wr B0 v l) (hx : a.eval x = .slice (Option.some ⟨wr.heap.size, 0, none⟩) 1 1) (hl : l.length ≤ 1000) (hB : B0 ≤ wr.heap.size)
    (k : ∀ v' w', OL w' B0 v' (l ++ [.slice ya yn yc]) → (wr.alloc (.cells #[.slice ya yn yc] 30)).grownBy w' v.ownBlock → wpList Tryz.prog ops Q rest (a.put o.dst v') w') : wpList Tryz.prog ops Q (o :: rest) a (wr.alloc (.cells #[.slice ya yn yc] 30)) := by
  obtain ⟨i, hi, hz, hsize, hby⟩ := info_parts infoBs
  have hBl : Bl 30 (wr.alloc (.cells #[.slice ya yn yc] 30)) wr.heap.size [.slice ya yn yc] := alloc_bl _ _ _
  have h1 : OL (wr.alloc (.cells #[.slice ya yn yc] 30)) B0 v l := own_below h (alloc_below wr _) (Nat.le_refl _)
  refine wpList_append_own_wide _ hgd s x 53 ho B0 30 i (.slice none 0 0) 1 24 Tryz.underlying53 hi hz hsize hby rfl (by decide) v l.length l hs h1 ⟨wr.heap.size, 0, none⟩ 1 1 [.slice ya yn yc] hx rfl ?_ (by intro u hu; simp at hu; subst hu; rfl) (by unfold maxLen; omega) (by omega) (by rw [alloc_size]; omega) ?_
  · intro j u hu
    obtain ⟨hlt, e⟩ := List.getElem?_eq_some_iff.1 hu
    rw [Addr.add_mid, Nat.zero_add, ← e]
    exact hBl.cell j hlt
  · intro v' w' h2 h3 _
    refine k v' w' ?_ h3
    unfold OL
    rw [List.length_append]
    exact h2
theorem Owb.grownL {W W' : World} {B0 B1 : Nat} {v vl : Value} {l : List UInt8} {ls : List Value} (h : Owb W B0 v l) (hl : OL W B1 vl ls) (hg : W.grownBy W' vl.ownBlock) : Owb W' B0 v l :=
  h.grown hg fun g e => fun e2 => kinds_apart h hl (by decide) e e2

end Go.Proofs.YtccfcplhifbjlaaGreatDoor
