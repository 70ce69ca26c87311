import Derived.Test.YtcdcfgkgighmhaaGreatDoorBase
import Derived.Test.YtcdcfgkgighmhaaGreatDoorOrk
import Derived.Test.YtcdcfgkgighmhaaGreatDoorLk
import Derived.Deep.MidRow
import Derived.Deep.DeepAppendWide
namespace Go.Proofs.YtcdcfgkgighmhaaGreatDoor
open Go.RowKit
set_option maxRecDepth 100000

/-- Since ws only blocks that f names, and new ones, have changed. -/
structure Chf (f : Nat → Prop) (ws wr : World) : Prop where
  os : wr.os = ws.os
  tape : wr.tape = ws.tape
  output : wr.output = ws.output
  size : ws.heap.size ≤ wr.heap.size
  block : ∀ k, k < ws.heap.size → ¬ f k → wr.heap[k]? = ws.heap[k]?
theorem Chf.refl (f : Nat → Prop) (w : World) : Chf f w w := ⟨rfl, rfl, rfl, Nat.le_refl _, fun _ _ _ => rfl⟩
theorem Chf.grown {f : Nat → Prop} {ws wr w' : World} {r : Option Nat} (h : Chf f ws wr) (hg : wr.grownBy w' r) (hr : ∀ g, r = some g → f g ∨ ws.heap.size ≤ g) : Chf f ws w' :=
  ⟨hg.os.trans h.os, hg.tape.trans h.tape, hg.output.trans h.output, Nat.le_trans h.size hg.size, fun k hk hc => (hg.block k (Nat.lt_of_lt_of_le hk h.size) (fun e => by rcases hr k e.symm with h1 | h1; exact hc h1; omega)).trans (h.block k hk hc)⟩
theorem Chf.alloc {f : Nat → Prop} {ws wr : World} (h : Chf f ws wr) (o : Obj) : Chf f ws (wr.alloc o) := by
  have b := alloc_below wr o
  exact ⟨b.os.trans h.os, b.tape.trans h.tape, b.output.trans h.output, Nat.le_trans h.size b.size, fun k hk hc => (b.block k (Nat.lt_of_lt_of_le hk h.size)).trans (h.block k hk hc)⟩
theorem Chf.set {f : Nat → Prop} {ws wr : World} (h : Chf f ws wr) {g j : Nat} (hf : f g ∨ ws.heap.size ≤ g) (v : Value) : Chf f ws (wr.setCell ⟨g, j, none⟩ v) :=
  ⟨h.os, h.tape, h.output, by simpa using h.size, fun k hk hc => by
    have hne : k ≠ g := fun e => by subst e; rcases hf with h1 | h1; exact hc h1; omega
    rw [heap_setCell_other wr ⟨g, j, none⟩ k v hne]; exact h.block k hk hc⟩
theorem Chf.below {f : Nat → Prop} {B : Nat} {ws wr : World} (h : Chf f ws wr) (hB : B ≤ ws.heap.size) (hf : ∀ k, f k → B ≤ k) : Below B ws wr :=
  ⟨h.os, h.tape, h.output, h.size, fun k hk => h.block k (by omega) (fun x => by have := hf k x; omega)⟩
theorem Chf.of_below {f : Nat → Prop} {ws wr : World} (h : Below ws.heap.size ws wr) : Chf f ws wr := ⟨h.os, h.tape, h.output, h.size, fun k hk _ => h.block k hk⟩
theorem Chf.trans {f : Nat → Prop} {a b c : World} (h1 : Chf f a b) (h2 : Chf f b c) : Chf f a c :=
  ⟨h2.os.trans h1.os, h2.tape.trans h1.tape, h2.output.trans h1.output, Nat.le_trans h1.size h2.size, fun k hk hc => (h2.block k (Nat.lt_of_lt_of_le hk h1.size) hc).trans (h1.block k hk hc)⟩
theorem Bl.chf {e : TypeId} {f : Nat → Prop} {ws wr : World} {g : Nat} {cs : List Value} (h : Bl e ws g cs) (hc : Chf f ws wr) (hf : ¬ f g) : Bl e wr g cs := by
  have hl := h.lt
  unfold Bl at h ⊢
  rw [hc.block g hl hf]
  exact h
theorem own_chf {f : Nat → Prop} {w w' : World} {b0 n s : Nat} {e : TypeId} {v : Value} {xs : List Value} (h : w.ownsRow b0 e s v n xs) (hc : Chf f w w') (hf : ∀ g, v.ownBlock = some g → ¬ f g) : w'.ownsRow b0 e s v n xs := by
  refine ⟨h.1, ?_⟩
  rcases h.2 with h1 | ⟨g, cap, cur, e, hg, hh, hr⟩
  · exact .inl h1
  · refine .inr ⟨g, cap, cur, e, hg, ?_, hr⟩
    rw [hc.block g (Array.getElem?_eq_some_iff.1 hh).1 (hf g (by rw [e]; rfl))]
    exact hh

/-- A key set of a ring. -/
structure Ks where
  t : List UInt8
  ver : Int
  til : Int
  endless : Bool
def ks0 : Ks := ⟨[], 0, 0, false⟩
def sC (s : Ks) : List Value := [.string ⟨s.t.toArray⟩, .int .i64 s.ver, .int .i64 s.til, .bool s.endless]
def sCs (L : List Ks) : List Value := L.flatMap sC
def liveK (now : Int) (s : Ks) : Bool := s.endless || decide (now < s.til)
theorem sCs_length (L : List Ks) : (sCs L).length = L.length * 4 := by
  induction L with
  | nil => rfl
  | cons p r ih => simp only [sCs, List.flatMap_cons, List.length_append, List.length_cons] at ih ⊢; rw [ih]; simp [sC]; omega
theorem sCs_get : ∀ (L : List Ks) (i j : Nat), i < L.length → j < 4 → (sCs L)[i * 4 + j]? = (sC (L.getD i ks0))[j]?
  | [], i, j, h, _ => by simp at h
  | p :: r, 0, j, _, hj => by
    have : (sC p).length = 4 := rfl
    rw [show sCs (p :: r) = sC p ++ sCs r from rfl, Nat.zero_mul, Nat.zero_add, List.getElem?_append_left (by omega)]
    rfl
  | p :: r, i + 1, j, h, hj => by
    have ih := sCs_get r i j (by simpa using h) hj
    have h4 : (sC p).length = 4 := rfl
    rw [show sCs (p :: r) = sC p ++ sCs r from rfl, List.getElem?_append_right (by omega), h4, show (i + 1) * 4 + j - 4 = i * 4 + j by omega, List.getD_cons_succ]
    exact ih
theorem infoK : (Tryz.prog.info? 49).map (fun i => (i.zero, i.size, i.bytes)) = some (some (.agg #[.string .empty, .int .i64 0, .int .i64 0, .bool false]), 4, 40) := by kernel_rfl
/-- A list of key sets of one's own. -/
def Os (w : World) (base : Nat) (v : Value) (L : List Ks) : Prop := w.ownsRow base 49 4 v L.length (sCs L)
theorem Os.nil (w : World) (base : Nat) : Os w base (.slice none 0 0) [] := ⟨rfl, .inl ⟨rfl, rfl⟩⟩
theorem Os.below {w w' : World} {base n : Nat} {v : Value} {L : List Ks} (h : Os w base v L) (hb : Below n w w') (hn : w.heap.size ≤ n) : Os w' base v L :=
  own_chf (f := fun _ => False) h ⟨hb.os, hb.tape, hb.output, hb.size, fun k hk _ => hb.block k (by omega)⟩ (fun _ _ h => h)
theorem Os.drewN {w : World} {base : Nat} {v : Value} {L : List Ks} (h : Os w base v L) (q : Nat) : Os (w.drewN q) base v L := h
theorem Os.rd {w : World} {base : Nat} {v : Value} {L : List Ks} (h : Os w base v L) : ∃ ao c, v = .slice ao L.length c ∧ (L = [] ∨ ∃ g, ao = some ⟨g, 0, none⟩ ∧ base ≤ g ∧ g < w.heap.size ∧ ∀ i j, i < L.length → (hj : j < 4) → w.cell? ⟨g, i * 4 + j, none⟩ = some ((sC (L.getD i ks0))[j]'hj)) := by
  rcases h.2 with ⟨rfl, h0⟩ | ⟨g, cap, cur, rfl, hg, hh, hn, hc, hsz, ht⟩
  · exact ⟨none, 0, by rw [h0], .inl (List.eq_nil_of_length_eq_zero h0)⟩
  · refine ⟨_, cap, rfl, .inr ⟨g, rfl, hg, (Array.getElem?_eq_some_iff.1 hh).1, fun i j hi hj => ?_⟩⟩
    have hl := sCs_length L
    rw [World.ownsRow.cellAt h (i * 4 + j) (by omega), sCs_get L i j hi hj]
    exact List.getElem?_eq_getElem (l := sC (L.getD i ks0)) (i := j) hj

theorem isLive_any (s : Ks) (now : Int) (w : World) :
    Calls Tryz.prog 16 #[.agg #[.string ⟨s.t.toArray⟩, .int .i64 s.ver, .int .i64 s.til, .bool s.endless], .int .i64 now] w fun e w' => e = .returned (.bool (liveK now s)) ∧ Below w.heap.size w w' := by
  obtain ⟨t, ver, til, en⟩ := s
  unfold liveK
  dsimp only
  cases en with
  | true =>
    go_enter Tryz.func16, Tryz.ntmps16
    go_wp2_with fail
    go_ret
    exact ⟨rfl, alloc_below _ _⟩
  | false =>
    go_enter Tryz.func16, Tryz.ntmps16
    go_wp2_with fail
    go_ret
    exact ⟨by go_num, alloc_below _ _⟩
def tilF (now grace : Int) : Int := if now > 9223372036854775807 - grace then 9223372036854775807 else now + grace
theorem endOf_any (now grace : Int) (w : World) (h0 : 0 ≤ grace) (h1 : grace ≤ 4294967296) (h2 : -9223372036854775808 ≤ now ∧ now ≤ 9223372036854775807) :
    Calls Tryz.prog 14 #[.int .i64 now, .int .i64 grace] w fun e w' => e = .returned (.int .i64 (tilF now grace)) ∧ w' = w := by
  have e1 : IntKind.i64.wrap (9223372036854775807 - grace) = 9223372036854775807 - grace := by simp [IntKind.wrap, IntKind.bits, IntKind.signed]; omega
  unfold tilF
  by_cases h : now > 9223372036854775807 - grace
  · have q : decide (9223372036854775807 - grace < now) = true := by simpa using h
    rw [if_pos h]
    clear h
    go_enter Tryz.func14, Tryz.ntmps14
    go_wp2_with fail
    go_ret
    exact ⟨rfl, rfl⟩
  · have q : decide (9223372036854775807 - grace < now) = false := by simpa using h
    have e2 : IntKind.i64.wrap (now + grace) = now + grace := by simp [IntKind.wrap, IntKind.bits, IntKind.signed]; omega
    rw [if_neg h]
    clear h
    go_enter Tryz.func14, Tryz.ntmps14
    go_wp2_with fail
    go_ret
    exact ⟨by go_num, rfl⟩

/-- A ring in memory: its sets, the newest first. -/
structure Rg (w : World) (B0 rb : Nat) (lk : Int) (v : Value) (L : List Ks) (last clk : Int) (has : Bool) : Prop where
  cells : Bl 40 w rb [.int .i32 lk, .int .u32 0, v, .int .i64 last, .int .i64 clk, .bool has]
  own : Os w B0 v L
  low : B0 ≤ rb
theorem isPast_any (rb : Nat) (lk : Int) (v : Value) (last clk : Int) (has : Bool) (now : Int) (w : World) (h : Bl 40 w rb [.int .i32 lk, .int .u32 0, v, .int .i64 last, .int .i64 clk, .bool has]) :
    Calls Tryz.prog 12 #[.pointer (some ⟨rb, 0, none⟩), .int .i64 now] w fun e w' => e = .returned (.bool (has && decide (now < clk))) ∧ w' = w := by
  have c4 := h.cell 4 (by simp)
  have c5 := h.cell 5 (by simp)
  simp only [List.getElem_cons_zero, List.getElem_cons_succ] at c4 c5
  clear h
  cases has with
  | true =>
    go_enter Tryz.func12, Tryz.ntmps12
    go_wp2_with fail
    go_ret
    exact ⟨by go_num, rfl⟩
  | false =>
    go_enter Tryz.func12, Tryz.ntmps12
    go_wp2_with fail
    go_ret
    exact ⟨rfl, rfl⟩
theorem ringNew_any (w : World) :
    Calls Tryz.prog 5 #[] w fun e w' => e = .returned (.pointer (some ⟨w.heap.size, 0, none⟩)) ∧ Rg w' w.heap.size w.heap.size 0 (.slice none 0 0) [] 0 0 false ∧ Below w.heap.size w w' := by
  go_enter Tryz.func5, Tryz.ntmps5
  go_wp2
  go_ret
  have b1 := alloc_bl w [.int .i32 0, .int .u32 0, .slice none 0 0, .int .i64 0, .int .i64 0, .bool false] 40
  exact ⟨rfl, ⟨b1, Os.nil _ _, Nat.le_refl _⟩, alloc_below _ _⟩

end Go.Proofs.YtcdcfgkgighmhaaGreatDoor
