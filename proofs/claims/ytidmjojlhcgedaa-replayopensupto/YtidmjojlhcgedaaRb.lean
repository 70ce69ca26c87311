import Derived.Test.YtidmjojlhcgedaaBase
import Derived.Test.YtidmjojlhcgedaaRa
import Derived.Maps.RangeWalk
import Derived.Maps.OwnOps
import Derived.StringKeys
import Derived.WalkMore
namespace Go.Proofs.Ytidmjojlhcgedaa
open Go.RowKit Go.Maps
set_option maxRecDepth 100000

/-- Since ws only blocks that f names, and new ones, have changed. -/
structure Chf (f : Nat → Prop) (ws wr : World) : Prop where
  os : wr.os = ws.os
  tape : wr.tape = ws.tape
  output : wr.output = ws.output
  size : ws.heap.size ≤ wr.heap.size
  block : ∀ k, k < ws.heap.size → ¬ f k → wr.heap[k]? = ws.heap[k]?
theorem Chf.refl (f : Nat → Prop) (w : World) : Chf f w w := ⟨rfl, rfl, rfl, Nat.le_refl _, fun _ _ _ => rfl⟩
theorem Chf.grown {f : Nat → Prop} {ws wr w' : World} {r : Option Nat} (h : Chf f ws wr) (hg : wr.grownBy w' r) (hr : ∀ g, r = some g → f g ∨ ws.heap.size ≤ g) : Chf f ws w' :=
  ⟨hg.os.trans h.os, hg.tape.trans h.tape, hg.output.trans h.output, Nat.le_trans h.size hg.size, fun k hk hc => (hg.block k (Nat.lt_of_lt_of_le hk h.size) (fun e => by rcases hr k e.symm with h1 | h1; exact hc h1; omega)).trans (h.block k hk hc)⟩
theorem Chf.alloc {f : Nat → Prop} {ws wr : World} (h : Chf f ws wr) (o : Obj) : Chf f ws (wr.alloc o) := by
  have b := alloc_below wr o
  exact ⟨b.os.trans h.os, b.tape.trans h.tape, b.output.trans h.output, Nat.le_trans h.size b.size, fun k hk hc => (b.block k (Nat.lt_of_lt_of_le hk h.size)).trans (h.block k hk hc)⟩
theorem Chf.drewN {f : Nat → Prop} {ws wr : World} (h : Chf f ws wr) (q : Nat) : Chf f ws (wr.drewN q) := ⟨h.os, h.tape, h.output, h.size, h.block⟩
theorem Chf.set {f : Nat → Prop} {ws wr : World} (h : Chf f ws wr) {g j : Nat} (hf : f g ∨ ws.heap.size ≤ g) (v : Value) : Chf f ws (wr.setCell ⟨g, j, none⟩ v) :=
  ⟨h.os, h.tape, h.output, by simpa using h.size, fun k hk hc => by
    have hne : k ≠ g := fun e => by subst e; rcases hf with h1 | h1; exact hc h1; omega
    rw [heap_setCell_other wr ⟨g, j, none⟩ k v hne]; exact h.block k hk hc⟩
theorem Chf.below {f : Nat → Prop} {B : Nat} {ws wr : World} (h : Chf f ws wr) (hB : B ≤ ws.heap.size) (hf : ∀ k, f k → B ≤ k) : Below B ws wr :=
  ⟨h.os, h.tape, h.output, h.size, fun k hk => h.block k (by omega) (fun x => by have := hf k x; omega)⟩
theorem Chf.of_below {f : Nat → Prop} {ws wr : World} (h : Below ws.heap.size ws wr) : Chf f ws wr := ⟨h.os, h.tape, h.output, h.size, fun k hk _ => h.block k hk⟩
theorem Chf.trans {f : Nat → Prop} {a b c : World} (h1 : Chf f a b) (h2 : Chf f b c) : Chf f a c :=
  ⟨h2.os.trans h1.os, h2.tape.trans h1.tape, h2.output.trans h1.output, Nat.le_trans h1.size h2.size, fun k hk hc => (h2.block k (Nat.lt_of_lt_of_le hk h1.size) hc).trans (h1.block k hk hc)⟩
theorem Chf.weak {f g : Nat → Prop} {a b : World} (h : Chf f a b) (hw : ∀ k, f k → g k) : Chf g a b := ⟨h.os, h.tape, h.output, h.size, fun k hk hc => h.block k hk (fun x => hc (hw k x))⟩
theorem Chf.grow {f : Nat → Prop} {a b : World} (h : Chf f a b) {g : Nat} (hf : ∀ k, f k → k = g) : a.grownBy b (some g) := ⟨h.os, h.tape, h.output, h.size, fun k hk hne => h.block k hk (fun x => hne (by rw [hf k x]))⟩
theorem Bl.chf {e : TypeId} {f : Nat → Prop} {ws wr : World} {g : Nat} {cs : List Value} (h : Bl e ws g cs) (hc : Chf f ws wr) (hf : ¬ f g) : Bl e wr g cs := by
  have hl := h.lt
  unfold Bl at h ⊢
  rw [hc.block g hl hf]
  exact h
theorem own_chf {f : Nat → Prop} {w w' : World} {b0 n s : Nat} {e : TypeId} {v : Value} {xs : List Value} (h : w.ownsRow b0 e s v n xs) (hc : Chf f w w') (hf : ∀ g, v.ownBlock = some g → ¬ f g) : w'.ownsRow b0 e s v n xs := by
  refine ⟨h.1, ?_⟩
  rcases h.2 with h1 | ⟨g, cap, cur, e, hg, hh, hr⟩
  · exact .inl h1
  · refine .inr ⟨g, cap, cur, e, hg, ?_, hr⟩
    rw [hc.block g (Array.getElem?_eq_some_iff.1 hh).1 (hf g (by rw [e]; rfl))]
    exact hh
theorem map_chf {f : Nat → Prop} {w w' : World} {P : Program} {k : TypeId} {R : Value → Option (DataW Unit × List MemPlace)} {b n : Nat} {D : DataW Unit} (h : w.ownsMap P k R b n D) (hc : Chf f w w') (hf : ¬ f b) : w'.ownsMap P k R b n D := by
  have hlt := h.lt
  obtain ⟨es, clock, hb, F, hs, hD⟩ := h
  exact ⟨es, clock, (hc.block b hlt hf).trans hb, F, hs, hD⟩
/-- The bound of a map's entries, made as small as may be. -/
theorem map_tight {w : World} {P : Program} {k : TypeId} {R : Value → Option (DataW Unit × List MemPlace)} {b n : Nat} {D : DataW Unit} (h : w.ownsMap P k R b n D) : w.ownsMap P k R b (Maps.size D) D := by
  obtain ⟨es, clock, hb, F, hs, hD⟩ := h
  refine ⟨es, clock, hb, F, ?_, hD⟩
  subst hD
  simp [Maps.size, length_sorted]

/-- A book: has it a clock, the clock, the names by rising order, each with its end. -/
structure Bk where
  has : Bool
  clk : Int
  L : List En

def I64 (x : Int) : Prop := -9223372036854775808 ≤ x ∧ x ≤ 9223372036854775807

/-- What every book is. -/
structure BkOk (b : Bk) : Prop where
  srt : Srt b.L
  nm : ∀ p ∈ b.L, p.1.length ≤ 1024
  ends : ∀ p ∈ b.L, b.clk ≤ p.2 ∧ p.2 ≤ 9223372036854775807
  len : b.L.length ≤ 4096
  clk : I64 b.clk
  none : b.has = false → b.L = [] ∧ b.clk = 0

/-- The book in memory: its block, its map's block. -/
structure Bok (w : World) (bb mb : Nat) (b : Bk) : Prop where
  cells : Bl 63 w bb [.map (some mb), .int .i64 b.clk, .bool b.has]
  own : w.ownsMap Try.prog 9 (plainElem Try.prog 2) mb b.L.length (bkD b.L)
  ne : bb ≠ mb

theorem Bok.lt {w : World} {bb mb : Nat} {b : Bk} (h : Bok w bb mb b) : bb < w.heap.size := h.cells.lt
theorem Bok.lt2 {w : World} {bb mb : Nat} {b : Bk} (h : Bok w bb mb b) : mb < w.heap.size := h.own.lt
theorem Bok.chf {f : Nat → Prop} {w w' : World} {bb mb : Nat} {b : Bk} (h : Bok w bb mb b) (hc : Chf f w w') (h1 : ¬ f bb) (h2 : ¬ f mb) : Bok w' bb mb b :=
  ⟨h.cells.chf hc h1, map_chf h.own hc h2, h.ne⟩
theorem Bok.below {B : Nat} {w w' : World} {bb mb : Nat} {b : Bk} (h : Bok w bb mb b) (hb : Below B w w') (h1 : bb < B) (h2 : mb < B) : Bok w' bb mb b :=
  h.chf (f := fun k => B ≤ k) ⟨hb.os, hb.tape, hb.output, hb.size, fun k _ hk => hb.block k (by omega)⟩ (by omega) (by omega)

theorem lawK : Keyed Try.prog 9 := string_keyed Try.underlying9
theorem zeroI (w : World) : (zeroValue 2).run Try.prog w = .ok (.int .i64 0) w := by kernel_rfl
theorem keyS {k : List UInt8} (h : k.length ≤ 9223372036854775807) : keyOf Try.prog 9 (.string ⟨k.toArray⟩) = some (.string k) :=
  Go.WideMaps.keyOf_string_mk Try.underlying9 (s := ⟨k.toArray⟩) (by unfold maxLen; show k.toArray.size ≤ _; simpa using h)

set_option maxHeartbeats 1000000 in
theorem has_any (k : List UInt8) (bb mb : Nat) (b : Bk) (w : World) (h : Bok w bb mb b) (hk : k.length ≤ 9223372036854775807) :
    Calls Try.prog 17 #[.pointer (some ⟨bb, 0, none⟩), .string ⟨k.toArray⟩] w fun e w' => e = .returned (.bool (hasF k b.L)) ∧ w' = w := by
  have c0 := h.cells.cell 0 (by simp)
  simp only [List.getElem_cons_zero] at c0
  have hown := h.own
  have hkey := keyS hk
  have HH : Hid (Maps.has (bkD b.L) (.string k) = hasF k b.L) := any_map_key k b.L
  clear h hk
  go_enter Try.func17, Try.ntmps17
  go_wp2_with (at_lookup; refine wpList_lookup_own_ok_int _ rfl _ _ 61 rfl 9 2 .i64 lawK Try.underlying61 Try.underlying2 (zeroI _) mb b.L.length (bkD b.L) rfl hown _ _ rfl hkey ?_; intro c hat hwc)
  go_ret
  rw [HH.out]
  exact ⟨rfl, rfl⟩

theorem len_any (bb mb : Nat) (b : Bk) (w : World) (h : Bok w bb mb b) :
    Calls Try.prog 18 #[.pointer (some ⟨bb, 0, none⟩)] w fun e w' => e = .returned (.int .i64 b.L.length) ∧ w' = w := by
  have c0 := h.cells.cell 0 (by simp)
  simp only [List.getElem_cons_zero] at c0
  have hown := h.own
  have HH : Hid (Maps.size (bkD b.L) = b.L.length) := size_bkD b.L
  clear h
  go_enter Try.func18, Try.ntmps18
  go_wp2_with (at_len; refine wpList_len_own _ rfl _ 61 rfl 9 2 Try.underlying61 _ mb _ (bkD b.L) rfl hown ?_)
  go_ret
  rw [HH.out]
  exact ⟨rfl, rfl⟩

theorem last_any (bb mb : Nat) (b : Bk) (w : World) (h : Bok w bb mb b) :
    Calls Try.prog 19 #[.pointer (some ⟨bb, 0, none⟩)] w fun e w' => e = .returned (.tuple #[.int .i64 b.clk, .bool b.has]) ∧ ∃ q, w' = w.drewN q := by
  have c1 := h.cells.cell 1 (by simp)
  have c2 := h.cells.cell 2 (by simp)
  simp only [List.getElem_cons_zero, List.getElem_cons_succ] at c1 c2
  clear h
  go_enter Try.func19, Try.ntmps19
  go_wp2
  go_quiet (fail)
  go_wp2
  go_ret2
  exact ⟨rfl, _, rfl⟩

theorem new_any (w : World) :
    Calls Try.prog 11 #[] w fun e w' => ∃ bb mb, e = .returned (.pointer (some ⟨bb, 0, none⟩)) ∧ Bok w' bb mb ⟨false, 0, []⟩ ∧ Below w.heap.size w w' ∧ w.heap.size ≤ bb ∧ w.heap.size ≤ mb := by
  have hmm := @run_makeMap Try.prog
  go_enter Try.func11, Try.ntmps11
  go_wp2
  go_ret
  have e0 : (w.alloc (.map #[] 0)).heap.size = w.heap.size + 1 := alloc_size _ _
  have b1 := alloc_bl (w.alloc (.map #[] 0)) [.map (some w.heap.size), .int .i64 0, .bool false] 63
  rw [e0] at b1
  refine ⟨w.heap.size + 1, w.heap.size, rfl, ⟨b1, ?_, by omega⟩, ?_, by omega, Nat.le_refl _⟩
  · exact ((World.ownsMap_made w Try.prog 9 (plainElem Try.prog 2)).alloc _).mono (Nat.zero_le _)
  · exact ((Below.refl _ w).alloc (Nat.le_refl _) _).alloc (by rw [e0]; omega) _

end Go.Proofs.Ytidmjojlhcgedaa
