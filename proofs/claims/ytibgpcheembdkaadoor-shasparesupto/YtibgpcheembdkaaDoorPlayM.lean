import Derived.Test.YtibgpcheembdkaaDoorSumsM
import Derived.Test.YtibgpcheembdkaaDoorRSum
namespace Go.Proofs.YtibgpcheembdkaaDoor
open Go.RowKit

theorem infoPs : (Tryd.prog.info? 25).map (fun i => (i.zero, i.size, i.bytes)) = some (some (.pointer none), 1, 8) := by kernel_rfl

/-- One of the book's states: its block, its bytes, the text that is kept of it. -/
structure En where
  b : Nat
  m : List UInt8
  p : Prt
def pV (b : Nat) : Value := .pointer (some ⟨b, 0, none⟩)

/-- A text that is kept. -/
def Txt (w : World) (p : Prt) : Prop :=
  (p.l = [] ∨ ∃ g, p.a = some ⟨g, 0, none⟩ ∧ g < w.heap.size ∧ ∀ j, j < p.l.length → w.cell? ⟨g, j, none⟩ = some (B (p.l.getD j 0))) ∧ (p.a = none → p.l.length = 0 ∧ p.c = 0)
theorem Txt.rd {w : World} {p : Prt} (h : Txt w p) : Rd w p.a p.l := by
  rcases h.1 with h | ⟨g, e, hg, hc⟩
  · exact .inl h
  · exact .inr ⟨g, 0, e, hg, fun j hj => by rw [Nat.zero_add]; exact hc j hj⟩
theorem Txt.below {w w' : World} {p : Prt} {n : Nat} (h : Txt w p) (hb : Below n w w') (hn : w.heap.size ≤ n) : Txt w' p :=
  ⟨h.1.imp id fun ⟨g, e, hg, hc⟩ => ⟨g, e, Nat.lt_of_lt_of_le hg hb.size, fun j hj => cell_but (hc j hj) fun _ => hb.block g (by omega)⟩, h.2⟩
theorem Txt.but {w w' : World} {p : Prt} {x : Nat} (h : Txt w p) (hb : But w w' x) (hx : ∀ g, p.l ≠ [] → p.a = some ⟨g, 0, none⟩ → g ≠ x) : Txt w' p := by
  refine ⟨?_, h.2⟩
  rcases h.1 with h | ⟨g, e, hg, hc⟩
  · exact .inl h
  · by_cases hl : p.l = []
    · exact .inl hl
    · exact .inr ⟨g, e, Nat.lt_of_lt_of_le hg hb.size, fun j hj => cell_but (hc j hj) fun h1 => hb.block g h1 (hx g hl e)⟩
theorem Txt.of_own {w : World} {base n : Nat} {v : Value} {l : List UInt8} (h : w.ownsRow base 5 1 v n (l.map B)) : ∃ a c, v = .slice a n c ∧ n = l.length ∧ Txt w ⟨a, c, l⟩ := by
  obtain ⟨a, c, e, hl, _, _, hn, hr, _⟩ := own_rd h
  refine ⟨a, c, e, hl, ?_, fun e => by have := hn e; simp only at *; omega⟩
  have hll : l.length = n := hl.symm
  rcases h.2 with ⟨e2, h0⟩ | ⟨g, cap, cur, rfl, hg, hh, r⟩
  · exact .inl (List.eq_nil_of_length_eq_zero (by show l.length = 0; omega))
  · cases e
    refine .inr ⟨g, rfl, (Array.getElem?_eq_some_iff.1 hh).1, fun j hj => ?_⟩
    have hj2 : j < l.length := hj
    have h1 := h.cells (g := g) rfl j (B l[j]) (by simp [hj2])
    rw [Addr.add_mid, Nat.zero_add] at h1
    rw [h1, List.getD_eq_getElem?_getD, List.getElem?_eq_getElem hj2]
    rfl

/-- The book's states and texts. -/
structure Pc (w0 : Nat) (h : Int) (w : World) (es : List En) : Prop where
  nd : (es.map (·.b)).Nodup
  st : ∀ e ∈ es, w0 ≤ e.b ∧ Sta w e.b h e.m
  tx : ∀ e ∈ es, Txt w e.p
theorem Pc.below {w0 n : Nat} {h : Int} {w w' : World} {es : List En} (H : Pc w0 h w es) (hb : Below n w w') (hn : w.heap.size ≤ n) : Pc w0 h w' es :=
  ⟨H.nd, fun e he => ⟨(H.st e he).1, (H.st e he).2.below hb (by have := (H.st e he).2.lt; omega)⟩, fun e he => (H.tx e he).below hb hn⟩
theorem sta_cell {w : World} {b : Nat} {h : Int} {m : List UInt8} (H : Sta w b h m) : w.cell? ⟨b, 0, none⟩ = some (.int .i64 h) := stV_hash H
/-- A state's block holds no text. -/
theorem Pc.txne {w0 b g : Nat} {h : Int} {w : World} {es : List En} {m : List UInt8} (H : Pc w0 h w es) (e : En) (he : e ∈ es) (hs : Sta w b h m) (hl : e.p.l ≠ []) (ha : e.p.a = some ⟨g, 0, none⟩) : g ≠ b := by
  intro hgb
  subst hgb
  rcases (H.tx e he).1 with h0 | ⟨g2, e2, _, hc⟩
  · exact hl h0
  · rw [ha] at e2
    cases e2
    have h1 := hc 0 (List.length_pos_iff.2 hl)
    rw [sta_cell hs] at h1
    cases h1
theorem Pc.but {w0 x : Nat} {h : Int} {w w' : World} {es : List En} (H : Pc w0 h w es) (hb : But w w' x) (h1 : ∀ e ∈ es, e.b ≠ x) (h2 : ∀ e ∈ es, ∀ g, e.p.l ≠ [] → e.p.a = some ⟨g, 0, none⟩ → g ≠ x) : Pc w0 h w' es :=
  ⟨H.nd, fun e he => ⟨(H.st e he).1, hb.other (H.st e he).2 (h1 e he)⟩, fun e he => (H.tx e he).but hb (h2 e he)⟩
/-- A state of the book is written to. -/
theorem Pc.write {w0 i : Nat} {h : Int} {w w' : World} {es : List En} (H : Pc w0 h w es) (hi : i < es.length) (hb : But w w' es[i].b) (m' : List UInt8) (hs : Sta w' es[i].b h m') : Pc w0 h w' (es.set i ⟨es[i].b, m', es[i].p⟩) := by
  have hfst : (es.set i ⟨es[i].b, m', es[i].p⟩).map (·.b) = es.map (·.b) := by
    rw [List.map_set]
    have e : (es.map (·.b)).set i ((es.map (·.b))[i]'(by simpa using hi)) = es.map (·.b) := List.set_getElem_self _
    rw [List.getElem_map] at e
    exact e
  have hmem : ∀ e ∈ es.set i ⟨es[i].b, m', es[i].p⟩, e = ⟨es[i].b, m', es[i].p⟩ ∨ ∃ j, ∃ hj : j < es.length, j ≠ i ∧ e = es[j] := fun e he => by
    obtain ⟨j, hj, e1⟩ := List.getElem_of_mem he
    have hj2 : j < es.length := by simpa using hj
    by_cases hij : i = j
    · subst hij; rw [List.getElem_set_self] at e1; exact .inl e1.symm
    · rw [List.getElem_set_ne hij] at e1; exact .inr ⟨j, hj2, fun e => hij e.symm, e1.symm⟩
  refine ⟨by rw [hfst]; exact H.nd, fun e he => ?_, fun e he => ?_⟩
  · rcases hmem e he with rfl | ⟨j, hj, hji, rfl⟩
    · exact ⟨(H.st es[i] (List.getElem_mem hi)).1, hs⟩
    · have h1 := H.st es[j] (List.getElem_mem hj)
      refine ⟨h1.1, hb.other h1.2 fun e => hji ?_⟩
      exact (List.getElem_inj (h₀ := by simpa using hj) (h₁ := by simpa using hi) H.nd (i := j) (j := i)).1 (by simpa using e)
  · have hso := (H.st es[i] (List.getElem_mem hi)).2
    rcases hmem e he with rfl | ⟨j, hj, hji, rfl⟩
    · exact (H.tx es[i] (List.getElem_mem hi)).but hb (fun g hl ha => H.txne es[i] (List.getElem_mem hi) hso hl ha)
    · exact (H.tx es[j] (List.getElem_mem hj)).but hb (fun g hl ha => H.txne es[j] (List.getElem_mem hj) hso hl ha)
/-- A text of the book is another one. -/
theorem Pc.text {w0 i : Nat} {h : Int} {w : World} {es : List En} (H : Pc w0 h w es) (hi : i < es.length) (p' : Prt) (ht : Txt w p') : Pc w0 h w (es.set i ⟨es[i].b, es[i].m, p'⟩) := by
  have hfst : (es.set i ⟨es[i].b, es[i].m, p'⟩).map (·.b) = es.map (·.b) := by
    rw [List.map_set]
    have e : (es.map (·.b)).set i ((es.map (·.b))[i]'(by simpa using hi)) = es.map (·.b) := List.set_getElem_self _
    rw [List.getElem_map] at e
    exact e
  refine ⟨by rw [hfst]; exact H.nd, fun e he => ?_, fun e he => ?_⟩
  · rcases List.mem_or_eq_of_mem_set he with h1 | rfl
    · exact H.st e h1
    · exact H.st es[i] (List.getElem_mem hi)
  · rcases List.mem_or_eq_of_mem_set he with h1 | rfl
    · exact H.tx e h1
    · exact ht
/-- A state more. -/
theorem Pc.push {w0 : Nat} {h : Int} {w : World} {es : List En} (H : Pc w0 h w es) (e : En) (hn : ∀ f ∈ es, f.b ≠ e.b) (h0 : w0 ≤ e.b) (hs : Sta w e.b h e.m) (ht : Txt w e.p) : Pc w0 h w (es ++ [e]) := by
  refine ⟨?_, fun f hf => ?_, fun f hf => ?_⟩
  · rw [List.map_append, List.nodup_append]
    refine ⟨H.nd, by simp, fun a ha b hb e2 => ?_⟩
    obtain ⟨f, hf, rfl⟩ := List.mem_map.1 ha
    simp at hb
    exact hn f hf (by rw [e2, hb])
  · rcases List.mem_append.1 hf with hf | hf
    · exact H.st f hf
    · obtain rfl := List.mem_singleton.1 hf
      exact ⟨h0, hs⟩
  · rcases List.mem_append.1 hf with hf | hf
    · exact H.tx f hf
    · obtain rfl := List.mem_singleton.1 hf
      exact ht

/-- A row's first cell. -/
theorem row_head {w : World} {base n g : Nat} {t : TypeId} {v x : Value} {xs : List Value} (h : w.ownsRow base t 1 v n (x :: xs)) (hg : v.ownBlock = some g) : w.cell? ⟨g, 0, none⟩ = some x := by
  rcases h.2 with ⟨rfl, _⟩ | ⟨g', cap, cur, rfl, _⟩
  · cases hg
  · cases hg
    have h1 := h.cells (g := g') rfl 0 x rfl
    rw [Addr.add_mid, Nat.zero_add] at h1
    exact h1
theorem row_some {w : World} {base n : Nat} {t : TypeId} {v : Value} {xs : List Value} (h : w.ownsRow base t 1 v n xs) (hn : 0 < n) : ∃ g c, v = .slice (some ⟨g, 0, none⟩) n c ∧ base ≤ g ∧ g < w.heap.size := by
  rcases h.2 with ⟨_, h0⟩ | ⟨g, cap, cur, rfl, hg, hh, _⟩
  · omega
  · exact ⟨g, cap, rfl, hg, (Array.getElem?_eq_some_iff.1 hh).1⟩
theorem row_at {w : World} {base n g c : Nat} {t : TypeId} {xs : List Value} (h : w.ownsRow base t 1 (.slice (some ⟨g, 0, none⟩) n c) n xs) (i : Nat) (x : Value) (hx : xs[i]? = some x) : w.cell? ⟨g, i, none⟩ = some x := by
  have h1 := h.cells (g := g) rfl i x hx
  rw [Addr.add_mid, Nat.zero_add] at h1
  exact h1

end Go.Proofs.YtibgpcheembdkaaDoor
