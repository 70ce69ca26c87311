import Derived.Test.YtidmjojlhcgedaaRi
namespace Go.Proofs.Ytidmjojlhcgedaa
open Go.RowKit Go.Maps
set_option maxRecDepth 100000

/-- A reader of an image. -/
structure Rdr (w : World) (rb : Nat) (ao : Option Addr) (cap : Nat) (l : List UInt8) (p nx : Nat) : Prop where
  cells : Bl 70 w rb [.slice ao l.length cap, .int .i64 p, .int .i64 nx]
  rd : Rd w ao l
  ne : l ≠ [] → ∀ a, ao = some a → a.block ≠ rb
  hcap : l.length ≤ cap
  hnl : ao = none → cap = 0
  hnx : nx ≤ l.length

theorem Rd.chf {f : Nat → Prop} {w w' : World} {ao : Option Addr} {l : List UInt8} (h : Rd w ao l) (hc : Chf f w w') (hf : l ≠ [] → ∀ a, ao = some a → ¬ f a.block) : Rd w' ao l := by
  by_cases hl : l = []
  · exact .inl hl
  rcases h with h | ⟨g, off, e, hg, hcell⟩
  · exact .inl h
  · exact .inr ⟨g, off, e, Nat.lt_of_lt_of_le hg hc.size, fun j hj => cell_but (hcell j hj) fun h1 => hc.block g h1 (hf hl _ e)⟩
theorem Rdr.chf {f : Nat → Prop} {w w' : World} {rb : Nat} {ao : Option Addr} {cap : Nat} {l : List UInt8} {p nx : Nat} (h : Rdr w rb ao cap l p nx) (hc : Chf f w w') (h1 : ¬ f rb) (h2 : l ≠ [] → ∀ a, ao = some a → ¬ f a.block) : Rdr w' rb ao cap l p nx :=
  ⟨h.cells.chf hc h1, h.rd.chf hc h2, h.ne, h.hcap, h.hnl, h.hnx⟩

theorem Rdr.put {w : World} {rb : Nat} {ao : Option Addr} {cap : Nat} {l : List UInt8} {p nx : Nat} (h : Rdr w rb ao cap l p nx) (p' nx' : Nat) (hn : nx' ≤ l.length) {w' : World} (hb : Bl 70 w' rb [.slice ao l.length cap, .int .i64 p', .int .i64 nx']) (hc : Chf (fun k => k = rb) w w') : Rdr w' rb ao cap l p' nx' :=
  ⟨hb, h.rd.chf hc (fun hl a e x => h.ne hl a e x), h.ne, h.hcap, h.hnl, hn⟩

theorem Rdr.drewN {w : World} {rb : Nat} {ao : Option Addr} {cap : Nat} {l : List UInt8} {p nx : Nat} (h : Rdr w rb ao cap l p nx) (q : Nat) : Rdr (w.drewN q) rb ao cap l p nx := ⟨h.cells, h.rd, h.ne, h.hcap, h.hnl, h.hnx⟩

theorem Rdr.piece {w : World} {rb : Nat} {a : Addr} {cap : Nat} {l : List UInt8} {p n' nx size : Nat} (h : Rdr w rb (some a) cap l p n') (hs : nx + size ≤ l.length) : Rd w (some (a.add nx)) ((l.drop nx).take size) := by
  rcases h.rd with h0 | ⟨g, off, ea, hg, hcell⟩
  · left; rw [h0]; simp
  · cases ea
    refine .inr ⟨g, off + nx, by rw [Addr.add_lit], hg, fun j hj => ?_⟩
    have hj2 : j < size := by rw [List.length_take, List.length_drop] at hj; omega
    have hj3 : nx + j < l.length := by omega
    have := hcell (nx + j) hj3
    rw [Nat.add_assoc]
    refine this.trans ?_
    congr 2
    rw [List.getD_eq_getElem?_getD, List.getD_eq_getElem?_getD, List.getElem?_take, if_pos hj2, List.getElem?_drop]

set_option maxHeartbeats 1000000 in
theorem part_no (rb : Nat) (ao : Option Addr) (cap : Nat) (l : List UInt8) (p nx size : Nat) (w : World) (h : Rdr w rb ao cap l p nx) (_hl : l.length ≤ 1000000000000) (hs : l.length < nx + size) (hs2 : size ≤ 1000000000) :
    Calls Try.prog 59 #[.pointer (some ⟨rb, 0, none⟩), .int .i64 size] w fun e w' => e = .returned (.tuple #[.slice none 0 0, .bool false]) ∧ Rdr w' rb ao cap l nx nx ∧ Chf (fun k => k = rb) w w' := by
  have c0 := h.cells.cell 0 (by simp)
  have c1 := h.cells.cell 1 (by simp)
  have c2 := h.cells.cell 2 (by simp)
  simp only [List.getElem_cons_zero, List.getElem_cons_succ] at c0 c1 c2
  have f1 := h.cells.frozen 1
  have hnx := h.hnx
  have hB : Hid (Bl 70 (w.setCell ⟨rb, 1, none⟩ (.int .i64 nx)) rb [.slice ao l.length cap, .int .i64 nx, .int .i64 nx]) := h.cells.set 1 _
  have hC : Hid (Chf (fun k => k = rb) w (w.setCell ⟨rb, 1, none⟩ (.int .i64 nx))) := Chf.set (f := fun k => k = rb) (Chf.refl _ w) (.inl rfl) _
  have hH : Hid (Rdr w rb ao cap l p nx) := h
  have q : decide ((size : Int) > (l.length : Int) - (nx : Int)) = true := by simp; omega
  clear h
  obtain ⟨n, hn⟩ : ∃ n, l.length = n := ⟨_, rfl⟩
  rw [hn] at _hl hs c0 q hnx
  clear hn
  go_enter Try.func59, Try.ntmps59
  go_wp2
  go_quiet (fail)
  go_wp2
  go_ret2
  exact ⟨rfl, (hH.out.put nx nx hH.out.hnx hB.out hC.out).drewN nq, hC.out.drewN nq⟩

set_option maxHeartbeats 1000000 in
theorem part_ok (rb : Nat) (ao : Option Addr) (cap : Nat) (l : List UInt8) (p nx size : Nat) (w : World) (h : Rdr w rb ao cap l p nx) (hl : l.length ≤ 1000000000000) (hs : nx + size ≤ l.length) :
    Calls Try.prog 59 #[.pointer (some ⟨rb, 0, none⟩), .int .i64 size] w fun e w' => (∃ ao' c', e = .returned (.tuple #[.slice ao' size c', .bool true]) ∧ Rd w' ao' ((l.drop nx).take size) ∧ size ≤ c') ∧ Rdr w' rb ao cap l nx (nx + size) ∧ Chf (fun k => k = rb) w w' := by
  have c0 := h.cells.cell 0 (by simp)
  have c1 := h.cells.cell 1 (by simp)
  have c2 := h.cells.cell 2 (by simp)
  simp only [List.getElem_cons_zero, List.getElem_cons_succ] at c0 c1 c2
  have f1 := h.cells.frozen 1
  have f2 := h.cells.frozen 2
  have hnx := h.hnx
  have hB : ∀ q, Bl 70 (((w.setCell ⟨rb, 1, none⟩ (.int .i64 nx)).drewN q).setCell ⟨rb, 2, none⟩ (.int .i64 ((nx + size : Nat) : Int))) rb [.slice ao l.length cap, .int .i64 nx, .int .i64 ((nx + size : Nat) : Int)] := fun q => ((h.cells.set 1 _).drewN q).set 2 _
  have hC : Hid (∀ q, Chf (fun k => k = rb) w (((w.setCell ⟨rb, 1, none⟩ (.int .i64 nx)).drewN q).setCell ⟨rb, 2, none⟩ (.int .i64 ((nx + size : Nat) : Int)))) := fun q => Chf.set (f := fun k => k = rb) ((Chf.set (f := fun k => k = rb) (Chf.refl _ w) (.inl rfl) _).drewN q) (.inl rfl) _
  have hR : Hid (∀ q, Rdr (((w.setCell ⟨rb, 1, none⟩ (.int .i64 nx)).drewN q).setCell ⟨rb, 2, none⟩ (.int .i64 ((nx + size : Nat) : Int))) rb ao cap l nx (nx + size)) := fun q => h.put nx (nx + size) hs (hB q) (hC.out q)
  have q : decide ((size : Int) > (l.length : Int) - (nx : Int)) = false := by simp; omega
  have hcap := h.hcap
  have hnl : Hid (ao = none → cap = 0) := h.hnl
  have hlen : Hid (∃ n, l.length = n) := ⟨_, rfl⟩
  clear h hB
  cases ao with
  | none =>
    have hc0 : cap = 0 := hnl.out rfl
    have hl0 : l = [] := List.eq_nil_of_length_eq_zero (by omega)
    subst hl0
    simp only [List.length_nil] at *
    obtain rfl : nx = 0 := by omega
    obtain rfl : size = 0 := by omega
    subst hc0
    go_enter Try.func59, Try.ntmps59
    go_wp2
    go_quiet (fail)
    go_wp2
    go_quiet (fail)
    go_wp2
    go_ret2
    exact ⟨⟨none, 0, rfl, .inl rfl, Nat.le_refl _⟩, (hR.out _).drewN _, (hC.out _).drewN _⟩
  | some a =>
    have hHs : Hid (nx + size ≤ l.length) := hs
    have hsz : (nx : Int) + (size : Int) = ((nx + size : Nat) : Int) := by omega
    obtain ⟨e, he⟩ : ∃ e, nx + size = e := ⟨_, rfl⟩
    rw [he] at hs hsz
    obtain ⟨n, hn⟩ : ∃ n, l.length = n := ⟨_, rfl⟩
    have hnH : Hid (l.length = n) := hn
    have heH : Hid (nx + size = e) := he
    rw [hn] at hl hs c0 q hcap hnx
    clear hn he hnl hlen
    go_enter Try.func59, Try.ntmps59
    go_wp2
    go_quiet (fail)
    go_wp2
    go_quiet (fail)
    go_wp2
    all_goals go_ret2
    all_goals have hR' := hR.out
    all_goals have hC' := hC.out
    all_goals simp only [heH.out] at hR' hC'
    all_goals have hes : e - nx = size := by have := heH.out; omega
    all_goals have hH2 := heH.out
    all_goals rw [hH2]
    all_goals rw [← hes]
    · have hcn : cap = nx := by first | assumption | exact Eq.symm (by assumption)
      subst hcn
      refine ⟨⟨some a, 0, rfl, .inl ?_, by omega⟩, (hR' _).drewN _, (hC' _).drewN _⟩
      rw [show e - cap = 0 by omega]; rfl
    · exact ⟨⟨some (a.add nx), cap - nx, rfl, ((hR' _).drewN _).piece (by have := hnH.out; omega), by omega⟩, (hR' _).drewN _, (hC' _).drewN _⟩

end Go.Proofs.Ytidmjojlhcgedaa
