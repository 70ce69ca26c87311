import Derived.Test.YtidmjojlhcgedaaTc
namespace Go.Proofs.Ytidmjojlhcgedaa
open Go.RowKit Go.Maps
set_option maxRecDepth 100000

/-- The document's book in memory: its block, its list. -/
structure Mok (w : World) (gm : Nat) (has : Bool) (clk : Int) (ao : Option Addr) (cap : Nat) (l : List En) : Prop where
  cells : Bl 74 w gm [.bool has, .int .i64 clk, .slice ao l.length cap]
  all : RdE w ao l
theorem Mok.drewN {w : World} {gm : Nat} {has : Bool} {clk : Int} {ao : Option Addr} {cap : Nat} {l : List En} (h : Mok w gm has clk ao cap l) (q : Nat) : Mok (w.drewN q) gm has clk ao cap l := ⟨h.cells, h.all⟩
/-- A name's last end, or 0, and whether it is kept. -/
def endM (l : List En) (k : List UInt8) (c : Int) : Int × Bool := match l.reverse.find? (fun p => p.1 == k) with | some p => (p.2, decide (c ≤ p.2)) | none => (0, false)
theorem endM_snoc (l : List En) (p : En) (k : List UInt8) (c : Int) : endM (l ++ [p]) k c = if p.1 == k then (p.2, decide (c ≤ p.2)) else endM l k c := by
  unfold endM
  rw [List.reverse_append, List.reverse_singleton, List.singleton_append, List.find?_cons]
  by_cases h : p.1 == k
  · simp [h]
  · simp [h]
theorem endM_live (l : List En) (k : List UInt8) (c : Int) : (endM l k c).2 = liveF l k c := by
  unfold endM liveF
  cases l.reverse.find? (fun p => p.1 == k) <;> rfl

set_option maxHeartbeats 2000000 in
theorem rend_any (gm : Nat) (has : Bool) (clk : Int) (ao : Option Addr) (cap : Nat) (l : List En) (k : List UInt8) (w : World) (h : Mok w gm has clk ao cap l) (hl : l.length ≤ 1000000000) :
    Calls Try.prog 55 #[.pointer (some ⟨gm, 0, none⟩), .string ⟨k.toArray⟩] w fun e w' => e = .returned (.tuple #[.int .i64 (endM l k clk).1, .bool (endM l k clk).2]) ∧ ∃ q, w' = w.drewN q := by
  have m1 := h.cells.cell 1 (by simp)
  have m2 := h.cells.cell 2 (by simp)
  simp only [List.getElem_cons_zero, List.getElem_cons_succ] at m1 m2
  have hr : Hid (RdE w ao l) := h.all
  clear h
  obtain ⟨x, hx⟩ : ∃ x, endM l k clk = x := ⟨_, rfl⟩
  have HQ : Hid (endM l k clk = x) := hx
  rw [hx]
  clear hx
  go_enter Try.func55, Try.ntmps55
  go_wp2_with fail
  go_loopw [6] (fun s wr => ∃ j q : Nat, s = .int .i64 ((j : Int) - 1) ∧ j ≤ l.length ∧ Hid (endM (l.take j) k clk = x) ∧ wr = w.drewN q) (fun s _ => (intOf s + 1).toNat)
  case atStart => exact ⟨l.length, 0, by go_num, Nat.le_refl _, by rw [List.take_length]; exact HQ.out, rfl⟩
  case round =>
    obtain ⟨j, q, rfl, hj, hq, rfl⟩ := hrel
    cases j with
    | zero =>
      have e : x = (0, false) := by rw [← hq.out]; rfl
      subst e
      clear hq HQ
      go_wp2_with fail
      go_ret2
      exact ⟨rfl, _, rfl⟩
    | succ m =>
      have hm : m < l.length := by omega
      have hq2 := hq.out
      rw [List.take_succ_eq_append_getElem hm, endM_snoc] at hq2
      rcases hr.out with h0 | ⟨g, rfl, _, hc⟩
      · rw [h0] at hm; simp at hm
      obtain ⟨c0, c1⟩ := hc m hm
      rw [getD_eq _ _ hm] at c0 c1
      generalize l[m] = p at c0 c1 hq2
      obtain ⟨nm, en⟩ := p
      simp only at c0 c1 hq2
      have hqh : Hid ((if (nm == k) = true then (en, decide (clk ≤ en)) else endM (l.take m) k clk) = x) := hq2
      have hmi : (m : Int) < (l.length : Int) := by omega
      rw [show (((m + 1 : Nat) : Int) - 1) = (m : Int) by omega]
      clear hq hq2 hc hr HQ
      by_cases hk : nm = k
      · subst hk
        have e : x = (en, decide (clk ≤ en)) := by have := hqh.out; rw [if_pos (by simp)] at this; exact this.symm
        subst e
        clear hqh
        go_wp2_with fail
        go_quiet (fail)
        go_wp2_with fail
        go_ret2
        exact ⟨rfl, _, rfl⟩
      · have qs : (nm == k) = false := by simpa using hk
        go_wp2_with fail
        refine ⟨⟨m, q, rfl, by omega, ?_, rfl⟩, by simp [intOf]⟩
        have := hqh.out
        rw [if_neg (by simpa using hk)] at this
        exact this

theorem rhas_any (gm : Nat) (has : Bool) (clk : Int) (ao : Option Addr) (cap : Nat) (l : List En) (k : List UInt8) (w : World) (h : Mok w gm has clk ao cap l) (hl : l.length ≤ 1000000000) :
    Calls Try.prog 48 #[.pointer (some ⟨gm, 0, none⟩), .string ⟨k.toArray⟩] w fun e w' => e = .returned (.bool (liveF l k clk)) ∧ ∃ q, w' = w.drewN q := by
  have E1 := rend_any gm has clk ao cap l k w h hl
  rw [endM_live] at E1
  generalize (endM l k clk).1 = x at E1
  generalize liveF l k clk = y at E1 ⊢
  clear h
  go_enter Try.func48, Try.ntmps48
  go_wp2_with fail
  refine E1.mono ?_
  rintro e w1 ⟨rfl, q, rfl⟩
  go_wp2_with fail
  go_ret
  exact ⟨rfl, _, rfl⟩

end Go.Proofs.Ytidmjojlhcgedaa
