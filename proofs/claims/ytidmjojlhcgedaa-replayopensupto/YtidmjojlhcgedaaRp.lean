import Derived.Test.YtidmjojlhcgedaaRo
namespace Go.Proofs.Ytidmjojlhcgedaa
open Go.RowKit Go.Maps
set_option maxRecDepth 100000

/-- The book of an image, or the place of what cannot be. -/
def openR (l : List UInt8) : Except Nat Bk :=
  match headR l with
  | .error k => .error k
  | .ok (h, c) =>
    match tableR l h c with
    | .error k => .error k
    | .ok (L, at_) =>
      match endR l at_ with
      | .error k => .error k
      | .ok () => .ok ⟨h, c, L⟩

def openP (w : World) (e : Ending) (w' : World) : Except Nat Bk → Prop
  | .error k => e = .returned (.tuple #[.pointer none, .int .i64 163, .int .i64 k]) ∧ Below w.heap.size w w'
  | .ok b => ∃ bb mb, e = .returned (.tuple #[.pointer (some ⟨bb, 0, none⟩), .int .i64 0, .int .i64 0]) ∧ Bok w' bb mb b ∧ w.heap.size ≤ bb ∧ w.heap.size ≤ mb ∧ Below w.heap.size w w'

theorem headR_clk {l : List UInt8} {h : Bool} {c : Int} (e : headR l = .ok (h, c)) : I64 c := by
  unfold headR at e
  repeat' split at e
  all_goals first
    | (cases e; done)
    | (cases e; exact s64_bounds _)

theorem chf_new {f : Nat → Prop} {w ws wr : World} (hb : Below w.heap.size w ws) (hc : Chf f ws wr) (hf : ∀ k, f k → w.heap.size ≤ k) : Below w.heap.size w wr :=
  hb.trans (hc.below hb.size hf)

set_option maxHeartbeats 4000000 in
theorem open_any (ao : Option Addr) (cap : Nat) (l : List UInt8) (w : World) (hr : Rd w ao l) (hcap : l.length ≤ cap) (hnil : ao = none → cap = 0) (hl : l.length ≤ 1000000000) :
    Calls Try.prog 16 #[.slice ao l.length cap] w fun e w' => openP w e w' (openR l) := by
  have hRd : Hid (Rd w ao l) := hr
  have hne : Hid (∀ k, w.heap.size ≤ k → l ≠ [] → ∀ a, ao = some a → a.block ≠ k) := by
    intro k hk hl0 a ha
    rcases hr with h | ⟨g, off, e, hg, _⟩
    · exact absurd h hl0
    · rw [e] at ha; cases ha; show g ≠ k; omega
  have hn : Hid (ao = none → cap = 0) := hnil
  clear hr hnil
  go_enter Try.func16, Try.ntmps16
  go_wp2_with fail
  refine (new_any w).mono ?_
  rintro e w1 ⟨bb, mb, rfl, hB1, hbel1, hbb, hmb⟩
  have hb1 : Hid (Below w.heap.size w w1) := hbel1
  have hBk1 : Hid (Bok w1 bb mb ⟨false, 0, []⟩) := hB1
  clear hbel1 hB1
  go_wp2_with fail
  obtain ⟨rb, hrb⟩ : ∃ rb, w1.heap.size = rb := ⟨_, rfl⟩
  obtain ⟨w2, hw2⟩ : ∃ w2, w1.alloc (.cells #[.slice ao l.length cap, .int .i64 0, .int .i64 0] 70) = w2 := ⟨_, rfl⟩
  have hrb0 : w.heap.size ≤ rb := by rw [← hrb]; exact hb1.out.size
  have ha2 : Hid (Below w1.heap.size w1 w2) := by subst hw2; exact alloc_below _ _
  have hbl : Bl 70 w2 rb [.slice ao l.length cap, .int .i64 ((0 : Nat) : Int), .int .i64 ((0 : Nat) : Int)] := by subst hw2; subst hrb; exact alloc_bl w1 [.slice ao l.length cap, .int .i64 0, .int .i64 0] 70
  have hb2 : Hid (Below w.heap.size w w2) := hb1.out.trans (ha2.out.mono hb1.out.size)
  have hBk2 : Hid (Bok w2 bb mb ⟨false, 0, []⟩) := hBk1.out.below ha2.out hBk1.out.lt hBk1.out.lt2
  have hR2 : Hid (Rdr w2 rb ao cap l 0 0) := ⟨hbl, hRd.out.below hb2.out (Nat.le_refl _), hne.out rb hrb0, hcap, hn.out, Nat.zero_le _⟩
  have hrbb : rb ≠ bb := by have := hBk1.out.lt; omega
  have hrbm : rb ≠ mb := by have := hBk1.out.lt2; omega
  rw [hrb, hw2]
  clear hbl hw2 hrb ha2 hBk1 hb1
  have H1 := head_any rb bb mb ao cap l 0 w2 hR2.out hBk2.out hrbb hrbm (hne.out bb hbb) (by omega)
  have hfr : ∀ k, (k = rb ∨ k = bb) → w.heap.size ≤ k := by rintro k (rfl | rfl) <;> assumption
  have hfr3 : ∀ k, (k = rb ∨ k = bb ∨ k = mb) → w.heap.size ≤ k := by rintro k (rfl | rfl | rfl) <;> assumption
  cases he : headR l with
  | error k =>
    rw [he] at H1
    have HP : Hid (openR l = .error k) := by show _ = _; unfold openR; rw [he]
    clear he
    refine H1.mono ?_
    rintro e w3 ⟨rfl, nx, hR3, hC3⟩
    have c1 := hR3.cells.cell 1 (by simp)
    simp only [List.getElem_cons_zero, List.getElem_cons_succ] at c1
    have hBel : Hid (Below w.heap.size w w3) := chf_new hb2.out hC3 hfr
    clear hR3
    go_wp2_with fail
    go_quiet (fail)
    go_wp2_with fail
    go_ret3
    rw [HP.out]
    exact ⟨rfl, below_drewN hBel.out _⟩
  | ok hc =>
    obtain ⟨h, c⟩ := hc
    rw [he] at H1
    have hci := headR_clk he
    refine H1.mono ?_
    rintro e w3 ⟨rfl, hR3, hB3, hC3⟩
    have hb3 : Hid (Below w.heap.size w w3) := chf_new hb2.out hC3 hfr
    have H2 := names_any rb bb mb ao cap l h c w3 hR3 hB3 hrbb hrbm (fun hl0 a ha => ⟨hne.out bb hbb hl0 a ha, hne.out mb hmb hl0 a ha⟩) (by omega) hci
    clear hR3 hB3 hC3 H1
    go_wp2_with fail
    cases ht : tableR l h c with
    | error k =>
      rw [ht] at H2
      have HP : Hid (openR l = .error k) := by show _ = _; unfold openR; rw [he]; dsimp only; rw [ht]
      clear he ht
      refine H2.mono ?_
      rintro e w4 ⟨rfl, nx, hR4, hC4⟩
      have c1 := hR4.cells.cell 1 (by simp)
      simp only [List.getElem_cons_zero, List.getElem_cons_succ] at c1
      have hBel : Hid (Below w.heap.size w w4) := chf_new hb3.out hC4 hfr3
      clear hR4
      go_wp2_with fail
      go_quiet (fail)
      go_wp2_with fail
      go_ret3
      rw [HP.out]
      exact ⟨rfl, below_drewN hBel.out _⟩
    | ok Lk =>
      obtain ⟨L, k⟩ := Lk
      rw [ht] at H2
      refine H2.mono ?_
      rintro e w4 ⟨rfl, ⟨p, hR4⟩, hB4, hC4⟩
      have hb4 : Hid (Below w.heap.size w w4) := chf_new hb3.out hC4 hfr3
      have H3 := end_any rb ao cap l p k w4 hR4 hl
      have hB4h : Hid (Bok w4 bb mb ⟨h, c, L⟩) := hB4
      clear hR4 hB4 hC4 H2
      go_wp2_with fail
      cases hd : endR l k with
      | error j =>
        rw [hd] at H3
        have HP : Hid (openR l = .error j) := by show _ = _; unfold openR; rw [he]; dsimp only; rw [ht]; dsimp only; rw [hd]
        clear he ht hd
        refine H3.mono ?_
        rintro e w5 ⟨rfl, nx, hR5, hC5⟩
        have c1 := hR5.cells.cell 1 (by simp)
        simp only [List.getElem_cons_zero, List.getElem_cons_succ] at c1
        have hBel : Hid (Below w.heap.size w w5) := chf_new hb4.out hC5 (fun k e => by subst e; exact hrb0)
        clear hR5
        go_wp2_with fail
        go_quiet (fail)
        go_wp2_with fail
        go_ret3
        rw [HP.out]
        exact ⟨rfl, below_drewN hBel.out _⟩
      | ok u =>
        rw [hd] at H3
        have HP : Hid (openR l = .ok ⟨h, c, L⟩) := by show _ = _; unfold openR; rw [he]; dsimp only; rw [ht]; dsimp only; rw [hd]
        clear he ht hd
        refine H3.mono ?_
        rintro e w5 ⟨rfl, hC5⟩
        have hB5 : Hid (Bok w5 bb mb ⟨h, c, L⟩) := hB4h.out.chf hC5 (fun e => hrbb e.symm) (fun e => hrbm e.symm)
        have hb5 : Hid (Below w.heap.size w w5) := chf_new hb4.out hC5 (fun k e => by subst e; exact hrb0)
        clear hC5
        go_wp2_with fail
        go_ret3
        rw [HP.out]
        exact ⟨bb, mb, rfl, hB5.out, hbb, hmb, hb5.out⟩

end Go.Proofs.Ytidmjojlhcgedaa
