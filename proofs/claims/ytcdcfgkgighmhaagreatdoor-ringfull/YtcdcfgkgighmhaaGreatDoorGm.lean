import Derived.Test.YtcdcfgkgighmhaaGreatDoorGe
import Derived.Test.YtcdcfgkgighmhaaGreatDoorGj
import Derived.Test.YtcdcfgkgighmhaaGreatDoorGl
namespace Go.Proofs.YtcdcfgkgighmhaaGreatDoor
open Go.RowKit Go.MuLone
set_option maxRecDepth 100000

theorem GL.up {w w' : World} (h : GL w.heap.size w) (hb : Below w.heap.size w w') : GL w'.heap.size w' := by
  have g := h.below hb
  exact ⟨Nat.le_trans h.hi hb.size, g.u8, g.er⟩
/-- A ring that was made since W. -/
structure RR (W w : World) (rb : Nat) (L : List Ks) (last clk : Int) (has : Bool) : Prop where
  bel : Below W.heap.size W w
  lo : W.heap.size ≤ rb
  rg : ∃ v, Rg w rb rb 0 v L last clk has
theorem RR.next {W w w' : World} {rb : Nat} {L L' : List Ks} {last last' clk clk' : Int} {has has' : Bool} (h : RR W w rb L last clk has) (hc : Chf (fun k => k = rb) w w') (hr : ∃ v, Rg w' rb rb 0 v L' last' clk' has') : RR W w' rb L' last' clk' has' :=
  ⟨h.bel.trans (hc.below h.bel.size (fun _ e => by rw [e]; exact h.lo)), h.lo, hr⟩
theorem RR.next2 {W w w' : World} {rb : Nat} {L L' : List Ks} {last last' clk clk' : Int} {has has' : Bool} (h : RR W w rb L last clk has) (hc : Chf (fun k => rb ≤ k) w w') (hr : ∃ v, Rg w' rb rb 0 v L' last' clk' has') : RR W w' rb L' last' clk' has' :=
  ⟨h.bel.trans (hc.below h.bel.size (fun _ e => Nat.le_trans h.lo e)), h.lo, hr⟩
/-- Turned, where there is room. -/
theorem rr_ok {W w : World} {rb : Nat} {L : List Ks} {last clk : Int} {has : Bool} (hG : GL W.heap.size W) (h : RR W w rb L last clk has) (now grace : Int) (O : List Ks) (hL : L.length ≤ 1000) (hp : (has && decide (now < clk)) = false) (hg0 : 0 ≤ grace) (hg1 : grace ≤ 4294967296) (hn : -9223372036854775808 ≤ now ∧ now ≤ 9223372036854775807) (hl0 : 0 ≤ last ∧ last ≤ 1000) (hO : outF now (tilF now grace) L = O) (hO8 : O.length < 8) :
    Calls Tryz.prog 6 #[.pointer (some ⟨rb, 0, none⟩), .string ⟨#[123, 34, 107, 101, 121, 115, 34, 58, 91, 93, 125]⟩, .int .i64 now, .int .i64 grace] w fun e w' => e = .returned (.int .i64 0) ∧ RR W w' rb (⟨noneT, last + 1, 0, true⟩ :: O) (last + 1) now true := by
  subst hO
  obtain ⟨v, hv⟩ := h.rg
  exact (rotate_ok rb rb v L last clk has now grace w hv (hG.up h.bel) hL hp hg0 hg1 hn hl0 hO8).mono (by rintro e w' ⟨rfl, h1, h2⟩; exact ⟨rfl, h.next h2 h1⟩)
/-- Turned, where there is none. -/
theorem rr_full {W w : World} {rb : Nat} {L : List Ks} {last clk : Int} {has : Bool} (hG : GL W.heap.size W) (h : RR W w rb L last clk has) (now grace : Int) (O : List Ks) (hL : L.length ≤ 1000) (hp : (has && decide (now < clk)) = false) (hg0 : 0 ≤ grace) (hg1 : grace ≤ 4294967296) (hn : -9223372036854775808 ≤ now ∧ now ≤ 9223372036854775807) (hO : outF now (tilF now grace) L = O) (hO8 : 8 ≤ O.length) :
    Calls Tryz.prog 6 #[.pointer (some ⟨rb, 0, none⟩), .string ⟨#[123, 34, 107, 101, 121, 115, 34, 58, 91, 93, 125]⟩, .int .i64 now, .int .i64 grace] w fun e w' => e = .returned (.int .i64 161) ∧ RR W w' rb L last clk has := by
  subst hO
  obtain ⟨v, hv⟩ := h.rg
  exact (rotate_full rb rb v L last clk has now grace w hv (hG.up h.bel) hL hp hg0 hg1 hn hO8).mono (by rintro e w' ⟨rfl, h1, h2⟩; exact ⟨rfl, h.next h2 ⟨v, h1⟩⟩)
theorem rr_vers {W w : World} {rb : Nat} {L : List Ks} {last clk : Int} {has : Bool} (h : RR W w rb L last clk has) (now : Int) (V : List Int) (n : Nat) (hL : L.length ≤ 1000000) (hV : versF (maxF now clk) L = V) (hn : V.length = n) :
    Calls Tryz.prog 7 #[.pointer (some ⟨rb, 0, none⟩), .int .i64 now] w fun e w' => (∃ ao c, e = .returned (.slice ao n c) ∧ Ov w' w.heap.size (.slice ao n c) V) ∧ RR W w' rb L last clk has ∧ Chf (fun k => k = rb) w w' ∧ rb < w.heap.size := by
  subst hV hn
  obtain ⟨v, hv⟩ := h.rg
  refine (versions_any rb rb v L last clk has now w hv hL).mono ?_
  rintro e w' ⟨v', rfl, h1, h2, h3⟩
  obtain ⟨ao, c, e4⟩ : ∃ ao c, v' = .slice ao (versF (maxF now clk) L).length c := by
    rcases h1.2 with ⟨e, h0⟩ | ⟨g, cap, cur, e, _⟩
    · exact ⟨_, _, by rw [e, h0]⟩
    · exact ⟨_, _, e⟩
  subst e4
  exact ⟨⟨_, _, rfl, h1⟩, h.next h3 ⟨v, h2⟩, h3, hv.cells.lt⟩
theorem rr_drop {W w : World} {rb : Nat} {L : List Ks} {last clk : Int} {has : Bool} (h : RR W w rb L last clk has) (ver : Int) (hL : L.length ≤ 1000) (hex : ∃ s ∈ L, s.ver = ver) :
    Calls Tryz.prog 8 #[.pointer (some ⟨rb, 0, none⟩), .int .i64 ver] w fun e w' => e = .returned (.int .i64 0) ∧ ∃ i : Nat, i < L.length ∧ (L.getD i ks0).ver = ver ∧ RR W w' rb (L.eraseIdx i) last clk has := by
  obtain ⟨v, hv⟩ := h.rg
  refine (drop_ok rb rb v L last clk has ver w hv hL hex).mono ?_
  rintro e w' ⟨rfl, ⟨i, v', hi, hvr, h1⟩, h2⟩
  exact ⟨rfl, i, hi, hvr, h.next2 h2 ⟨v', h1⟩⟩
theorem rr_dropn {W w : World} {rb : Nat} {L : List Ks} {last clk : Int} {has : Bool} (h : RR W w rb L last clk has) (ver : Int) (hL : L.length ≤ 1000) (hex : ∀ s ∈ L, s.ver ≠ ver) :
    Calls Tryz.prog 8 #[.pointer (some ⟨rb, 0, none⟩), .int .i64 ver] w fun e w' => e = .returned (.int .i64 170) ∧ RR W w' rb L last clk has := by
  obtain ⟨v, hv⟩ := h.rg
  refine (drop_none rb rb v L last clk has ver w hv hL hex).mono ?_
  rintro e w' ⟨rfl, h1, h2⟩
  exact ⟨rfl, h.next2 h2 ⟨v, h1⟩⟩
theorem Ov.at {w : World} {B : Nat} {ao : Option Addr} {n c : Nat} {V : List Int} (h : Ov w B (.slice ao n c) V) (hn : V.length = n) : n = 0 ∨ ∃ g, ao = some ⟨g, 0, none⟩ ∧ B ≤ g ∧ g < w.heap.size ∧ ∀ i, i < n → w.cell? ⟨g, i, none⟩ = some (.int .i64 (V.getD i 0)) := by
  subst hn
  rcases h.2 with ⟨e, h0⟩ | ⟨g, cap, cur, e, hg, hh, hn', hc, hsz, ht⟩
  · exact .inl (by omega)
  · simp only [Value.slice.injEq] at e
    obtain ⟨rfl, _, _⟩ := e
    refine .inr ⟨g, rfl, hg, (Array.getElem?_eq_some_iff.1 hh).1, fun i hi => ?_⟩
    have h' : w.ownsRow B 2 1 (.slice (some ⟨g, 0, none⟩) V.length c) V.length (V.map iC) := h
    rw [World.ownsRow.cellAt h' i (by omega), List.getElem?_map, List.getElem?_eq_getElem (by omega), List.getD_eq_getElem?_getD, List.getElem?_eq_getElem (by omega)]
    rfl
theorem rr_new (W w : World) (hb : Below W.heap.size W w) :
    Calls Tryz.prog 5 #[] w fun e w' => ∃ rb, e = .returned (.pointer (some ⟨rb, 0, none⟩)) ∧ RR W w' rb [] 0 0 false := by
  refine (ringNew_any w).mono ?_
  rintro e w' ⟨rfl, h1, h2⟩
  exact ⟨_, rfl, hb.trans (h2.mono hb.size), hb.size, ⟨_, h1⟩⟩

set_option maxHeartbeats 4000000 in
theorem alive_any (W w : World) (hG : GL W.heap.size W) (hb : Below W.heap.size W w) :
    Calls Tryz.prog 4 #[] w fun e w' => e = .returned (.bool true) ∧ Below W.heap.size W w' := by
  go_enter Tryz.func4, Tryz.ntmps4
  go_wp2_with fail
  refine (rr_new W _ hb).mono ?_
  rintro e w1 ⟨rb, rfl, h1'⟩
  have h1 : Hid (RR W w1 rb [] 0 0 false) := h1'
  clear h1'
  go_wp2_with fail
  refine (rr_ok hG h1.out 5 10 [] (by decide) rfl (by decide) (by decide) (by decide) (by decide) (by decide) (by decide)).mono ?_
  rintro e w2 ⟨rfl, h2'⟩
  have h2 : Hid (RR W w2 rb [⟨noneT, 0 + 1, 0, true⟩] (0 + 1) 5 true) := h2'
  clear h2' h1
  go_wp2_with fail
  refine (rr_ok hG h2.out 20 10 [⟨noneT, 1, 30, false⟩] (by decide) (by decide) (by decide) (by decide) (by decide) (by decide) rfl (by decide)).mono ?_
  rintro e w3 ⟨rfl, h3'⟩
  have h3 : Hid (RR W w3 rb [⟨noneT, 0 + 1 + 1, 0, true⟩, ⟨noneT, 1, 30, false⟩] (0 + 1 + 1) 20 true) := h3'
  clear h3' h2
  go_wp2_with fail
  refine (rr_vers h3.out 29 [2, 1] 2 (by decide) rfl rfl).mono ?_
  rintro e w4 ⟨⟨a4, c4, rfl, o4⟩, h4', _, hrb4⟩
  have h4 : Hid (RR W w4 rb [⟨noneT, 0 + 1 + 1, 0, true⟩, ⟨noneT, 1, 30, false⟩] (0 + 1 + 1) 20 true) := h4'
  obtain ⟨g4, rfl, gb4, gl4, k4⟩ := (o4.at rfl).resolve_left (by decide)
  have k40 : Hid (w4.cell? ⟨g4, 0, none⟩ = some (.int .i64 2)) := k4 0 (by decide)
  have k41 : Hid (w4.cell? ⟨g4, 1, none⟩ = some (.int .i64 1)) := k4 1 (by decide)
  have gl4h : Hid (g4 < w4.heap.size ∧ g4 ≠ rb) := ⟨gl4, by omega⟩
  clear h4' h3 o4 k4 gl4 gb4 hrb4
  go_wp2_with fail
  refine (rr_vers h4.out 30 [2] 1 (by decide) rfl rfl).mono ?_
  rintro e w5 ⟨⟨a5, c5, rfl, o5⟩, h5', hc5, _⟩
  have m0 := cell_but k40.out fun _ => hc5.block _ gl4h.out.1 gl4h.out.2
  have m1 := cell_but k41.out fun _ => hc5.block _ gl4h.out.1 gl4h.out.2
  obtain ⟨g5, rfl, _, _, k5⟩ := (o5.at rfl).resolve_left (by decide)
  have n0 : w5.cell? ⟨g5, 0, none⟩ = some (.int .i64 2) := k5 0 (by decide)
  have hb5 : Hid (Below W.heap.size W w5) := h5'.bel
  clear h5' hc5 o5 k5 k40 k41 gl4h h4
  go_wp2_with fail
  go_ret
  exact ⟨rfl, hb5.out⟩

end Go.Proofs.YtcdcfgkgighmhaaGreatDoor
