import Derived.Test.YtkfchdmlemcjhaaDoorKf5
namespace Go.Proofs.YtkfchdmlemcjhaaDoor
open Go.RowKit Go.Shelf
set_option maxRecDepth 100000

set_option maxHeartbeats 32000000 in
/-- left: what twin made is as it was, the marks too. -/
theorem left16_any (B : Nat) (aG : Option Addr) (cG : Nat) (G : List Ex) (ao : Option Addr) (cap : Nat) (l : List Ex) (w : World) (hG : LO B w (.slice aG G.length cG) G) (hM : ∀ x ∈ G, MX B w x) (h : LR w ao cap l) (he : G.map Ex.e = l.map Ex.e) (hl : l.length ≤ 100000000) (hb : ∀ x ∈ l, x.e.val.length ≤ 100000000 ∧ x.e.ops.length ≤ 100000000) :
    Calls Tryd.prog 7 #[.slice aG G.length cG, .slice ao l.length cap] w fun r w' => r = .returned (.bool true) ∧ Below w.heap.size w w' := by
  have hlen : G.length = l.length := by have := congrArg List.length he; simpa using this
  have hGb : ∀ x ∈ G, x.e.val.length ≤ 1000000000 ∧ x.e.ops.length ≤ 1000000000 := fun x hx => by
    have h1 : x.e ∈ l.map Ex.e := by rw [← he]; exact List.mem_map.2 ⟨x, hx, rfl⟩
    obtain ⟨y, hy, e⟩ := List.mem_map.1 h1
    have := hb y hy
    rw [e] at this
    omega
  have hLG : LR w aG cG G := by
    obtain ⟨a, c, e, h1, _⟩ := hG.lr (fun x hx => (hM x hx).rd)
    cases e
    exact h1
  have CS := esameAll_eq aG ao cG cap G l w hLG h he (by omega) hGb
  have H : Hid (∀ wq, Below w.heap.size w wq → LR wq ao cap l) := fun wq hq => h.below hq
  have HG : Hid (∀ wq, Below w.heap.size w wq → LR wq aG cG G) := fun wq hq => hLG.below hq
  have HM : Hid (∀ wq, Below w.heap.size w wq → ∀ x ∈ G, MX B wq x) := fun wq hq x hx => (hM x hx).below hq
  have HE : Hid (G.map Ex.e = l.map Ex.e) := he
  have HLEN : Hid (G.length = l.length) := hlen
  have HBd : Hid (∀ x ∈ l, x.e.val.length ≤ 100000000 ∧ x.e.ops.length ≤ 100000000) := hb
  have hcn : (Tryd.prog.info? 36).map (·.size) = some ([.int .i64 0, .string ⟨#[]⟩, .string ⟨#[109, 97, 114, 107]⟩, .bool false, .int .i64 0, .int .i64 0] : List Value).length := by kernel_rfl
  have hrn : ∀ w : World, (binOp .neq 36 (.agg #[.int .i64 0, .string ⟨#[]⟩, .string ⟨#[109, 97, 114, 107]⟩, .bool false, .int .i64 0, .int .i64 0]) (.agg #[.int .i64 0, .string ⟨#[]⟩, .string ⟨#[109, 97, 114, 107]⟩, .bool false, .int .i64 0, .int .i64 0])).run Tryd.prog w = .ok (.bool false) w := fun w => by
    have := run_nodes_ne9 w mkN mkN
    rw [decide_eq_true rfl] at this
    exact this
  clear hG hM h he hb hlen hGb hLG
  go_enter Tryd.func7, Tryd.ntmps7
  go_wp2_with fail
  refine CS.mono ?_
  clear CS
  rintro r w1 ⟨rfl, hb1⟩
  have HB1 : Hid (Below w.heap.size w w1) := hb1
  clear hb1
  go_wp2
  go_loopw [5] (fun s5 wx => ∃ k : Nat, s5 = .int .i64 k ∧ k ≤ l.length ∧ Hid (Below w.heap.size w wx)) (fun s _ => l.length - (intOf s).toNat)
  case atStart => exact ⟨0, rfl, Nat.zero_le _, HB1⟩
  case round =>
    clear HB1
    obtain ⟨k, rfl, hk, HB⟩ := hrel
    by_cases hlt : k < l.length
    · have q0 : decide ((k : Int) < (l.length : Int)) = true := decide_eq_true (by omega)
      have q1 : (k : Int) < (l.length : Int) := by omega
      have q2 : (k : Int) < (G.length : Int) := by have := HLEN.out; omega
      obtain ⟨x, hx⟩ : ∃ x, l[k]? = some x := ⟨_, List.getElem?_eq_getElem hlt⟩
      obtain ⟨y, hy⟩ : ∃ y, G[k]? = some y := ⟨_, List.getElem?_eq_getElem (by have := HLEN.out; omega)⟩
      have exy : y.e = x.e := by
        have h := congrArg (·[k]?) HE.out
        simpa [hx, hy] using h
      obtain ⟨g1, o1, rfl, p0, p1, p2, p3, p4, p5, p6, p7, p8, p9⟩ := (H.out wr HB.out).at hx
      obtain ⟨g2, o2, rfl, r0, r1, r2, r3, r4, r5, r6, r7, r8, r9⟩ := (HG.out wr HB.out).at hy
      obtain ⟨gv, ga, e1, e2, hN, hT⟩ := HM.out wr HB.out y (List.mem_of_getElem? hy)
      have hbx := HBd.out x (List.mem_of_getElem? hx)
      obtain ⟨e, va1, vc1, aa1, ac1⟩ := x
      obtain ⟨e', va2, cv, aa2, ca⟩ := y
      dsimp only at exy e1 e2 hN hT hbx
      subst exy
      subst e1
      subst e2
      have m0 := no_mark hN 0 (by decide)
      have m1 := no_mark hN 1 (by decide)
      have t0 := ot_mark hT 0 (by decide)
      have t1 := ot_mark hT 1 (by decide)
      rw [Nat.add_zero] at m0 t0
      have hcv2 : e'.val.length + 2 ≤ cv := by
        obtain ⟨a, c, e, hc, _⟩ := own_slice hN
        have e3 : cv = c := by injection e
        rw [e3]
        simpa using hc
      have hca2 : e'.ops.length + 2 ≤ ca := by
        obtain ⟨a, c, e, hc, _⟩ := own_slice hT
        have e3 : ca = c := by injection e
        rw [e3]
        simpa using hc
      have q3 : ((e'.val.length : Int) + 2 ≤ (cv : Int)) := by omega
      have q4 : ((e'.ops.length : Int) + 2 ≤ (ca : Int)) := by omega
      have b1 := hbx.1
      have b2 := hbx.2
      clear hx hy hN hT p1 p2 p3 p4 p5 p6 p7 p9 r1 r2 r3 r4 r5 r6 r7 r9 hbx
      dsimp only at p0 p8 r0 r8
      go_wp2_with (first | (refine wpList_load_mid rfl 36 (.tmp 50) rfl gv (e'.val.length * 6) rfl [.int .i64 0, .string ⟨#[]⟩, .string ⟨#[109, 97, 114, 107]⟩, .bool false, .int .i64 0, .int .i64 0] _ m0 Tryd.underlying36 rfl hcn ?_) | (refine wpList_load_midG rfl 36 (.tmp 58) rfl gv ((e'.val.length + 1) * 6) rfl [.int .i64 0, .string ⟨#[]⟩, .string ⟨#[109, 97, 114, 107]⟩, .bool false, .int .i64 0, .int .i64 0] _ m1 Tryd.underlying36 rfl hcn ?_) | fail)
      go_roundw
      case rel => exact ⟨k + 1, by go_num, by omega, HB⟩
      case measure => simp [intOf]; omega
    · have q0 : decide ((k : Int) < (l.length : Int)) = false := decide_eq_false (by omega)
      go_wp2
      go_ret
      exact ⟨rfl, HB.out⟩

end Go.Proofs.YtkfchdmlemcjhaaDoor
