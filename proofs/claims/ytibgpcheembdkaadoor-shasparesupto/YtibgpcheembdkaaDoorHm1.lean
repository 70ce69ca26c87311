import Derived.Test.YtibgpcheembdkaaDoorHmM
namespace Go.Proofs.YtibgpcheembdkaaDoor
open Go.RowKit

/-- The byte at a place; 0 behind the end. -/
theorem at_any (a : Option Addr) (c : Nat) (l : List UInt8) (i : Nat) (w : World) (hr : Rd w a l) (_hi : i ≤ 4611686018427387904) (_hl : l.length ≤ 4611686018427387904) :
    Calls Tryd.prog 55 #[.slice a l.length c, .int .i64 (i : Int)] w fun e w' => e = .returned (B (l.getD i 0)) ∧ w' = w := by
  by_cases hlt : i < l.length
  · rcases hr with hr | ⟨b, o, rfl, hb, hc⟩
    · subst hr; simp at hlt
    have g1 := hc i hlt
    unfold B at g1 ⊢
    clear hc
    generalize l.getD i 0 = x at *
    go_enter Tryd.func55, Tryd.ntmps55
    go_wp2
    go_ret
    exact ⟨rfl, rfl⟩
  · have h0 : l.getD i 0 = 0 := by rw [List.getD_eq_getElem?_getD, List.getElem?_eq_none (by omega)]; rfl
    rw [h0]
    clear hr h0
    go_enter Tryd.func55, Tryd.ntmps55
    go_wp2
    go_ret
    exact ⟨rfl, rfl⟩

set_option maxHeartbeats 1000000 in
theorem masked_any (a : Option Addr) (c : Nat) (l : List UInt8) (x : UInt8) (w : World) (hr : Rd w a l) (hl : l.length ≤ 100000000) :
    Calls Tryd.prog 54 #[.slice a l.length c, B x] w fun e w' => e = .returned (.slice (some ⟨w.heap.size, 0, none⟩) l.length l.length) ∧ Bl 5 w' w.heap.size ((mskF x l).map B) ∧ Below w.heap.size w w' := by
  obtain ⟨wm, hmk, hcm, hbm⟩ := made w l.length (by omega)
  have HR : Hid (Rd w a l) := hr
  have HC0 : Hid (Bl 5 wm w.heap.size (((List.range 0).map (fun i => l.getD i 0 ^^^ x) ++ List.replicate (l.length - 0) 0).map B)) := hcm
  have HB0 : Hid (Below w.heap.size w wm) := hbm
  clear hr hcm hbm
  unfold B
  go_enter Tryd.func54, Tryd.ntmps54
  go_wp2
  clear hmk
  go_loopw [12] (fun s ws => ∃ k : Nat, s = .int .i64 (k : Int) ∧ k ≤ l.length ∧ Hid (Bl 5 ws w.heap.size (((List.range k).map (fun i => l.getD i 0 ^^^ x) ++ List.replicate (l.length - k) 0).map B)) ∧ Hid (Below w.heap.size w ws)) (fun s _ => l.length - (intOf s).toNat)
  case atStart => exact ⟨0, rfl, by omega, HC0, HB0⟩
  case round =>
    clear HC0 HB0
    obtain ⟨k, rfl, hk, hcl, hbel⟩ := hrel
    by_cases hlt : k < l.length
    · have hr2 := HR.out.below hbel.out (Nat.le_refl _)
      rcases hr2 with hr2 | ⟨b, o, rfl, hb, hc⟩
      · subst hr2; simp at hlt
      have g1 := hc k hlt
      unfold B at g1
      have gf := hcl.out.frozen k
      obtain ⟨old, gc⟩ : ∃ v, wr.cell? ⟨w.heap.size, k, none⟩ = some v := ⟨_, hcl.out.cell k (by simp; omega)⟩
      have Hs : Hid (True → (((List.range k).map (fun i => l.getD i 0 ^^^ x) ++ List.replicate (l.length - k) 0).map B).set k (B (l.getD k 0 ^^^ x)) = (((List.range (k + 1)).map (fun i => l.getD i 0 ^^^ x) ++ List.replicate (l.length - (k + 1)) 0).map B)) := fun _ => made_set (fun i => l.getD i 0 ^^^ x) l.length k _ hlt rfl
      have hx := xorB (l.getD k 0) x
      clear hc
      generalize l.getD k 0 = y at *
      go_wp2
      refine ⟨⟨k + 1, by go_num, by omega, ?_, ?_⟩, by simp [intOf]; omega⟩
      · have h1 := hcl.out.set k (B (y ^^^ x))
        rw [Hs.out trivial] at h1
        exact h1
      · exact Below.setCell hbel.out (Nat.le_refl _) _
    · obtain rfl : k = l.length := by omega
      go_wp2
      go_ret
      refine ⟨rfl, ?_, hbel.out⟩
      have h1 := hcl.out
      rw [Nat.sub_self, List.replicate_zero, List.append_nil, mskF_eq] at h1
      exact h1

theorem prOk.below {w w' : World} {p : Prt} {n : Nat} (h : prOk w p) (hb : Below n w w') (hn : w.heap.size ≤ n) : prOk w' p := ⟨h.1.below hb hn, h.2⟩
/-- A list of one part, of two, new. -/
theorem pts1 (w : World) (t : TypeId) (p : Prt) (h : prOk w p) : Pts (w.alloc (.cells #[prV p] t)) (some ⟨w.heap.size, 0, none⟩) [p] := by
  have hb := alloc_below w (.cells #[prV p] t)
  have a1 := alloc_last w (.cells #[prV p] t)
  refine ⟨.inr ⟨_, 0, rfl, fun j hj => ?_⟩, fun q hq => ?_⟩
  · have : j = 0 := by simpa using hj
    subst this
    generalize w.alloc _ = W at a1 ⊢
    unfold World.cell?
    simp [a1]
  · obtain rfl := List.mem_singleton.1 hq
    exact h.below hb (Nat.le_refl _)
theorem pts2 (w : World) (t : TypeId) (p1 p2 : Prt) (h1 : prOk w p1) (h2 : prOk w p2) : Pts (w.alloc (.cells #[prV p1, prV p2] t)) (some ⟨w.heap.size, 0, none⟩) [p1, p2] := by
  have hb := alloc_below w (.cells #[prV p1, prV p2] t)
  have a1 := alloc_last w (.cells #[prV p1, prV p2] t)
  refine ⟨.inr ⟨_, 0, rfl, fun j hj => ?_⟩, fun q hq => ?_⟩
  · have hj2 : j = 0 ∨ j = 1 := by have : j < 2 := by simpa using hj
                                   omega
    generalize w.alloc _ = W at a1 ⊢
    rcases hj2 with rfl | rfl <;> (unfold World.cell?; simp [a1])
  · rcases List.mem_cons.1 hq with rfl | hq
    · exact h1.below hb (Nat.le_refl _)
    · obtain rfl := List.mem_singleton.1 hq
      exact h2.below hb (Nat.le_refl _)
theorem cat1 (p : Prt) : cat [p] = p.l := by simp [cat]
theorem cat2 (p q : Prt) : cat [p, q] = p.l ++ q.l := by simp [cat]
theorem blk_le (h : Int) : blk h ≤ 128 := by unfold blk; (repeat' split) <;> omega
theorem siz_le (h : Int) : siz h ≤ 64 := by unfold siz; (repeat' split) <;> omega

end Go.Proofs.YtibgpcheembdkaaDoor
