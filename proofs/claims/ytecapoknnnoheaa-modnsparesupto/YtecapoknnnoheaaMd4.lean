import Derived.Test.YtecapoknnnoheaaOrk
namespace Go.Proofs.Ytecapoknnnoheaa
open Go.RowKit

/-- The search's block. -/
def St (w : World) (b : Nat) (m l x d y : Value) : Prop := Cl w b [m, l, x, d, y]
theorem St.c0 {w : World} {b : Nat} {m l x d y : Value} (h : St w b m l x d y) : w.cell? ⟨b, 0, none⟩ = some m := Cl.cell h 0 (by simp)
theorem St.c1 {w : World} {b : Nat} {m l x d y : Value} (h : St w b m l x d y) : w.cell? ⟨b, 1, none⟩ = some l := Cl.cell h 1 (by simp)
theorem St.c2 {w : World} {b : Nat} {m l x d y : Value} (h : St w b m l x d y) : w.cell? ⟨b, 2, none⟩ = some x := Cl.cell h 2 (by simp)
theorem St.c3 {w : World} {b : Nat} {m l x d y : Value} (h : St w b m l x d y) : w.cell? ⟨b, 3, none⟩ = some d := Cl.cell h 3 (by simp)
theorem St.c4 {w : World} {b : Nat} {m l x d y : Value} (h : St w b m l x d y) : w.cell? ⟨b, 4, none⟩ = some y := Cl.cell h 4 (by simp)
theorem St.set1 {w : World} {b : Nat} {m l x d y : Value} (h : St w b m l x d y) (v : Value) : St (w.setCell ⟨b, 1, none⟩ v) b m v x d y := Cl.set h 1 v
theorem St.set2 {w : World} {b : Nat} {m l x d y : Value} (h : St w b m l x d y) (v : Value) : St (w.setCell ⟨b, 2, none⟩ v) b m l v d y := Cl.set h 2 v
theorem St.set3 {w : World} {b : Nat} {m l x d y : Value} (h : St w b m l x d y) (v : Value) : St (w.setCell ⟨b, 3, none⟩ v) b m l x v y := Cl.set h 3 v
theorem St.set4 {w : World} {b : Nat} {m l x d y : Value} (h : St w b m l x d y) (v : Value) : St (w.setCell ⟨b, 4, none⟩ v) b m l x d v := Cl.set h 4 v
theorem St.drewN {w : World} {b : Nat} {m l x d y : Value} (h : St w b m l x d y) (q : Nat) : St (w.drewN q) b m l x d y := h
theorem St.below {w w' : World} {b n : Nat} {m l x d y : Value} (h : St w b m l x d y) (hb : Below n w w') (hn : b < n) : St w' b m l x d y := Cl.below h hb hn

/-- A value that is a slice. -/
def Sl (v : Value) : Prop := ∃ a n c, v = .slice a n c

theorem done_v (b : Nat) (m l x d y : Value) (L : Nat) (w : World) (hs : St w b m l x d y) (hl : Nu w l L) :
    Calls Try.prog 46 #[.pointer (some ⟨b, 0, none⟩)] w fun e w' => e = .returned (.bool (decide (L = 0))) ∧ w' = w := by
  have C := vbits l L _ w hl (by decide)
  have h1 := hs.c1
  have hb : (((bl L : Nat) : Int) == 0) = decide (L = 0) := by
    by_cases h : L = 0
    · subst h; rfl
    · have := bl_pos L h
      rw [decide_eq_false h, beq_eq_false_iff_ne]
      omega
  generalize bl L = n at C hb
  generalize decide (L = 0) = o at hb
  clear hs hl
  go_enter Try.func46, Try.ntmps46
  go_wp2_with fail
  refine C.mono ?_
  rintro e w1 ⟨rfl, rfl⟩
  clear C
  go_wp2
  go_ret
  exact ⟨rfl, rfl⟩

set_option maxHeartbeats 2000000 in
theorem swap_v (b : Nat) (m l x d y : Value) (w : World) (hs : St w b m l x d y) (sl : Sl l) (sx : Sl x) (sd : Sl d) (sy : Sl y) :
    Calls Try.prog 67 #[.pointer (some ⟨b, 0, none⟩)] w fun e w' => e = .returned (.tuple #[]) ∧ St w' b m d y l x ∧ But w w' b ∧ w'.heap.size = w.heap.size := by
  obtain ⟨l0, l1, l2, rfl⟩ := sl
  obtain ⟨x0, x1, x2, rfl⟩ := sx
  obtain ⟨d0, d1, d2, rfl⟩ := sd
  obtain ⟨y0, y1, y2, rfl⟩ := sy
  have h1 := hs.c1
  have h2 := hs.c2
  have h3 := hs.c3
  have h4 := hs.c4
  have f1 := Cl.frozen hs 1
  have f2 := Cl.frozen hs 2
  have f3 := Cl.frozen hs 3
  have f4 := Cl.frozen hs 4
  have HS : Hid (St w b m (.slice l0 l1 l2) (.slice x0 x1 x2) (.slice d0 d1 d2) (.slice y0 y1 y2)) := hs
  clear hs
  go_enter Try.func67, Try.ntmps67
  go_wp2
  go_region
  go_wp2
  go_region
  go_wp2
  go_end0
  exact ⟨rfl, (((HS.out.set1 _).set3 _).set2 _).set4 _, ((((((But.refl w b).set _ _).set _ _).set _ _).set _ _).drewN 2), by simp⟩

end Go.Proofs.Ytecapoknnnoheaa
