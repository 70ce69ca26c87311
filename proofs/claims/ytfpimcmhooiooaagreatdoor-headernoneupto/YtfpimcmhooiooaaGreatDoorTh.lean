import Derived.Test.YtfpimcmhooiooaaGreatDoorTg
namespace Go.Proofs.YtfpimcmhooiooaaGreatDoor
open Go.RowKit Go.Shelf

set_option maxRecDepth 100000 in
set_option maxHeartbeats 4000000 in
theorem shaped_any (v : Value) (l : List Nd) (ao : Option Addr) (cap : Nat) (w : World) (h : NR w v l ao cap) (hG : GL w.heap.size w) (ht : TB l) (hl : l.length ≤ 1000000000) :
    Calls Tryz.prog 32 #[v] w fun e w' => e = .returned (.bool (shapedF l)) ∧ Below w.heap.size w w' := by
  obtain ⟨rfl, hc, _⟩ := id h
  have hmm := @run_makeMap Tryz.prog
  have hsz1 : (w.alloc (Obj.map #[] 0)).heap.size = w.heap.size + 1 := alloc_size _ _
  have hB1 : Below w.heap.size w (w.alloc (Obj.map #[] 0)) := alloc_below _ _
  have hB2 : Below w.heap.size w ((w.alloc (Obj.map #[] 0)).alloc (Obj.cells #[.slice ao l.length cap, .map (some w.heap.size)] 92)) := hB1.trans ((alloc_below _ _).mono (by omega))
  have hM1 : (w.alloc (Obj.map #[] 0)).heap[w.heap.size]? = some (.map #[] 0) := by unfold World.alloc; simp
  have hM2 : ((w.alloc (Obj.map #[] 0)).alloc (Obj.cells #[.slice ao l.length cap, .map (some w.heap.size)] 92)).heap[w.heap.size]? = some (.map #[] 0) := by rw [(alloc_below _ _).block _ (by omega)]; exact hM1
  have hMp : Mp ((w.alloc (Obj.map #[] 0)).alloc (Obj.cells #[.slice ao l.length cap, .map (some w.heap.size)] 92)) w.heap.size [] := ⟨#[], 0, hM2, rfl, fun e he => by simp at he, fun e he => by simp at he, by simp⟩
  have C := shape_all w.heap.size l ao cap w.heap.size ht hl (Nat.le_refl _) 32 _ 0 (-1) 0 [] (h.below hB2 (Nat.le_refl _)) hMp (hG.below hB2) hB2.size (Nat.zero_le _) (.inl rfl) (by omega) (Int.le_refl _)
  have HB2 : Hid (Below w.heap.size w ((w.alloc (Obj.map #[] 0)).alloc (Obj.cells #[.slice ao l.length cap, .map (some w.heap.size)] 92))) := hB2
  have HF : Hid (∀ j m, svF l 33 0 (-1) 0 [] = some (j, m) → shapedF l = decide (j = l.length)) := fun j m e => by unfold shapedF; rw [e]
  have HN : Hid (svF l 33 0 (-1) 0 [] = none → shapedF l = false) := fun e => by unfold shapedF; rw [e]
  clear hB1 hB2 hM1 hM2 hMp hG h hsz1
  cases hsv : svF l 33 0 (-1) 0 [] with
  | none =>
    rw [hsv] at C
    have HZ : Hid (shapedF l = false) := HN.out hsv
    clear hsv HF HN
    have hq : ((-1 : Int) == (l.length : Int)) = false := by
      have : (-1 : Int) ≠ (l.length : Int) := by omega
      simp
    go_enter Tryz.func32, Tryz.ntmps32
    go_wp2_with fail
    refine C.mono ?_
    rintro e w2 ⟨hB2, _, h2⟩
    obtain rfl := h2 trivial
    have HB3 : Hid (Below w.heap.size w w2) := HB2.out.trans (hB2.below HB2.out.size (Nat.le_refl _))
    clear hB2 h2
    go_wp2
    go_ret
    rw [HZ.out]
    exact ⟨rfl, HB3.out⟩
  | some jm =>
    obtain ⟨j, m⟩ := jm
    rw [hsv] at C
    have HZ : Hid (shapedF l = decide (j = l.length)) := HF.out j m hsv
    clear hsv HF HN
    go_enter Tryz.func32, Tryz.ntmps32
    go_wp2_with fail
    refine C.mono ?_
    rintro e w2 ⟨hB2, h2, _⟩
    obtain ⟨rfl, _⟩ := h2 j m rfl
    have HB3 : Hid (Below w.heap.size w w2) := HB2.out.trans (hB2.below HB2.out.size (Nat.le_refl _))
    clear hB2 h2
    go_wp2
    go_ret
    rw [HZ.out]
    refine ⟨?_, HB3.out⟩
    by_cases hj : j = l.length
    · simp [hj]
    · have : ¬ ((j : Int) = (l.length : Int)) := by omega
      simp [hj, this]

end Go.Proofs.YtfpimcmhooiooaaGreatDoor
