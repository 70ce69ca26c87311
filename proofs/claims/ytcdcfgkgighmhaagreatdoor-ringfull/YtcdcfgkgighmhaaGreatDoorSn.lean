import Derived.Test.YtcdcfgkgighmhaaGreatDoorSm
namespace Go.Proofs.YtcdcfgkgighmhaaGreatDoor
open Go.RowKit Go.Shelf

theorem parseF_large {t : List UInt8} (h : 262144 < t.length) : parseF t = ([], 10, 0) := by unfold parseF; rw [if_pos h]
theorem parseF_bad {t : List UInt8} {c p : Nat} (h : ¬ 262144 < t.length) (e : runF t (t.length + 1) start = .bad c p) : parseF t = ([], c, p) := by unfold parseF; rw [if_neg h, e]
theorem parseF_go {t : List UInt8} {s : JS} (h : ¬ 262144 < t.length) (e : runF t (t.length + 1) start = .go s) : parseF t = (s.nodes, 0, 0) := by unfold parseF; rw [if_neg h, e]

/-- A list of nodes of one's own. -/
def NO (B : Nat) (w : World) (v : Value) (l : List Nd) : Prop := w.ownsRow B 59 6 v l.length (nCs l)

set_option maxRecDepth 100000 in
set_option maxHeartbeats 8000000 in
theorem parse_any (t : List UInt8) (w : World) (hG : GL w.heap.size w) (ht : t.length ≤ 1000000000) :
    Calls Tryz.prog 20 #[.string ⟨t.toArray⟩] w fun e w' => Below w.heap.size w w' ∧ ∃ v, e = .returned (.tuple #[v, .int .i64 ((parseF t).2.1 : Int), .int .i64 ((parseF t).2.2 : Int)]) ∧ NO w.heap.size w' v (parseF t).1 := by
  by_cases hl : 262144 < t.length
  · have HP : Hid (parseF t = ([], 10, 0)) := parseF_large hl
    have hlb : decide ((t.length : Int) > 262144) = true := decide_eq_true (by omega)
    clear hl hG
    go_enter Tryz.func20, Tryz.ntmps20
    go_wp2
    go_ret3
    rw [HP.out]
    exact ⟨Below.refl _ _, _, rfl, World.ownsRow_nil _ _ _ _⟩
  · have hlb : decide ((t.length : Int) > 262144) = false := decide_eq_false (by omega)
    have hmm := @run_makeMap Tryz.prog
    have HPb : Hid (∀ c p, runF t (t.length + 1) start = .bad c p → parseF t = ([], c, p)) := fun c p => parseF_bad hl
    have HPg : Hid (∀ s, runF t (t.length + 1) start = .go s → parseF t = (s.nodes, 0, 0)) := fun s => parseF_go hl
    have ht2 : t.length ≤ 262144 := by omega
    have hsz1 : (w.alloc (Obj.map #[] 0)).heap.size = w.heap.size + 1 := alloc_size _ _
    have hB1 : Below w.heap.size w (w.alloc (Obj.map #[] 0)) := alloc_below _ _
    have hB2 : Below w.heap.size w ((w.alloc (Obj.map #[] 0)).alloc (Obj.cells #[Value.string { data := t.toArray }, Value.int IntKind.i64 0, Value.int IntKind.i64 1, Value.slice none 0 0, Value.slice none 0 0, Value.string { data := #[] }, Value.map (some w.heap.size), Value.int IntKind.i64 0, Value.int IntKind.i64 0] 75)) := hB1.trans ((alloc_below _ _).mono (by omega))
    have hM1 : (w.alloc (Obj.map #[] 0)).heap[w.heap.size]? = some (.map #[] 0) := by unfold World.alloc; simp
    have hM2 : ((w.alloc (Obj.map #[] 0)).alloc (Obj.cells #[Value.string { data := t.toArray }, Value.int IntKind.i64 0, Value.int IntKind.i64 1, Value.slice none 0 0, Value.slice none 0 0, Value.string { data := #[] }, Value.map (some w.heap.size), Value.int IntKind.i64 0, Value.int IntKind.i64 0] 75)).heap[w.heap.size]? = some (.map #[] 0) := by rw [(alloc_below _ _).block _ (by omega)]; exact hM1
    have hRB : RB ((w.alloc (Obj.map #[] 0)).alloc (Obj.cells #[Value.string { data := t.toArray }, Value.int IntKind.i64 0, Value.int IntKind.i64 1, Value.slice none 0 0, Value.slice none 0 0, Value.string { data := #[] }, Value.map (some w.heap.size), Value.int IntKind.i64 0, Value.int IntKind.i64 0] 75)) (w.heap.size + 1) t 0 ⟨.int .i64 (1 : Nat), .slice none 0 0, .slice none 0 0, .string ⟨#[]⟩, .map (some w.heap.size)⟩ 0 0 := by
      have := alloc_bl (w.alloc (Obj.map #[] 0)) [Value.string { data := t.toArray }, Value.int IntKind.i64 0, Value.int IntKind.i64 1, Value.slice none 0 0, Value.slice none 0 0, Value.string { data := #[] }, Value.map (some w.heap.size), Value.int IntKind.i64 0, Value.int IntKind.i64 0] 75
      rw [hsz1] at this
      exact this
    have hRS : RS w.heap.size ((w.alloc (Obj.map #[] 0)).alloc (Obj.cells #[Value.string { data := t.toArray }, Value.int IntKind.i64 0, Value.int IntKind.i64 1, Value.slice none 0 0, Value.slice none 0 0, Value.string { data := #[] }, Value.map (some w.heap.size), Value.int IntKind.i64 0, Value.int IntKind.i64 0] 75)) (w.heap.size + 1) t start (.slice none 0 0) (.slice none 0 0) w.heap.size 0 0 := by
      refine ⟨by omega, Nat.le_refl _, hB2.size, hRB, World.ownsRow_nil _ _ _ _, World.ownsRow_nil _ _ _ _, ⟨#[], 0, hM2, rfl, ?_, ?_, ?_⟩⟩
      · intro e he; simp at he
      · intro e he; simp at he
      · simp
    have C := read_any (t.length + 1) hRS (hG.below hB2) start_ok (Nat.zero_le _) (by omega) (show t.length < t.length + 1 + 0 by omega)
    have HB2 : Hid (Below w.heap.size w ((w.alloc (Obj.map #[] 0)).alloc (Obj.cells #[Value.string { data := t.toArray }, Value.int IntKind.i64 0, Value.int IntKind.i64 1, Value.slice none 0 0, Value.slice none 0 0, Value.string { data := #[] }, Value.map (some w.heap.size), Value.int IntKind.i64 0, Value.int IntKind.i64 0] 75))) := hB2
    clear hB1 hB2 hM1 hM2 hRB hRS hG hl hsz1
    go_enter Tryz.func20, Tryz.ntmps20
    go_wp2_with fail
    refine C.mono ?_
    clear C
    rintro e w1 ⟨hB3, h1, h2⟩
    have HB3 : Hid (Below w.heap.size w w1) := HB2.out.trans hB3
    clear hB3
    cases hrun : runF t (t.length + 1) start with
    | bad c p =>
      have HP := HPb.out c p hrun
      obtain ⟨rfl, hbd⟩ := h2 c p hrun
      have HP' : Hid (parseF t = ([], c, p)) := HP
      have d7 := hbd.1
      have d8 := hbd.2
      clear HP h1 h2 hrun HPb HPg hbd
      go_wp2
      go_quiet (fail)
      go_wp2
      go_ret3
      rw [HP'.out]
      exact ⟨below_drewN HB3.out _, _, rfl, World.ownsRow_nil _ _ _ _⟩
    | go s =>
      have HP := HPg.out s hrun
      obtain ⟨rfl, nv, ov, hRS⟩ := h1 s hrun
      have HP' : Hid (parseF t = (s.nodes, 0, 0)) := HP
      have d3 := hRS.rb.c3
      simp only at d3
      have HN : Hid (NO w.heap.size w1 nv s.nodes) := hRS.nod
      clear HP h1 h2 hrun HPb HPg hRS
      go_wp2
      go_ret3
      rw [HP'.out]
      exact ⟨HB3.out, _, rfl, HN.out⟩

end Go.Proofs.YtcdcfgkgighmhaaGreatDoor
