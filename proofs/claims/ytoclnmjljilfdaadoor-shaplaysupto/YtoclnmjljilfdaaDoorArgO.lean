import Derived.Test.YtoclnmjljilfdaaDoorArgP
import Derived.Test.YtoclnmjljilfdaaDoorPlayLaw
import Derived.Deep.Strs
namespace Go.Proofs.YtoclnmjljilfdaaDoor
open Go.ChangeShapes Go.WideShapes Go.ChangeAt Go.RowKit Go.Deep

instance : Inhabited Stp := ⟨⟨0, 0, ⟨none, 0, []⟩⟩⟩

theorem bounds_i64 {x : Int} (w : (Lit.int .i64 x).wf = true) : -9223372036854775808 ≤ x ∧ x ≤ 9223372036854775807 := by
  have h := w
  simp only [Lit.wf, Bool.and_eq_true, decide_eq_true_eq] at h
  rw [show IntKind.i64.min = -9223372036854775808 from by decide, show IntKind.i64.max = 9223372036854775807 from by decide] at h
  omega

/-- A step, by its cells. -/
theorem open_op {H : Type} {enc : TypeId × Value → H} {W : World} {held : Bool} {cs : List Value} {d : DataW H} {p : List MemPlace} {fuel : Nat}
    (hf : DataW.trod enc Tryd.prog W 0 (fun _ => true) held fuel 45 cs = some (d, p)) :
    ∃ s : Stp, cs = [.int .i64 s.k, .int .i64 s.i, prV s.p] ∧ (prOk W s.p ∧ (s.p.a = none → s.p.l.length = 0 ∧ s.p.c = 0) ∧ -9223372036854775808 ≤ s.i ∧ s.i ≤ 9223372036854775807) ∧ s.p.l.length + 1 ≤ Rows.uptoBulk d := by
  obtain ⟨y0, y1, y2, n, hx, hl, h0, h1, h2⟩ := trod_struct3 Tryd.underlying45 hf
  have hc : Tryd.prog.cellsOf 45 = 3 := by kernel_rfl
  rw [hc] at hl
  match cs, hl with
  | [c0, c1, c2], _ =>
    simp only [cellsI, cellsBs, List.drop_zero, List.drop_succ_cons, List.take_succ_cons, List.take_zero] at h0 h1 h2
    obtain ⟨k, e0, _, _⟩ := DataW.trod_int Tryd.underlying3 h0
    obtain ⟨i, e1, _, w1⟩ := DataW.trod_int Tryd.underlying3 h1
    obtain ⟨q, e2, hq, hn, hb⟩ := open_bytesC h2
    have hi := bounds_i64 w1
    simp only [List.cons.injEq, and_true] at e0 e1 e2
    refine ⟨⟨k, i, q⟩, by rw [e0, e1, e2], ⟨hq, hn, hi.1, hi.2⟩, ?_⟩
    simp only [Prod.mk.injEq] at hx
    rw [hx.1]
    simp only [Rows.uptoBulk, Rows.uptoBulkAll]
    show q.l.length + 1 ≤ _
    omega

theorem tot_cat (os : List Stp) : tot os os.length = (cat (os.map (·.p))).length := by
  unfold tot cat
  rw [List.take_length, List.length_flatMap, List.map_map]
  rfl

/-- A script that came in. -/
theorem open_ops {H : Type} {enc : TypeId × Value → H} {W : World} {held : Bool} {v : Value} {d : DataW H} {p : List MemPlace} {fuel : Nat} {a : Option Addr} {len cap : Nat} (hv : v = .slice a len cap)
    (hf : DataW.trod enc Tryd.prog W 0 (fun _ => true) held fuel 42 v.cells.toList = some (d, p)) :
    ∃ os : List Stp, os.length = len ∧ len ≤ cap ∧ cap ≤ Rows.uptoBulk d ∧ (Ops W a os ∧ tot os os.length + os.length ≤ Rows.uptoBulk d) := by
  subst hv
  have hc3 : Tryd.prog.cellsOf 45 = 3 := by kernel_rfl
  rcases open_slice Tryd.underlying42 hf with ⟨hcs, hx⟩ | ⟨x, len', cap', m, n, D, Pl, hcs, _, hl, hm, hmm, hx, hall⟩
  · simp [Value.cells] at hcs
    obtain ⟨rfl, rfl, rfl⟩ := hcs
    exact ⟨[], rfl, Nat.le_refl _, Nat.zero_le _, ⟨.inl rfl, fun p hp => by cases hp⟩, Nat.zero_le _⟩
  · simp [Value.cells] at hcs
    obtain ⟨rfl, rfl, rfl⟩ := hcs
    simp only [if_true] at hmm
    subst hmm
    simp only [Prod.mk.injEq] at hx
    have hz : ∀ i, i < m → ∃ s : Stp, (W.cell? (x.add (i * 3)) = some (.int .i64 s.k) ∧ W.cell? (x.add (i * 3 + 1)) = some (.int .i64 s.i) ∧ W.cell? (x.add (i * 3 + 2)) = some (prV s.p)) ∧ (prOk W s.p ∧ (s.p.a = none → s.p.l.length = 0 ∧ s.p.c = 0) ∧ -9223372036854775808 ≤ s.i ∧ s.i ≤ 9223372036854775807) ∧ s.p.l.length + 1 ≤ Rows.uptoBulk (D i) := fun i hi => by
      obtain ⟨cs, h1, h2⟩ := hall i hi
      obtain ⟨s, e, h3, h4⟩ := open_op h2
      rw [hc3] at h1
      obtain ⟨_, _, hcell⟩ := World.cells?_some h1
      rw [e] at hcell
      have c0 := hcell 0 (by omega)
      have c1 := hcell 1 (by omega)
      have c2 := hcell 2 (by omega)
      rw [add_add] at c0 c1 c2
      exact ⟨s, ⟨c0, c1, c2⟩, h3, h4⟩
    obtain ⟨Q, hQ⟩ := choose_lt (α := Stp) (p := fun i s => (W.cell? (x.add (i * 3)) = some (.int .i64 s.k) ∧ W.cell? (x.add (i * 3 + 1)) = some (.int .i64 s.i) ∧ W.cell? (x.add (i * 3 + 2)) = some (prV s.p)) ∧ (prOk W s.p ∧ (s.p.a = none → s.p.l.length = 0 ∧ s.p.c = 0) ∧ -9223372036854775808 ≤ s.i ∧ s.i ≤ 9223372036854775807) ∧ s.p.l.length + 1 ≤ Rows.uptoBulk (D i)) hz
    have hbk : m ≤ Rows.uptoBulk d := by
      rw [hx.1]
      refine Nat.le_trans ?_ (bulk_slice _ _)
      simp
      omega
    refine ⟨(List.range len).map Q, by simp, hl, hbk, ⟨?_, fun q hq => ?_⟩, ?_⟩
    · by_cases h0 : len = 0
      · subst h0; exact .inl (by simp)
      · obtain ⟨b, off, spot⟩ := x
        have hc := (hQ 0 (by omega)).1.1
        have hspot : spot = none := by simpa [Addr.add] using World.cell?_spot hc
        subst hspot
        refine .inr ⟨b, off, rfl, fun j hj => ?_⟩
        have hj' : j < len := by simpa using hj
        obtain ⟨c0, c1, c2⟩ := (hQ j (by omega)).1
        rw [Addr.add_lit] at c0 c1 c2
        simp only [List.getElem_map, List.getElem_range]
        exact ⟨c0, by rw [Nat.add_assoc]; exact c1, by rw [Nat.add_assoc]; exact c2⟩
    · obtain ⟨i, hi, rfl⟩ := List.mem_map.1 hq
      have := List.mem_range.1 hi
      exact (hQ i (by omega)).2.1
    · rw [tot_cat]
      have h1 := bulk_ge (((List.range len).map Q).map (·.p)) ((List.range len).map D) (by simp) (fun i h h2 => by
        have hi : i < len := by simpa using h
        simp only [List.getElem_map, List.getElem_range]
        exact (hQ i (by omega)).2.2)
      rw [hx.1]
      simp only [Rows.uptoBulk]
      simp only [List.length_map, List.length_range] at h1 ⊢
      omega

set_option maxRecDepth 100000 in
set_option maxHeartbeats 1000000 in
theorem plays_none (h : Int) (sa : Option Addr) (n sc : Nat) (w : World) (hh : ¬ isH h) :
    Calls Tryd.prog 6 #[.int .i64 h, .slice sa n sc] w fun e w' => e = .returned (.bool true) ∧ Below w.heap.size w w' := by
  have CS := fun w => rsize_any h w
  rw [(siz_not hh []).1] at CS
  go_enter Tryd.func6, Tryd.ntmps6
  go_wp2_with fail
  refine (new_none h w hh).mono ?_
  rintro e w1 ⟨rfl, hb1⟩
  have HB1 : Hid (Below w.heap.size w w1) := hb1
  clear hb1
  go_wp2_with fail
  refine (CS w1).mono ?_
  rintro e w2 ⟨rfl, hw2⟩
  subst w2
  go_wp2_with fail
  refine (CS w1).mono ?_
  rintro e w2 ⟨rfl, hw2⟩
  subst w2
  go_wp2
  go_ret
  exact ⟨rfl, HB1.out⟩

theorem plays_any (h : Int) (sa : Option Addr) (sc : Nat) (os : List Stp) (w : World) (T : Tb w) (R : Rt w) (ho : Ops w sa os) (hn : os.length ≤ 1048576) (hm : tot os os.length ≤ 1048576) :
    Calls Tryd.prog 6 #[.int .i64 h, .slice sa os.length sc] w fun e w' => e = .returned (.bool true) ∧ Below w.heap.size w w' := by
  by_cases hh : isH h
  · exact plays_core h sa sc os w T R ho hn hm hh
  · exact plays_none h sa _ sc w hh

end Go.Proofs.YtoclnmjljilfdaaDoor
