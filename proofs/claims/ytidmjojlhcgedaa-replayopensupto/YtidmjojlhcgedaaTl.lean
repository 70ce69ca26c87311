import Derived.Test.YtidmjojlhcgedaaTk0
namespace Go.Proofs.Ytidmjojlhcgedaa
open Go.RowKit Go.Maps
set_option maxRecDepth 100000

/-- What begin answers. -/
def beginP (w : World) (e : Ending) (w' : World) : Except Nat Bk → Prop
  | .error _ => e = .returned (.tuple #[.pointer none, .pointer none, .bool true]) ∧ Below w.heap.size w w'
  | .ok b => ∃ bb mb gm, e = .returned (.tuple #[.pointer (some ⟨bb, 0, none⟩), .pointer (some ⟨gm, 0, none⟩), .bool true]) ∧ Bok w' bb mb b ∧ Mq w' w.heap.size gm b ∧ w.heap.size ≤ bb ∧ w.heap.size ≤ mb ∧ Below w.heap.size w w'
def beginR (l : List UInt8) : Except Nat Bk := if l = [] then .ok bk0 else openR l
theorem beginR_ok {l : List UInt8} {b : Bk} (h : beginR l = .ok b) : BkOk b := by
  unfold beginR at h
  split at h
  · cases h; exact bk0_ok
  · exact (img_open h).1
theorem Mq.base {w : World} {B0 B1 gm : Nat} {b : Bk} (h : Mq w B0 gm b) (hB : B1 ≤ B0) : Mq w B1 gm b := by
  obtain ⟨v, l, h1, h2⟩ := h
  exact ⟨v, l, ⟨h1.cells, h1.own.base hB, Nat.le_trans hB h1.low⟩, h2⟩

set_option maxHeartbeats 2000000 in
theorem begin_any (ao : Option Addr) (cap : Nat) (l : List UInt8) (w : World) (hr : Rd w ao l) (hcap : l.length ≤ cap) (hnil : ao = none → cap = 0) (hl : l.length ≤ 10000000) :
    Calls Try.prog 28 #[.slice ao l.length cap] w fun e w' => beginP w e w' (beginR l) := by
  by_cases h0 : l = []
  · subst h0
    show Calls _ _ _ _ fun e w' => beginP w e w' (.ok bk0)
    have q0 : ((([] : List UInt8).length : Int) == 0) = true := by simp
    clear hr hcap hnil hl
    go_enter Try.func28, Try.ntmps28
    go_wp2_with fail
    refine (new_any w).mono ?_
    rintro e w1 ⟨bb, mb, rfl, hB', hb', hbb, hmb⟩
    have hB1 : Hid (Bok w1 bb mb ⟨false, 0, []⟩) := hB'
    have hb1 : Hid (Below w.heap.size w w1) := hb'
    clear hB' hb'
    go_wp2_with fail
    refine (rnew_any w1).mono ?_
    rintro e w2 ⟨rfl, hM', hb2'⟩
    have hB2 : Hid (Bok w2 bb mb ⟨false, 0, []⟩) := hB1.out.below hb2' hB1.out.lt hB1.out.lt2
    have hM2 : Hid (Mq w2 w1.heap.size w1.heap.size bk0) := hM'
    have hb2 : Hid (Below w.heap.size w w2) := hb1.out.trans (hb2'.mono hb1.out.size)
    have hs1 : Hid (w.heap.size ≤ w1.heap.size) := hb1.out.size
    obtain ⟨gm, hgm⟩ : ∃ gm, w1.heap.size = gm := ⟨_, rfl⟩
    rw [hgm] at hM2 hs1
    rw [hgm]
    clear hM' hb2' hB1 hb1 hgm
    go_wp2_with fail
    go_ret3
    exact ⟨bb, mb, gm, rfl, hB2.out, hM2.out.base hs1.out, hbb, hmb, hb2.out⟩
  · rw [show beginR l = openR l from if_neg h0]
    have OC := open_any ao cap l w hr hcap hnil (by omega)
    have RC : Hid (∀ w', Below w.heap.size w w' → Calls Try.prog 24 #[.slice ao l.length cap] w' fun e w'' => ropenP w' e w'' (openR l)) := fun w' hb => ropen_any ao cap l w' (hr.below hb (Nat.le_refl _)) hcap hl
    have q0 : ((l.length : Int) == 0) = false := by
      have : l.length ≠ 0 := fun e => h0 (List.eq_nil_of_length_eq_zero e)
      simpa using h0
    clear hr hcap hnil hl h0
    generalize openR l = X at OC RC ⊢
    cases X with
    | error k =>
      go_enter Try.func28, Try.ntmps28
      go_wp2_with fail
      refine OC.mono ?_
      rintro e w1 ⟨rfl, hb'⟩
      have hb1 : Hid (Below w.heap.size w w1) := hb'
      clear hb' OC
      go_wp2_with fail
      refine (RC.out w1 hb1.out).mono ?_
      rintro e w2 ⟨rfl, hb'⟩
      have hb2 : Hid (Below w.heap.size w w2) := hb1.out.trans (hb'.mono hb1.out.size)
      clear hb' RC hb1
      go_wp2_with fail
      go_ret3
      exact ⟨rfl, hb2.out⟩
    | ok b =>
      go_enter Try.func28, Try.ntmps28
      go_wp2_with fail
      refine OC.mono ?_
      rintro e w1 ⟨bb, mb, rfl, hB', hbb, hmb, hb'⟩
      have hB1 : Hid (Bok w1 bb mb b) := hB'
      have hb1 : Hid (Below w.heap.size w w1) := hb'
      clear hB' hb' OC
      go_wp2_with fail
      refine (RC.out w1 hb1.out).mono ?_
      rintro e w2 ⟨gm, rfl, hM', hb'⟩
      have hB2 : Hid (Bok w2 bb mb b) := hB1.out.below hb' hB1.out.lt hB1.out.lt2
      have hM2 : Hid (Mq w2 w.heap.size gm b) := hM'.base hb1.out.size
      have hb2 : Hid (Below w.heap.size w w2) := hb1.out.trans (hb'.mono hb1.out.size)
      clear hM' hb' RC hb1 hB1
      go_wp2_with fail
      go_ret3
      exact ⟨bb, mb, gm, rfl, hB2.out, hM2.out, hbb, hmb, hb2.out⟩

end Go.Proofs.Ytidmjojlhcgedaa
