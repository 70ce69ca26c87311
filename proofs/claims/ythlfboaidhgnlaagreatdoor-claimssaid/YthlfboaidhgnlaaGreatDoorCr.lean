import Derived.Test.YthlfboaidhgnlaaGreatDoorCb
import Derived.Test.YthlfboaidhgnlaaGreatDoorCt
import Derived.Test.YthlfboaidhgnlaaGreatDoorCn
import Derived.Test.YthlfboaidhgnlaaGreatDoorTZ
namespace Go.Proofs.YthlfboaidhgnlaaGreatDoor
open Go.RowKit

theorem kids_len {v : List Nd} {a : Int} : (kidsF v a).length ≤ v.length := by
  unfold kidsF
  split
  · rename_i h
    have := kidsF_len (v := v) (v.length + 1) (a.toNat + 1) (v.getD a.toNat (nd0 0)).kids (by omega)
    omega
  · simp
theorem allT_drop {v : List Nd} {L : List Nat} {j : Nat} (hj : j < L.length) : allT v (L.drop j) = (decide ((v.getD (L.getD j 0) (nd0 0)).kind = 5) && allT v (L.drop (j + 1))) := by
  have e : L.getD j 0 = L[j] := by rw [List.getD_eq_getElem?_getD, List.getElem?_eq_getElem hj]; rfl
  rw [e, List.drop_eq_getElem_cons hj]
  rfl

set_option maxRecDepth 100000 in
set_option maxHeartbeats 8000000 in
theorem allTexts_any (l : List Nd) (ao : Option Addr) (cap : Nat) (k : Int) (w : World) (h : NR w (.slice ao l.length cap) l ao cap) (hl : l.length ≤ 1000000000) :
    Calls Tryz.prog 47 #[.slice ao l.length cap, .int .i64 k] w fun e w' => e = .returned (.bool (allT l (kidsF l k))) ∧ Below w.heap.size w w' := by
  have CK := kids_any _ l ao cap k w h hl
  have HLT : Hid (∀ i ∈ kidsF l k, i < l.length) := kidsF_lt
  have hlen : (kidsF l k).length ≤ 1000000000 := Nat.le_trans kids_len hl
  have HN : Hid (NR w (.slice ao l.length cap) l ao cap) := h
  generalize kidsF l k = L at *
  clear h
  go_enter Tryz.func47, Tryz.ntmps47
  go_wp2_with fail
  refine CK.mono ?_
  clear CK
  rintro e w1 ⟨r, rfl, hoi⟩
  obtain ⟨ka, kc, rfl, hkc, hkat⟩ := hoi.at
  have HAT : Hid (∀ j, j < L.length → ∃ g, ka = some ⟨g, 0, none⟩ ∧ w1.cell? ⟨g, j, none⟩ = some (iV (L.getD j 0))) := hkat
  have HB : Hid (Below w.heap.size w w1) := hoi.bel
  have HN1 : Hid (NR w1 (.slice ao l.length cap) l ao cap) := HN.out.below hoi.bel (Nat.le_refl _)
  clear hoi hkat HN
  go_wp2
  go_loopw [11] (fun s11 wx => ∃ j : Nat, s11 = .int .i64 j ∧ j ≤ L.length ∧ wx = w1 ∧ allT l (L.drop j) = allT l L) (fun x _ => L.length - (intOf x).toNat)
  case atStart => exact ⟨0, rfl, Nat.zero_le _, rfl, rfl⟩
  case round =>
    obtain ⟨j, rfl, hj, rfl, hd⟩ := hrel
    have HD : Hid (allT l (L.drop j) = allT l L) := hd
    clear hd
    by_cases hjl : j < L.length
    · have q0 : decide ((j : Int) < (L.length : Int)) = true := by simp; omega
      obtain ⟨kg, rfl, ckj⟩ := HAT.out j hjl
      have hkl : L.getD j 0 < l.length := HLT.out _ (by rw [List.getD_eq_getElem?_getD, List.getElem?_eq_getElem hjl]; exact List.getElem_mem hjl)
      have hr2 := HD.out
      rw [allT_drop hjl] at hr2
      generalize L.getD j 0 = i at *
      obtain ⟨g, off, rfl, hc2⟩ := HN1.out.at hkl
      obtain ⟨n, hn⟩ : ∃ n, l.getD i (nd0 0) = n := ⟨_, rfl⟩
      rw [hn] at hc2 hr2
      have ck0 := hc2 0 (.int .i64 n.kind) (by omega) rfl
      rw [Nat.add_zero] at ck0
      unfold iV at ckj
      by_cases h5 : n.kind = 5
      · have q5 : (n.kind != 5) = false := by simpa using h5
        have HD2 : Hid (allT l (L.drop (j + 1)) = allT l L) := by show _ = _; rw [← hr2, decide_eq_true h5]; rfl
        clear HD hr2 hc2 hn h5
        go_wp2
        go_roundw
        case rel => exact ⟨j + 1, by go_num, by omega, trivial, HD2.out⟩
        case measure => simp [intOf]; omega
      · have q5 : (n.kind != 5) = true := by simpa using h5
        have HF : Hid (allT l L = false) := by show _ = _; rw [← hr2, decide_eq_false h5]; rfl
        clear HD hr2 hc2 hn h5
        go_wp2
        go_ret
        rw [HF.out]
        exact ⟨rfl, HB.out⟩
    · have q0 : decide ((j : Int) < (L.length : Int)) = false := by simp; omega
      have HF : Hid (allT l L = true) := by show _ = _; rw [← HD.out, List.drop_eq_nil_of_le (by omega)]; rfl
      clear HD
      go_wp2
      go_ret
      rw [HF.out]
      exact ⟨rfl, HB.out⟩

set_option maxRecDepth 100000 in
set_option maxHeartbeats 8000000 in
theorem text_any (l : List Nd) (ao : Option Addr) (cap : Nat) (k : List UInt8) (w : World) (h : NR w (.slice ao l.length cap) l ao cap) (hl : l.length ≤ 1000000000) :
    Calls Tryz.prog 48 #[.slice ao l.length cap, .string ⟨k.toArray⟩] w fun e w' => e = .returned (.tuple #[.string ⟨(txF l k).1.toArray⟩, .bool (txF l k).2]) ∧ Below w.heap.size w w' := by
  have CM := member_any _ l ao cap 0 k w h hl
  have HN : Hid (NR w (.slice ao l.length cap) l ao cap) := h
  have HI := mem_in l k
  have HF : Hid (txF l k = if memF l 0 k < 0 then ([], false) else ((l.getD (memF l 0 k).toNat (nd0 0)).text, true)) := rfl
  have hlt : ∀ i ∈ kidsF l 0, i < l.length := kidsF_lt
  rcases HI with e | ⟨i, hi, e, _⟩
  · rw [e] at HF CM
    clear h hlt e
    go_enter Tryz.func48, Tryz.ntmps48
    go_wp2_with fail
    refine CM.mono ?_
    clear CM
    rintro e w1 ⟨rfl, hB⟩
    have HB : Hid (Below w.heap.size w w1) := hB
    clear hB HN
    go_wp2
    go_ret2
    rw [HF.out]
    exact ⟨rfl, HB.out⟩
  · have hil := hlt i hi
    rw [e] at HF CM
    rw [Int.toNat_natCast] at HF
    have HF2 : Hid (txF l k = ((l.getD i (nd0 0)).text, true)) := by show _ = _; rw [HF.out]; exact if_neg (by omega)
    clear h hlt e hi HF
    have q0 : decide ((i : Int) < 0) = false := decide_eq_false (by omega)
    go_enter Tryz.func48, Tryz.ntmps48
    go_wp2_with fail
    refine CM.mono ?_
    clear CM
    rintro e w1 ⟨rfl, hB⟩
    have HB : Hid (Below w.heap.size w w1) := hB
    obtain ⟨g, off, rfl, hc2⟩ := (HN.out.below hB (Nat.le_refl _)).at hil
    obtain ⟨n, hn⟩ : ∃ n, l.getD i (nd0 0) = n := ⟨_, rfl⟩
    rw [hn] at hc2 HF2
    have ck2 := hc2 2 (.string ⟨n.text.toArray⟩) (by omega) rfl
    clear hB HN hc2 hn
    go_wp2
    go_ret2
    rw [HF2.out]
    exact ⟨rfl, HB.out⟩

def tmC (t : Tm) : List Value := [.bool t.has, .int .i64 t.at_]
def tmV (t : Tm) : Value := .agg #[.bool t.has, .int .i64 t.at_]
theorem results_tm {fn : Func} {p : Tmp} (h : fn.results = #[.cell p 25]) (tmps : Array Value) (w : World) (b : Nat) (t : Tm) (hp : tmps.getD p undef = .pointer (some ⟨b, 0, none⟩)) (hb : Bl 25 w b (tmC t)) :
    (results fn tmps).run Tryz.prog w = .ok (tmV t) w := by
  have hr : (loadVar 25 ⟨b, 0, none⟩).run Tryz.prog w = .ok (tmV t) w := by
    refine run_loadVar_mid w b 0 25 (tmC t) _ ?_ Tryz.underlying25 rfl (by kernel_rfl)
    intro j v hv
    obtain ⟨hj, e⟩ := List.getElem?_eq_some_iff.1 hv
    rw [Nat.zero_add, ← e]
    exact hb.cell j hj
  rw [results_cell h, hp]
  unfold asAddr
  simp only [Sem.run_pure, Result.andThen_ok]
  exact hr
set_option maxRecDepth 100000 in
set_option maxHeartbeats 8000000 in
theorem moment_any (l : List Nd) (ao : Option Addr) (cap : Nat) (k : List UInt8) (w : World) (h : NR w (.slice ao l.length cap) l ao cap) (hl : l.length ≤ 1000000000) :
    Calls Tryz.prog 50 #[.slice ao l.length cap, .string ⟨k.toArray⟩] w fun e w' => e = .returned (tmV (moF l k)) ∧ Below w.heap.size w w' := by
  obtain ⟨w0, hw0⟩ : ∃ w0 : World, w.alloc (.cells (tmC tm0).toArray 25) = w0 := ⟨_, rfl⟩
  have hB0 : Below w.heap.size w w0 := by rw [← hw0]; exact alloc_below _ _
  have HBl : Hid (Bl 25 w0 w.heap.size (tmC tm0)) := by rw [← hw0]; exact alloc_bl _ _ _
  have HB0 : Hid (Below w.heap.size w w0) := hB0
  have HW0 : Hid (w.alloc (.cells #[.bool false, .int .i64 0] 25) = w0) := hw0
  have CM := member_any _ l ao cap 0 k w0 (h.below hB0 (Nat.le_refl _)) hl
  have HN : Hid (NR w0 (.slice ao l.length cap) l ao cap) := h.below hB0 (Nat.le_refl _)
  have HI := mem_in l k
  have HF : Hid (moF l k = if memF l 0 k < 0 then tm0 else ⟨true, (l.getD (memF l 0 k).toNat (nd0 0)).int⟩) := rfl
  have hlt : ∀ i ∈ kidsF l 0, i < l.length := kidsF_lt
  have hgi : (Tryz.prog.info? 25).map (·.size) = some 2 := by kernel_rfl
  rcases HI with e | ⟨i, hi, e, _⟩
  · rw [e] at HF CM
    have HF2 : Hid (moF l k = tm0) := by show _ = _; rw [HF.out]; exact if_pos (by decide)
    clear h hlt e hB0 hw0 HF
    go_enter Tryz.func50, Tryz.ntmps50
    go_wp2_with fail
    rw [HW0.out]
    clear HW0
    refine CM.mono ?_
    clear CM
    rintro e w1 ⟨rfl, hB⟩
    have HB : Hid (Below w.heap.size w w1) := HB0.out.trans (hB.mono HB0.out.size)
    have HBox : Hid (Bl 25 w1 w.heap.size (tmC tm0)) := HBl.out.below hB HBl.out.lt
    clear hB HN HB0 HBl
    obtain ⟨wz, hwz⟩ : ∃ wz, w1.setRow w.heap.size (tmC tm0).toArray = wz := ⟨_, rfl⟩
    have HBz : Hid (Bl 25 wz w.heap.size (tmC tm0)) := by rw [← hwz]; exact set_bl2 HBox.out
    have Hz : Hid (Below w.heap.size w wz) := by rw [← hwz]; exact setRow_below2 _ HB.out (Nat.le_refl _)
    have HWz : Hid (w1.setRow w.heap.size (tmC tm0).toArray = wz) := hwz
    clear hwz
    go_wp2_with (refine wpList_store_row rfl 25 (.tmp 4) (.tmp 11) rfl w.heap.size (tmC tm0).toArray rfl rfl 25 (tmC tm0).toArray HBox.out hgi rfl (by simp [tmC, tm0, Value.oneCell']) ?_; rw [HWz.out]; clear HWz hgi)
    (try simp only [Exit.inBlock, Exit.then])
    refine bodyPost_ret (v := tmV tm0) (results_tm rfl _ _ w.heap.size tm0 rfl HBz.out) rfl ⟨?_, Hz.out⟩
    rw [HF2.out]
  · have hil := hlt i hi
    rw [e] at HF CM
    rw [Int.toNat_natCast] at HF
    have HF2 : Hid (moF l k = ⟨true, (l.getD i (nd0 0)).int⟩) := by show _ = _; rw [HF.out]; exact if_neg (by omega)
    have q0 : decide ((i : Int) < 0) = false := decide_eq_false (by omega)
    clear h hlt e hi hB0 hw0 HF
    go_enter Tryz.func50, Tryz.ntmps50
    go_wp2_with fail
    rw [HW0.out]
    clear HW0
    refine CM.mono ?_
    clear CM
    rintro e w1 ⟨rfl, hB⟩
    have HB : Hid (Below w.heap.size w w1) := HB0.out.trans (hB.mono HB0.out.size)
    have HBox : Hid (Bl 25 w1 w.heap.size (tmC tm0)) := HBl.out.below hB HBl.out.lt
    obtain ⟨g, off, rfl, hc2⟩ := (HN.out.below hB (Nat.le_refl _)).at hil
    obtain ⟨n, hn⟩ : ∃ n, l.getD i (nd0 0) = n := ⟨_, rfl⟩
    rw [hn] at hc2 HF2
    have ck4 := hc2 4 (.int .i64 n.int) (by omega) rfl
    clear hB HN HB0 HBl hc2 hn
    obtain ⟨wz, hwz⟩ : ∃ wz, w1.setRow w.heap.size (tmC ⟨true, n.int⟩).toArray = wz := ⟨_, rfl⟩
    have HBz : Hid (Bl 25 wz w.heap.size (tmC ⟨true, n.int⟩)) := by rw [← hwz]; exact set_bl2 HBox.out
    have Hz : Hid (Below w.heap.size w wz) := by rw [← hwz]; exact setRow_below2 _ HB.out (Nat.le_refl _)
    have HWz : Hid (w1.setRow w.heap.size (tmC ⟨true, n.int⟩).toArray = wz) := hwz
    clear hwz
    go_wp2_with (refine wpList_store_row rfl 25 (.tmp 4) (.tmp 17) rfl w.heap.size (tmC ⟨true, n.int⟩).toArray rfl rfl 25 (tmC tm0).toArray HBox.out hgi rfl (by simp [tmC, Value.oneCell']) ?_; rw [HWz.out]; clear HWz hgi)
    (try simp only [Exit.inBlock, Exit.then])
    refine bodyPost_ret (v := tmV ⟨true, n.int⟩) (results_tm rfl _ _ w.heap.size ⟨true, n.int⟩ rfl HBz.out) rfl ⟨?_, Hz.out⟩
    rw [HF2.out]

end Go.Proofs.YthlfboaidhgnlaaGreatDoor
