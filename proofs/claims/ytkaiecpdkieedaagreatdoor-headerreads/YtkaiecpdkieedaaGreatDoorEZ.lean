import Derived.Test.YtkaiecpdkieedaaGreatDoorDX
import Derived.Test.YtkaiecpdkieedaaGreatDoorHZ
import Derived.Test.YtkaiecpdkieedaaGreatDoorKZ
import Derived.Test.YtkaiecpdkieedaaGreatDoorLZ
namespace Go.Proofs.YtkaiecpdkieedaaGreatDoor
open Go.RowKit Go.Shelf

/-- How many of the members have a name. -/
def cntL (v : List Nd) (key : List UInt8) : List Nat → Nat
  | [] => 0
  | k :: r => (if (v.getD k (nd0 0)).key = key then 1 else 0) + cntL v key r
theorem cntL_le (v : List Nd) (key : List UInt8) : ∀ L, cntL v key L ≤ L.length
  | [] => Nat.le_refl _
  | k :: r => by
    unfold cntL
    have := cntL_le v key r
    simp only [List.length_cons]
    split <;> omega
theorem cntL_cons {v : List Nd} {key : List UInt8} {L : List Nat} {j : Nat} (h : j < L.length) : cntL v key (L.drop j) = (if (v.getD (L.getD j 0) (nd0 0)).key = key then 1 else 0) + cntL v key (L.drop (j + 1)) := by
  rw [List.drop_eq_getElem_cons h]
  conv => lhs; unfold cntL
  simp [List.getD_eq_getElem?_getD, h]

set_option maxRecDepth 100000 in
set_option maxHeartbeats 4000000 in
/-- The document's count. -/
theorem rcount_any (l : List Nd) (ao : Option Addr) (cap : Nat) (key : List UInt8) (w : World) (h : NR w (.slice ao l.length cap) l ao cap) (hl : l.length ≤ 262144) (hA : ∀ i, i < l.length → At l i) (h0 : 0 < l.length) :
    Calls Tryz.prog 10 #[.slice ao l.length cap, .string ⟨key.toArray⟩] w fun e w' => e = .returned (.int .i64 (cntL l key (kidsF l 0) : Nat)) ∧ Below w.heap.size w w' := by
  obtain ⟨_, hc, _⟩ := id h
  have CK : Calls Tryz.prog 9 #[.slice ao l.length cap, .int .i64 0] w fun e w' => ∃ r, e = .returned r ∧ OI w.heap.size w w' r (kidsF l 0) := rkids_any l ao cap 0 w h hl hA h0
  have HN : Hid (NR w (.slice ao l.length cap) l ao cap) := h
  have HLT : Hid (∀ k ∈ kidsF l 0, k < l.length) := kidsF_lt
  have hlen : (kidsF l 0).length ≤ 262144 := by
    unfold kidsF
    rw [if_pos ⟨by omega, by omega⟩]
    have := kidsF_len (v := l) (l.length + 1) ((0 : Int).toNat + 1) (l.getD (0 : Int).toNat (nd0 0)).kids (by simp; omega)
    omega
  obtain ⟨g, off, rfl, _⟩ := h.at h0
  generalize kidsF l 0 = L at *
  have hM := cntL_le l key L
  obtain ⟨M, hMe⟩ : ∃ M, cntL l key L = M := ⟨_, rfl⟩
  have HF : Hid (cntL l key L = M) := hMe
  rw [hMe] at hM ⊢
  clear h hA hMe
  go_enter Tryz.func10, Tryz.ntmps10
  go_wp2_with fail
  refine CK.mono ?_
  clear CK
  rintro e w2 ⟨r, rfl, hoi⟩
  obtain ⟨ka, kc, rfl, hkc, hkat⟩ := hoi.at
  have HO : Hid (OI w.heap.size w w2 (.slice ka L.length kc) L) := hoi
  have HAT : Hid (∀ j, j < L.length → ∃ g, ka = some ⟨g, 0, none⟩ ∧ w2.cell? ⟨g, j, none⟩ = some (iV (L.getD j 0))) := hkat
  have HN2 : Hid (NR w2 (.slice (some ⟨g, off, none⟩) l.length cap) l (some ⟨g, off, none⟩) cap) := HN.out.below hoi.bel (Nat.le_refl _)
  clear hoi hkat
  go_wp2
  go_loop [5, 7] (fun s5 s7 => ∃ m j : Nat, s5 = .int .i64 m ∧ s7 = .int .i64 j ∧ j ≤ L.length ∧ m ≤ j ∧ m + cntL l key (L.drop j) = M) (fun _ s => L.length - (intOf s).toNat)
  case atStart => exact ⟨0, 0, rfl, rfl, Nat.zero_le _, Nat.le_refl _, by rw [Nat.zero_add]; exact HF.out⟩
  case round =>
    obtain ⟨m, j, rfl, rfl, hj, hmj, hm⟩ := hrel
    have HM : Hid (m + cntL l key (L.drop j) = M) := hm
    clear hm
    by_cases hjl : j < L.length
    · have q0 : decide ((j : Int) < (L.length : Int)) = true := decide_eq_true (by omega)
      obtain ⟨kg, rfl, ckj⟩ := HAT.out j hjl
      have hm2 := HM.out
      rw [cntL_cons hjl] at hm2
      have hkl : L.getD j 0 < l.length := HLT.out _ (by rw [List.getD_eq_getElem?_getD, List.getElem?_eq_getElem hjl]; exact List.getElem_mem hjl)
      generalize L.getD j 0 = k at *
      obtain ⟨g', off', e', hc2⟩ := HN2.out.at hkl
      cases e'
      obtain ⟨Y, hY⟩ : ∃ Y, (l.getD k (nd0 0)).key = Y := ⟨_, rfl⟩
      have cky := hc2 1 (.string ⟨Y.toArray⟩) (by omega) (by rw [← hY]; rfl)
      unfold iV at ckj
      rw [hY] at hm2
      clear hc2 hY HM
      by_cases hYk : Y = key
      · rw [if_pos hYk] at hm2
        have HE : Hid ((m + 1) + cntL l key (L.drop (j + 1)) = M) := by show _ = _; omega
        subst hYk
        clear hm2
        go_wp2
        go_round
        case rel => exact ⟨m + 1, j + 1, by go_num, by go_num, by omega, by omega, HE.out⟩
        case measure => simp [intOf]; omega
      · rw [if_neg hYk] at hm2
        have HE : Hid (m + cntL l key (L.drop (j + 1)) = M) := by show _ = _; omega
        have hYb : (Y == key) = false := by simpa using hYk
        clear hm2 hYk
        go_wp2
        go_round
        case rel => exact ⟨m, j + 1, rfl, by go_num, by omega, by omega, HE.out⟩
        case measure => simp [intOf]; omega
    · have q0 : decide ((j : Int) < (L.length : Int)) = false := decide_eq_false (by omega)
      have hE : m = M := by
        have := HM.out
        rw [List.drop_eq_nil_of_le (by omega)] at this
        exact this
      subst hE
      clear HM
      go_wp2
      go_ret
      exact ⟨rfl, HO.out.bel⟩

end Go.Proofs.YtkaiecpdkieedaaGreatDoor

namespace Go.Proofs.YtkaiecpdkieedaaGreatDoor
open Go.RowKit

/-- What the document's reader makes of a member that is a string. -/
def dsetH (n : Nd) (h : Hd) : Hd :=
  if n.key = kA then ⟨(ofF n.text : Int), h.kid, h.typ, h.has⟩
  else if n.key = kK then ⟨h.alg, n.text, h.typ, h.has⟩
  else if n.key = kT then ⟨h.alg, h.kid, n.text, h.has⟩ else h
def drdL (v : List Nd) : List Nat → Hd → Option Hd
  | [], h => some h
  | k :: r, h => if (v.getD k (nd0 0)).kind ≠ 5 then none else drdL v r (dsetH (v.getD k (nd0 0)) h)
/-- What the document's reader makes of a value. -/
def dreadF (v : List Nd) : Option Hd :=
  if (v.getD 0 (nd0 0)).kind ≠ 7 then none
  else if cntL v kA (kidsF v 0) ≠ 1 ∨ cntL v kK (kidsF v 0) ≠ 1 ∨ (kidsF v 0).length ≠ 2 + cntL v kT (kidsF v 0) then none
  else drdL v (kidsF v 0) ⟨0, [], [], decide (cntL v kT (kidsF v 0) = 1)⟩
/-- What the document's Parse answers. -/
def dhparseF (t : List UInt8) : Hd × Nat :=
  if (parseF t).2.1 ≠ 0 then (hd0, (parseF t).2.1) else
  match dreadF (parseF t).1 with
  | none => (hd0, 110)
  | some h => if h.alg = 0 then (hd0, 111) else (h, 0)

theorem cnt_sum (v : List Nd) : ∀ L, cntL v kA L + cntL v kK L + cntL v kT L ≤ L.length
  | [] => Nat.le_refl _
  | k :: r => by
    have := cnt_sum v r
    unfold cntL
    simp only [List.length_cons]
    by_cases h1 : (v.getD k (nd0 0)).key = kA
    · rw [if_pos h1, if_neg (by rw [h1]; decide), if_neg (by rw [h1]; decide)]; omega
    · by_cases h2 : (v.getD k (nd0 0)).key = kK
      · rw [if_neg h1, if_pos h2, if_neg (by rw [h2]; decide)]; omega
      · rw [if_neg h1, if_neg h2]
        split <;> omega
theorem cnt_zero {v : List Nd} {key : List UInt8} : ∀ {L : List Nat}, key ∉ kys v L → cntL v key L = 0
  | [], _ => rfl
  | k :: r, h => by
    simp only [kys, List.map_cons, List.mem_cons, not_or] at h
    unfold cntL
    rw [if_neg (fun e => h.1 e.symm), cnt_zero h.2]
theorem cnt_one {v : List Nd} (key : List UInt8) : ∀ {L : List Nat}, (kys v L).Nodup → cntL v key L ≤ 1
  | [], _ => Nat.zero_le _
  | k :: r, h => by
    simp only [kys, List.map_cons, List.nodup_cons] at h
    unfold cntL
    by_cases e : (v.getD k (nd0 0)).key = key
    · rw [if_pos e, cnt_zero (by rw [← e]; exact h.1)]; omega
    · rw [if_neg e]
      have := cnt_one key h.2
      omega
theorem drd_none {v : List Nd} : ∀ {L : List Nat} (h : Hd), (∃ k ∈ L, (v.getD k (nd0 0)).kind ≠ 5) → drdL v L h = none
  | [], _, ⟨_, hk, _⟩ => by cases hk
  | k :: r, h, ⟨i, hi, h5⟩ => by
    unfold drdL
    by_cases e : (v.getD k (nd0 0)).kind ≠ 5
    · rw [if_pos e]
    · rw [if_neg e]
      rcases List.mem_cons.1 hi with rfl | hi
      · exact absurd h5 e
      · exact drd_none _ ⟨i, hi, h5⟩
theorem cnt_if (n : Nd) : (if n.key = kA then 1 else 0) + (if n.key = kK then 1 else 0) + (if n.key = kT then 1 else 0) ≤ 1 := by
  by_cases h1 : n.key = kA
  · rw [if_pos h1, if_neg (by rw [h1]; decide), if_neg (by rw [h1]; decide)]; omega
  · by_cases h2 : n.key = kK
    · rw [if_neg h1, if_pos h2, if_neg (by rw [h2]; decide)]; omega
    · rw [if_neg h1, if_neg h2]
      split <;> omega
theorem rd_none {v : List Nd} : ∀ {L : List Nat} (s : Hs), rdL v L s = none → (∃ k ∈ L, (v.getD k (nd0 0)).kind ≠ 5) ∨ cntL v kA L + cntL v kK L + cntL v kT L < L.length
  | [], _, h => by cases h
  | k :: r, s, h => by
    have hs := cnt_sum v r
    have h1 := cnt_if (v.getD k (nd0 0))
    unfold rdL at h
    unfold cntL
    simp only [List.length_cons]
    cases e : setH (v.getD k (nd0 0)) s with
    | some s1 =>
      rw [e] at h
      rcases rd_none s1 h with ⟨i, hi, h5⟩ | h
      · exact Or.inl ⟨i, List.mem_cons_of_mem _ hi, h5⟩
      · exact Or.inr (by omega)
    | none =>
      unfold setH at e
      by_cases h5 : (v.getD k (nd0 0)).kind ≠ 5
      · exact Or.inl ⟨k, List.mem_cons_self, h5⟩
      · right
        rw [if_neg h5] at e
        by_cases g1 : (v.getD k (nd0 0)).key = kA
        · rw [if_pos g1] at e; cases e
        · rw [if_neg g1] at e
          by_cases g2 : (v.getD k (nd0 0)).key = kK
          · rw [if_pos g2] at e; cases e
          · rw [if_neg g2] at e
            by_cases g3 : (v.getD k (nd0 0)).key = kT
            · rw [if_pos g3] at e; cases e
            · rw [if_neg g1, if_neg g2, if_neg g3]
              omega
theorem rd_some {v : List Nd} : ∀ {L : List Nat} (s s' : Hs) (hb : Bool), rdL v L s = some s' → cntL v kA L + cntL v kK L + cntL v kT L = L.length ∧ drdL v L ⟨s.h.alg, s.h.kid, s.h.typ, hb⟩ = some ⟨s'.h.alg, s'.h.kid, s'.h.typ, hb⟩ ∧ s'.a = (s.a || decide (0 < cntL v kA L)) ∧ s'.k = (s.k || decide (0 < cntL v kK L)) ∧ s'.h.has = (s.h.has || decide (0 < cntL v kT L))
  | [], s, s', hb, h => by
    cases h
    refine ⟨rfl, rfl, ?_, ?_, ?_⟩ <;> simp [cntL]
  | k :: r, s, s', hb, h => by
    unfold rdL at h
    cases e : setH (v.getD k (nd0 0)) s with
    | none => rw [e] at h; cases h
    | some s1 =>
      rw [e] at h
      have ih := rd_some s1 s' hb h
      obtain ⟨i1, i2, i3, i4, i5⟩ := ih
      unfold setH at e
      unfold cntL drdL
      simp only [List.length_cons]
      generalize v.getD k (nd0 0) = n at e ⊢
      by_cases h5 : n.kind ≠ 5
      · rw [if_pos h5] at e; cases e
      · rw [if_neg h5] at e
        rw [if_neg h5]
        by_cases h1 : n.key = kA
        · rw [if_pos h1] at e
          cases e
          rw [if_pos h1, if_neg (by rw [h1]; decide), if_neg (by rw [h1]; decide)]
          refine ⟨by omega, ?_, ?_, ?_, ?_⟩
          · unfold dsetH; rw [if_pos h1]; exact i2
          · rw [i3, decide_eq_true (show 0 < 1 + cntL v kA r by omega), Bool.or_true]; rfl
          · rw [i4, Nat.zero_add]
          · rw [i5, Nat.zero_add]
        · rw [if_neg h1] at e
          by_cases h2 : n.key = kK
          · rw [if_pos h2] at e
            cases e
            rw [if_neg h1, if_pos h2, if_neg (by rw [h2]; decide)]
            refine ⟨by omega, ?_, ?_, ?_, ?_⟩
            · unfold dsetH; rw [if_neg h1, if_pos h2]; exact i2
            · rw [i3, Nat.zero_add]
            · rw [i4, decide_eq_true (show 0 < 1 + cntL v kK r by omega), Bool.or_true]; rfl
            · rw [i5, Nat.zero_add]
          · rw [if_neg h2] at e
            by_cases h3 : n.key = kT
            · rw [if_pos h3] at e
              cases e
              rw [if_neg h1, if_neg h2, if_pos h3]
              refine ⟨by omega, ?_, ?_, ?_, ?_⟩
              · unfold dsetH; rw [if_neg h1, if_neg h2, if_pos h3]; exact i2
              · rw [i3, Nat.zero_add]
              · rw [i4, Nat.zero_add]
              · rw [i5, decide_eq_true (show 0 < 1 + cntL v kT r by omega), Bool.or_true]; rfl
            · rw [if_neg h3] at e; cases e
/-- Both readers make the same of a value. -/
theorem dread_eq {v : List Nd} (hT : Top v) : dreadF v = (readF v).map (·.h) := by
  unfold dreadF readF
  by_cases h7 : (v.getD 0 (nd0 0)).kind ≠ 7
  · rw [if_pos h7, if_pos h7]; rfl
  · rw [if_neg h7, if_neg h7]
    have hnd := hT.nd (by omega)
    have cA := cnt_one kA hnd
    have cK := cnt_one kK hnd
    have cT := cnt_one kT hnd
    generalize kidsF v 0 = L at *
    cases e : rdL v L hs0 with
    | none =>
      rcases rd_none hs0 e with h | h
      · rw [drd_none _ h]; split <;> rfl
      · rw [if_pos (by omega)]; rfl
    | some s =>
      obtain ⟨i1, i2, i3, i4, i5⟩ := rd_some hs0 s (decide (cntL v kT L = 1)) e
      have i3 : s.a = decide (0 < cntL v kA L) := i3
      have i4 : s.k = decide (0 < cntL v kK L) := i4
      have i5 : s.h.has = decide (0 < cntL v kT L) := i5
      by_cases hc : cntL v kA L ≠ 1 ∨ cntL v kK L ≠ 1 ∨ L.length ≠ 2 + cntL v kT L
      · rw [if_pos hc]
        have : (s.a && s.k) = false := by
          rw [i3, i4]
          by_cases ha : 0 < cntL v kA L
          · have hk : ¬ 0 < cntL v kK L := by omega
            simp [hk]
          · simp [ha]
        simp only [this]
        rfl
      · rw [if_neg hc]
        have : (s.a && s.k) = true := by
          rw [i3, i4, decide_eq_true (by omega), decide_eq_true (by omega)]; rfl
        simp only [this, if_true]
        have i2 : drdL v L ⟨0, [], [], decide (cntL v kT L = 1)⟩ = _ := i2
        rw [i2]
        have : decide (cntL v kT L = 1) = s.h.has := by
          rw [i5]
          exact decide_eq_decide.2 (by omega)
        rw [this]
        rfl

/-- Both readers of a header answer alike. -/
theorem dhparse_eq (t : List UInt8) : dhparseF t = hparseF t := by
  unfold dhparseF hparseF
  by_cases hc : (parseF t).2.1 ≠ 0
  · rw [if_pos hc, if_pos hc]
  · rw [if_neg hc, if_neg hc, dread_eq (top_of (parse_val (by omega)) (parse_bd t).1)]
    cases readF (parseF t).1 <;> rfl

end Go.Proofs.YtkaiecpdkieedaaGreatDoor

namespace Go.Proofs.YtkaiecpdkieedaaGreatDoor
open Go.RowKit Go.Shelf

theorem drdL_cons {v : List Nd} {L : List Nat} {j : Nat} {h : Hd} (hj : j < L.length) : drdL v (L.drop j) h = if (v.getD (L.getD j 0) (nd0 0)).kind ≠ 5 then none else drdL v (L.drop (j + 1)) (dsetH (v.getD (L.getD j 0) (nd0 0)) h) := by
  rw [List.drop_eq_getElem_cons hj]
  have : L[j] = L.getD j 0 := by simp [List.getD_eq_getElem?_getD, hj]
  rw [this]
  rfl

set_option maxRecDepth 100000 in
set_option maxHeartbeats 8000000 in
/-- The document's Parse. -/
theorem rhparse_any (t : List UInt8) (w : World) :
    Calls Tryz.prog 5 #[.string ⟨t.toArray⟩] w fun e w' => e = .returned (.tuple #[hdV (dhparseF t).1, .int .i64 ((dhparseF t).2 : Nat)]) ∧ Below w.heap.size w w' := by
  obtain ⟨w0, hw0⟩ : ∃ w0 : World, w.alloc (.cells (hdC hd0).toArray 24) = w0 := ⟨_, rfl⟩
  have HB0 : Hid (Below w.heap.size w w0) := by rw [← hw0]; exact alloc_below _ _
  have HBox0 : Hid (Bl 24 w0 w.heap.size (hdC hd0)) := by rw [← hw0]; exact alloc_bl _ _ _
  have C0 := rparse_any t w0
  rw [dparse_eq t] at C0
  have HS0 : Hid (w.heap.size < w0.heap.size) := HBox0.out.lt
  have HW0 : Hid (w.alloc (.cells (hdC hd0).toArray 24) = w0) := hw0
  have hbd := (parse_bd t).1
  have HV : Hid ((parseF t).2.1 = 0 → Sq 0 [[]] (parseF t).1) := parse_val
  obtain ⟨R, hR⟩ : ∃ R, dhparseF t = R := ⟨_, rfl⟩
  have HP : Hid ((if (parseF t).2.1 ≠ 0 then (hd0, (parseF t).2.1) else
    match dreadF (parseF t).1 with
    | none => (hd0, 110)
    | some h => if h.alg = 0 then (hd0, 111) else (h, 0)) = R) := by show _ = _; rw [← hR]; unfold dhparseF; rfl
  rw [hR]
  clear hR hw0
  generalize parseF t = pf at *
  obtain ⟨l, c, p⟩ := pf
  simp only at C0 HP hbd HV
  go_enter Tryz.func5, Tryz.ntmps5
  go_wp2_with fail
  have e0 : (Obj.cells #[Value.int .i64 0, .string { data := #[] }, .string { data := #[] }, .bool false] 24) = .cells (hdC hd0).toArray 24 := rfl
  rw [e0, HW0.out]
  clear e0 HW0
  refine C0.mono ?_
  clear C0
  rintro e w1 ⟨hB1, v, rfl, hno⟩
  obtain ⟨ao, cap, hN⟩ := hno.nr
  obtain ⟨rfl, hcap, _⟩ := id hN
  have HB1 : Hid (Below w.heap.size w w1) := HB0.out.trans (hB1.mono HB0.out.size)
  have HBox1 : Hid (Bl 24 w1 w.heap.size (hdC hd0)) := HBox0.out.below hB1 HS0.out
  have HN : Hid (∀ wq, Below w1.heap.size w1 wq → NR wq (.slice ao l.length cap) l ao cap) := fun wq hq => hN.below hq (Nat.le_refl _)
  have HS1 : Hid (w.heap.size < w1.heap.size) := HBox1.out.lt
  clear hno hN hB1 HB0 HBox0 HS0
  have hgi : (Tryz.prog.info? 24).map (·.size) = some 4 := by kernel_rfl
  by_cases h0 : c = 0
  · subst h0
    have hsq := HV.out rfl
    have hT := top_of hsq hbd
    have HA : Hid (∀ i, i < l.length → At l i) := fun i hi => at_of hsq hbd hi
    have hpos := hT.pos
    clear hsq HV
    have HP2 : Hid ((match dreadF l with
      | none => (hd0, 110)
      | some h => if h.alg = 0 then (hd0, 111) else (h, 0)) = R) := HP.out
    clear HP
    obtain ⟨g, off, rfl, hcell⟩ := (HN.out w1 (Below.refl _ _)).at hpos
    obtain ⟨K, hK⟩ : ∃ K, (l.getD 0 (nd0 0)).kind = K := ⟨_, rfl⟩
    have ck := hcell 0 (.int .i64 K) (by omega) (by rw [← hK]; rfl)
    rw [Nat.zero_mul, Nat.add_zero] at ck
    clear hcell
    by_cases h7 : K = 7
    · have q7 : (K != 7) = false := by simpa using h7
      have CK : Calls Tryz.prog 9 #[.slice (some ⟨g, off, none⟩) l.length cap, .int .i64 0] w1 fun e w' => ∃ r, e = .returned r ∧ OI w1.heap.size w1 w' r (kidsF l 0) := rkids_any l _ cap 0 w1 (HN.out w1 (Below.refl _ _)) hbd HA.out hpos
      go_wp2_with fail
      refine CK.mono ?_
      clear CK
      rintro e w2 ⟨r, rfl, hoi⟩
      have HP3 : Hid ((match (if cntL l kA (kidsF l 0) ≠ 1 ∨ cntL l kK (kidsF l 0) ≠ 1 ∨ (kidsF l 0).length ≠ 2 + cntL l kT (kidsF l 0) then none else drdL l (kidsF l 0) ⟨0, [], [], decide (cntL l kT (kidsF l 0) = 1)⟩) with
        | none => (hd0, 110)
        | some h => if h.alg = 0 then (hd0, 111) else (h, 0)) = R) := by
        have := HP2.out
        unfold dreadF at this
        rw [if_neg (by rw [hK]; exact fun h => h h7)] at this
        exact this
      have HCn : Hid (∀ (key : List UInt8) (wq : World), Below w1.heap.size w1 wq → Calls Tryz.prog 10 #[.slice (some ⟨g, off, none⟩) l.length cap, .string ⟨key.toArray⟩] wq fun e w' => e = .returned (.int .i64 (cntL l key (kidsF l 0) : Nat)) ∧ Below wq.heap.size wq w') := fun key wq hq => rcount_any l _ cap key wq (HN.out wq hq) hbd HA.out hpos
      have hlen : (kidsF l 0).length ≤ 262144 := by
        unfold kidsF
        rw [if_pos ⟨by omega, by omega⟩]
        have := kidsF_len (v := l) (l.length + 1) ((0 : Int).toNat + 1) (l.getD (0 : Int).toNat (nd0 0)).kids (by simp; omega)
        omega
      have HLT : Hid (∀ k ∈ kidsF l 0, k < l.length) := kidsF_lt
      obtain ⟨cA, hcA⟩ : ∃ n, cntL l kA (kidsF l 0) = n := ⟨_, rfl⟩
      obtain ⟨cK, hcK⟩ : ∃ n, cntL l kK (kidsF l 0) = n := ⟨_, rfl⟩
      obtain ⟨cT, hcT⟩ : ∃ n, cntL l kT (kidsF l 0) = n := ⟨_, rfl⟩
      have lA := cntL_le l kA (kidsF l 0)
      have lK := cntL_le l kK (kidsF l 0)
      have lT := cntL_le l kT (kidsF l 0)
      have HCA : Hid (∀ wq : World, Below w1.heap.size w1 wq → Calls Tryz.prog 10 #[.slice (some ⟨g, off, none⟩) l.length cap, .string ⟨#[97, 108, 103]⟩] wq fun e w' => e = .returned (.int .i64 (cA : Int)) ∧ Below wq.heap.size wq w') := fun wq hq => by rw [← hcA]; exact HCn.out kA wq hq
      have HCK : Hid (∀ wq : World, Below w1.heap.size w1 wq → Calls Tryz.prog 10 #[.slice (some ⟨g, off, none⟩) l.length cap, .string ⟨#[107, 105, 100]⟩] wq fun e w' => e = .returned (.int .i64 (cK : Int)) ∧ Below wq.heap.size wq w') := fun wq hq => by rw [← hcK]; exact HCn.out kK wq hq
      have HCT : Hid (∀ wq : World, Below w1.heap.size w1 wq → Calls Tryz.prog 10 #[.slice (some ⟨g, off, none⟩) l.length cap, .string ⟨#[116, 121, 112]⟩] wq fun e w' => e = .returned (.int .i64 (cT : Int)) ∧ Below wq.heap.size wq w') := fun wq hq => by rw [← hcT]; exact HCn.out kT wq hq
      rw [hcA, hcK, hcT] at HP3
      rw [hcA] at lA
      rw [hcK] at lK
      rw [hcT] at lT
      clear HCn hcA hcK hcT HP2 HA hK ck hT
      generalize kidsF l 0 = L at *
      obtain ⟨ka, kc, rfl, hkc, hkat⟩ := hoi.at
      have HO : Hid (OI w1.heap.size w1 w2 (.slice ka L.length kc) L) := hoi
      have HAT : Hid (∀ wq, Below w2.heap.size w2 wq → ∀ j, j < L.length → ∃ g, ka = some ⟨g, 0, none⟩ ∧ wq.cell? ⟨g, j, none⟩ = some (iV (L.getD j 0))) := fun wq hq => by
        obtain ⟨ka', kc', e, _, h⟩ := (hoi.lift hq (Nat.le_refl _)).at
        cases e
        exact h
      have C3 := HCA.out w2 hoi.bel
      clear hoi hkat HCA
      go_wp2_with fail
      refine C3.mono ?_
      clear C3
      rintro e w3 ⟨rfl, hB3⟩
      have HB3 : Hid (Below w2.heap.size w2 w3) := hB3
      clear hB3
      by_cases eA : cA = 1
      · have qA : ((cA : Int) != 1) = false := by simp; omega
        have C4 := HCK.out w3 (HO.out.bel.trans (HB3.out.mono HO.out.bel.size))
        clear HCK
        go_wp2_with fail
        refine C4.mono ?_
        clear C4
        rintro e w4 ⟨rfl, hB4⟩
        have HB4 : Hid (Below w2.heap.size w2 w4) := HB3.out.trans (hB4.mono HB3.out.size)
        clear hB4 HB3
        by_cases eK : cK = 1
        · have qK : ((cK : Int) != 1) = false := by simp; omega
          have C5 := HCT.out w4 (HO.out.bel.trans (HB4.out.mono HO.out.bel.size))
          go_wp2_with fail
          refine C5.mono ?_
          clear C5
          rintro e w5 ⟨rfl, hB5⟩
          have HB5 : Hid (Below w2.heap.size w2 w5) := HB4.out.trans (hB5.mono HB4.out.size)
          clear hB5 HB4
          by_cases eL : L.length = 2 + cT
          · have qL : ((L.length : Int) != (2 + (cT : Int))) = false := by simp; omega
            have C6 := HCT.out w5 (HO.out.bel.trans (HB5.out.mono HO.out.bel.size))
            clear HCT
            have HP4 : Hid ((match drdL l L ⟨0, [], [], decide (cT = 1)⟩ with
              | none => (hd0, 110)
              | some h => if h.alg = 0 then (hd0, 111) else (h, 0)) = R) := by
              have := HP3.out
              rw [if_neg (by omega)] at this
              exact this
            clear HP3 eL
            go_wp2_with fail
            refine C6.mono ?_
            clear C6
            rintro e w6 ⟨rfl, hB6⟩
            have HB6 : Hid (Below w2.heap.size w2 w6) := HB5.out.trans (hB6.mono HB5.out.size)
            clear hB6 HB5
            obtain ⟨bt, hbt⟩ : ∃ bt, decide (cT = 1) = bt := ⟨_, rfl⟩
            have qt : ((cT : Int) == 1) = bt := by
              rw [← hbt]
              by_cases e1 : cT = 1
              · subst e1; rfl
              · rw [decide_eq_false e1]; simp; omega
            rw [hbt] at HP4
            clear hbt eA eK
            obtain ⟨D, hD⟩ : ∃ D, drdL l L ⟨0, [], [], bt⟩ = D := ⟨_, rfl⟩
            have HD : Hid (drdL l L ⟨0, [], [], bt⟩ = D) := hD
            rw [hD] at HP4
            clear hD
            obtain ⟨w7, hw7⟩ : ∃ w7 : World, (w6.alloc (.cells #[.int .i64 0, .string ⟨#[]⟩, .string ⟨#[]⟩, .bool false] 24)).setRow w6.heap.size (hdC ⟨0, [], [], bt⟩).toArray = w7 := ⟨_, rfl⟩
            have hBa : Bl 24 (w6.alloc (.cells #[.int .i64 0, .string ⟨#[]⟩, .string ⟨#[]⟩, .bool false] 24)) w6.heap.size (hdC hd0) := alloc_bl _ (hdC hd0) _
            have HBl7 : Hid (Bl 24 w7 w6.heap.size (hdC ⟨0, [], [], bt⟩)) := by rw [← hw7]; exact set_bl2 hBa
            have HB7 : Hid (Below w6.heap.size w6 w7) := by rw [← hw7]; exact setRow_below2 _ (alloc_below _ _) (Nat.le_refl _)
            have HW7 : Hid ((w6.alloc (.cells #[.int .i64 0, .string ⟨#[]⟩, .string ⟨#[]⟩, .bool false] 24)).setRow w6.heap.size (hdC ⟨0, [], [], bt⟩).toArray = w7) := hw7
            have HBa : Hid (Bl 24 (w6.alloc (.cells #[.int .i64 0, .string ⟨#[]⟩, .string ⟨#[]⟩, .bool false] 24)) w6.heap.size (hdC hd0)) := hBa
            have HB16 : Hid (Below w1.heap.size w1 w6) := HO.out.bel.trans (HB6.out.mono HO.out.bel.size)
            clear hw7 hBa
            go_wp2_with (refine wpList_store_row rfl 24 (.tmp 8) (.tmp 48) rfl w6.heap.size (hdC ⟨0, [], [], bt⟩).toArray rfl rfl 24 (hdC hd0).toArray HBa.out hgi rfl (by simp [hdC, Value.oneCell']) ?_; rw [HW7.out]; clear HW7 HBa)
            go_loopw [9] (fun s9 wx => ∃ (j : Nat) (h : Hd), s9 = .int .i64 j ∧ j ≤ L.length ∧ Below w6.heap.size w6 wx ∧ Bl 24 wx w6.heap.size (hdC h) ∧ drdL l (L.drop j) h = D) (fun s _ => L.length - (intOf s).toNat)
            case atStart => exact ⟨0, _, rfl, Nat.zero_le _, HB7.out, HBl7.out, HD.out⟩
            case round =>
              obtain ⟨j, h, rfl, hj, hBr, hbl, hdr⟩ := hrel
              have HBr : Hid (Below w6.heap.size w6 wr) := hBr
              have HBl : Hid (Bl 24 wr w6.heap.size (hdC h)) := hbl
              have HB2 : Hid (Below w2.heap.size w2 wr) := HB6.out.trans (hBr.mono HB6.out.size)
              have HB1r : Hid (Below w1.heap.size w1 wr) := HB16.out.trans (hBr.mono HB16.out.size)
              have HBw : Hid (Below w.heap.size w wr) := HB1.out.trans (HB1r.out.mono HB1.out.size)
              have HBox : Hid (Bl 24 wr w.heap.size (hdC hd0)) := HBox1.out.below HB1r.out HS1.out
              by_cases hjl : j < L.length
              · have q0 : decide ((j : Int) < (L.length : Int)) = true := decide_eq_true (by omega)
                obtain ⟨kg, rfl, ckj⟩ := HAT.out wr HB2.out j hjl
                have hkl : L.getD j 0 < l.length := HLT.out _ (by rw [List.getD_eq_getElem?_getD, List.getElem?_eq_getElem hjl]; exact List.getElem_mem hjl)
                rw [drdL_cons hjl] at hdr
                generalize L.getD j 0 = k at *
                obtain ⟨_, _, e', hc2⟩ := (HN.out wr HB1r.out).at hkl
                cases e'
                obtain ⟨n, hn⟩ : ∃ n, l.getD k (nd0 0) = n := ⟨_, rfl⟩
                rw [hn] at hdr hc2
                obtain ⟨nk, ny, nt, nb, nn, nc⟩ := n
                have c0 := hc2 0 (.int .i64 nk) (by omega) rfl
                have c1 := hc2 1 (.string ⟨ny.toArray⟩) (by omega) rfl
                have c2 := hc2 2 (.string ⟨nt.toArray⟩) (by omega) rfl
                rw [Nat.add_zero] at c0
                unfold iV at ckj
                have HDr : Hid ((if nk ≠ 5 then none else drdL l (L.drop (j + 1)) (dsetH ⟨nk, ny, nt, nb, nn, nc⟩ h)) = D) := hdr
                clear hc2 hn hdr hBr hbl
                by_cases h5 : nk = 5
                · have q5 : (nk != 5) = false := by simpa using h5
                  have HDs : Hid (drdL l (L.drop (j + 1)) (dsetH ⟨nk, ny, nt, nb, nn, nc⟩ h) = D) := by
                    have := HDr.out
                    rw [if_neg (fun e => e h5)] at this
                    exact this
                  clear HDr
                  by_cases yA : ny = kA
                  · subst yA
                    have HDs2 : Hid (drdL l (L.drop (j + 1)) ⟨(ofF nt : Int), h.kid, h.typ, h.has⟩ = D) := HDs.out
                    have C8 := rof_any nt wr
                    generalize ofF nt = o at C8 HDs2
                    clear HDs
                    go_wp2_with fail
                    refine C8.mono ?_
                    clear C8
                    rintro e w8 ⟨rfl, hB8⟩
                    have hb8 := HBl.out.below hB8 HBl.out.lt
                    have kx : w8.cell? ⟨w6.heap.size, 0, none⟩ = some (.int .i64 h.alg) := hb8.cell 0 (by simp [hdC])
                    have kf : w8.frozen? ⟨w6.heap.size, 0, none⟩ = false := hb8.frozen 0
                    have HB9 : Hid (Below w6.heap.size w6 (w8.setCell ⟨w6.heap.size, 0, none⟩ (.int .i64 (o : Int)))) := (HBr.out.trans (hB8.mono HBr.out.size)).setCell (Nat.le_refl _) _
                    have HL9 : Hid (Bl 24 (w8.setCell ⟨w6.heap.size, 0, none⟩ (.int .i64 (o : Int))) w6.heap.size (hdC ⟨(o : Int), h.kid, h.typ, h.has⟩)) := hb8.set 0 (.int .i64 (o : Int))
                    clear hb8 hB8 HBr HBl HB2 HB1r HBw HBox
                    go_wp2
                    go_roundw
                    case rel => exact ⟨j + 1, _, by go_num, by omega, HB9.out, HL9.out, HDs2.out⟩
                    case measure => simp [intOf]; omega
                  · by_cases yK : ny = kK
                    · subst yK
                      have kx : wr.cell? ⟨w6.heap.size, 1, none⟩ = some (.string ⟨h.kid.toArray⟩) := HBl.out.cell 1 (by simp [hdC])
                      have kf : wr.frozen? ⟨w6.heap.size, 1, none⟩ = false := HBl.out.frozen 1
                      have HB9 : Hid (Below w6.heap.size w6 (wr.setCell ⟨w6.heap.size, 1, none⟩ (.string ⟨nt.toArray⟩))) := HBr.out.setCell (Nat.le_refl _) _
                      have HL9 : Hid (Bl 24 (wr.setCell ⟨w6.heap.size, 1, none⟩ (.string ⟨nt.toArray⟩)) w6.heap.size (hdC ⟨h.alg, nt, h.typ, h.has⟩)) := HBl.out.set 1 (.string ⟨nt.toArray⟩)
                      clear HBr HBl HB2 HB1r HBw HBox
                      go_wp2
                      go_roundw
                      case rel => exact ⟨j + 1, ⟨h.alg, nt, h.typ, h.has⟩, by go_num, by omega, HB9.out, HL9.out, HDs.out⟩
                      case measure => simp [intOf]; omega
                    · by_cases yT : ny = kT
                      · subst yT
                        have kx : wr.cell? ⟨w6.heap.size, 2, none⟩ = some (.string ⟨h.typ.toArray⟩) := HBl.out.cell 2 (by simp [hdC])
                        have kf : wr.frozen? ⟨w6.heap.size, 2, none⟩ = false := HBl.out.frozen 2
                        have HB9 : Hid (Below w6.heap.size w6 (wr.setCell ⟨w6.heap.size, 2, none⟩ (.string ⟨nt.toArray⟩))) := HBr.out.setCell (Nat.le_refl _) _
                        have HL9 : Hid (Bl 24 (wr.setCell ⟨w6.heap.size, 2, none⟩ (.string ⟨nt.toArray⟩)) w6.heap.size (hdC ⟨h.alg, h.kid, nt, h.has⟩)) := HBl.out.set 2 (.string ⟨nt.toArray⟩)
                        clear HBr HBl HB2 HB1r HBw HBox
                        go_wp2
                        go_roundw
                        case rel => exact ⟨j + 1, ⟨h.alg, h.kid, nt, h.has⟩, by go_num, by omega, HB9.out, HL9.out, HDs.out⟩
                        case measure => simp [intOf]; omega
                      · have HDs2 : Hid (drdL l (L.drop (j + 1)) h = D) := by
                          have := HDs.out
                          unfold dsetH at this
                          rw [if_neg yA, if_neg yK, if_neg yT] at this
                          exact this
                        have qa : (ny == [97, 108, 103]) = false := by simpa using yA
                        have qb : (ny == [107, 105, 100]) = false := by simpa using yK
                        have qc : (ny == [116, 121, 112]) = false := by simpa using yT
                        have qa2 : (ny.toArray == #[97, 108, 103]) = false := by simpa using yA
                        have qb2 : (ny.toArray == #[107, 105, 100]) = false := by simpa using yK
                        have qc2 : (ny.toArray == #[116, 121, 112]) = false := by simpa using yT
                        clear HDs
                        have HB9 := HBr
                        have HL9 := HBl
                        clear HBr HBl HB2 HB1r HBw HBox
                        go_wp2
                        go_roundw
                        case rel => exact ⟨j + 1, h, by go_num, by omega, HB9.out, HL9.out, HDs2.out⟩
                        case measure => simp [intOf]; omega
                · have q5 : (nk != 5) = true := by simpa using h5
                  have HX : Hid (R = (hd0, 110)) := by
                    show _ = _
                    have := HDr.out
                    rw [if_pos h5] at this
                    rw [← HP4.out, ← this]
                  clear HDr HP4 HBr HBl HB2 HB1r
                  obtain ⟨wz, hwz⟩ : ∃ wz, wr.setRow w.heap.size (hdC hd0).toArray = wz := ⟨_, rfl⟩
                  have HBz : Hid (Bl 24 wz w.heap.size (hdC hd0)) := by rw [← hwz]; exact set_bl2 HBox.out
                  have Hz : Hid (Below w.heap.size w wz) := by rw [← hwz]; exact setRow_below2 _ HBw.out (Nat.le_refl _)
                  have HWz : Hid (wr.setRow w.heap.size (hdC hd0).toArray = wz) := hwz
                  clear hwz
                  go_wp2_with (refine wpList_store_row rfl 24 (.tmp 2) (.tmp 64) rfl w.heap.size (hdC hd0).toArray rfl rfl 24 (hdC hd0).toArray HBox.out hgi rfl (by simp [hdC, hd0, Value.oneCell']) ?_; rw [HWz.out]; clear HWz hgi)
                  (try simp only [Exit.inBlock, Exit.then])
                  refine bodyPost_ret (v := .tuple #[hdV hd0, .int .i64 110]) (results_hd rfl _ _ w.heap.size hd0 _ rfl rfl HBz.out) rfl ⟨?_, Hz.out⟩
                  rw [HX.out]; rfl
              · have q0 : decide ((j : Int) < (L.length : Int)) = false := decide_eq_false (by omega)
                have hE : some h = D := by
                  rw [List.drop_eq_nil_of_le (by omega)] at hdr
                  exact hdr
                have HPz : Hid ((if h.alg = 0 then (hd0, 111) else (h, 0)) = R) := by
                  have := HP4.out
                  rw [← hE] at this
                  exact this
                have ka0 : wr.cell? ⟨w6.heap.size, 0, none⟩ = some (.int .i64 h.alg) := HBl.out.cell 0 (by simp [hdC])
                clear hdr hE HP4 hBr hbl
                by_cases ha : h.alg = 0
                · have HX : Hid (R = (hd0, 111)) := by show _ = _; rw [← HPz.out, if_pos ha]
                  rw [ha] at ka0
                  clear HPz
                  obtain ⟨wz, hwz⟩ : ∃ wz, wr.setRow w.heap.size (hdC hd0).toArray = wz := ⟨_, rfl⟩
                  have HBz : Hid (Bl 24 wz w.heap.size (hdC hd0)) := by rw [← hwz]; exact set_bl2 HBox.out
                  have Hz : Hid (Below w.heap.size w wz) := by rw [← hwz]; exact setRow_below2 _ HBw.out (Nat.le_refl _)
                  have HWz : Hid (wr.setRow w.heap.size (hdC hd0).toArray = wz) := hwz
                  clear hwz
                  go_wp2_with (refine wpList_store_row rfl 24 (.tmp 2) (.tmp 110) rfl w.heap.size (hdC hd0).toArray rfl rfl 24 (hdC hd0).toArray HBox.out hgi rfl (by simp [hdC, hd0, Value.oneCell']) ?_; rw [HWz.out]; clear HWz hgi)
                  (try simp only [Exit.inBlock, Exit.then])
                  refine bodyPost_ret (v := .tuple #[hdV hd0, .int .i64 111]) (results_hd rfl _ _ w.heap.size hd0 _ rfl rfl HBz.out) rfl ⟨?_, Hz.out⟩
                  rw [HX.out]; rfl
                · have HX : Hid (R = (h, 0)) := by show _ = _; rw [← HPz.out, if_neg ha]
                  have qz : (h.alg == 0) = false := by simpa using ha
                  have hcell : wr.rangeAt w6.heap.size 0 (hdC h) := fun j v hv => by
                    obtain ⟨hj, e⟩ := List.getElem?_eq_some_iff.1 hv
                    rw [Nat.zero_add, ← e]
                    exact HBl.out.cell j hj
                  have hch : (Tryz.prog.info? 24).map (·.size) = some (hdC h).length := by kernel_rfl
                  clear HPz
                  obtain ⟨wz, hwz⟩ : ∃ wz, wr.setRow w.heap.size (hdC h).toArray = wz := ⟨_, rfl⟩
                  have HBz : Hid (Bl 24 wz w.heap.size (hdC h)) := by rw [← hwz]; exact set_bl2 HBox.out
                  have Hz : Hid (Below w.heap.size w wz) := by rw [← hwz]; exact setRow_below2 _ HBw.out (Nat.le_refl _)
                  have HWz : Hid (wr.setRow w.heap.size (hdC h).toArray = wz) := hwz
                  clear hwz
                  go_wp2_with (first | (refine wpList_load_mid rfl 24 (.tmp 8) rfl w6.heap.size 0 rfl (hdC h) _ hcell Tryz.underlying24 rfl hch ?_) | (refine wpList_store_row rfl 24 (.tmp 2) (.tmp 111) rfl w.heap.size (hdC h).toArray rfl rfl 24 (hdC hd0).toArray HBox.out hgi rfl (by simp [hdC, Value.oneCell']) ?_; rw [HWz.out]; clear HWz))
                  (try simp only [Exit.inBlock, Exit.then])
                  refine bodyPost_ret (v := .tuple #[hdV h, .int .i64 0]) (results_hd rfl _ _ w.heap.size h _ rfl rfl HBz.out) rfl ⟨?_, Hz.out⟩
                  rw [HX.out]; rfl
          · have qL : ((L.length : Int) != (2 + (cT : Int))) = true := by simp; omega
            have HX : Hid (R = (hd0, 110)) := by show _ = _; rw [← HP3.out, if_pos (by omega)]
            have HB7 : Hid (Below w1.heap.size w1 w5) := HO.out.bel.trans (HB5.out.mono HO.out.bel.size)
            have HBw : Hid (Below w.heap.size w w5) := HB1.out.trans (HB7.out.mono HB1.out.size)
            have HBox : Hid (Bl 24 w5 w.heap.size (hdC hd0)) := HBox1.out.below HB7.out HS1.out
            clear HP3 HB7 HBox1 HO HAT HN HB1 HB5
            obtain ⟨wz, hwz⟩ : ∃ wz, w5.setRow w.heap.size (hdC hd0).toArray = wz := ⟨_, rfl⟩
            have HBz : Hid (Bl 24 wz w.heap.size (hdC hd0)) := by rw [← hwz]; exact set_bl2 HBox.out
            have Hz : Hid (Below w.heap.size w wz) := by rw [← hwz]; exact setRow_below2 _ HBw.out (Nat.le_refl _)
            have HWz : Hid (w5.setRow w.heap.size (hdC hd0).toArray = wz) := hwz
            clear hwz
            go_wp2_with (refine wpList_store_row rfl 24 (.tmp 2) (.tmp 44) rfl w.heap.size (hdC hd0).toArray rfl rfl 24 (hdC hd0).toArray HBox.out hgi rfl (by simp [hdC, hd0, Value.oneCell']) ?_; rw [HWz.out]; clear HWz hgi)
            (try simp only [Exit.inBlock, Exit.then])
            refine bodyPost_ret (v := .tuple #[hdV hd0, .int .i64 110]) (results_hd rfl _ _ w.heap.size hd0 _ rfl rfl HBz.out) rfl ⟨?_, Hz.out⟩
            rw [HX.out]; rfl
        · have qK : ((cK : Int) != 1) = true := by simp; omega
          have HX : Hid (R = (hd0, 110)) := by show _ = _; rw [← HP3.out, if_pos (by omega)]
          have HB7 : Hid (Below w1.heap.size w1 w4) := HO.out.bel.trans (HB4.out.mono HO.out.bel.size)
          have HBw : Hid (Below w.heap.size w w4) := HB1.out.trans (HB7.out.mono HB1.out.size)
          have HBox : Hid (Bl 24 w4 w.heap.size (hdC hd0)) := HBox1.out.below HB7.out HS1.out
          clear HP3 HB7 HBox1 HO HAT HN HB1 HB4
          obtain ⟨wz, hwz⟩ : ∃ wz, w4.setRow w.heap.size (hdC hd0).toArray = wz := ⟨_, rfl⟩
          have HBz : Hid (Bl 24 wz w.heap.size (hdC hd0)) := by rw [← hwz]; exact set_bl2 HBox.out
          have Hz : Hid (Below w.heap.size w wz) := by rw [← hwz]; exact setRow_below2 _ HBw.out (Nat.le_refl _)
          have HWz : Hid (w4.setRow w.heap.size (hdC hd0).toArray = wz) := hwz
          clear hwz
          go_wp2_with (refine wpList_store_row rfl 24 (.tmp 2) (.tmp 44) rfl w.heap.size (hdC hd0).toArray rfl rfl 24 (hdC hd0).toArray HBox.out hgi rfl (by simp [hdC, hd0, Value.oneCell']) ?_; rw [HWz.out]; clear HWz hgi)
          (try simp only [Exit.inBlock, Exit.then])
          refine bodyPost_ret (v := .tuple #[hdV hd0, .int .i64 110]) (results_hd rfl _ _ w.heap.size hd0 _ rfl rfl HBz.out) rfl ⟨?_, Hz.out⟩
          rw [HX.out]; rfl
      · have qA : ((cA : Int) != 1) = true := by simp; omega
        have HX : Hid (R = (hd0, 110)) := by show _ = _; rw [← HP3.out, if_pos (by omega)]
        have HB7 : Hid (Below w1.heap.size w1 w3) := HO.out.bel.trans (HB3.out.mono HO.out.bel.size)
        have HBw : Hid (Below w.heap.size w w3) := HB1.out.trans (HB7.out.mono HB1.out.size)
        have HBox : Hid (Bl 24 w3 w.heap.size (hdC hd0)) := HBox1.out.below HB7.out HS1.out
        clear HP3 HB7 HBox1 HO HAT HN HB1 HB3
        obtain ⟨wz, hwz⟩ : ∃ wz, w3.setRow w.heap.size (hdC hd0).toArray = wz := ⟨_, rfl⟩
        have HBz : Hid (Bl 24 wz w.heap.size (hdC hd0)) := by rw [← hwz]; exact set_bl2 HBox.out
        have Hz : Hid (Below w.heap.size w wz) := by rw [← hwz]; exact setRow_below2 _ HBw.out (Nat.le_refl _)
        have HWz : Hid (w3.setRow w.heap.size (hdC hd0).toArray = wz) := hwz
        clear hwz
        go_wp2_with (refine wpList_store_row rfl 24 (.tmp 2) (.tmp 44) rfl w.heap.size (hdC hd0).toArray rfl rfl 24 (hdC hd0).toArray HBox.out hgi rfl (by simp [hdC, hd0, Value.oneCell']) ?_; rw [HWz.out]; clear HWz hgi)
        (try simp only [Exit.inBlock, Exit.then])
        refine bodyPost_ret (v := .tuple #[hdV hd0, .int .i64 110]) (results_hd rfl _ _ w.heap.size hd0 _ rfl rfl HBz.out) rfl ⟨?_, Hz.out⟩
        rw [HX.out]; rfl
    · have q7 : (K != 7) = true := by simpa using h7
      have HX : Hid (R = (hd0, 110)) := by
        show _ = _
        rw [← HP2.out]
        unfold dreadF
        rw [if_pos (by rw [hK]; exact h7)]
      clear HP2 hK h7
      obtain ⟨wz, hwz⟩ : ∃ wz, w1.setRow w.heap.size (hdC hd0).toArray = wz := ⟨_, rfl⟩
      have HBz : Hid (Bl 24 wz w.heap.size (hdC hd0)) := by rw [← hwz]; exact set_bl2 HBox1.out
      have Hz : Hid (Below w.heap.size w wz) := by rw [← hwz]; exact setRow_below2 _ HB1.out (Nat.le_refl _)
      have HWz : Hid (w1.setRow w.heap.size (hdC hd0).toArray = wz) := hwz
      clear hwz
      go_wp2_with (refine wpList_store_row rfl 24 (.tmp 2) (.tmp 25) rfl w.heap.size (hdC hd0).toArray rfl rfl 24 (hdC hd0).toArray HBox1.out hgi rfl (by simp [hdC, hd0, Value.oneCell']) ?_; rw [HWz.out]; clear HWz hgi)
      (try simp only [Exit.inBlock, Exit.then])
      refine bodyPost_ret (v := .tuple #[hdV hd0, .int .i64 110]) (results_hd rfl _ _ w.heap.size hd0 _ rfl rfl HBz.out) rfl ⟨?_, Hz.out⟩
      rw [HX.out]; rfl
  · have q0 : ((c : Int) != 0) = true := by simpa using h0
    have HX : Hid (R = (hd0, c)) := by
      show _ = _
      rw [← HP.out, if_pos h0]
    clear HP HV
    obtain ⟨wz, hwz⟩ : ∃ wz, w1.setRow w.heap.size (hdC hd0).toArray = wz := ⟨_, rfl⟩
    have HBz : Hid (Bl 24 wz w.heap.size (hdC hd0)) := by rw [← hwz]; exact set_bl2 HBox1.out
    have Hz : Hid (Below w.heap.size w wz) := by rw [← hwz]; exact setRow_below2 _ HB1.out (Nat.le_refl _)
    have HWz : Hid (w1.setRow w.heap.size (hdC hd0).toArray = wz) := hwz
    clear hwz
    go_wp2_with (refine wpList_store_row rfl 24 (.tmp 2) (.tmp 18) rfl w.heap.size (hdC hd0).toArray rfl rfl 24 (hdC hd0).toArray HBox1.out hgi rfl (by simp [hdC, hd0, Value.oneCell']) ?_; rw [HWz.out]; clear HWz hgi)
    (try simp only [Exit.inBlock, Exit.then])
    refine bodyPost_ret (v := .tuple #[hdV hd0, .int .i64 (c : Int)]) (results_hd rfl _ _ w.heap.size hd0 _ rfl rfl HBz.out) rfl ⟨?_, Hz.out⟩
    rw [HX.out]

end Go.Proofs.YtkaiecpdkieedaaGreatDoor

namespace Go.Proofs.YtkaiecpdkieedaaGreatDoor
open Go.RowKit Go.Shelf

set_option maxRecDepth 100000 in
set_option maxHeartbeats 8000000 in
/-- The law, at any string. -/
theorem hreads_any (t : List UInt8) (w : World) (hG : GL w.heap.size w) (hA : Alg w) :
    Calls Tryz.prog 3 #[.string ⟨t.toArray⟩] w fun e w' => e = .returned (.bool true) ∧ Below w.heap.size w w' := by
  have C1 := hparse_any t w hG hA
  have HR : Hid (∀ wq : World, Calls Tryz.prog 5 #[.string ⟨t.toArray⟩] wq fun e w' => e = .returned (.tuple #[hdV (hparseF t).1, .int .i64 ((hparseF t).2 : Nat)]) ∧ Below wq.heap.size wq w') := fun wq => by
    rw [← dhparse_eq t]
    exact rhparse_any t wq
  clear hG hA
  generalize hparseF t = R at C1 HR
  obtain ⟨h, c⟩ := R
  simp only at C1 HR
  go_enter Tryz.func3, Tryz.ntmps3
  go_wp2_with fail
  refine C1.mono ?_
  clear C1
  rintro e w1 ⟨rfl, hB1⟩
  have HB1 : Hid (Below w.heap.size w w1) := hB1
  have hgi : (Tryz.prog.info? 24).map (·.size) = some 4 := by kernel_rfl
  have hch : (Tryz.prog.info? 24).map (·.size) = some ([.int .i64 h.alg, .string ⟨h.kid.toArray⟩, .string ⟨h.typ.toArray⟩, .bool h.has] : List Value).length := by kernel_rfl
  obtain ⟨w2, hw2⟩ : ∃ w2 : World, (w1.alloc (.cells #[.int .i64 0, .string ⟨#[]⟩, .string ⟨#[]⟩, .bool false] 24)).setRow w1.heap.size (hdC h).toArray = w2 := ⟨_, rfl⟩
  have hBa : Bl 24 (w1.alloc (.cells #[.int .i64 0, .string ⟨#[]⟩, .string ⟨#[]⟩, .bool false] 24)) w1.heap.size (hdC hd0) := alloc_bl _ (hdC hd0) _
  have HBl2 : Hid (Bl 24 w2 w1.heap.size (hdC h)) := by rw [← hw2]; exact set_bl2 hBa
  have HB2 : Hid (Below w.heap.size w w2) := by rw [← hw2]; exact setRow_below2 _ (hB1.trans ((alloc_below _ _).mono hB1.size)) hB1.size
  have HW2 : Hid ((w1.alloc (.cells #[.int .i64 0, .string ⟨#[]⟩, .string ⟨#[]⟩, .bool false] 24)).setRow w1.heap.size (hdC h).toArray = w2) := hw2
  have HBa : Hid (Bl 24 (w1.alloc (.cells #[.int .i64 0, .string ⟨#[]⟩, .string ⟨#[]⟩, .bool false] 24)) w1.heap.size (hdC hd0)) := hBa
  have C2 := HR.out w2
  clear hB1 hw2 hBa HR HB1
  go_wp2_with (first | (refine wpList_store_row rfl 24 (.tmp 3) (.tmp 10) rfl w1.heap.size (hdC h).toArray rfl rfl 24 (hdC hd0).toArray HBa.out hgi rfl (by simp [hdC, Value.oneCell']) ?_; rw [HW2.out]; clear HW2 HBa) | fail)
  refine C2.mono ?_
  clear C2
  rintro e w3 ⟨rfl, hB3⟩
  have hlt := HBl2.out.lt
  have HBl3 : Hid (Bl 24 w3 w1.heap.size (hdC h)) := HBl2.out.below hB3 hlt
  have HB3 : Hid (Below w.heap.size w w3) := HB2.out.trans (hB3.mono HB2.out.size)
  have hne : w1.heap.size < w3.heap.size := HBl3.out.lt
  obtain ⟨w4, hw4⟩ : ∃ w4 : World, (w3.alloc (.cells #[.int .i64 0, .string ⟨#[]⟩, .string ⟨#[]⟩, .bool false] 24)).setRow w3.heap.size (hdC h).toArray = w4 := ⟨_, rfl⟩
  have hBa : Bl 24 (w3.alloc (.cells #[.int .i64 0, .string ⟨#[]⟩, .string ⟨#[]⟩, .bool false] 24)) w3.heap.size (hdC hd0) := alloc_bl _ (hdC hd0) _
  have HBl4 : Hid (Bl 24 w4 w3.heap.size (hdC h)) := by rw [← hw4]; exact set_bl2 hBa
  have HB34 : Hid (Below w3.heap.size w3 w4) := by rw [← hw4]; exact setRow_below2 _ (alloc_below _ _) (Nat.le_refl _)
  have HB4 : Hid (Below w.heap.size w w4) := HB3.out.trans (HB34.out.mono HB3.out.size)
  have HBl5 : Hid (Bl 24 w4 w1.heap.size (hdC h)) := HBl3.out.below HB34.out hne
  have HW4 : Hid ((w3.alloc (.cells #[.int .i64 0, .string ⟨#[]⟩, .string ⟨#[]⟩, .bool false] 24)).setRow w3.heap.size (hdC h).toArray = w4) := hw4
  have HBa : Hid (Bl 24 (w3.alloc (.cells #[.int .i64 0, .string ⟨#[]⟩, .string ⟨#[]⟩, .bool false] 24)) w3.heap.size (hdC hd0)) := hBa
  have req := run_hd w4 h
  have p1 : w4.rangeAt w1.heap.size 0 [.int .i64 h.alg, .string ⟨h.kid.toArray⟩, .string ⟨h.typ.toArray⟩, .bool h.has] := HBl5.out.range
  have p2 : w4.rangeAt w3.heap.size 0 [.int .i64 h.alg, .string ⟨h.kid.toArray⟩, .string ⟨h.typ.toArray⟩, .bool h.has] := HBl4.out.range
  clear hw4 hBa hB3 hlt hne HBl2 HB2 HBl3 HB3 HB34
  go_wp2_with (first | (refine wpList_store_row rfl 24 (.tmp 5) (.tmp 15) rfl w3.heap.size (hdC h).toArray rfl rfl 24 (hdC hd0).toArray HBa.out hgi rfl (by simp [hdC, Value.oneCell']) ?_; rw [HW4.out]; clear HW4 HBa) | (refine wpList_load_mid rfl 24 (.tmp 3) rfl w1.heap.size 0 rfl [.int .i64 h.alg, .string ⟨h.kid.toArray⟩, .string ⟨h.typ.toArray⟩, .bool h.has] _ p1 Tryz.underlying24 rfl hch ?_) | (refine wpList_load_mid rfl 24 (.tmp 5) rfl w3.heap.size 0 rfl [.int .i64 h.alg, .string ⟨h.kid.toArray⟩, .string ⟨h.typ.toArray⟩, .bool h.has] _ p2 Tryz.underlying24 rfl hch ?_))
  go_ret
  exact ⟨rfl, HB4.out⟩

end Go.Proofs.YtkaiecpdkieedaaGreatDoor
