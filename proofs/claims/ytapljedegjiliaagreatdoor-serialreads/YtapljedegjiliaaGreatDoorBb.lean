import Derived.Test.YtapljedegjiliaaGreatDoorBa
import Derived.Test.YtapljedegjiliaaGreatDoorCZ
import Derived.Test.YtapljedegjiliaaGreatDoorYZ
import Derived.Lib.Walk
import Derived.Lib.Bytealg
namespace Go.Proofs.YtapljedegjiliaaGreatDoor
open Go.RowKit Go.Shelf

theorem ix_pos : ∀ {l : List UInt8} {c : UInt8}, c ∈ l → 0 ≤ Lib.indexByte l c
  | b :: l, c, h => by
    unfold Lib.indexByte
    by_cases hb : (b == c) = true
    · rw [if_pos hb]; exact Int.le_refl _
    · rw [if_neg hb]
      have hm : c ∈ l := by
        rcases List.mem_cons.1 h with e | e
        · exact absurd (by rw [e]; simp) hb
        · exact e
      have h3 := ix_pos hm
      rw [if_neg (by simp; omega)]
      omega
theorem ix_dot (t : List UInt8) : decide (Lib.indexByte t 46 ≥ 0) = decide (0 < t.count 46) := by
  by_cases h : (46 : UInt8) ∈ t
  · have h1 : 0 < t.count 46 := List.count_pos_iff.2 h
    have h2 : 0 ≤ Lib.indexByte t 46 := by
      by_cases hc : 0 ≤ Lib.indexByte t 46
      · exact hc
      · exfalso
        exact hc (ix_pos h)
    rw [decide_eq_true h2, decide_eq_true h1]
  · have h1 : ¬ 0 < t.count 46 := fun h1 => h (List.count_pos_iff.1 h1)
    rw [ix_out h, decide_eq_false h1, decide_eq_false (by decide)]

set_option maxRecDepth 100000 in
set_option maxHeartbeats 1000000 in
/-- stringslite.Index of a dot. -/
theorem sidx_any (t : List UInt8) (w : World) : Calls Tryz.prog 57 #[.string ⟨t.toArray⟩, .string ⟨#[46]⟩] w fun e w' => e = .returned (.int .i64 (Lib.indexByte t 46)) ∧ w' = w := by
  by_cases hq : t = [46]
  · subst hq
    have c0 : (([46] : List UInt8) == [46]) = true := rfl
    go_enter Tryz.func57, Tryz.ntmps57
    go_wp2
    go_ret
    exact ⟨rfl, rfl⟩
  · have c0 : (([46] : List UInt8) == t) = false := beq_eq_false_iff_ne.2 (fun e => hq e.symm)
    go_enter Tryz.func57, Tryz.ntmps57
    go_wp2
    rw [run_callFunc_extern Tryz.func63 (by kernel_rfl) (by kernel_rfl) (by kernel_rfl) (e := Extern.BytealgIndexByte.indexByte) (by kernel_rfl), Lib.run_indexByteString]
    simp only [Result.andThen]
    rw [Oper.upon_value]
    go_wp2
    go_ret
    exact ⟨rfl, rfl⟩
set_option maxRecDepth 100000 in
/-- strings.Contains of a dot. -/
theorem dotted_any (t : List UInt8) (w : World) : Calls Tryz.prog 25 #[.string ⟨t.toArray⟩, .string ⟨#[46]⟩] w fun e w' => e = .returned (.bool (decide (0 < t.count 46))) ∧ w' = w := by
  have CI := sidx_any t w
  have HX : Hid (decide (Lib.indexByte t 46 ≥ 0) = decide (0 < t.count 46)) := ix_dot t
  generalize Lib.indexByte t 46 = i at *
  have C2 : Calls Tryz.prog 40 #[.string ⟨t.toArray⟩, .string ⟨#[46]⟩] w fun e w' => e = .returned (.int .i64 i) ∧ w' = w := by
    go_enter Tryz.func40, Tryz.ntmps40
    go_wp2_with fail
    refine CI.mono ?_
    rintro e w1 ⟨rfl, rfl⟩
    go_wp2
    go_ret
    exact ⟨rfl, rfl⟩
  clear CI
  go_enter Tryz.func25, Tryz.ntmps25
  go_wp2_with fail
  refine C2.mono ?_
  clear C2
  rintro e w1 ⟨rfl, rfl⟩
  go_wp2
  go_ret
  exact ⟨congrArg (fun b => Ending.returned (.bool b)) HX.out, rfl⟩

theorem part_len {l : List Nd} (h : TB l) (a : Int) (k : List UInt8) : (partF l a k).1.length ≤ 1073741824 := by
  rcases mem_lt l a k with e | ⟨i, hi, e⟩
  · unfold partF; rw [e]; simp
  · unfold partF
    rw [e, Int.toNat_natCast, if_neg (by omega)]
    split
    · simp
    · split
      · simp
      · exact (h.at hi).1

set_option maxRecDepth 100000 in
set_option maxHeartbeats 8000000 in
theorem part_any (l : List Nd) (ao : Option Addr) (cap : Nat) (a : Int) (k : List UInt8) (w : World) (h : NR w (.slice ao l.length cap) l ao cap) (hl : l.length ≤ 1000000000) :
    Calls Tryz.prog 15 #[.slice ao l.length cap, .int .i64 a, .string ⟨k.toArray⟩] w fun e w' => e = .returned (.tuple #[.string ⟨(partF l a k).1.toArray⟩, .bool (partF l a k).2]) ∧ Below w.heap.size w w' := by
  have CM := member_any _ l ao cap a k w h hl
  have HN : Hid (NR w (.slice ao l.length cap) l ao cap) := h
  rcases mem_lt l a k with e | ⟨i, hil, e⟩
  · have HF : Hid (partF l a k = ([], false)) := by show _ = _; unfold partF; rw [e]; exact if_pos (by decide)
    rw [e] at CM
    clear h e
    go_enter Tryz.func15, Tryz.ntmps15
    go_wp2_with fail
    refine CM.mono ?_
    clear CM
    rintro e w1 ⟨rfl, hB⟩
    have HB : Hid (Below w.heap.size w w1) := hB
    clear hB HN
    go_wp2
    go_ret2
    rw [HF.out]
    exact ⟨rfl, HB.out⟩
  · obtain ⟨n, hn⟩ : ∃ n, l.getD i (nd0 0) = n := ⟨_, rfl⟩
    have HF : Hid (partF l a k = if n.kind ≠ 5 then ([], false) else if 0 < n.text.count 46 then ([], false) else (n.text, true)) := by show _ = _; unfold partF; rw [e, Int.toNat_natCast, hn]; exact if_neg (by omega)
    have q0 : decide ((i : Int) < 0) = false := decide_eq_false (by omega)
    rw [e] at CM
    clear h e
    go_enter Tryz.func15, Tryz.ntmps15
    go_wp2_with fail
    refine CM.mono ?_
    clear CM
    rintro e w1 ⟨rfl, hB⟩
    have HB : Hid (Below w.heap.size w w1) := hB
    obtain ⟨g, off, rfl, hc2⟩ := (HN.out.below hB (Nat.le_refl _)).at hil
    rw [hn] at hc2
    have ck0 := hc2 0 (.int .i64 n.kind) (by omega) rfl
    have ck2 := hc2 2 (.string ⟨n.text.toArray⟩) (by omega) rfl
    rw [Nat.add_zero] at ck0
    clear hB HN hc2 hn
    by_cases h5 : n.kind = 5
    · have q5 : (n.kind != 5) = false := by simpa using h5
      have CD := dotted_any n.text w1
      by_cases hd : 0 < n.text.count 46
      · have HF2 : Hid (partF l a k = ([], false)) := by show _ = _; rw [HF.out, if_neg (by simpa using h5)]; exact if_pos hd
        rw [decide_eq_true hd] at CD
        clear HF h5 hd
        go_wp2_with fail
        refine CD.mono ?_
        clear CD
        rintro e w2 ⟨rfl, rfl⟩
        go_wp2
        go_ret2
        rw [HF2.out]
        exact ⟨rfl, HB.out⟩
      · have HF2 : Hid (partF l a k = (n.text, true)) := by show _ = _; rw [HF.out, if_neg (by simpa using h5)]; exact if_neg hd
        rw [decide_eq_false hd] at CD
        clear HF h5 hd
        go_wp2_with fail
        refine CD.mono ?_
        clear CD
        rintro e w2 ⟨rfl, rfl⟩
        go_wp2
        go_ret2
        rw [HF2.out]
        exact ⟨rfl, HB.out⟩
    · have q5 : (n.kind != 5) = true := by simpa using h5
      have HF2 : Hid (partF l a k = ([], false)) := by show _ = _; rw [HF.out]; exact if_pos h5
      clear HF h5
      go_wp2
      go_ret2
      rw [HF2.out]
      exact ⟨rfl, HB.out⟩

set_option maxRecDepth 100000 in
set_option maxHeartbeats 8000000 in
theorem signers_any (l : List Nd) (ao : Option Addr) (cap : Nat) (w : World) (h : NR w (.slice ao l.length cap) l ao cap) (hl : l.length ≤ 1000000000) (h0 : 0 < l.length) :
    Calls Tryz.prog 16 #[.slice ao l.length cap] w fun e w' => ∃ r, e = .returned r ∧ OI w.heap.size w w' r (signF l) := by
  have HN : Hid (NR w (.slice ao l.length cap) l ao cap) := h
  have CM := member_any _ l ao cap 0 kSgs w h hl
  obtain ⟨n0, hn0⟩ : ∃ n, l.getD 0 (nd0 0) = n := ⟨_, rfl⟩
  obtain ⟨g, off, rfl, hc0⟩ := h.at h0
  rw [hn0, Nat.zero_mul, Nat.add_zero] at hc0
  have hl0 : (0 : Int) < (l.length : Int) := by omega
  by_cases h3 : n0.kids = 3
  · have HF : Hid (signF l = [0]) := by show _ = _; unfold signF; rw [hn0]; exact if_pos h3
    have q3 : (n0.kids == 3) = true := by simpa using h3
    have c5 := hc0 5 (.int .i64 n0.kids) (by omega) rfl
    have HO : Hid (OI w.heap.size w (w.alloc (.cells #[.int .i64 0] 3)) (.slice (some ⟨w.heap.size, 0, none⟩) 1 1) [0]) := ⟨World.ownsRow_lit w #[.int .i64 0] 1 (Nat.le_refl _) (by decide) rfl, alloc_below _ _⟩
    clear h CM hn0 hc0 h3
    go_enter Tryz.func16, Tryz.ntmps16
    go_wp2
    go_ret
    rw [HF.out]
    exact ⟨_, rfl, HO.out⟩
  · have q3 : (n0.kids == 3) = false := by simpa using h3
    have HF : Hid (signF l = if memF l 0 kSgs < 0 ∨ n0.kids ≠ 2 ∨ (l.getD (memF l 0 kSgs).toNat (nd0 0)).kind ≠ 6 ∨ 16 < (l.getD (memF l 0 kSgs).toNat (nd0 0)).kids then []
        else if (kidsF l (memF l 0 kSgs)).all (fun i => decide ((l.getD i (nd0 0)).kids = 2)) = true then kidsF l (memF l 0 kSgs) else []) := by show _ = _; unfold signF; rw [hn0]; exact if_neg h3
    have c5 := hc0 5 (.int .i64 n0.kids) (by omega) rfl
    have HC5 : Hid (∀ wx, Below w.heap.size w wx → wx.cell? ⟨g, off + 5, none⟩ = some (.int .i64 n0.kids)) := fun wx hx => by
      obtain ⟨g', off', e, hc'⟩ := (h.below hx (Nat.le_refl _)).at h0
      cases e
      rw [hn0, Nat.zero_mul, Nat.add_zero] at hc'
      exact hc' 5 (.int .i64 n0.kids) (by omega) rfl
    clear h hn0 hc0 h3
    rcases mem_lt l 0 kSgs with e | ⟨i, hil, e⟩
    · have HF2 : Hid (signF l = []) := by show _ = _; rw [HF.out, e]; exact if_pos (Or.inl (by decide))
      rw [e] at CM
      clear HF e HC5 HN
      go_enter Tryz.func16, Tryz.ntmps16
      go_wp2_with fail
      refine CM.mono ?_
      clear CM c5
      rintro e w1 ⟨rfl, hB⟩
      have HB : Hid (Below w.heap.size w w1) := hB
      clear hB
      go_wp2
      go_ret
      rw [HF2.out]
      exact ⟨_, rfl, ⟨World.ownsRow_nil _ _ _ _, HB.out⟩⟩
    · obtain ⟨n, hn⟩ : ∃ n, l.getD i (nd0 0) = n := ⟨_, rfl⟩
      have HF1 : Hid (signF l = if n0.kids ≠ 2 ∨ n.kind ≠ 6 ∨ 16 < n.kids then []
        else if (kidsF l (i : Int)).all (fun i => decide ((l.getD i (nd0 0)).kids = 2)) = true then kidsF l (i : Int) else []) := by
        show _ = _
        rw [HF.out, e, Int.toNat_natCast, hn]
        have : ¬ ((i : Int) < 0) := by omega
        simp only [this, false_or]
      have q0 : decide ((i : Int) < 0) = false := decide_eq_false (by omega)
      rw [e] at CM
      clear HF e
      go_enter Tryz.func16, Tryz.ntmps16
      go_wp2_with fail
      refine CM.mono ?_
      clear CM c5
      rintro e w1 ⟨rfl, hB⟩
      have HB : Hid (Below w.heap.size w w1) := hB
      have c5 := HC5.out w1 hB
      have HN1 : Hid (NR w1 (.slice (some ⟨g, off, none⟩) l.length cap) l (some ⟨g, off, none⟩) cap) := HN.out.below hB (Nat.le_refl _)
      obtain ⟨g', off', e, hc2⟩ := HN1.out.at hil
      cases e
      rw [hn] at hc2
      have ck0 := hc2 0 (.int .i64 n.kind) (by omega) rfl
      have ck5 := hc2 5 (.int .i64 n.kids) (by omega) rfl
      rw [Nat.add_zero] at ck0
      clear hB HN hc2 hn HC5
      by_cases h2 : n0.kids = 2
      · have q2 : (n0.kids != 2) = false := by simpa using h2
        by_cases h6 : n.kind = 6
        · have q6 : (n.kind != 6) = false := by simpa using h6
          by_cases h16 : 16 < n.kids
          · have q16 : decide (n.kids > 16) = true := decide_eq_true h16
            have HF2 : Hid (signF l = []) := by show _ = _; rw [HF1.out]; exact if_pos (Or.inr (Or.inr h16))
            clear HF1 h2 h6 h16 HN1
            go_wp2
            go_ret
            rw [HF2.out]
            exact ⟨_, rfl, ⟨World.ownsRow_nil _ _ _ _, HB.out⟩⟩
          · have q16 : decide (n.kids > 16) = false := decide_eq_false h16
            have HF2 : Hid (signF l = if (kidsF l (i : Int)).all (fun i => decide ((l.getD i (nd0 0)).kids = 2)) = true then kidsF l (i : Int) else []) := by
              show _ = _; rw [HF1.out]; exact if_neg (by rintro (h | h | h); exact h h2; exact h h6; exact h16 h)
            have CK := kids_any _ l (some ⟨g, off, none⟩) cap (i : Int) w1 HN1.out hl
            have HLT : Hid (∀ x ∈ kidsF l (i : Int), x < l.length) := kidsF_lt
            have hkl := @kids_len l (i : Int)
            have HAD : Hid (∀ j, j < (kidsF l (i : Int)).length → ((kidsF l (i : Int)).drop j).all (fun i => decide ((l.getD i (nd0 0)).kids = 2)) = (decide ((l.getD ((kidsF l (i : Int)).getD j 0) (nd0 0)).kids = 2) && ((kidsF l (i : Int)).drop (j + 1)).all (fun i => decide ((l.getD i (nd0 0)).kids = 2)))) := fun j hj => all_dropN (f := fun i => decide ((l.getD i (nd0 0)).kids = 2)) hj
            generalize kidsF l (i : Int) = L at *
            clear HF1 h2 h6 h16
            go_wp2_with fail
            refine CK.mono ?_
            clear CK c5 ck0 ck5
            rintro e w2 ⟨r, rfl, hoi⟩
            obtain ⟨ka, kc, rfl, hkc, hkat⟩ := hoi.at
            have HOI : Hid (OI w.heap.size w w2 (.slice ka L.length kc) L) := ⟨own_mono hoi.own HB.out.size, HB.out.trans (hoi.bel.mono HB.out.size)⟩
            have HAT : Hid (∀ j, j < L.length → ∃ g, ka = some ⟨g, 0, none⟩ ∧ w2.cell? ⟨g, j, none⟩ = some (iV (L.getD j 0))) := hkat
            have HN2 : Hid (NR w2 (.slice (some ⟨g, off, none⟩) l.length cap) l (some ⟨g, off, none⟩) cap) := HN1.out.below hoi.bel (Nat.le_refl _)
            clear hoi hkat HN1 HB
            go_wp2
            go_loopw [45] (fun s wx => ∃ j : Nat, s = .int .i64 j ∧ j ≤ L.length ∧ wx = w2 ∧ (L.drop j).all (fun i => decide ((l.getD i (nd0 0)).kids = 2)) = L.all (fun i => decide ((l.getD i (nd0 0)).kids = 2))) (fun x _ => L.length - (intOf x).toNat)
            case atStart => exact ⟨0, rfl, Nat.zero_le _, rfl, rfl⟩
            case round =>
              obtain ⟨j, rfl, hj, rfl, hd⟩ := hrel
              by_cases hjl : j < L.length
              · have q1 : decide ((j : Int) < (L.length : Int)) = true := decide_eq_true (by omega)
                obtain ⟨kg, rfl, ckj⟩ := HAT.out j hjl
                have hkl2 : L.getD j 0 < l.length := HLT.out _ (by rw [List.getD_eq_getElem?_getD, List.getElem?_eq_getElem hjl]; exact List.getElem_mem hjl)
                rw [HAD.out j hjl] at hd
                generalize L.getD j 0 = m at *
                obtain ⟨g3, off3, e, hc3⟩ := HN2.out.at hkl2
                cases e
                obtain ⟨x, hx⟩ : ∃ n, l.getD m (nd0 0) = n := ⟨_, rfl⟩
                rw [hx] at hc3 hd
                have ck5 := hc3 5 (.int .i64 x.kids) (by omega) rfl
                unfold iV at ckj
                by_cases hx2 : x.kids = 2
                · have q7 : (x.kids != 2) = false := by simpa using hx2
                  have HD2 : Hid ((L.drop (j + 1)).all (fun i => decide ((l.getD i (nd0 0)).kids = 2)) = L.all (fun i => decide ((l.getD i (nd0 0)).kids = 2))) := by show _ = _; rw [← hd, decide_eq_true hx2]; rfl
                  clear hd hc3 hx hx2
                  go_wp2
                  go_roundw
                  case rel => exact ⟨j + 1, by go_num, by omega, trivial, HD2.out⟩
                  case measure => simp [intOf]; omega
                · have q7 : (x.kids != 2) = true := by simpa using hx2
                  have HF3 : Hid (signF l = []) := by show _ = _; rw [HF2.out, ← hd, decide_eq_false hx2]; rfl
                  clear hd hc3 hx hx2
                  go_wp2
                  go_ret
                  rw [HF3.out]
                  exact ⟨_, rfl, ⟨World.ownsRow_nil _ _ _ _, HOI.out.bel⟩⟩
              · have q1 : decide ((j : Int) < (L.length : Int)) = false := decide_eq_false (by omega)
                have HF3 : Hid (signF l = L) := by show _ = _; rw [HF2.out, ← hd, List.drop_eq_nil_of_le (by omega)]; rfl
                clear hd
                go_wp2
                go_ret
                rw [HF3.out]
                exact ⟨_, rfl, HOI.out⟩
        · have q6 : (n.kind != 6) = true := by simpa using h6
          have HF2 : Hid (signF l = []) := by show _ = _; rw [HF1.out]; exact if_pos (Or.inr (Or.inl h6))
          clear HF1 h2 h6 HN1
          go_wp2
          go_ret
          rw [HF2.out]
          exact ⟨_, rfl, ⟨World.ownsRow_nil _ _ _ _, HB.out⟩⟩
      · have q2 : (n0.kids != 2) = true := by simpa using h2
        have HF2 : Hid (signF l = []) := by show _ = _; rw [HF1.out]; exact if_pos (Or.inl h2)
        clear HF1 h2 HN1
        go_wp2
        go_ret
        rw [HF2.out]
        exact ⟨_, rfl, ⟨World.ownsRow_nil _ _ _ _, HB.out⟩⟩

end Go.Proofs.YtapljedegjiliaaGreatDoor
