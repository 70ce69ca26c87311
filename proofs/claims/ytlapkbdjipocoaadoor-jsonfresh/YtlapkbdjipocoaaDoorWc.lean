import Derived.Test.YtlapkbdjipocoaaDoorWb
namespace Go.Proofs.YtlapkbdjipocoaaDoor
open Go.RowKit Go.Shelf

theorem below_drew1 {n : Nat} {w w' : World} (h : Below n w w') : Below n w w'.drew := below_drewN h 1
theorem kidsF_out (l : List Nd) : kidsF l (l.length : Int) = [] := by unfold kidsF; rw [if_neg (by omega)]
theorem behindF_in {l : List Nd} {i : Nat} (h : i < l.length) : behindF l (i : Int) = (bhN l i : Int) := by unfold behindF; rw [if_pos ⟨by omega, by omega⟩, Int.toNat_natCast]
theorem behindF_neg (l : List Nd) : behindF l (-1) = -1 := by unfold behindF; rw [if_neg (by omega)]
theorem behindF_out (l : List Nd) : behindF l (l.length : Int) = -1 := by unfold behindF; rw [if_neg (by omega)]
theorem memF_neg (l : List Nd) (k : List UInt8) : memF l (-1) k = -1 := by unfold memF; rw [if_neg (by omega)]
theorem Ch.step {v : List Nd} {L : List Nat} {j i e : Nat} (h : Ch v i (L.drop j) e) (hj : j < L.length) : L.getD j 0 = i ∧ Ch v (bhN v i) (L.drop (j + 1)) e := by
  rw [List.drop_eq_getElem_cons hj] at h
  refine ⟨?_, h.2⟩
  rw [← h.1]
  simp [List.getD_eq_getElem?_getD, hj]
theorem Ch.stop {v : List Nd} {L : List Nat} {j i e : Nat} (h : Ch v i (L.drop j) e) (hj : L.length ≤ j) : i = e := by
  rw [List.drop_eq_nil_of_le hj] at h
  exact h

/-- The nodes of a part. -/
theorem part_cells {l : List Nd} {k m : Nat} (h : k + m ≤ l.length) (j : Nat) (u : Value) (hu : (nCs ((l.drop k).take m))[j]? = some u) : (nCs l)[k * 6 + j]? = some u := by
  have e : l = l.take k ++ ((l.drop k).take m ++ (l.drop k).drop m) := by rw [List.take_append_drop, List.take_append_drop]
  rw [e, nCs_append, nCs_append, List.getElem?_append_right (by rw [nCs_length, List.length_take]; omega), nCs_length, List.length_take, show k * 6 + j - min k l.length * 6 = j by rw [Nat.min_eq_left (by omega)]; omega]
  rw [List.getElem?_append_left (List.getElem?_eq_some_iff.1 hu).1]
  exact hu
theorem part_head {l : List Nd} {k m : Nat} (h : k + m ≤ l.length) (hm : 0 < m) : (l.drop k).take m = l.getD k (nd0 0) :: (l.drop (k + 1)).take (m - 1) := by
  rw [dropN (by omega)]
  obtain ⟨m, rfl⟩ : ∃ m', m = m' + 1 := ⟨m - 1, by omega⟩
  rfl
theorem nCs_one' (l : List Nd) : ∀ u ∈ nCs l, u.oneCell' = true := by
  intro u hu
  unfold nCs at hu
  obtain ⟨n, _, hn⟩ := List.mem_flatMap.1 hu
  simp [nC] at hn
  rcases hn with rfl | rfl | rfl | rfl | rfl | rfl <;> rfl

set_option maxRecDepth 100000 in
set_option maxHeartbeats 16000000 in
theorem parts_any (t : List UInt8) (w : World) (hG : GL w.heap.size w) :
    Calls Tryd.prog 5 #[.string ⟨t.toArray⟩] w fun e w' => e = .returned (.bool true) ∧ Below w.heap.size w w' := by
  have CA := alive_any w hG
  have HP : Hid (∀ wq, GL wq.heap.size wq → Calls Tryd.prog 27 #[.string ⟨t.toArray⟩] wq fun e w' => Below wq.heap.size wq w' ∧ ∃ v, e = .returned (.tuple #[v, .int .i64 ((parseF t).2.1 : Int), .int .i64 ((parseF t).2.2 : Int)]) ∧ NO wq.heap.size w' v (parseF t).1) := fun wq hq => parse_all t wq hq
  have hbd := parse_bd t
  have HV : Hid ((parseF t).2.1 = 0 → Sq 0 [[]] (parseF t).1) := parse_val
  have HG : Hid (GL w.heap.size w) := hG
  clear hG
  generalize parseF t = pf at *
  obtain ⟨l, c, p⟩ := pf
  simp only at HP hbd HV
  obtain ⟨hl, htb⟩ := hbd
  have HTB : Hid (TB l) := htb
  clear htb
  go_enter Tryd.func5, Tryd.ntmps5
  go_wp2_with fail
  refine CA.mono ?_
  clear CA
  rintro e w1 ⟨rfl, hB1⟩
  have hG1 : GL w1.heap.size w1 := (HG.out.below hB1).up hB1.size
  have C1 := HP.out w1 hG1
  have HB1 : Hid (Below w.heap.size w w1) := hB1
  have HG1 : Hid (GL w1.heap.size w1) := hG1
  clear hB1 hG1 HP HG
  go_wp2_with fail
  refine C1.mono ?_
  clear C1
  rintro e w2 ⟨hB2, v, rfl, hO⟩
  obtain ⟨ao, cap, hN⟩ := hO.nr
  obtain ⟨rfl, hcap, _⟩ := id hN
  have HB2 : Hid (Below w.heap.size w w2) := HB1.out.trans (hB2.mono HB1.out.size)
  have HG2 : Hid (GL w2.heap.size w2) := (HG1.out.below hB2).up hB2.size
  have HN2 : Hid (NR w2 (.slice ao l.length cap) l ao cap) := hN
  clear hO hN hB2 HB1 HG1
  by_cases hc : c = 0
  · subst hc
    have hsq := HV.out rfl
    have HA : Hid (∀ i, i < l.length → At l i) := fun i hi => at_of hsq hl hi
    have hall := all_of hsq hl
    have hl0 := hall.1
    have HBh : Hid (bhN l 0 = l.length) := hall.2
    clear hsq hall HV
    obtain ⟨g, off, rfl, _⟩ := HN2.out.at hl0
    have HNq : Hid (∀ wq, Below w2.heap.size w2 wq → NR wq (.slice (some ⟨g, off, none⟩) l.length cap) l (some ⟨g, off, none⟩) cap) := fun wq hq => HN2.out.below hq (Nat.le_refl _)
    have HGq : Hid (∀ wq, Below w2.heap.size w2 wq → GL wq.heap.size wq) := fun wq hq => (HG2.out.below hq).up hq.size
    have HKq : Hid (∀ wq (a : Int), Below w2.heap.size w2 wq → Calls Tryd.prog 13 #[.slice (some ⟨g, off, none⟩) l.length cap, .int .i64 a] wq fun e w' => ∃ r, e = .returned r ∧ OI wq.heap.size wq w' r (kidsF l a)) := fun wq a hq => kids_any _ l _ cap a wq (HNq.out wq hq) (by omega)
    have HBq : Hid (∀ wq (a : Int), Below w2.heap.size w2 wq → Calls Tryd.prog 14 #[.slice (some ⟨g, off, none⟩) l.length cap, .int .i64 a] wq fun e w' => e = .returned (.int .i64 (behindF l a)) ∧ w' = wq) := fun wq a hq => behind_any _ l _ cap a wq (HNq.out wq hq) (by omega)
    have HMq : Hid (∀ wq (a : Int) (key : List UInt8), Below w2.heap.size w2 wq → Calls Tryd.prog 12 #[.slice (some ⟨g, off, none⟩) l.length cap, .int .i64 a, .string ⟨key.toArray⟩] wq fun e w' => e = .returned (.int .i64 (memF l a key)) ∧ Below wq.heap.size wq w') := fun wq a key hq => member_any _ l _ cap a key wq (HNq.out wq hq) (by omega)
    go_wp2
    go_loopw [6] (fun s6 wx => ∃ k : Nat, s6 = .int .i64 k ∧ k ≤ l.length ∧ Below w2.heap.size w2 wx) (fun s _ => l.length - (intOf s).toNat)
    case atStart => exact ⟨0, rfl, Nat.zero_le _, Below.refl _ _⟩
    case round =>
      obtain ⟨k, rfl, hk, hb⟩ := hrel
      have HBr : Hid (Below w2.heap.size w2 wr) := hb
      clear hb
      by_cases hgo : k < l.length ∧ k < 200
      · have q1 : decide ((k : Int) < (l.length : Int)) = true := decide_eq_true (by omega)
        have q2 : decide ((k : Int) < 200) = true := decide_eq_true (by omega)
        have hk1 := hgo.1
        have CK := HKq.out wr (k : Int) HBr.out
        have hAt := HA.out k hk1
        have HCh : Hid (Ch l (k + 1) (kidsF l (k : Int)) (bhN l k)) := hAt.ch
        obtain ⟨Kd, hKd⟩ : ∃ Kd, (l.getD k (nd0 0)).kind = Kd := ⟨_, rfl⟩
        obtain ⟨K, hK⟩ : ∃ K, (l.getD k (nd0 0)).kids = K := ⟨_, rfl⟩
        have hLn := hAt.ln
        rw [hK] at hLn
        have HMe := hAt.me
        have HNo := hAt.no
        rw [hKd] at HMe HNo
        have HMe' : Hid (Kd = 7 → ∀ j, j < (kidsF l (k : Int)).length → memF l (k : Int) (l.getD ((kidsF l (k : Int)).getD j 0) (nd0 0)).key = ((kidsF l (k : Int)).getD j 0 : Nat)) := HMe
        have HNo' : Hid (Kd ≠ 7 → memF l (k : Int) [] = -1) := HNo
        have HSh : Hid (shapedF ({ l.getD k (nd0 0) with key := [] } :: (l.drop (k + 1)).take (bhN l k - (k + 1))) = true) := hAt.sh
        have HLt : Hid (∀ x ∈ kidsF l (k : Int), x < l.length) := kidsF_lt
        have hb1 := bhN_gt hk1
        have hb2 := bhN_le (v := l) hk
        have HCell : Hid (∀ wq, Below w2.heap.size w2 wq → wq.cell? ⟨g, off + k * 6 + 5, none⟩ = some (.int .i64 K) ∧ wq.cell? ⟨g, off + k * 6, none⟩ = some (.int .i64 Kd)) := fun wq hq => by
          obtain ⟨g', off', e', hc⟩ := (HNq.out wq hq).at hk1
          cases e'
          refine ⟨hc 5 _ (by omega) (by rw [← hK]; rfl), ?_⟩
          have := hc 0 (.int .i64 Kd) (by omega) (by rw [← hKd]; rfl)
          rwa [Nat.add_zero] at this
        have HBk : Hid (∀ wq, Below w2.heap.size w2 wq → Calls Tryd.prog 14 #[.slice (some ⟨g, off, none⟩) l.length cap, .int .i64 (k : Int)] wq fun e w' => e = .returned (.int .i64 (bhN l k : Int)) ∧ w' = wq) := fun wq hq => by
          have := HBq.out wq (k : Int) hq
          rw [behindF_in hk1] at this
          exact this
        clear hAt HMe HNo hgo hKd hK
        generalize hLL : kidsF l (k : Int) = L at *
        have hLl : L.length ≤ 1000000000 := by
          rw [← hLL]
          unfold kidsF
          split
          · have := kidsF_len (v := l) (l.length + 1) (k + 1) (l.getD k (nd0 0)).kids (by omega)
            rw [Int.toNat_natCast]
            omega
          · simp
        clear hLL
        generalize hbN : bhN l k = bN at *
        clear hbN
        go_wp2_with fail
        refine CK.mono ?_
        clear CK
        rintro e w3 ⟨r, rfl, hoi⟩
        obtain ⟨ka, kc, rfl, hkc, hkat⟩ := hoi.at
        have HB3 : Hid (Below w2.heap.size w2 w3) := HBr.out.trans (hoi.bel.mono HBr.out.size)
        have HOI : Hid (OI wr.heap.size wr w3 (.slice ka L.length kc) L) := hoi
        have hrsz := HBr.out.size
        clear hoi hkat
        go_wp2
        go_loopw [8, 9] (fun s8 s9 wx => ∃ (j nx : Nat), s9 = .int .i64 j ∧ s8 = .int .i64 nx ∧ j ≤ L.length ∧ Below w3.heap.size w3 wx ∧ Ch l nx (L.drop j) bN) (fun _ s _ => L.length - (intOf s).toNat)
        case atStart => exact ⟨0, k + 1, rfl, by go_num, Nat.zero_le _, Below.refl _ _, HCh.out⟩
        case round =>
          obtain ⟨j, nx, rfl, rfl, hj, hb, hch⟩ := hrel
          have HBr3 : Hid (Below w3.heap.size w3 wr) := hb
          have HBr2 : Hid (Below w2.heap.size w2 wr) := HB3.out.trans (hb.mono HB3.out.size)
          clear hb
          by_cases hjl : j < L.length
          · have q3 : decide ((j : Int) < (L.length : Int)) = true := decide_eq_true (by omega)
            obtain ⟨hnx, hch2⟩ := hch.step hjl
            have hnl : nx < l.length := by
              refine HLt.out nx ?_
              rw [← hnx, List.getD_eq_getElem?_getD, List.getElem?_eq_getElem hjl]
              exact List.getElem_mem hjl
            have HCh2 : Hid (Ch l (bhN l nx) (L.drop (j + 1)) bN) := hch2
            have C4 := HBq.out wr (nx : Int) HBr2.out
            rw [behindF_in hnl] at C4
            obtain ⟨Y, hY⟩ : ∃ Y, (l.getD nx (nd0 0)).key = Y := ⟨_, rfl⟩
            have HMem : Hid (Kd = 7 → memF l (k : Int) Y = (nx : Int)) := fun h7 => by
              have := HMe'.out h7 j hjl
              rw [hnx, hY] at this
              exact this
            obtain ⟨ka', kc', e', hkc', hkat⟩ := HOI.out.at
            cases e'
            obtain ⟨gr, rfl, hck⟩ := hkat j hjl
            rw [hnx] at hck
            have HCj : Hid (∀ wq, Below w3.heap.size w3 wq → wq.cell? ⟨gr, j, none⟩ = some (.int .i64 (nx : Int))) := fun wq hq => cell_but hck fun hlt => hq.block _ hlt
            have HCY : Hid (∀ wq, Below w2.heap.size w2 wq → wq.cell? ⟨g, off + nx * 6 + 1, none⟩ = some (.string ⟨Y.toArray⟩)) := fun wq hq => by
              obtain ⟨g', off', e', hc⟩ := (HNq.out wq hq).at hnl
              cases e'
              exact hc 1 _ (by omega) (by rw [← hY]; rfl)
            have cj := HCj.out wr HBr3.out
            clear hch hch2 hnx hY hck hkat hkc'
            generalize hbx : bhN l nx = bX at *
            clear hbx
            go_wp2_with fail
            refine C4.mono ?_
            clear C4
            rintro e w5 ⟨rfl, rfl⟩
            by_cases h7 : Kd = 7
            · subst h7
              have HMJ : Hid (∀ wq, Below w3.heap.size w3 wq → Calls Tryd.prog 12 #[.slice (some ⟨g, off, none⟩) l.length cap, .int .i64 (k : Int), .string ⟨Y.toArray⟩] wq fun e w' => e = .returned (.int .i64 (nx : Int)) ∧ Below wq.heap.size wq w') := fun wq hq => by
                have := HMq.out wq (k : Int) Y (HB3.out.trans (hq.mono HB3.out.size))
                rw [HMem.out rfl] at this
                exact this
              have HSS : Hid (∀ wq, Below w3.heap.size w3 wq → (fun (w' : World) => w'.cell? ⟨g, off + k * 6, none⟩ = some (.int .i64 7) ∧ w'.cell? ⟨gr, j, none⟩ = some (.int .i64 (nx : Int)) ∧ w'.cell? ⟨g, off + nx * 6 + 1, none⟩ = some (.string ⟨Y.toArray⟩)) wq) := fun wq hq => ⟨(HCell.out wq (HB3.out.trans (hq.mono HB3.out.size))).2, HCj.out wq hq, HCY.out wq (HB3.out.trans (hq.mono HB3.out.size))⟩
              go_wp2
              refine wp_region_K 23 (fun (w' : World) => w'.cell? ⟨g, off + k * 6, none⟩ = some (.int .i64 7) ∧ w'.cell? ⟨gr, j, none⟩ = some (.int .i64 (nx : Int)) ∧ w'.cell? ⟨g, off + nx * 6 + 1, none⟩ = some (.string ⟨Y.toArray⟩)) (by kernel_rfl) ?_
              have hHeld : ((fun (w' : World) => w'.cell? ⟨g, off + k * 6, none⟩ = some (.int .i64 7) ∧ w'.cell? ⟨gr, j, none⟩ = some (.int .i64 (nx : Int)) ∧ w'.cell? ⟨g, off + nx * 6 + 1, none⟩ = some (.string ⟨Y.toArray⟩))) (World.drew _) := HSS.out _ (below_drewN HBr3.out 1)
              refine wpAnyK_take0 0 (v := ?v1) rfl (by kernel_rfl) (fun _ _ _ h => h) (Or.inl ⟨by rfl, ?hy1⟩) (fun _ => hHeld) ?_
              case hy1 => (intro w hSw; go_simp; try with_reducible rfl)
              try simp only [Act.put, List.setIfInBounds_toArray, List.set_cons_zero, List.set_cons_succ]
              refine wpAnyK_take0 1 (v := ?v2) rfl (by kernel_rfl) (fun _ _ _ h => h) (Or.inl ⟨by rfl, ?hy2⟩) (fun _ => hHeld) ?_
              case hy2 => (intro w hSw; go_simp; try with_reducible rfl)
              try simp only [Act.put, List.setIfInBounds_toArray, List.set_cons_zero, List.set_cons_succ]
              refine wpAnyK_take0 2 (v := ?v3) rfl (by kernel_rfl) (fun _ _ _ h => h) (Or.inl ⟨by rfl, ?hy3⟩) (fun _ => hHeld) ?_
              case hy3 => (intro w hSw; go_simp; try with_reducible rfl)
              try simp only [Act.put, List.setIfInBounds_toArray, List.set_cons_zero, List.set_cons_succ]
              refine wpAnyK_take0 3 (v := ?v4) rfl (by kernel_rfl) (fun _ _ _ h => h) (Or.inl ⟨by rfl, ?hy4⟩) (fun _ => hHeld) ?_
              case hy4 => (intro w hSw; go_simp; try with_reducible rfl)
              try simp only [Act.put, List.setIfInBounds_toArray, List.set_cons_zero, List.set_cons_succ]
              refine wpAnyK_take 4 [5, 6, 23] (v := ?v5) rfl (by kernel_rfl) (fun _ _ _ h => h) (Or.inl ⟨by rfl, ?hy5⟩) hHeld ?_
              case hy5 => (intro w hSw; (try dsimp only at hSw); go_simp; try with_reducible rfl)
              try simp only [Act.put, List.setIfInBounds_toArray, List.set_cons_zero, List.set_cons_succ]
              refine wpAnyK_take0 5 (v := ?v6) rfl (by kernel_rfl) (fun _ _ _ h => h) (Or.inl ⟨by rfl, ?hy6⟩) (fun _ => hHeld) ?_
              case hy6 => (intro w hSw; go_simp; try with_reducible rfl)
              try simp only [Act.put, List.setIfInBounds_toArray, List.set_cons_zero, List.set_cons_succ]
              refine wpAnyK_take0 6 (v := ?v7) rfl (by kernel_rfl) (fun _ _ _ h => h) (Or.inl ⟨by rfl, ?hy7⟩) (fun _ => hHeld) ?_
              case hy7 => (intro w hSw; go_simp; try with_reducible rfl)
              try simp only [Act.put, List.setIfInBounds_toArray, List.set_cons_zero, List.set_cons_succ]
              refine wpAnyK_take0 7 (v := ?v8) rfl (by kernel_rfl) (fun _ _ _ h => h) (Or.inl ⟨by rfl, ?hy8⟩) (fun _ => hHeld) ?_
              case hy8 => (intro w hSw; go_simp; try with_reducible rfl)
              try simp only [Act.put, List.setIfInBounds_toArray, List.set_cons_zero, List.set_cons_succ]
              refine wpAnyK_take0 8 (v := ?v9) rfl (by kernel_rfl) (fun _ _ _ h => h) (Or.inl ⟨by rfl, ?hy9⟩) (fun _ => hHeld) ?_
              case hy9 => (intro w hSw; go_simp; try with_reducible rfl)
              try simp only [Act.put, List.setIfInBounds_toArray, List.set_cons_zero, List.set_cons_succ]
              refine wpAnyK_take0 9 (v := ?v10) rfl (by kernel_rfl) (fun _ _ _ h => h) (Or.inl ⟨by rfl, ?hy10⟩) (fun _ => hHeld) ?_
              case hy10 => (intro w hSw; go_simp; try with_reducible rfl)
              try simp only [Act.put, List.setIfInBounds_toArray, List.set_cons_zero, List.set_cons_succ]
              refine wpAnyK_take0 10 (v := ?v11) rfl (by kernel_rfl) (fun _ _ _ h => h) (Or.inl ⟨by rfl, ?hy11⟩) (fun _ => hHeld) ?_
              case hy11 => (intro w hSw; go_simp; try with_reducible rfl)
              try simp only [Act.put, List.setIfInBounds_toArray, List.set_cons_zero, List.set_cons_succ]
              refine wpAnyK_take0 11 (v := ?v12) rfl (by kernel_rfl) (fun _ _ _ h => h) (Or.inl ⟨by rfl, ?hy12⟩) (fun _ => hHeld) ?_
              case hy12 => (intro w hSw; go_simp; try with_reducible rfl)
              try simp only [Act.put, List.setIfInBounds_toArray, List.set_cons_zero, List.set_cons_succ]
              refine wpAnyK_take0 12 (v := ?v13) rfl (by kernel_rfl) (fun _ _ _ h => h) (Or.inl ⟨by rfl, ?hy13⟩) (fun _ => hHeld) ?_
              case hy13 => (intro w hSw; go_simp; try with_reducible rfl)
              try simp only [Act.put, List.setIfInBounds_toArray, List.set_cons_zero, List.set_cons_succ]
              refine wpAnyK_take 13 [14, 15, 16, 17, 22, 23] (v := ?v14) rfl (by kernel_rfl) (fun _ _ _ h => h) (Or.inl ⟨by rfl, ?hy14⟩) hHeld ?_
              case hy14 => (intro w hSw; (try dsimp only at hSw); go_simp; try with_reducible rfl)
              try simp only [Act.put, List.setIfInBounds_toArray, List.set_cons_zero, List.set_cons_succ]
              refine wpAnyK_take0 14 (v := ?v15) rfl (by kernel_rfl) (fun _ _ _ h => h) (Or.inl ⟨by rfl, ?hy15⟩) (fun _ => hHeld) ?_
              case hy15 => (intro w hSw; go_simp; try with_reducible rfl)
              try simp only [Act.put, List.setIfInBounds_toArray, List.set_cons_zero, List.set_cons_succ]
              refine wpAnyK_take0 15 (v := ?v16) rfl (by kernel_rfl) (fun _ _ _ h => h) (Or.inl ⟨by rfl, ?hy16⟩) (fun _ => hHeld) ?_
              case hy16 => (intro w hSw; go_simp; try with_reducible rfl)
              try simp only [Act.put, List.setIfInBounds_toArray, List.set_cons_zero, List.set_cons_succ]
              refine wpAnyK_take 16 [17, 22, 23] (v := ?v17) rfl (by kernel_rfl) (fun _ _ _ h => h) (Or.inl ⟨by rfl, ?hy17⟩) hHeld ?_
              case hy17 => (intro w hSw; (try dsimp only at hSw); go_simp; try with_reducible rfl)
              try simp only [Act.put, List.setIfInBounds_toArray, List.set_cons_zero, List.set_cons_succ]
              refine wpAnyK_take0 18 (v := ?v18) rfl (by kernel_rfl) (fun _ _ _ h => h) (Or.inl ⟨by rfl, ?hy18⟩) (fun _ => hHeld) ?_
              case hy18 => (intro w hSw; go_simp; try with_reducible rfl)
              try simp only [Act.put, List.setIfInBounds_toArray, List.set_cons_zero, List.set_cons_succ]
              refine wpAnyK_take0 19 (v := ?v19) rfl (by kernel_rfl) (fun _ _ _ h => h) (Or.inl ⟨by rfl, ?hy19⟩) (fun _ => hHeld) ?_
              case hy19 => (intro w hSw; go_simp; try with_reducible rfl)
              try simp only [Act.put, List.setIfInBounds_toArray, List.set_cons_zero, List.set_cons_succ]
              refine wpAnyK_take0 20 (v := ?v20) rfl (by kernel_rfl) (fun _ _ _ h => h) (Or.inl ⟨by rfl, ?hy20⟩) (fun _ => hHeld) ?_
              case hy20 => (intro w hSw; go_simp; try with_reducible rfl)
              try simp only [Act.put, List.setIfInBounds_toArray, List.set_cons_zero, List.set_cons_succ]
              refine wpAnyK_take 21 [22, 23] (v := ?v21) rfl (by kernel_rfl) (fun _ _ _ h => h) (Or.inl ⟨by rfl, ?hy21⟩) hHeld ?_
              case hy21 => (intro w hSw; (try dsimp only at hSw); go_simp; try with_reducible rfl)
              try simp only [Act.put, List.setIfInBounds_toArray, List.set_cons_zero, List.set_cons_succ]
              refine wpAnyK_step 17 rfl (by kernel_rfl) (fun K hK => ?_)
              go_simp
              refine (HMJ.out _ (below_drewN HBr3.out 1)).mono ?_
              rintro e w6 ⟨rfl, hB6⟩
              have HB6 : Hid (Below w3.heap.size w3 w6) := (below_drewN HBr3.out 1).trans (hB6.mono (below_drewN HBr3.out 1).size)
              have HS6 : Hid ((fun (w' : World) => w'.cell? ⟨g, off + k * 6, none⟩ = some (.int .i64 7) ∧ w'.cell? ⟨gr, j, none⟩ = some (.int .i64 (nx : Int)) ∧ w'.cell? ⟨g, off + nx * 6 + 1, none⟩ = some (.string ⟨Y.toArray⟩)) w6) := HSS.out w6 HB6.out
              dsimp only
              refine hK.out _ _ ?hk22 ?_
              case hk22 => exact fun _ => HS6.out
              have hHeld : ((fun (w' : World) => w'.cell? ⟨g, off + k * 6, none⟩ = some (.int .i64 7) ∧ w'.cell? ⟨gr, j, none⟩ = some (.int .i64 (nx : Int)) ∧ w'.cell? ⟨g, off + nx * 6 + 1, none⟩ = some (.string ⟨Y.toArray⟩))) _ := HS6.out
              clear hK K
              try simp only [Act.put, List.setIfInBounds_toArray, List.set_cons_zero, List.set_cons_succ]
              refine wpAnyK_take0 22 (v := ?v23) rfl (by kernel_rfl) (fun _ _ _ h => h) (Or.inl ⟨by rfl, ?hy23⟩) (fun _ => hHeld) ?_
              case hy23 => (intro w hSw; go_simp; try with_reducible rfl)
              try simp only [Act.put, List.setIfInBounds_toArray, List.set_cons_zero, List.set_cons_succ]
              refine wpAnyK_step 23 rfl (by kernel_rfl) (fun K hK => ?_)
              go_simp
              refine hK.out _ _ ?hk24 ?_
              case hk24 => exact (fun h => nomatch (h.symm.trans (show _ = true by kernel_rfl)))
              clear hK K
              try simp only [Act.put, List.setIfInBounds_toArray, List.set_cons_zero, List.set_cons_succ]
              refine wpAnyK_done (by kernel_rfl) ?_ _
              clear hHeld
              go_wp2
              go_roundw
              case rel => exact ⟨j + 1, bX, by go_num, rfl, by omega, HB6.out, HCh2.out⟩
              case measure => simp [intOf]; omega
            · have q7 : (Kd == 7) = false := by simpa using h7
              have k0 := (HCell.out _ HBr2.out).2
              have cY := HCY.out _ HBr2.out
              go_wp2
              go_quiet (fail)
              go_wp2
              go_roundw
              case rel => exact ⟨j + 1, bX, by go_num, rfl, by omega, below_drewN HBr3.out _, HCh2.out⟩
              case measure => simp [intOf]; omega
          · have q3 : decide ((j : Int) < (L.length : Int)) = false := decide_eq_false (by omega)
            obtain rfl := hch.stop (by omega)
            have C5 := HBk.out wr HBr2.out
            have k5 := (HCell.out wr HBr2.out).1
            have k0 := (HCell.out wr HBr2.out).2
            subst hLn
            clear hch
            obtain ⟨i1, hi1, hz1, hz2, hz3⟩ := info_parts infoN
            by_cases h7 : Kd = 7
            · subst h7
              go_wp2_with fail
              refine C5.mono ?_
              clear C5
              rintro e w4 ⟨rfl, rfl⟩
              have hNW := HNq.out w4 HBr2.out
              have HBW : Hid (Below w2.heap.size w2 w4) := HBr2.out
              generalize w4 = W at *
              have s1 : (k : Int) ≤ (nx : Int) := by omega
              have s2 : (nx : Int) ≤ (cap : Int) := by omega
              have s3 : (nx : Int) ≤ (l.length : Int) := by omega
              have s4 : k ≤ nx := by omega
              have s5 : nx ≤ cap := by omega
              have HPc : Hid (∀ j u, (nCs ((l.drop k).take (nx - k)))[j]? = some u → W.cell? ((⟨g, off + k * 6, none⟩ : Addr).add j) = some u) := fun j u hu => by
                rcases hNW.cell with h0 | ⟨g', off', e', _, hcc⟩
                · subst h0; simp at hl0
                · cases e'
                  rw [Addr.add_mid, Nat.add_assoc]
                  exact hcc (k * 6 + j) u (part_cells (by omega) j u hu)
              have HPl : Hid ((nCs ((l.drop k).take (nx - k))).length = (nx - k) * 6) := by
                show _ = _
                rw [nCs_length, List.length_take, List.length_drop, Nat.min_eq_left (by omega)]
              have HPh : Hid ((l.drop k).take (nx - k) = l.getD k (nd0 0) :: (l.drop (k + 1)).take (nx - (k + 1))) := by
                show _ = _
                rw [part_head (by omega) (by omega)]
                rfl
              have hpos : 0 < nx - k := by omega
              have hposI : (0 : Int) < ((nx - k : Nat) : Int) := by omega
              clear hNW
              go_wp2_with (at_builtin; refine wpList_append_own_wide _ rfl (.tmp 107) (.tmp 111) 22 rfl W.heap.size 33 i1 (.agg #[.int .i64 0, .string ⟨#[]⟩, .string ⟨#[]⟩, .bool false, .int .i64 0, .int .i64 0]) 6 64 Tryd.underlying22 hi1 hz1 hz2 hz3 rfl (by decide) _ 0 [] rfl (World.ownsRow_nil _ _ _ _) ⟨g, off + k * 6, none⟩ (nx - k) (cap - k) (nCs ((l.drop k).take (nx - k))) rfl HPl.out HPc.out (nCs_one' _) (by unfold maxLen; omega) (by omega) (Nat.le_refl _) ?_; intro v7 w7 h7 h8 _; rw [Nat.zero_add, List.nil_append, HPh.out] at h7; obtain ⟨a7, c7, e7, hc7, ha7⟩ := own_slice h7; subst e7; obtain ⟨g7, e7⟩ := ha7 hpos; subst e7; have d1 : w7.cell? ⟨g7, 1, none⟩ = some (.string ⟨(l.getD k (nd0 0)).key.toArray⟩) := (own_cell h7 1 _ rfl).1; have f1 : w7.frozen? ⟨g7, 1, none⟩ = false := (own_cell h7 1 (.string ⟨(l.getD k (nd0 0)).key.toArray⟩) rfl).2; have H7 : Hid (w7.ownsRow W.heap.size 33 6 (.slice (some ⟨g7, 0, none⟩) (nx - k) c7) (nx - k) (nCs (l.getD k (nd0 0) :: (l.drop (k + 1)).take (nx - (k + 1))))) := h7; have H8 : Hid (W.grownBy w7 none) := h8; clear h7 h8)
              have hst := H7.out.stored 1 (.string ⟨#[]⟩)
              have h9 : (w7.setCell ⟨g7, 1, none⟩ (.string ⟨#[]⟩)).ownsRow W.heap.size 33 6 (.slice (some ⟨g7, 0, none⟩) (nx - k) c7) (nx - k) (nCs ({ l.getD k (nd0 0) with key := [] } :: (l.drop (k + 1)).take (nx - (k + 1)))) := hst.1
              have hBst : Below W.heap.size W (w7.setCell ⟨g7, 1, none⟩ (.string ⟨#[]⟩)) := (Below.grown (Below.refl _ _) H8.out (Nat.le_refl _) (fun k hk => by cases hk)).trans (Below.grown (Below.refl _ _) hst.2 H8.out.size (own_block H7.out))
              have HB8 : Hid (Below w2.heap.size w2 (w7.setCell ⟨g7, 1, none⟩ (.string ⟨#[]⟩))) := HBW.out.trans (hBst.mono HBW.out.size)
              have hPL : ({ l.getD k (nd0 0) with key := [] } :: (l.drop (k + 1)).take (nx - (k + 1))).length = nx - k := by
                rw [List.length_cons, List.length_take, List.length_drop]
                omega
              have hNO : NO W.heap.size (w7.setCell ⟨g7, 1, none⟩ (.string ⟨#[]⟩)) (.slice (some ⟨g7, 0, none⟩) (nx - k) c7) ({ l.getD k (nd0 0) with key := [] } :: (l.drop (k + 1)).take (nx - (k + 1))) := by
                unfold NO
                rw [hPL]
                exact h9
              obtain ⟨ao9, cap9, hN9⟩ := hNO.nr
              have C9 := shaped_any _ _ ao9 cap9 _ hN9 (HGq.out _ HB8.out) (by
                intro n hn
                rcases List.mem_cons.1 hn with rfl | hn
                · exact ⟨(HTB.out.at hk1).1, Nat.zero_le _⟩
                · exact HTB.out n (List.drop_subset _ _ (List.take_subset _ _ hn))) (by rw [hPL]; omega)
              rw [HSh.out] at C9
              clear hst h9 hBst hPL hNO hN9 d1 f1
              refine C9.mono ?_
              clear C9
              rintro e w9 ⟨rfl, hB9⟩
              have HB9 : Hid (Below w2.heap.size w2 w9) := HB8.out.trans (hB9.mono HB8.out.size)
              clear hB9
              go_wp2
              go_roundw
              case rel => exact ⟨k + 1, by go_num, by omega, HB9.out⟩
              case measure => simp [intOf]; omega
            · have q7 : (Kd != 7) = true := by simpa using h7
              have C6 : Calls Tryd.prog 12 #[.slice (some ⟨g, off, none⟩) l.length cap, .int .i64 (k : Int), .string { data := #[] }] wr fun e w' => e = .returned (.int .i64 (-1)) ∧ Below wr.heap.size wr w' := by
                have := HMq.out wr (k : Int) [] HBr2.out
                rw [HNo'.out h7] at this
                exact this
              go_wp2_with fail
              refine C5.mono ?_
              clear C5
              rintro e w4 ⟨rfl, rfl⟩
              go_wp2_with fail
              refine C6.mono ?_
              clear C6
              rintro e w6 ⟨rfl, hB6⟩
              have HB6 : Hid (Below w2.heap.size w2 w6) := HBr2.out.trans (hB6.mono HBr2.out.size)
              clear hB6
              have hNW := HNq.out w6 HB6.out
              have HBW : Hid (Below w2.heap.size w2 w6) := HB6.out
              generalize w6 = W at *
              have s1 : (k : Int) ≤ (nx : Int) := by omega
              have s2 : (nx : Int) ≤ (cap : Int) := by omega
              have s3 : (nx : Int) ≤ (l.length : Int) := by omega
              have s4 : k ≤ nx := by omega
              have s5 : nx ≤ cap := by omega
              have HPc : Hid (∀ j u, (nCs ((l.drop k).take (nx - k)))[j]? = some u → W.cell? ((⟨g, off + k * 6, none⟩ : Addr).add j) = some u) := fun j u hu => by
                rcases hNW.cell with h0 | ⟨g', off', e', _, hcc⟩
                · subst h0; simp at hl0
                · cases e'
                  rw [Addr.add_mid, Nat.add_assoc]
                  exact hcc (k * 6 + j) u (part_cells (by omega) j u hu)
              have HPl : Hid ((nCs ((l.drop k).take (nx - k))).length = (nx - k) * 6) := by
                show _ = _
                rw [nCs_length, List.length_take, List.length_drop, Nat.min_eq_left (by omega)]
              have HPh : Hid ((l.drop k).take (nx - k) = l.getD k (nd0 0) :: (l.drop (k + 1)).take (nx - (k + 1))) := by
                show _ = _
                rw [part_head (by omega) (by omega)]
                rfl
              have hpos : 0 < nx - k := by omega
              have hposI : (0 : Int) < ((nx - k : Nat) : Int) := by omega
              clear hNW
              go_wp2_with (at_builtin; refine wpList_append_own_wide _ rfl (.tmp 107) (.tmp 111) 22 rfl W.heap.size 33 i1 (.agg #[.int .i64 0, .string ⟨#[]⟩, .string ⟨#[]⟩, .bool false, .int .i64 0, .int .i64 0]) 6 64 Tryd.underlying22 hi1 hz1 hz2 hz3 rfl (by decide) _ 0 [] rfl (World.ownsRow_nil _ _ _ _) ⟨g, off + k * 6, none⟩ (nx - k) (cap - k) (nCs ((l.drop k).take (nx - k))) rfl HPl.out HPc.out (nCs_one' _) (by unfold maxLen; omega) (by omega) (Nat.le_refl _) ?_; intro v7 w7 h7 h8 _; rw [Nat.zero_add, List.nil_append, HPh.out] at h7; obtain ⟨a7, c7, e7, hc7, ha7⟩ := own_slice h7; subst e7; obtain ⟨g7, e7⟩ := ha7 hpos; subst e7; have d1 : w7.cell? ⟨g7, 1, none⟩ = some (.string ⟨(l.getD k (nd0 0)).key.toArray⟩) := (own_cell h7 1 _ rfl).1; have f1 : w7.frozen? ⟨g7, 1, none⟩ = false := (own_cell h7 1 (.string ⟨(l.getD k (nd0 0)).key.toArray⟩) rfl).2; have H7 : Hid (w7.ownsRow W.heap.size 33 6 (.slice (some ⟨g7, 0, none⟩) (nx - k) c7) (nx - k) (nCs (l.getD k (nd0 0) :: (l.drop (k + 1)).take (nx - (k + 1))))) := h7; have H8 : Hid (W.grownBy w7 none) := h8; clear h7 h8)
              have hst := H7.out.stored 1 (.string ⟨#[]⟩)
              have h9 : (w7.setCell ⟨g7, 1, none⟩ (.string ⟨#[]⟩)).ownsRow W.heap.size 33 6 (.slice (some ⟨g7, 0, none⟩) (nx - k) c7) (nx - k) (nCs ({ l.getD k (nd0 0) with key := [] } :: (l.drop (k + 1)).take (nx - (k + 1)))) := hst.1
              have hBst : Below W.heap.size W (w7.setCell ⟨g7, 1, none⟩ (.string ⟨#[]⟩)) := (Below.grown (Below.refl _ _) H8.out (Nat.le_refl _) (fun k hk => by cases hk)).trans (Below.grown (Below.refl _ _) hst.2 H8.out.size (own_block H7.out))
              have HB8 : Hid (Below w2.heap.size w2 (w7.setCell ⟨g7, 1, none⟩ (.string ⟨#[]⟩))) := HBW.out.trans (hBst.mono HBW.out.size)
              have hPL : ({ l.getD k (nd0 0) with key := [] } :: (l.drop (k + 1)).take (nx - (k + 1))).length = nx - k := by
                rw [List.length_cons, List.length_take, List.length_drop]
                omega
              have hNO : NO W.heap.size (w7.setCell ⟨g7, 1, none⟩ (.string ⟨#[]⟩)) (.slice (some ⟨g7, 0, none⟩) (nx - k) c7) ({ l.getD k (nd0 0) with key := [] } :: (l.drop (k + 1)).take (nx - (k + 1))) := by
                unfold NO
                rw [hPL]
                exact h9
              obtain ⟨ao9, cap9, hN9⟩ := hNO.nr
              have C9 := shaped_any _ _ ao9 cap9 _ hN9 (HGq.out _ HB8.out) (by
                intro n hn
                rcases List.mem_cons.1 hn with rfl | hn
                · exact ⟨(HTB.out.at hk1).1, Nat.zero_le _⟩
                · exact HTB.out n (List.drop_subset _ _ (List.take_subset _ _ hn))) (by rw [hPL]; omega)
              rw [HSh.out] at C9
              clear hst h9 hBst hPL hNO hN9 d1 f1
              refine C9.mono ?_
              clear C9
              rintro e w9 ⟨rfl, hB9⟩
              have HB9 : Hid (Below w2.heap.size w2 w9) := HB8.out.trans (hB9.mono HB8.out.size)
              clear hB9
              go_wp2
              go_roundw
              case rel => exact ⟨k + 1, by go_num, by omega, HB9.out⟩
              case measure => simp [intOf]; omega
      · have q12 : (decide ((k : Int) < (l.length : Int)) && decide ((k : Int) < 200)) = false := by simp; omega
        have C1 : Calls Tryd.prog 14 #[.slice (some ⟨g, off, none⟩) l.length cap, .int .i64 0] wr fun e w' => e = .returned (.int .i64 (l.length : Int)) ∧ w' = wr := by
          have := HBq.out wr ((0 : Nat) : Int) HBr.out
          rw [behindF_in hl0, HBh.out] at this
          exact this
        have C2 : Calls Tryd.prog 14 #[.slice (some ⟨g, off, none⟩) l.length cap, .int .i64 (-1)] wr fun e w' => e = .returned (.int .i64 (-1)) ∧ w' = wr := by
          have := HBq.out wr (-1) HBr.out
          rw [behindF_neg] at this
          exact this
        have C3 : Calls Tryd.prog 14 #[.slice (some ⟨g, off, none⟩) l.length cap, .int .i64 (l.length : Int)] wr fun e w' => e = .returned (.int .i64 (-1)) ∧ w' = wr := by
          have := HBq.out wr (l.length : Int) HBr.out
          rw [behindF_out] at this
          exact this
        have C4 : Calls Tryd.prog 13 #[.slice (some ⟨g, off, none⟩) l.length cap, .int .i64 (l.length : Int)] wr fun e w' => ∃ ka kc, e = .returned (.slice ka 0 kc) ∧ Below wr.heap.size wr w' := by
          refine (HKq.out wr (l.length : Int) HBr.out).mono ?_
          rintro e w' ⟨r, rfl, hoi⟩
          rw [kidsF_out] at hoi
          obtain ⟨ka, kc, rfl, _, _⟩ := hoi.at
          exact ⟨ka, kc, rfl, hoi.bel⟩
        have HM5 : Hid (∀ wq, Below w2.heap.size w2 wq → Calls Tryd.prog 12 #[.slice (some ⟨g, off, none⟩) l.length cap, .int .i64 (-1), .string { data := #[97] }] wq fun e w' => e = .returned (.int .i64 (-1)) ∧ Below wq.heap.size wq w') := fun wq hq => by
          have := HMq.out wq (-1) [97] hq
          rw [memF_neg] at this
          exact this
        have HX : Hid (∀ w', Below w2.heap.size w2 w' → Below w.heap.size w w') := fun w' h => HB2.out.trans (h.mono HB2.out.size)
        have HGO : Hid (¬ (k < l.length ∧ k < 200)) := hgo
        clear hgo q12
        by_cases h1 : k < l.length
        · have q1 : decide ((k : Int) < (l.length : Int)) = true := decide_eq_true (by omega)
          have q2 : decide ((k : Int) < 200) = false := decide_eq_false (by have := HGO.out; omega)
          clear HGO
          go_wp2_with fail
          refine C1.mono ?_
          clear C1
          rintro e w3 ⟨rfl, rfl⟩
          go_wp2_with fail
          refine C2.mono ?_
          clear C2
          rintro e w3 ⟨rfl, rfl⟩
          go_wp2_with fail
          refine C3.mono ?_
          clear C3
          rintro e w3 ⟨rfl, rfl⟩
          go_wp2_with fail
          refine C4.mono ?_
          clear C4
          rintro e w4 ⟨ka, kc, rfl, hB4⟩
          have HB4 := HBr.out.trans (hB4.mono HBr.out.size)
          have HB4' : Hid (Below w2.heap.size w2 w4) := HB4
          have C5 := HM5.out w4 HB4
          clear hB4 HB4
          go_wp2_with fail
          refine C5.mono ?_
          clear C5
          rintro e w5 ⟨rfl, hB5⟩
          have HB5 : Hid (Below w2.heap.size w2 w5) := HB4'.out.trans (hB5.mono HB4'.out.size)
          clear hB5
          go_wp2
          go_ret
          exact ⟨rfl, HX.out _ HB5.out⟩
        · have q1 : decide ((k : Int) < (l.length : Int)) = false := decide_eq_false (by omega)
          clear HGO
          go_wp2_with fail
          refine C1.mono ?_
          clear C1
          rintro e w3 ⟨rfl, rfl⟩
          go_wp2_with fail
          refine C2.mono ?_
          clear C2
          rintro e w3 ⟨rfl, rfl⟩
          go_wp2_with fail
          refine C3.mono ?_
          clear C3
          rintro e w3 ⟨rfl, rfl⟩
          go_wp2_with fail
          refine C4.mono ?_
          clear C4
          rintro e w4 ⟨ka, kc, rfl, hB4⟩
          have HB4 := HBr.out.trans (hB4.mono HBr.out.size)
          have HB4' : Hid (Below w2.heap.size w2 w4) := HB4
          have C5 := HM5.out w4 HB4
          clear hB4 HB4
          go_wp2_with fail
          refine C5.mono ?_
          clear C5
          rintro e w5 ⟨rfl, hB5⟩
          have HB5 : Hid (Below w2.heap.size w2 w5) := HB4'.out.trans (hB5.mono HB4'.out.size)
          clear hB5
          go_wp2
          go_ret
          exact ⟨rfl, HX.out _ HB5.out⟩
  · have q : ((c : Int) != 0) = true := by simp; omega
    go_wp2
    go_ret
    exact ⟨rfl, HB2.out⟩

end Go.Proofs.YtlapkbdjipocoaaDoor
