import Derived.Test.YtkfchdmlemcjhaaDoorKbY
namespace Go.Proofs.YtkfchdmlemcjhaaDoor
open Go.RowKit Go.Shelf
set_option maxRecDepth 100000

theorem algK_ne : ∀ k, k < 13 → 1 ≤ k → algK k ≠ 0 := by decide
set_option maxHeartbeats 32000000 in
/-- The document's Bind of a well shaped value. -/
theorem rbindK_any (x : Ex) (a : Int) (w : World) (h : XR w x) (hs : shapedF x.e.val = true) (hl : x.e.val.length ≤ 100000000) (hl2 : x.e.ops.length ≤ 100000000) :
    Calls Tryd.prog 9 #[.agg #[.slice x.va x.e.val.length x.vc, .int .i64 x.e.kty, .string ⟨x.e.kid.toArray⟩, .bool x.e.hKid, .string ⟨x.e.use.toArray⟩, .bool x.e.hUse, .string ⟨x.e.alg.toArray⟩, .bool x.e.hAlg, .slice x.aa x.e.ops.length x.ac, .bool x.e.hOps], .int .i64 a] w fun r w' => r = .returned (.int .i64 (bindE x.e a)) ∧ Below w.heap.size w w' := by
  obtain ⟨W, hW⟩ : ∃ y, w.alloc (.cells #[.slice x.va x.e.val.length x.vc, .int .i64 x.e.kty, .string ⟨x.e.kid.toArray⟩, .bool x.e.hKid, .string ⟨x.e.use.toArray⟩, .bool x.e.hUse, .string ⟨x.e.alg.toArray⟩, .bool x.e.hAlg, .slice x.aa x.e.ops.length x.ac, .bool x.e.hOps] 26) = y := ⟨_, rfl⟩
  have x1 := alloc_below w (.cells #[.slice x.va x.e.val.length x.vc, .int .i64 x.e.kty, .string ⟨x.e.kid.toArray⟩, .bool x.e.hKid, .string ⟨x.e.use.toArray⟩, .bool x.e.hUse, .string ⟨x.e.alg.toArray⟩, .bool x.e.hAlg, .slice x.aa x.e.ops.length x.ac, .bool x.e.hOps] 26)
  have x3 : Bl 26 _ _ [.slice x.va x.e.val.length x.vc, .int .i64 x.e.kty, .string ⟨x.e.kid.toArray⟩, .bool x.e.hKid, .string ⟨x.e.use.toArray⟩, .bool x.e.hUse, .string ⟨x.e.alg.toArray⟩, .bool x.e.hAlg, .slice x.aa x.e.ops.length x.ac, .bool x.e.hOps] := alloc_bl w [.slice x.va x.e.val.length x.vc, .int .i64 x.e.kty, .string ⟨x.e.kid.toArray⟩, .bool x.e.hKid, .string ⟨x.e.use.toArray⟩, .bool x.e.hUse, .string ⟨x.e.alg.toArray⟩, .bool x.e.hAlg, .slice x.aa x.e.ops.length x.ac, .bool x.e.hOps] 26
  rw [hW] at x1 x3
  have HW : Hid (w.alloc (.cells #[.slice x.va x.e.val.length x.vc, .int .i64 x.e.kty, .string ⟨x.e.kid.toArray⟩, .bool x.e.hKid, .string ⟨x.e.use.toArray⟩, .bool x.e.hUse, .string ⟨x.e.alg.toArray⟩, .bool x.e.hAlg, .slice x.aa x.e.ops.length x.ac, .bool x.e.hOps] 26) = W) := hW
  have CN := rwants_any a W
  have HNM : Hid (∀ wq : World, Calls Tryd.prog 18 #[.int .i64 a] wq fun e w' => e = .returned (.string ⟨(nameF' a).toArray⟩) ∧ Below wq.heap.size wq w') := fun wq => rname_any a wq
  have HB : Hid (Below w.heap.size w W) := x1
  obtain ⟨e, va, vc, aa, ac⟩ := x
  obtain ⟨val, kty, kid, hKid, use, hUse, alg, hAlg, ops, hOps⟩ := e
  dsimp only at *
  have HV : Hid (∀ wq, Below W.heap.size W wq → NR wq (.slice va val.length vc) val va vc) := fun wq hq => (h.below (x1.trans (hq.mono x1.size))).nr
  have HT : Hid (∀ wq, Below W.heap.size W wq → TR wq (.slice aa ops.length ac) ops aa ac) := fun wq hq => (h.below (x1.trans (hq.mono x1.size))).tr
  have HK : Hid (∀ wq, Below W.heap.size W wq → wq.cell? ⟨w.heap.size, 0, none⟩ = some (.slice va val.length vc) ∧ wq.cell? ⟨w.heap.size, 1, none⟩ = some (.int .i64 kty) ∧ wq.cell? ⟨w.heap.size, 2, none⟩ = some (.string ⟨kid.toArray⟩) ∧ wq.cell? ⟨w.heap.size, 3, none⟩ = some (.bool hKid) ∧ wq.cell? ⟨w.heap.size, 4, none⟩ = some (.string ⟨use.toArray⟩) ∧ wq.cell? ⟨w.heap.size, 5, none⟩ = some (.bool hUse) ∧ wq.cell? ⟨w.heap.size, 6, none⟩ = some (.string ⟨alg.toArray⟩) ∧ wq.cell? ⟨w.heap.size, 7, none⟩ = some (.bool hAlg) ∧ wq.cell? ⟨w.heap.size, 8, none⟩ = some (.slice aa ops.length ac) ∧ wq.cell? ⟨w.heap.size, 9, none⟩ = some (.bool hOps)) := fun wq hq => by
    have b := x3.below hq x3.lt
    exact ⟨b.cell 0 (by simp), b.cell 1 (by simp), b.cell 2 (by simp), b.cell 3 (by simp), b.cell 4 (by simp), b.cell 5 (by simp), b.cell 6 (by simp), b.cell 7 (by simp), b.cell 8 (by simp), b.cell 9 (by simp)⟩
  have HSH : Hid (shapedF val = true) := hs
  clear h x1 x3 hW hs
  go_enter Tryd.func9, Tryd.ntmps9
  go_upto_region 1 with fail
  rw [HW.out]
  clear HW
  go_wp2_with fail
  refine CN.mono ?_
  clear CN
  rintro r w1 ⟨rfl, hw1⟩
  obtain rfl : W = w1 := hw1.symm
  obtain ⟨b0, b1, b2, b3, b4, b5, b6, b7, b8, b9⟩ := HK.out W (Below.refl _ _)
  by_cases hr : 1 ≤ a ∧ a ≤ 12
  · obtain ⟨k, rfl⟩ : ∃ k : Nat, a = (k : Int) := ⟨a.toNat, by omega⟩
    have hk : k < 13 := by omega
    have h1k : 1 ≤ k := by omega
    have eK : wK (k : Int) = algK k := by unfold wK; rw [if_pos hr, Int.toNat_natCast]
    have eC : wC (k : Int) = algC k := by unfold wC; rw [if_pos hr, Int.toNat_natCast]
    have hn : nameF' (k : Int) ≠ [] := by
      unfold nameF'
      rw [if_pos (by omega), Int.toNat_natCast]
      exact alg_ne k hk h1k
    have HBF : Hid (bindE ⟨val, kty, kid, hKid, use, hUse, alg, hAlg, ops, hOps⟩ (k : Int) = if (fitsE (algK k) (algC k) ⟨val, kty, kid, hKid, use, hUse, alg, hAlg, ops, hOps⟩ && allowsE ⟨val, kty, kid, hKid, use, hUse, alg, hAlg, ops, hOps⟩ (nameF' (k : Int))) = true then 0 else 105) := by
      show _ = _
      unfold bindE
      rw [if_neg hn, Int.toNat_natCast]
    have q3 : (algK k == 0) = false := by simpa using algK_ne k hk h1k
    rw [eK, eC]
    generalize algK k = ak at *
    generalize algC k = ck at *
    clear eK eC hn hr
    by_cases hty : kty = ak
    · subst hty
      have q4 : (kty != kty) = false := by simp
      by_cases hc : ck = []
      · subst hc
        have HBE : Hid (bindE ⟨val, kty, kid, hKid, use, hUse, alg, hAlg, ops, hOps⟩ (k : Int) = if allowsE ⟨val, kty, kid, hKid, use, hUse, alg, hAlg, ops, hOps⟩ (nameF' (k : Int)) = true then 0 else 105) := by
          show _ = _
          rw [HBF.out]
          simp [fitsE]
        clear HBF
        have HWV : Hid (Below W.heap.size W W) := Below.refl _ _
        go_upto_region 8 with fail
        obtain ⟨b0, b1, b2, b3, b4, b5, b6, b7, b8, b9⟩ := HK.out W HWV.out
        by_cases hu : hUse = true ∧ use ≠ sigT
        · obtain ⟨rfl, hu⟩ := hu
          have q0 : (use != sigT) = true := by simpa using hu
          have q1 : (use != [115, 105, 103]) = true := q0
          have q1b : (use == [115, 105, 103]) = false := by
            have h : (use == sigT) = false := by simpa using hu
            exact h
          have q1c : ¬ (use = [115, 105, 103]) := hu
          have HA : Hid (bindE ⟨val, kty, kid, hKid, use, true, alg, hAlg, ops, hOps⟩ (k : Int) = 105) := by
            show _ = _
            rw [HBE.out]
            simp [allowsE, q0]
          clear hu q0
          go_wp2
          first | go_region | fail
          all_goals (
            have HWB : Hid (Below W.heap.size W (World.drew W)) := below_drewN HWV.out 1
            have HZ : Hid (Below w.heap.size w (World.drew W)) := HB.out.trans (HWB.out.mono HB.out.size)
            clear HWB
            go_wp2
            go_ret
            exact ⟨by rw [HA.out]; rfl, HZ.out⟩
          )
        · have hu2 : hUse = false ∨ use = [115, 105, 103] := by
            cases hUse
            · exact .inl rfl
            · right
              by_cases h : use = sigT
              · exact h
              · exact absurd ⟨rfl, h⟩ hu
          by_cases ha : hAlg = true ∧ alg ≠ nameF' (k : Int)
          · obtain ⟨rfl, ha⟩ := ha
            have q2 : (alg != nameF' (k : Int)) = true := by simpa using ha
            have q2b : (alg == nameF' (k : Int)) = false := by simpa using ha
            have q2c : ¬ (alg = nameF' (k : Int)) := ha
            have HA : Hid (bindE ⟨val, kty, kid, hKid, use, hUse, alg, true, ops, hOps⟩ (k : Int) = 105) := by
              show _ = _
              rw [HBE.out]
              simp [allowsE, q2]
            clear ha hu
            rcases hu2 with rfl | rfl
            all_goals (try cases hUse)
            all_goals (
              go_wp2
              first | (go_region_with (go_at_call 18; refine (HNM.out _).mono ?_; rintro r w5 ⟨rfl, hb5⟩; have hb6 : Below W.heap.size W w5 := (below_drewN HWV.out 1).trans (hb5.mono HWV.out.size); obtain ⟨b0, b1, b2, b3, b4, b5, b6, b7, b8, b9⟩ := HK.out w5 hb6)) | fail
              all_goals (
                have HWB : Hid (Below W.heap.size W w5) := hb6
                clear hb5 hb6
                have HZ : Hid (Below w.heap.size w w5) := HB.out.trans (HWB.out.mono HB.out.size)
                clear HWB
                go_wp2
                go_ret
                exact ⟨by rw [HA.out]; rfl, HZ.out⟩
              )
        )
          · have ha2 : hAlg = false ∨ nameF' (k : Int) = alg := by
              cases hAlg
              · exact .inl rfl
              · right
                by_cases h : alg = nameF' (k : Int)
                · exact h.symm
                · exact absurd ⟨rfl, h⟩ ha
            have HBD : Hid (bindE ⟨val, kty, kid, hKid, use, hUse, alg, hAlg, ops, hOps⟩ (k : Int) = if (!hOps || decide (verT ∈ ops)) = true then 0 else 105) := by
              show _ = _
              rw [HBE.out]
              rcases hu2 with h1 | h1 <;> rcases ha2 with h2 | h2 <;> simp [allowsE, h1, h2, sigT]
            clear ha hu
            rcases hu2 with rfl | rfl
            all_goals (try cases hUse)
            all_goals (
              rcases ha2 with rfl | ha3
              · skip
                go_wp2
                first | go_region | fail
                all_goals (
                  have HWB : Hid (Below W.heap.size W (World.drew W)) := below_drewN HWV.out 1
                  go_wp2
                  go_loopw [8, 9] (fun s8 s9 wx => ∃ i : Nat, s9 = .int .i64 i ∧ i ≤ ops.length ∧ s8 = .bool (!hOps || (ops.take i).any (fun s => s == [118, 101, 114, 105, 102, 121])) ∧ Hid (Below W.heap.size W wx)) (fun _ s _ => ops.length - (intOf s).toNat)
                  case atStart => exact ⟨0, rfl, Nat.zero_le _, by simp, HWB⟩
                  case round =>
                    clear HWB
                    obtain ⟨i, rfl, hi, rfl, HWB⟩ := hrel
                    have kB := HK.out wr HWB.out
                    obtain ⟨b0, b1, b2, b3, b4, b5, b6, b7, b8, b9⟩ := kB
                    by_cases hlt : i < ops.length
                    · have q0 : decide ((i : Int) < (ops.length : Int)) = true := decide_eq_true (by omega)
                      have q1 : (i : Int) < (ops.length : Int) := by omega
                      obtain ⟨u, hu⟩ : ∃ u, ops.getD i [] = u := ⟨_, rfl⟩
                      have hT := HT.out wr HWB.out
                      obtain ⟨g, off, rfl, kc⟩ := hT.at hlt
                      rw [hu] at kc
                      have hnx : (!hOps || (ops.take (i + 1)).any (fun s => s == [118, 101, 114, 105, 102, 121])) = ((!hOps || (ops.take i).any (fun s => s == [118, 101, 114, 105, 102, 121])) || (u == [118, 101, 114, 105, 102, 121])) := by
                        rw [List.take_add_one, List.getElem?_eq_getElem hlt, List.any_append, ← Bool.or_assoc]
                        rw [List.getD_eq_getElem?_getD, List.getElem?_eq_getElem hlt] at hu
                        simp only [Option.getD_some] at hu
                        simp [hu]
                      have HNX : Hid ((!hOps || (ops.take (i + 1)).any (fun s => s == [118, 101, 114, 105, 102, 121])) = ((!hOps || (ops.take i).any (fun s => s == [118, 101, 114, 105, 102, 121])) || (u == [118, 101, 114, 105, 102, 121]))) := hnx
                      clear hT hu hnx
                      cases hv : (!hOps || (ops.take i).any (fun s => s == [118, 101, 114, 105, 102, 121]))
                      · rw [hv] at HNX
                        go_wp2
                        go_roundw
                        case rel => exact ⟨i + 1, by go_num, by omega, by rw [HNX.out, Bool.false_or], HWB⟩
                        case measure => simp [intOf]; omega
                      · rw [hv] at HNX
                        go_wp2
                        go_roundw
                        case rel => exact ⟨i + 1, by go_num, by omega, by rw [HNX.out, Bool.true_or], HWB⟩
                        case measure => simp [intOf]; omega
                    · have q0 : decide ((i : Int) < (ops.length : Int)) = false := decide_eq_false (by omega)
                      obtain rfl : i = ops.length := by omega
                      rw [List.take_length]
                      have HZ : Hid (Below w.heap.size w wr) := HB.out.trans (HWB.out.mono HB.out.size)
                      cases hv : (!hOps || ops.any (fun s => s == [118, 101, 114, 105, 102, 121]))
                      · go_wp2
                        go_ret
                        exact ⟨by rw [HBD.out, verT_any, hv]; rfl, HZ.out⟩
                      · go_wp2
                        go_ret
                        exact ⟨by rw [HBD.out, verT_any, hv]; rfl, HZ.out⟩
                )
              · cases hAlg
                · skip
                  go_wp2
                  first | go_region | fail
                  all_goals (
                    have HWB : Hid (Below W.heap.size W (World.drew W)) := below_drewN HWV.out 1
                    go_wp2
                    go_loopw [8, 9] (fun s8 s9 wx => ∃ i : Nat, s9 = .int .i64 i ∧ i ≤ ops.length ∧ s8 = .bool (!hOps || (ops.take i).any (fun s => s == [118, 101, 114, 105, 102, 121])) ∧ Hid (Below W.heap.size W wx)) (fun _ s _ => ops.length - (intOf s).toNat)
                    case atStart => exact ⟨0, rfl, Nat.zero_le _, by simp, HWB⟩
                    case round =>
                      clear HWB
                      obtain ⟨i, rfl, hi, rfl, HWB⟩ := hrel
                      have kB := HK.out wr HWB.out
                      obtain ⟨b0, b1, b2, b3, b4, b5, b6, b7, b8, b9⟩ := kB
                      by_cases hlt : i < ops.length
                      · have q0 : decide ((i : Int) < (ops.length : Int)) = true := decide_eq_true (by omega)
                        have q1 : (i : Int) < (ops.length : Int) := by omega
                        obtain ⟨u, hu⟩ : ∃ u, ops.getD i [] = u := ⟨_, rfl⟩
                        have hT := HT.out wr HWB.out
                        obtain ⟨g, off, rfl, kc⟩ := hT.at hlt
                        rw [hu] at kc
                        have hnx : (!hOps || (ops.take (i + 1)).any (fun s => s == [118, 101, 114, 105, 102, 121])) = ((!hOps || (ops.take i).any (fun s => s == [118, 101, 114, 105, 102, 121])) || (u == [118, 101, 114, 105, 102, 121])) := by
                          rw [List.take_add_one, List.getElem?_eq_getElem hlt, List.any_append, ← Bool.or_assoc]
                          rw [List.getD_eq_getElem?_getD, List.getElem?_eq_getElem hlt] at hu
                          simp only [Option.getD_some] at hu
                          simp [hu]
                        have HNX : Hid ((!hOps || (ops.take (i + 1)).any (fun s => s == [118, 101, 114, 105, 102, 121])) = ((!hOps || (ops.take i).any (fun s => s == [118, 101, 114, 105, 102, 121])) || (u == [118, 101, 114, 105, 102, 121]))) := hnx
                        clear hT hu hnx
                        cases hv : (!hOps || (ops.take i).any (fun s => s == [118, 101, 114, 105, 102, 121]))
                        · rw [hv] at HNX
                          go_wp2
                          go_roundw
                          case rel => exact ⟨i + 1, by go_num, by omega, by rw [HNX.out, Bool.false_or], HWB⟩
                          case measure => simp [intOf]; omega
                        · rw [hv] at HNX
                          go_wp2
                          go_roundw
                          case rel => exact ⟨i + 1, by go_num, by omega, by rw [HNX.out, Bool.true_or], HWB⟩
                          case measure => simp [intOf]; omega
                      · have q0 : decide ((i : Int) < (ops.length : Int)) = false := decide_eq_false (by omega)
                        obtain rfl : i = ops.length := by omega
                        rw [List.take_length]
                        have HZ : Hid (Below w.heap.size w wr) := HB.out.trans (HWB.out.mono HB.out.size)
                        cases hv : (!hOps || ops.any (fun s => s == [118, 101, 114, 105, 102, 121]))
                        · go_wp2
                          go_ret
                          exact ⟨by rw [HBD.out, verT_any, hv]; rfl, HZ.out⟩
                        · go_wp2
                          go_ret
                          exact ⟨by rw [HBD.out, verT_any, hv]; rfl, HZ.out⟩
                  )
                · subst ha3
                  go_wp2
                  first | (go_region_with (go_at_call 18; refine (HNM.out _).mono ?_; rintro r w5 ⟨rfl, hb5⟩; have hb6 : Below W.heap.size W w5 := (below_drewN HWV.out 1).trans (hb5.mono HWV.out.size); obtain ⟨b0, b1, b2, b3, b4, b5, b6, b7, b8, b9⟩ := HK.out w5 hb6)) | fail
                  all_goals (
                    have HWB : Hid (Below W.heap.size W w5) := hb6
                    clear hb5 hb6
                    go_wp2
                    go_loopw [8, 9] (fun s8 s9 wx => ∃ i : Nat, s9 = .int .i64 i ∧ i ≤ ops.length ∧ s8 = .bool (!hOps || (ops.take i).any (fun s => s == [118, 101, 114, 105, 102, 121])) ∧ Hid (Below W.heap.size W wx)) (fun _ s _ => ops.length - (intOf s).toNat)
                    case atStart => exact ⟨0, rfl, Nat.zero_le _, by simp, HWB⟩
                    case round =>
                      clear HWB
                      obtain ⟨i, rfl, hi, rfl, HWB⟩ := hrel
                      have kB := HK.out wr HWB.out
                      obtain ⟨b0, b1, b2, b3, b4, b5, b6, b7, b8, b9⟩ := kB
                      by_cases hlt : i < ops.length
                      · have q0 : decide ((i : Int) < (ops.length : Int)) = true := decide_eq_true (by omega)
                        have q1 : (i : Int) < (ops.length : Int) := by omega
                        obtain ⟨u, hu⟩ : ∃ u, ops.getD i [] = u := ⟨_, rfl⟩
                        have hT := HT.out wr HWB.out
                        obtain ⟨g, off, rfl, kc⟩ := hT.at hlt
                        rw [hu] at kc
                        have hnx : (!hOps || (ops.take (i + 1)).any (fun s => s == [118, 101, 114, 105, 102, 121])) = ((!hOps || (ops.take i).any (fun s => s == [118, 101, 114, 105, 102, 121])) || (u == [118, 101, 114, 105, 102, 121])) := by
                          rw [List.take_add_one, List.getElem?_eq_getElem hlt, List.any_append, ← Bool.or_assoc]
                          rw [List.getD_eq_getElem?_getD, List.getElem?_eq_getElem hlt] at hu
                          simp only [Option.getD_some] at hu
                          simp [hu]
                        have HNX : Hid ((!hOps || (ops.take (i + 1)).any (fun s => s == [118, 101, 114, 105, 102, 121])) = ((!hOps || (ops.take i).any (fun s => s == [118, 101, 114, 105, 102, 121])) || (u == [118, 101, 114, 105, 102, 121]))) := hnx
                        clear hT hu hnx
                        cases hv : (!hOps || (ops.take i).any (fun s => s == [118, 101, 114, 105, 102, 121]))
                        · rw [hv] at HNX
                          go_wp2
                          go_roundw
                          case rel => exact ⟨i + 1, by go_num, by omega, by rw [HNX.out, Bool.false_or], HWB⟩
                          case measure => simp [intOf]; omega
                        · rw [hv] at HNX
                          go_wp2
                          go_roundw
                          case rel => exact ⟨i + 1, by go_num, by omega, by rw [HNX.out, Bool.true_or], HWB⟩
                          case measure => simp [intOf]; omega
                      · have q0 : decide ((i : Int) < (ops.length : Int)) = false := decide_eq_false (by omega)
                        obtain rfl : i = ops.length := by omega
                        rw [List.take_length]
                        have HZ : Hid (Below w.heap.size w wr) := HB.out.trans (HWB.out.mono HB.out.size)
                        cases hv : (!hOps || ops.any (fun s => s == [118, 101, 114, 105, 102, 121]))
                        · go_wp2
                          go_ret
                          exact ⟨by rw [HBD.out, verT_any, hv]; rfl, HZ.out⟩
                        · go_wp2
                          go_ret
                          exact ⟨by rw [HBD.out, verT_any, hv]; rfl, HZ.out⟩
                  )
        )
      · have q5 : (ck == []) = false := by simpa using hc
        have q5b : (ck != []) = true := by simpa using hc
        have CM : Calls Tryd.prog 17 #[.slice va val.length vc, .int .i64 0, .string ⟨#[99, 114, 118]⟩] W fun e w' => e = .returned (.int .i64 (memF val 0 crvT)) ∧ Below W.heap.size W w' := rmember_any_w val va vc 0 crvT W (HV.out W (Below.refl _ _)) hl (fun _ hi => at_of_w (shaped_sq HSH.out) hl hi) (all_of_w (shaped_sq HSH.out) hl).1
        rcases mem_ltB val 0 crvT with hm | ⟨n, hnl, hm⟩
        · have HA : Hid (bindE ⟨val, kty, kid, hKid, use, hUse, alg, hAlg, ops, hOps⟩ (k : Int) = 105) := by
            show _ = _
            rw [HBF.out]
            simp [fitsE, saysE, hm, hc]
          rw [hm] at CM
          clear HBF hm hc
          go_wp2_with fail
          refine CM.mono ?_
          clear CM
          rintro r w2 ⟨rfl, hb2⟩
          have HZ : Hid (Below w.heap.size w w2) := HB.out.trans (hb2.mono HB.out.size)
          clear hb2
          go_wp2
          go_ret
          exact ⟨by rw [HA.out]; rfl, HZ.out⟩
        · obtain ⟨nd, hnd⟩ : ∃ x, val.getD n (nd0 0) = x := ⟨_, rfl⟩
          have HKN : Hid (val.getD n (nd0 0) = nd) := hnd
          have hsy : saysE val crvT ck = ((nd.kind == 5) && (nd.text == ck)) := by
            unfold saysE memN
            rw [HSH.out, hm, Int.toNat_natCast, hnd, decide_eq_true (by omega), Bool.true_and, Bool.true_and]
          have qn : decide ((n : Int) < 0) = false := decide_eq_false (by omega)
          have qm : (n : Int) < (val.length : Int) := by omega
          rw [hm] at CM
          by_cases hok : nd.kind = 5 ∧ nd.text = ck
          · have q6 : (nd.kind != (5 : Int)) = false := by simp [hok.1]
            have HBE : Hid (bindE ⟨val, kty, kid, hKid, use, hUse, alg, hAlg, ops, hOps⟩ (k : Int) = if allowsE ⟨val, kty, kid, hKid, use, hUse, alg, hAlg, ops, hOps⟩ (nameF' (k : Int)) = true then 0 else 105) := by
              show _ = _
              rw [HBF.out]
              simp [fitsE, hsy, hok.1, hok.2]
            have hkt := hok.2
            clear HBF hm hnd hok hsy
            go_wp2_with fail
            refine CM.mono ?_
            clear CM
            rintro r w2 ⟨rfl, hb2⟩
            obtain ⟨g, off, rfl, hcc⟩ := (HV.out w2 hb2).at hnl
            rw [HKN.out] at hcc
            have c0 := hcc 0 _ (by decide) rfl
            have c2 := hcc 2 _ (by decide) rfl
            rw [Nat.add_zero] at c0
            rw [hkt] at c2
            have HWV : Hid (Below W.heap.size W w2) := hb2
            clear hcc hb2
            obtain ⟨b0, b1, b2, b3, b4, b5, b6, b7, b8, b9⟩ := HK.out w2 HWV.out
            go_upto_region 8 with fail
            obtain ⟨b0, b1, b2, b3, b4, b5, b6, b7, b8, b9⟩ := HK.out w2 HWV.out
            by_cases hu : hUse = true ∧ use ≠ sigT
            · obtain ⟨rfl, hu⟩ := hu
              have q0 : (use != sigT) = true := by simpa using hu
              have q1 : (use != [115, 105, 103]) = true := q0
              have q1b : (use == [115, 105, 103]) = false := by
                have h : (use == sigT) = false := by simpa using hu
                exact h
              have q1c : ¬ (use = [115, 105, 103]) := hu
              have HA : Hid (bindE ⟨val, kty, kid, hKid, use, true, alg, hAlg, ops, hOps⟩ (k : Int) = 105) := by
                show _ = _
                rw [HBE.out]
                simp [allowsE, q0]
              clear hu q0
              go_wp2
              first | go_region | fail
              all_goals (
                have HWB : Hid (Below W.heap.size W (World.drew w2)) := below_drewN HWV.out 1
                have HZ : Hid (Below w.heap.size w (World.drew w2)) := HB.out.trans (HWB.out.mono HB.out.size)
                clear HWB
                go_wp2
                go_ret
                exact ⟨by rw [HA.out]; rfl, HZ.out⟩
              )
            · have hu2 : hUse = false ∨ use = [115, 105, 103] := by
                cases hUse
                · exact .inl rfl
                · right
                  by_cases h : use = sigT
                  · exact h
                  · exact absurd ⟨rfl, h⟩ hu
              by_cases ha : hAlg = true ∧ alg ≠ nameF' (k : Int)
              · obtain ⟨rfl, ha⟩ := ha
                have q2 : (alg != nameF' (k : Int)) = true := by simpa using ha
                have q2b : (alg == nameF' (k : Int)) = false := by simpa using ha
                have q2c : ¬ (alg = nameF' (k : Int)) := ha
                have HA : Hid (bindE ⟨val, kty, kid, hKid, use, hUse, alg, true, ops, hOps⟩ (k : Int) = 105) := by
                  show _ = _
                  rw [HBE.out]
                  simp [allowsE, q2]
                clear ha hu
                rcases hu2 with rfl | rfl
                all_goals (try cases hUse)
                all_goals (
                  go_wp2
                  first | (go_region_with (go_at_call 18; refine (HNM.out _).mono ?_; rintro r w5 ⟨rfl, hb5⟩; have hb6 : Below W.heap.size W w5 := (below_drewN HWV.out 1).trans (hb5.mono HWV.out.size); obtain ⟨b0, b1, b2, b3, b4, b5, b6, b7, b8, b9⟩ := HK.out w5 hb6)) | fail
                  all_goals (
                    have HWB : Hid (Below W.heap.size W w5) := hb6
                    clear hb5 hb6
                    have HZ : Hid (Below w.heap.size w w5) := HB.out.trans (HWB.out.mono HB.out.size)
                    clear HWB
                    go_wp2
                    go_ret
                    exact ⟨by rw [HA.out]; rfl, HZ.out⟩
                  )
            )
              · have ha2 : hAlg = false ∨ nameF' (k : Int) = alg := by
                  cases hAlg
                  · exact .inl rfl
                  · right
                    by_cases h : alg = nameF' (k : Int)
                    · exact h.symm
                    · exact absurd ⟨rfl, h⟩ ha
                have HBD : Hid (bindE ⟨val, kty, kid, hKid, use, hUse, alg, hAlg, ops, hOps⟩ (k : Int) = if (!hOps || decide (verT ∈ ops)) = true then 0 else 105) := by
                  show _ = _
                  rw [HBE.out]
                  rcases hu2 with h1 | h1 <;> rcases ha2 with h2 | h2 <;> simp [allowsE, h1, h2, sigT]
                clear ha hu
                rcases hu2 with rfl | rfl
                all_goals (try cases hUse)
                all_goals (
                  rcases ha2 with rfl | ha3
                  · skip
                    go_wp2
                    first | go_region | fail
                    all_goals (
                      have HWB : Hid (Below W.heap.size W (World.drew w2)) := below_drewN HWV.out 1
                      go_wp2
                      go_loopw [8, 9] (fun s8 s9 wx => ∃ i : Nat, s9 = .int .i64 i ∧ i ≤ ops.length ∧ s8 = .bool (!hOps || (ops.take i).any (fun s => s == [118, 101, 114, 105, 102, 121])) ∧ Hid (Below W.heap.size W wx)) (fun _ s _ => ops.length - (intOf s).toNat)
                      case atStart => exact ⟨0, rfl, Nat.zero_le _, by simp, HWB⟩
                      case round =>
                        clear HWB
                        obtain ⟨i, rfl, hi, rfl, HWB⟩ := hrel
                        have kB := HK.out wr HWB.out
                        obtain ⟨b0, b1, b2, b3, b4, b5, b6, b7, b8, b9⟩ := kB
                        by_cases hlt : i < ops.length
                        · have q0 : decide ((i : Int) < (ops.length : Int)) = true := decide_eq_true (by omega)
                          have q1 : (i : Int) < (ops.length : Int) := by omega
                          obtain ⟨u, hu⟩ : ∃ u, ops.getD i [] = u := ⟨_, rfl⟩
                          have hT := HT.out wr HWB.out
                          obtain ⟨g, off, rfl, kc⟩ := hT.at hlt
                          rw [hu] at kc
                          have hnx : (!hOps || (ops.take (i + 1)).any (fun s => s == [118, 101, 114, 105, 102, 121])) = ((!hOps || (ops.take i).any (fun s => s == [118, 101, 114, 105, 102, 121])) || (u == [118, 101, 114, 105, 102, 121])) := by
                            rw [List.take_add_one, List.getElem?_eq_getElem hlt, List.any_append, ← Bool.or_assoc]
                            rw [List.getD_eq_getElem?_getD, List.getElem?_eq_getElem hlt] at hu
                            simp only [Option.getD_some] at hu
                            simp [hu]
                          have HNX : Hid ((!hOps || (ops.take (i + 1)).any (fun s => s == [118, 101, 114, 105, 102, 121])) = ((!hOps || (ops.take i).any (fun s => s == [118, 101, 114, 105, 102, 121])) || (u == [118, 101, 114, 105, 102, 121]))) := hnx
                          clear hT hu hnx
                          cases hv : (!hOps || (ops.take i).any (fun s => s == [118, 101, 114, 105, 102, 121]))
                          · rw [hv] at HNX
                            go_wp2
                            go_roundw
                            case rel => exact ⟨i + 1, by go_num, by omega, by rw [HNX.out, Bool.false_or], HWB⟩
                            case measure => simp [intOf]; omega
                          · rw [hv] at HNX
                            go_wp2
                            go_roundw
                            case rel => exact ⟨i + 1, by go_num, by omega, by rw [HNX.out, Bool.true_or], HWB⟩
                            case measure => simp [intOf]; omega
                        · have q0 : decide ((i : Int) < (ops.length : Int)) = false := decide_eq_false (by omega)
                          obtain rfl : i = ops.length := by omega
                          rw [List.take_length]
                          have HZ : Hid (Below w.heap.size w wr) := HB.out.trans (HWB.out.mono HB.out.size)
                          cases hv : (!hOps || ops.any (fun s => s == [118, 101, 114, 105, 102, 121]))
                          · go_wp2
                            go_ret
                            exact ⟨by rw [HBD.out, verT_any, hv]; rfl, HZ.out⟩
                          · go_wp2
                            go_ret
                            exact ⟨by rw [HBD.out, verT_any, hv]; rfl, HZ.out⟩
                    )
                  · cases hAlg
                    · skip
                      go_wp2
                      first | go_region | fail
                      all_goals (
                        have HWB : Hid (Below W.heap.size W (World.drew w2)) := below_drewN HWV.out 1
                        go_wp2
                        go_loopw [8, 9] (fun s8 s9 wx => ∃ i : Nat, s9 = .int .i64 i ∧ i ≤ ops.length ∧ s8 = .bool (!hOps || (ops.take i).any (fun s => s == [118, 101, 114, 105, 102, 121])) ∧ Hid (Below W.heap.size W wx)) (fun _ s _ => ops.length - (intOf s).toNat)
                        case atStart => exact ⟨0, rfl, Nat.zero_le _, by simp, HWB⟩
                        case round =>
                          clear HWB
                          obtain ⟨i, rfl, hi, rfl, HWB⟩ := hrel
                          have kB := HK.out wr HWB.out
                          obtain ⟨b0, b1, b2, b3, b4, b5, b6, b7, b8, b9⟩ := kB
                          by_cases hlt : i < ops.length
                          · have q0 : decide ((i : Int) < (ops.length : Int)) = true := decide_eq_true (by omega)
                            have q1 : (i : Int) < (ops.length : Int) := by omega
                            obtain ⟨u, hu⟩ : ∃ u, ops.getD i [] = u := ⟨_, rfl⟩
                            have hT := HT.out wr HWB.out
                            obtain ⟨g, off, rfl, kc⟩ := hT.at hlt
                            rw [hu] at kc
                            have hnx : (!hOps || (ops.take (i + 1)).any (fun s => s == [118, 101, 114, 105, 102, 121])) = ((!hOps || (ops.take i).any (fun s => s == [118, 101, 114, 105, 102, 121])) || (u == [118, 101, 114, 105, 102, 121])) := by
                              rw [List.take_add_one, List.getElem?_eq_getElem hlt, List.any_append, ← Bool.or_assoc]
                              rw [List.getD_eq_getElem?_getD, List.getElem?_eq_getElem hlt] at hu
                              simp only [Option.getD_some] at hu
                              simp [hu]
                            have HNX : Hid ((!hOps || (ops.take (i + 1)).any (fun s => s == [118, 101, 114, 105, 102, 121])) = ((!hOps || (ops.take i).any (fun s => s == [118, 101, 114, 105, 102, 121])) || (u == [118, 101, 114, 105, 102, 121]))) := hnx
                            clear hT hu hnx
                            cases hv : (!hOps || (ops.take i).any (fun s => s == [118, 101, 114, 105, 102, 121]))
                            · rw [hv] at HNX
                              go_wp2
                              go_roundw
                              case rel => exact ⟨i + 1, by go_num, by omega, by rw [HNX.out, Bool.false_or], HWB⟩
                              case measure => simp [intOf]; omega
                            · rw [hv] at HNX
                              go_wp2
                              go_roundw
                              case rel => exact ⟨i + 1, by go_num, by omega, by rw [HNX.out, Bool.true_or], HWB⟩
                              case measure => simp [intOf]; omega
                          · have q0 : decide ((i : Int) < (ops.length : Int)) = false := decide_eq_false (by omega)
                            obtain rfl : i = ops.length := by omega
                            rw [List.take_length]
                            have HZ : Hid (Below w.heap.size w wr) := HB.out.trans (HWB.out.mono HB.out.size)
                            cases hv : (!hOps || ops.any (fun s => s == [118, 101, 114, 105, 102, 121]))
                            · go_wp2
                              go_ret
                              exact ⟨by rw [HBD.out, verT_any, hv]; rfl, HZ.out⟩
                            · go_wp2
                              go_ret
                              exact ⟨by rw [HBD.out, verT_any, hv]; rfl, HZ.out⟩
                      )
                    · subst ha3
                      go_wp2
                      first | (go_region_with (go_at_call 18; refine (HNM.out _).mono ?_; rintro r w5 ⟨rfl, hb5⟩; have hb6 : Below W.heap.size W w5 := (below_drewN HWV.out 1).trans (hb5.mono HWV.out.size); obtain ⟨b0, b1, b2, b3, b4, b5, b6, b7, b8, b9⟩ := HK.out w5 hb6)) | fail
                      all_goals (
                        have HWB : Hid (Below W.heap.size W w5) := hb6
                        clear hb5 hb6
                        go_wp2
                        go_loopw [8, 9] (fun s8 s9 wx => ∃ i : Nat, s9 = .int .i64 i ∧ i ≤ ops.length ∧ s8 = .bool (!hOps || (ops.take i).any (fun s => s == [118, 101, 114, 105, 102, 121])) ∧ Hid (Below W.heap.size W wx)) (fun _ s _ => ops.length - (intOf s).toNat)
                        case atStart => exact ⟨0, rfl, Nat.zero_le _, by simp, HWB⟩
                        case round =>
                          clear HWB
                          obtain ⟨i, rfl, hi, rfl, HWB⟩ := hrel
                          have kB := HK.out wr HWB.out
                          obtain ⟨b0, b1, b2, b3, b4, b5, b6, b7, b8, b9⟩ := kB
                          by_cases hlt : i < ops.length
                          · have q0 : decide ((i : Int) < (ops.length : Int)) = true := decide_eq_true (by omega)
                            have q1 : (i : Int) < (ops.length : Int) := by omega
                            obtain ⟨u, hu⟩ : ∃ u, ops.getD i [] = u := ⟨_, rfl⟩
                            have hT := HT.out wr HWB.out
                            obtain ⟨g, off, rfl, kc⟩ := hT.at hlt
                            rw [hu] at kc
                            have hnx : (!hOps || (ops.take (i + 1)).any (fun s => s == [118, 101, 114, 105, 102, 121])) = ((!hOps || (ops.take i).any (fun s => s == [118, 101, 114, 105, 102, 121])) || (u == [118, 101, 114, 105, 102, 121])) := by
                              rw [List.take_add_one, List.getElem?_eq_getElem hlt, List.any_append, ← Bool.or_assoc]
                              rw [List.getD_eq_getElem?_getD, List.getElem?_eq_getElem hlt] at hu
                              simp only [Option.getD_some] at hu
                              simp [hu]
                            have HNX : Hid ((!hOps || (ops.take (i + 1)).any (fun s => s == [118, 101, 114, 105, 102, 121])) = ((!hOps || (ops.take i).any (fun s => s == [118, 101, 114, 105, 102, 121])) || (u == [118, 101, 114, 105, 102, 121]))) := hnx
                            clear hT hu hnx
                            cases hv : (!hOps || (ops.take i).any (fun s => s == [118, 101, 114, 105, 102, 121]))
                            · rw [hv] at HNX
                              go_wp2
                              go_roundw
                              case rel => exact ⟨i + 1, by go_num, by omega, by rw [HNX.out, Bool.false_or], HWB⟩
                              case measure => simp [intOf]; omega
                            · rw [hv] at HNX
                              go_wp2
                              go_roundw
                              case rel => exact ⟨i + 1, by go_num, by omega, by rw [HNX.out, Bool.true_or], HWB⟩
                              case measure => simp [intOf]; omega
                          · have q0 : decide ((i : Int) < (ops.length : Int)) = false := decide_eq_false (by omega)
                            obtain rfl : i = ops.length := by omega
                            rw [List.take_length]
                            have HZ : Hid (Below w.heap.size w wr) := HB.out.trans (HWB.out.mono HB.out.size)
                            cases hv : (!hOps || ops.any (fun s => s == [118, 101, 114, 105, 102, 121]))
                            · go_wp2
                              go_ret
                              exact ⟨by rw [HBD.out, verT_any, hv]; rfl, HZ.out⟩
                            · go_wp2
                              go_ret
                              exact ⟨by rw [HBD.out, verT_any, hv]; rfl, HZ.out⟩
                      )
            )
          · have HA : Hid (bindE ⟨val, kty, kid, hKid, use, hUse, alg, hAlg, ops, hOps⟩ (k : Int) = 105) := by
              show _ = _
              rw [HBF.out]
              have h1 : saysE val crvT ck = false := by
                rw [hsy]
                by_cases h5 : nd.kind = 5
                · have h6 : (nd.text == ck) = false := by simpa using fun e => hok ⟨h5, e⟩
                  rw [h6, Bool.and_false]
                · have h6 : (nd.kind == (5 : Int)) = false := by simpa using h5
                  rw [h6, Bool.false_and]
              simp [fitsE, h1, hc]
            clear HBF hm hnd hsy
            go_wp2_with fail
            refine CM.mono ?_
            clear CM
            rintro r w2 ⟨rfl, hb2⟩
            obtain ⟨g, off, rfl, hcc⟩ := (HV.out w2 hb2).at hnl
            rw [HKN.out] at hcc
            have c0 := hcc 0 _ (by decide) rfl
            have c2 := hcc 2 _ (by decide) rfl
            rw [Nat.add_zero] at c0
            have HWV : Hid (Below W.heap.size W w2) := hb2
            have HZ : Hid (Below w.heap.size w w2) := HB.out.trans (hb2.mono HB.out.size)
            clear hcc hb2
            obtain ⟨b0, b1, b2, b3, b4, b5, b6, b7, b8, b9⟩ := HK.out w2 HWV.out
            by_cases h5 : nd.kind = 5
            · have h6 : nd.text ≠ ck := fun e => hok ⟨h5, e⟩
              have q6 : (nd.kind != (5 : Int)) = false := by simp [h5]
              have q7 : (nd.text != ck) = true := by simpa using h6
              have q7b : (nd.text == ck) = false := by simpa using h6
              clear hok h5
              go_wp2
              go_ret
              exact ⟨by rw [HA.out]; rfl, HZ.out⟩
            · have q6 : (nd.kind != (5 : Int)) = true := by simpa using h5
              clear hok h5
              go_wp2
              go_ret
              exact ⟨by rw [HA.out]; rfl, HZ.out⟩
    · have q4 : (kty != ak) = true := by simpa using hty
      have HA : Hid (bindE ⟨val, kty, kid, hKid, use, hUse, alg, hAlg, ops, hOps⟩ (k : Int) = 105) := by
        show _ = _
        have h1 : (kty == ak) = false := by simpa using hty
        rw [HBF.out]
        simp [fitsE, h1]
      clear hty HBF
      go_wp2
      go_ret
      exact ⟨by rw [HA.out]; rfl, HB.out⟩
  · have eK : wK a = 0 := by unfold wK; rw [if_neg hr]
    have eC : wC a = [] := by unfold wC; rw [if_neg hr]
    have HA : Hid (bindE ⟨val, kty, kid, hKid, use, hUse, alg, hAlg, ops, hOps⟩ a = 105) := by
      show _ = _
      unfold bindE
      rw [if_pos]
      unfold nameF'
      by_cases h0 : 0 ≤ a ∧ a < 13
      · have : a = 0 := by omega
        subst this
        rfl
      · rw [if_neg h0]
    rw [eK, eC]
    clear eK eC hr
    go_wp2
    go_ret
    exact ⟨by rw [HA.out]; rfl, HB.out⟩

end Go.Proofs.YtkfchdmlemcjhaaDoor
