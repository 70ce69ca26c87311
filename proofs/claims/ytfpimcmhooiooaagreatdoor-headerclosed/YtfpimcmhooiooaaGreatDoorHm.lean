import Derived.Test.YtfpimcmhooiooaaGreatDoorLZ
namespace Go.Proofs.YtfpimcmhooiooaaGreatDoor
open Go.RowKit

theorem NR.cells {w : World} {v : Value} {l : List Nd} {g off cap : Nat} (h : NR w v l (some ⟨g, off, none⟩) cap) {i : Nat} (hi : i < l.length) : w.cell? ⟨g, off + i * 6, none⟩ = some (.int .i64 (l.getD i (nd0 0)).kind) ∧ w.cell? ⟨g, off + i * 6 + 2, none⟩ = some (.string ⟨(l.getD i (nd0 0)).text.toArray⟩) ∧ w.cell? ⟨g, off + i * 6 + 5, none⟩ = some (.int .i64 (l.getD i (nd0 0)).kids) := by
  obtain ⟨g', off', e', hc⟩ := h.at hi
  cases e'
  exact ⟨hc 0 _ (by omega) rfl, hc 2 _ (by omega) rfl, hc 5 _ (by omega) rfl⟩

set_option maxRecDepth 100000 in
set_option maxHeartbeats 32000000 in
theorem closed_any (text : List UInt8) (w : World) (hG : GL w.heap.size w) (hA : Alg w) :
    Calls Tryz.prog 6 #[.string ⟨text.toArray⟩] w fun e w' => e = .returned (.bool true) ∧ Below w.heap.size w w' := by
  have HGq : Hid (∀ wq, Below w.heap.size w wq → GL wq.heap.size wq) := fun wq hq => (hG.below hq).up hq.size
  have HAq : Hid (∀ wq, Below w.heap.size w wq → Alg wq) := fun wq hq => hA.bel hq (Nat.le_refl _)
  have C0 := started_any w hG hA
  obtain ⟨R, hR⟩ : ∃ R, hparseF text = R := ⟨_, rfl⟩
  obtain ⟨l, hl⟩ : ∃ l, (parseF text).1 = l := ⟨_, rfl⟩
  obtain ⟨c, hc⟩ : ∃ c, (parseF text).2.1 = c := ⟨_, rfl⟩
  obtain ⟨p, hp⟩ : ∃ p, (parseF text).2.2 = p := ⟨_, rfl⟩
  have hbd := (parse_bd text).1
  have HT : Hid (c = 0 → Top l) := fun h0 => by
    have := top_of (parse_val (hc.trans h0)) hbd
    rwa [hl] at this
  have HX : Hid (R = if c ≠ 0 then (hd0, c) else match readF l with
    | none => (hd0, 110)
    | some s => if s.h.alg = 0 then (hd0, 111) else (s.h, 0)) := by
    show _ = _
    rw [← hR]
    unfold hparseF
    rw [hl, hc]
    cases readF l <;> rfl
  have HP1 : Hid (∀ wq, Below w.heap.size w wq → Calls Tryz.prog 11 #[.string ⟨text.toArray⟩] wq fun e w' => e = .returned (.tuple #[hdV R.1, .int .i64 (R.2 : Nat)]) ∧ Below wq.heap.size wq w') := fun wq hq => by
    have := hparse_any text wq (HGq.out wq hq) (HAq.out wq hq)
    rwa [hR] at this
  have HP2 : Hid (∀ wq, Below w.heap.size w wq → Calls Tryz.prog 13 #[.string ⟨text.toArray⟩] wq fun e w' => Below wq.heap.size wq w' ∧ ∃ v, e = .returned (.tuple #[v, .int .i64 (c : Int), .int .i64 (p : Int)]) ∧ NO wq.heap.size w' v l) := fun wq hq => by
    have := parse_all text wq (HGq.out wq hq)
    rwa [hl, hc, hp] at this
  rw [hl] at hbd
  obtain ⟨⟨ra, rk, rt, rh⟩, E⟩ := R
  unfold hdV at HP1
  dsimp only at HP1
  clear hR hl hc hp hG hA HGq
  go_enter Tryz.func6, Tryz.ntmps6
  go_wp2_with fail
  refine C0.mono ?_
  clear C0
  rintro e u0 ⟨rfl, hu0⟩
  have C1 := HP1.out u0 hu0
  clear HP1
  go_wp2_with fail
  refine C1.mono ?_
  clear C1
  rintro e u1 ⟨rfl, hu1⟩
  obtain ⟨u2, hu2⟩ : ∃ u2 : World, u1.alloc (.cells (([.int .i64 ra, .string ⟨rk.toArray⟩, .string ⟨rt.toArray⟩, .bool rh] : List Value).toArray) 27) = u2 := ⟨_, rfl⟩
  have hb2 : Bl 27 u2 u1.heap.size [.int .i64 ra, .string ⟨rk.toArray⟩, .string ⟨rt.toArray⟩, .bool rh] := by rw [← hu2]; exact alloc_bl _ _ _
  have hB2 : Below w.heap.size w u2 := by rw [← hu2]; exact (hu0.trans (hu1.mono hu0.size)).trans ((alloc_below _ _).mono (Nat.le_trans hu0.size hu1.size))
  have C2 := HP2.out u2 hB2
  have HU2 : Hid (Below w.heap.size w u2) := hB2
  have HL : Hid (∀ wq, Below u2.heap.size u2 wq → Bl 27 wq u1.heap.size [.int .i64 ra, .string ⟨rk.toArray⟩, .string ⟨rt.toArray⟩, .bool rh]) := fun wq hq => hb2.below hq hb2.lt
  clear hb2 hB2 HP2 hu0 hu1
  go_wp2_with fail
  refine C2.mono ?_
  clear C2
  rintro e u3 ⟨hu3, v, rfl, hno⟩
  obtain ⟨ao, cap, hN⟩ := hno.nr
  obtain ⟨rfl, hcap, _⟩ := id hN
  have HN3 : Hid (NR u3 (.slice ao l.length cap) l ao cap) := hN
  have HU3 : Hid (Below w.heap.size w u3) := HU2.out.trans (hu3.mono HU2.out.size)
  have HV3 : Hid (Below u2.heap.size u2 u3) := hu3
  generalize u1.heap.size = hb at *
  clear hno hN hu3 hu2
  by_cases h0 : c = 0
  · subst h0
    have hT := HT.out rfl
    have hpos := hT.pos
    have HX2 : Hid (((⟨ra, rk, rt, rh⟩ : Hd), E) = match readF l with
      | none => (hd0, 110)
      | some s => if s.h.alg = 0 then (hd0, 111) else (s.h, 0)) := by show _ = _; rw [HX.out, if_neg (fun h => h rfl)]
    have HMb : Hid (∀ (key : List UInt8) wq, NR wq (.slice ao l.length cap) l ao cap → Calls Tryz.prog 14 #[.slice ao l.length cap, .int .i64 0, .string ⟨key.toArray⟩] wq fun e w' => e = .returned (.int .i64 (memF l 0 key)) ∧ Below wq.heap.size wq w') := fun key wq hq => member_any _ l ao cap 0 key wq hq (by omega)
    have HTp : Hid (Top l) := hT
    have rga := memF_rg l kA
    have rgk := memF_rg l kK
    have rgt := memF_rg l kT
    have HGd := @good_at l hT
    have HBd := @read_bad l hT
    have hgdef : goodF l = ((l.getD 0 (nd0 0)).kind = 7 ∧ (l.getD 0 (nd0 0)).kids = (if 0 ≤ memF l 0 kT then 3 else 2) ∧ 0 ≤ memF l 0 kA ∧ 0 ≤ memF l 0 kK ∧ (l.getD (memF l 0 kA).toNat (nd0 0)).kind = 5 ∧ (l.getD (memF l 0 kK).toNat (nd0 0)).kind = 5 ∧ (memF l 0 kT < 0 ∨ (l.getD (memF l 0 kT).toNat (nd0 0)).kind = 5)) := rfl
    unfold GoodAt at HGd
    obtain ⟨mA, hmA⟩ : ∃ m, memF l 0 kA = m := ⟨_, rfl⟩
    obtain ⟨mK, hmK⟩ : ∃ m, memF l 0 kK = m := ⟨_, rfl⟩
    obtain ⟨mT, hmT⟩ : ∃ m, memF l 0 kT = m := ⟨_, rfl⟩
    have HMA : Hid (∀ wq, NR wq (.slice ao l.length cap) l ao cap → Calls Tryz.prog 14 #[.slice ao l.length cap, .int .i64 0, .string { data := #[97, 108, 103] }] wq fun e w' => e = .returned (.int .i64 mA) ∧ Below wq.heap.size wq w') := fun wq hq => by have := HMb.out kA wq hq; rwa [hmA] at this
    have HMK : Hid (∀ wq, NR wq (.slice ao l.length cap) l ao cap → Calls Tryz.prog 14 #[.slice ao l.length cap, .int .i64 0, .string { data := #[107, 105, 100] }] wq fun e w' => e = .returned (.int .i64 mK) ∧ Below wq.heap.size wq w') := fun wq hq => by have := HMb.out kK wq hq; rwa [hmK] at this
    have HMT : Hid (∀ wq, NR wq (.slice ao l.length cap) l ao cap → Calls Tryz.prog 14 #[.slice ao l.length cap, .int .i64 0, .string { data := #[116, 121, 112] }] wq fun e w' => e = .returned (.int .i64 mT) ∧ Below wq.heap.size wq w') := fun wq hq => by have := HMb.out kT wq hq; rwa [hmT] at this
    rw [hmA, hmK, hmT] at hgdef HGd
    rw [hmA] at rga
    rw [hmK] at rgk
    rw [hmT] at rgt
    have HGd' := HGd
    have HGG : Hid (goodF l → _) := HGd'
    have HBB : Hid (¬ goodF l → readF l = none) := HBd
    have HDF : Hid (goodF l = ((l.getD 0 (nd0 0)).kind = 7 ∧ (l.getD 0 (nd0 0)).kids = (if 0 ≤ mT then 3 else 2) ∧ 0 ≤ mA ∧ 0 ≤ mK ∧ (l.getD mA.toNat (nd0 0)).kind = 5 ∧ (l.getD mK.toNat (nd0 0)).kind = 5 ∧ (mT < 0 ∨ (l.getD mT.toNat (nd0 0)).kind = 5))) := hgdef
    have RGA : Hid (mA = -1 ∨ ∃ i : Nat, mA = (i : Int) ∧ i < l.length) := rga
    have RGK : Hid (mK = -1 ∨ ∃ i : Nat, mK = (i : Int) ∧ i < l.length) := rgk
    have RGT : Hid (mT = -1 ∨ ∃ i : Nat, mT = (i : Int) ∧ i < l.length) := rgt
    clear hT HMb HX HT HGd HGd' HBd hgdef hmA hmK hmT rga rgk rgt
    have CA := HMA.out u3 HN3.out
    clear HMA
    go_wp2_with fail
    refine CA.mono ?_
    clear CA
    rintro e u4 ⟨rfl, hu4⟩
    have CK := HMK.out u4 (HN3.out.below hu4 (Nat.le_refl _))
    have HV4 : Hid (Below u3.heap.size u3 u4) := hu4
    clear HMK hu4
    go_wp2_with fail
    refine CK.mono ?_
    clear CK
    rintro e u5 ⟨rfl, hu5⟩
    have HV5 : Hid (Below u3.heap.size u3 u5) := HV4.out.trans (hu5.mono HV4.out.size)
    have CT := HMT.out u5 (HN3.out.below HV5.out (Nat.le_refl _))
    clear HMT hu5
    go_wp2_with fail
    refine CT.mono ?_
    clear CT
    rintro e u6 ⟨rfl, hu6⟩
    have HV6 : Hid (Below u3.heap.size u3 u6) := HV5.out.trans (hu6.mono HV5.out.size)
    have HU6 : Hid (Below w.heap.size w u6) := HU3.out.trans (HV6.out.mono HU3.out.size)
    have hN6 := HN3.out.below HV6.out (Nat.le_refl _)
    obtain ⟨g, off, rfl, _⟩ := hN6.at hpos
    have HN6 : Hid (NR u6 (.slice (some ⟨g, off, none⟩) l.length cap) l (some ⟨g, off, none⟩) cap) := hN6
    have hx := HL.out u6 (HV3.out.trans (HV6.out.mono HV3.out.size))
    have x0 : u6.cell? ⟨hb, 0, none⟩ = some (.int .i64 ra) := hx.cell 0 (by simp)
    have x1 : u6.cell? ⟨hb, 1, none⟩ = some (.string ⟨rk.toArray⟩) := hx.cell 1 (by simp)
    have x2 : u6.cell? ⟨hb, 2, none⟩ = some (.string ⟨rt.toArray⟩) := hx.cell 2 (by simp)
    have x3 : u6.cell? ⟨hb, 3, none⟩ = some (.bool rh) := hx.cell 3 (by simp)
    have HLq : Hid (∀ wq, Below u6.heap.size u6 wq → Bl 27 wq hb [.int .i64 ra, .string ⟨rk.toArray⟩, .string ⟨rt.toArray⟩, .bool rh]) := fun wq hq => hx.below hq hx.lt
    have k0 := (hN6.cells hpos).1
    have k5 := (hN6.cells hpos).2.2
    rw [Nat.zero_mul, Nat.add_zero] at k0 k5
    obtain ⟨kd0, hkd0⟩ : ∃ k, (l.getD 0 (nd0 0)).kind = k := ⟨_, rfl⟩
    obtain ⟨kn0, hkn0⟩ : ∃ k, (l.getD 0 (nd0 0)).kids = k := ⟨_, rfl⟩
    rw [hkd0] at k0
    rw [hkn0] at k5
    rw [hkd0, hkn0] at HDF
    have hln0 : ((l.length : Int) == 0) = false := by rw [beq_eq_false_iff_ne]; omega
    have hlp : (0 : Int) < (l.length : Int) := by omega
    clear hu6 hN6 hx HV4 HV5 HV3 HL HN3
    rcases RGT.out with rfl | ⟨t, rfl, htl⟩
    · have qt1 : decide ((-1 : Int) ≥ (l.length : Int)) = false := decide_eq_false (by omega)
      have htn : (if (0 : Int) ≤ -1 then (3 : Int) else 2) = 2 := rfl
      rw [htn] at HDF
      rcases RGA.out with rfl | ⟨a, rfl, hal⟩
      · have qa1 : decide ((-1 : Int) ≥ (l.length : Int)) = false := decide_eq_false (by omega)
        rcases RGK.out with rfl | ⟨k, rfl, hkl⟩
        · skip
          by_cases h7 : kd0 = 7
          · subst h7
            by_cases hn : kn0 = 2
            · subst hn
              have HE : Hid (readF l = none) := HBB.out (by rw [HDF.out]; exact fun h => absurd h.2.2.1 (by decide))
              have hxx := HX2.out
              rw [HE.out] at hxx
              cases hxx
              have req := run_hd u6 hd0
              dsimp only [hd0] at req x0 x1 x2 x3
              clear HE HX2 HGG HBB HDF HTp HLq HAq HN6
              go_wp2
              go_ret
              exact ⟨rfl, HU6.out⟩
            · have qn : (kn0 == 2) = false := by simpa using hn
              have HE : Hid (readF l = none) := HBB.out (by rw [HDF.out]; exact fun h => hn h.2.1)
              have hxx := HX2.out
              rw [HE.out] at hxx
              cases hxx
              have req := run_hd u6 hd0
              dsimp only [hd0] at req x0 x1 x2 x3
              clear HE HX2 HGG HBB HDF HTp HLq HAq HN6
              go_wp2
              go_ret
              exact ⟨rfl, HU6.out⟩
          · have q7 : (kd0 == 7) = false := by simpa using h7
            have HE : Hid (readF l = none) := HBB.out (by rw [HDF.out]; exact fun h => h7 h.1)
            have hxx := HX2.out
            rw [HE.out] at hxx
            cases hxx
            have req := run_hd u6 hd0
            dsimp only [hd0] at req x0 x1 x2 x3
            clear HE HX2 HGG HBB HDF HTp HLq HAq HN6
            go_wp2
            go_ret
            exact ⟨rfl, HU6.out⟩
        · skip
          have qk1 : decide ((k : Int) ≥ (l.length : Int)) = false := decide_eq_false (by omega)
          have qk0 : decide ((k : Int) ≥ 0) = true := decide_eq_true (by omega)
          have k5 := (HN6.out.cells hkl).1
          have k2 := (HN6.out.cells hkl).2.1
          have hkl' : (k : Int) < (l.length : Int) := by omega
          obtain ⟨kdk, hkdk⟩ : ∃ x, (l.getD k (nd0 0)).kind = x := ⟨_, rfl⟩
          obtain ⟨tk, htk⟩ : ∃ x, (l.getD k (nd0 0)).text = x := ⟨_, rfl⟩
          rw [hkdk] at k5
          rw [htk] at k2
          by_cases h7 : kd0 = 7
          · subst h7
            by_cases hn : kn0 = 2
            · subst hn
              have HE : Hid (readF l = none) := HBB.out (by rw [HDF.out]; exact fun h => absurd h.2.2.1 (by decide))
              have hxx := HX2.out
              rw [HE.out] at hxx
              cases hxx
              have req := run_hd u6 hd0
              dsimp only [hd0] at req x0 x1 x2 x3
              clear HE HX2 HGG HBB HDF HTp HLq HAq HN6
              go_wp2
              go_ret
              exact ⟨rfl, HU6.out⟩
            · have qn : (kn0 == 2) = false := by simpa using hn
              have HE : Hid (readF l = none) := HBB.out (by rw [HDF.out]; exact fun h => hn h.2.1)
              have hxx := HX2.out
              rw [HE.out] at hxx
              cases hxx
              have req := run_hd u6 hd0
              dsimp only [hd0] at req x0 x1 x2 x3
              clear HE HX2 HGG HBB HDF HTp HLq HAq HN6
              go_wp2
              go_ret
              exact ⟨rfl, HU6.out⟩
          · have q7 : (kd0 == 7) = false := by simpa using h7
            have HE : Hid (readF l = none) := HBB.out (by rw [HDF.out]; exact fun h => h7 h.1)
            have hxx := HX2.out
            rw [HE.out] at hxx
            cases hxx
            have req := run_hd u6 hd0
            dsimp only [hd0] at req x0 x1 x2 x3
            clear HE HX2 HGG HBB HDF HTp HLq HAq HN6
            go_wp2
            go_ret
            exact ⟨rfl, HU6.out⟩
      · skip
        have qa1 : decide ((a : Int) ≥ (l.length : Int)) = false := decide_eq_false (by omega)
        have qa0 : decide ((a : Int) ≥ 0) = true := decide_eq_true (by omega)
        have a5 := (HN6.out.cells hal).1
        have a2 := (HN6.out.cells hal).2.1
        have hal' : (a : Int) < (l.length : Int) := by omega
        obtain ⟨kda, hkda⟩ : ∃ x, (l.getD a (nd0 0)).kind = x := ⟨_, rfl⟩
        obtain ⟨ta, hta⟩ : ∃ x, (l.getD a (nd0 0)).text = x := ⟨_, rfl⟩
        rw [hkda] at a5
        rw [hta] at a2
        rcases RGK.out with rfl | ⟨k, rfl, hkl⟩
        · have qk1 : decide ((-1 : Int) ≥ (l.length : Int)) = false := decide_eq_false (by omega)
          by_cases h7 : kd0 = 7
          · subst h7
            by_cases hn : kn0 = 2
            · subst hn
              have HE : Hid (readF l = none) := HBB.out (by rw [HDF.out]; exact fun h => absurd h.2.2.2.1 (by decide))
              have hxx := HX2.out
              rw [HE.out] at hxx
              cases hxx
              have req := run_hd u6 hd0
              dsimp only [hd0] at req x0 x1 x2 x3
              clear HE HX2 HGG HBB HDF HTp HLq HAq HN6
              go_wp2
              go_ret
              exact ⟨rfl, HU6.out⟩
            · have qn : (kn0 == 2) = false := by simpa using hn
              have HE : Hid (readF l = none) := HBB.out (by rw [HDF.out]; exact fun h => hn h.2.1)
              have hxx := HX2.out
              rw [HE.out] at hxx
              cases hxx
              have req := run_hd u6 hd0
              dsimp only [hd0] at req x0 x1 x2 x3
              clear HE HX2 HGG HBB HDF HTp HLq HAq HN6
              go_wp2
              go_ret
              exact ⟨rfl, HU6.out⟩
          · have q7 : (kd0 == 7) = false := by simpa using h7
            have HE : Hid (readF l = none) := HBB.out (by rw [HDF.out]; exact fun h => h7 h.1)
            have hxx := HX2.out
            rw [HE.out] at hxx
            cases hxx
            have req := run_hd u6 hd0
            dsimp only [hd0] at req x0 x1 x2 x3
            clear HE HX2 HGG HBB HDF HTp HLq HAq HN6
            go_wp2
            go_ret
            exact ⟨rfl, HU6.out⟩
        · skip
          have qk1 : decide ((k : Int) ≥ (l.length : Int)) = false := decide_eq_false (by omega)
          have qk0 : decide ((k : Int) ≥ 0) = true := decide_eq_true (by omega)
          have k5 := (HN6.out.cells hkl).1
          have k2 := (HN6.out.cells hkl).2.1
          have hkl' : (k : Int) < (l.length : Int) := by omega
          obtain ⟨kdk, hkdk⟩ : ∃ x, (l.getD k (nd0 0)).kind = x := ⟨_, rfl⟩
          obtain ⟨tk, htk⟩ : ∃ x, (l.getD k (nd0 0)).text = x := ⟨_, rfl⟩
          rw [hkdk] at k5
          rw [htk] at k2
          rw [Int.toNat_natCast, Int.toNat_natCast, hkda, hkdk] at HDF
          by_cases h7 : kd0 = 7
          · subst h7
            by_cases hn : kn0 = 2
            · subst hn
              by_cases ha5 : kda = 5
              · subst ha5
                by_cases hk5 : kdk = 5
                · subst hk5
                  have hRd : readF l = some ⟨⟨(ofF ta : Int), tk, [], false⟩, true, true⟩ := by
                    obtain ⟨a', k', ea, ek, _, _, _, _, _, _, _, hh⟩ := HGG.out (by rw [HDF.out]; exact ⟨rfl, rfl, by omega, by omega, rfl, rfl, Or.inl (by decide)⟩)
                    obtain rfl : a = a' := by omega
                    obtain rfl : k = k' := by omega
                    rcases hh with ⟨_, _, _, hr⟩ | ⟨h3, _⟩
                    · rw [hta, htk] at hr
                      exact hr
                    · exact absurd (h3.symm.trans hkn0) (by decide)
                  have hxx := HX2.out
                  rw [hRd] at hxx
                  dsimp only at hxx
                  have CO := of_any ta u6 (HAq.out u6 HU6.out)
                  obtain ⟨n, hn⟩ : ∃ n, ofF ta = n := ⟨_, rfl⟩
                  have hnm : n ≠ 0 → nameF' (n : Int) = ta := fun h => by rw [← hn]; exact name_of (by rw [hn]; exact h)
                  rw [hn] at hxx CO
                  have HNm : Hid (n ≠ 0 → nameF' (n : Int) = ta) := hnm
                  clear hRd hn hnm HX2 HGG HBB HDF HTp hkd0 hkn0 hkda hkdk hta htk
                  by_cases hz : n = 0
                  · subst hz
                    rw [if_pos (show ((0 : Nat) : Int) = 0 from rfl)] at hxx
                    cases hxx
                    go_wp2_with fail
                    refine CO.mono ?_
                    clear CO
                    rintro e u7 ⟨rfl, hu7⟩
                    have hx := HLq.out u7 hu7
                    have X0 : u7.cell? ⟨hb, 0, none⟩ = some (.int .i64 0) := hx.cell 0 (by simp)
                    have X1 : u7.cell? ⟨hb, 1, none⟩ = some (.string { data := #[] }) := hx.cell 1 (by simp)
                    have X2 : u7.cell? ⟨hb, 2, none⟩ = some (.string { data := #[] }) := hx.cell 2 (by simp)
                    have X3 : u7.cell? ⟨hb, 3, none⟩ = some (.bool false) := hx.cell 3 (by simp)
                    have HU7 : Hid (Below w.heap.size w u7) := HU6.out.trans (hu7.mono HU6.out.size)
                    have req := run_hd u7 hd0
                    dsimp only [hd0] at req
                    clear hx hu7 HLq x0 x1 x2 x3
                    go_wp2
                    go_ret
                    exact ⟨rfl, HU7.out⟩
                  · rw [if_neg (by omega)] at hxx
                    cases hxx
                    have qz : ((n : Int) == 0) = false := by rw [beq_eq_false_iff_ne]; omega
                    have hnam := HNm.out hz
                    go_wp2_with fail
                    refine CO.mono ?_
                    clear CO
                    rintro e u7 ⟨rfl, hu7⟩
                    have hx := HLq.out u7 hu7
                    have hN7 := HN6.out.below hu7 (Nat.le_refl _)
                    have X0 : u7.cell? ⟨hb, 0, none⟩ = some (.int .i64 (n : Int)) := hx.cell 0 (by simp)
                    have X1 : u7.cell? ⟨hb, 1, none⟩ = some (.string ⟨rk.toArray⟩) := hx.cell 1 (by simp)
                    have X2 : u7.cell? ⟨hb, 2, none⟩ = some (.string ⟨#[]⟩) := hx.cell 2 (by simp)
                    have X3 : u7.cell? ⟨hb, 3, none⟩ = some (.bool false) := hx.cell 3 (by simp)
                    have A2 : u7.cell? ⟨g, off + a * 6 + 2, none⟩ = some (.string ⟨ta.toArray⟩) := cell_but a2 fun hlt => hu7.block _ hlt
                    have K2 : u7.cell? ⟨g, off + k * 6 + 2, none⟩ = some (.string ⟨rk.toArray⟩) := cell_but k2 fun hlt => hu7.block _ hlt
                    have HU7 : Hid (Below w.heap.size w u7) := HU6.out.trans (hu7.mono HU6.out.size)
                    have CN : ∀ q, Calls Tryz.prog 10 #[.int .i64 (n : Int)] (u7.drewN q) fun e w' => e = .returned (.string ⟨ta.toArray⟩) ∧ w' = u7.drewN q := fun q => by
                      have := kname_any (n : Int) (u7.drewN q) (HAq.out _ (below_drewN HU7.out q))
                      rwa [hnam] at this
                    clear hx hu7 hN7 HLq x0 x1 x2 x3 hnam HNm HN6 HAq a2 k2
                    have qta : (ta == ta) = true := by simp
                    have qtk : (rk == rk) = true := by simp
                    have qnn : ((n : Int) == (n : Int)) = true := by simp
                    have ha0 : (0 : Int) ≤ (a : Int) := by omega
                    have hk0 : (0 : Int) ≤ (k : Int) := by omega
                    go_wp2
                    go_quiet (exact Calls.quiet_of_same (CN _))
                    go_wp2
                    go_quiet (fail)
                    go_wp2
                    go_ret
                    exact ⟨rfl, below_drewN (below_drewN HU7.out _) _⟩
                · have qk5 : (kdk == 5) = false := by simpa using hk5
                  have HE : Hid (readF l = none) := HBB.out (by rw [HDF.out]; exact fun h => hk5 h.2.2.2.2.2.1)
                  have hxx := HX2.out
                  rw [HE.out] at hxx
                  cases hxx
                  have req := run_hd u6 hd0
                  dsimp only [hd0] at req x0 x1 x2 x3
                  clear HE HX2 HGG HBB HDF HTp HLq HAq HN6
                  go_wp2
                  go_ret
                  exact ⟨rfl, HU6.out⟩
              · have qa5 : (kda == 5) = false := by simpa using ha5
                have HE : Hid (readF l = none) := HBB.out (by rw [HDF.out]; exact fun h => ha5 h.2.2.2.2.1)
                have hxx := HX2.out
                rw [HE.out] at hxx
                cases hxx
                have req := run_hd u6 hd0
                dsimp only [hd0] at req x0 x1 x2 x3
                clear HE HX2 HGG HBB HDF HTp HLq HAq HN6
                go_wp2
                go_ret
                exact ⟨rfl, HU6.out⟩
            · have qn : (kn0 == 2) = false := by simpa using hn
              have HE : Hid (readF l = none) := HBB.out (by rw [HDF.out]; exact fun h => hn h.2.1)
              have hxx := HX2.out
              rw [HE.out] at hxx
              cases hxx
              have req := run_hd u6 hd0
              dsimp only [hd0] at req x0 x1 x2 x3
              clear HE HX2 HGG HBB HDF HTp HLq HAq HN6
              go_wp2
              go_ret
              exact ⟨rfl, HU6.out⟩
          · have q7 : (kd0 == 7) = false := by simpa using h7
            have HE : Hid (readF l = none) := HBB.out (by rw [HDF.out]; exact fun h => h7 h.1)
            have hxx := HX2.out
            rw [HE.out] at hxx
            cases hxx
            have req := run_hd u6 hd0
            dsimp only [hd0] at req x0 x1 x2 x3
            clear HE HX2 HGG HBB HDF HTp HLq HAq HN6
            go_wp2
            go_ret
            exact ⟨rfl, HU6.out⟩
    · have qt1 : decide ((t : Int) ≥ (l.length : Int)) = false := decide_eq_false (by omega)
      have htn : (if (0 : Int) ≤ (t : Int) then (3 : Int) else 2) = 3 := if_pos (by omega)
      have qt0 : decide ((t : Int) ≥ 0) = true := decide_eq_true (by omega)
      have qt2 : decide ((t : Int) < 0) = false := decide_eq_false (by omega)
      have kt := (HN6.out.cells htl).1
      have kt2 := (HN6.out.cells htl).2.1
      have htl' : (t : Int) < (l.length : Int) := by omega
      obtain ⟨kdt, hkdt⟩ : ∃ k, (l.getD t (nd0 0)).kind = k := ⟨_, rfl⟩
      obtain ⟨tt, htt⟩ : ∃ k, (l.getD t (nd0 0)).text = k := ⟨_, rfl⟩
      rw [hkdt] at kt
      rw [htt] at kt2
      rw [htn] at HDF
      rcases RGA.out with rfl | ⟨a, rfl, hal⟩
      · have qa1 : decide ((-1 : Int) ≥ (l.length : Int)) = false := decide_eq_false (by omega)
        rcases RGK.out with rfl | ⟨k, rfl, hkl⟩
        · skip
          by_cases h7 : kd0 = 7
          · subst h7
            by_cases hn : kn0 = 3
            · subst hn
              have HE : Hid (readF l = none) := HBB.out (by rw [HDF.out]; exact fun h => absurd h.2.2.1 (by decide))
              have hxx := HX2.out
              rw [HE.out] at hxx
              cases hxx
              have req := run_hd u6 hd0
              dsimp only [hd0] at req x0 x1 x2 x3
              clear HE HX2 HGG HBB HDF HTp HLq HAq HN6
              go_wp2
              go_ret
              exact ⟨rfl, HU6.out⟩
            · have qn : (kn0 == 3) = false := by simpa using hn
              have HE : Hid (readF l = none) := HBB.out (by rw [HDF.out]; exact fun h => hn h.2.1)
              have hxx := HX2.out
              rw [HE.out] at hxx
              cases hxx
              have req := run_hd u6 hd0
              dsimp only [hd0] at req x0 x1 x2 x3
              clear HE HX2 HGG HBB HDF HTp HLq HAq HN6
              go_wp2
              go_ret
              exact ⟨rfl, HU6.out⟩
          · have q7 : (kd0 == 7) = false := by simpa using h7
            have HE : Hid (readF l = none) := HBB.out (by rw [HDF.out]; exact fun h => h7 h.1)
            have hxx := HX2.out
            rw [HE.out] at hxx
            cases hxx
            have req := run_hd u6 hd0
            dsimp only [hd0] at req x0 x1 x2 x3
            clear HE HX2 HGG HBB HDF HTp HLq HAq HN6
            go_wp2
            go_ret
            exact ⟨rfl, HU6.out⟩
        · skip
          have qk1 : decide ((k : Int) ≥ (l.length : Int)) = false := decide_eq_false (by omega)
          have qk0 : decide ((k : Int) ≥ 0) = true := decide_eq_true (by omega)
          have k5 := (HN6.out.cells hkl).1
          have k2 := (HN6.out.cells hkl).2.1
          have hkl' : (k : Int) < (l.length : Int) := by omega
          obtain ⟨kdk, hkdk⟩ : ∃ x, (l.getD k (nd0 0)).kind = x := ⟨_, rfl⟩
          obtain ⟨tk, htk⟩ : ∃ x, (l.getD k (nd0 0)).text = x := ⟨_, rfl⟩
          rw [hkdk] at k5
          rw [htk] at k2
          by_cases h7 : kd0 = 7
          · subst h7
            by_cases hn : kn0 = 3
            · subst hn
              have HE : Hid (readF l = none) := HBB.out (by rw [HDF.out]; exact fun h => absurd h.2.2.1 (by decide))
              have hxx := HX2.out
              rw [HE.out] at hxx
              cases hxx
              have req := run_hd u6 hd0
              dsimp only [hd0] at req x0 x1 x2 x3
              clear HE HX2 HGG HBB HDF HTp HLq HAq HN6
              go_wp2
              go_ret
              exact ⟨rfl, HU6.out⟩
            · have qn : (kn0 == 3) = false := by simpa using hn
              have HE : Hid (readF l = none) := HBB.out (by rw [HDF.out]; exact fun h => hn h.2.1)
              have hxx := HX2.out
              rw [HE.out] at hxx
              cases hxx
              have req := run_hd u6 hd0
              dsimp only [hd0] at req x0 x1 x2 x3
              clear HE HX2 HGG HBB HDF HTp HLq HAq HN6
              go_wp2
              go_ret
              exact ⟨rfl, HU6.out⟩
          · have q7 : (kd0 == 7) = false := by simpa using h7
            have HE : Hid (readF l = none) := HBB.out (by rw [HDF.out]; exact fun h => h7 h.1)
            have hxx := HX2.out
            rw [HE.out] at hxx
            cases hxx
            have req := run_hd u6 hd0
            dsimp only [hd0] at req x0 x1 x2 x3
            clear HE HX2 HGG HBB HDF HTp HLq HAq HN6
            go_wp2
            go_ret
            exact ⟨rfl, HU6.out⟩
      · skip
        have qa1 : decide ((a : Int) ≥ (l.length : Int)) = false := decide_eq_false (by omega)
        have qa0 : decide ((a : Int) ≥ 0) = true := decide_eq_true (by omega)
        have a5 := (HN6.out.cells hal).1
        have a2 := (HN6.out.cells hal).2.1
        have hal' : (a : Int) < (l.length : Int) := by omega
        obtain ⟨kda, hkda⟩ : ∃ x, (l.getD a (nd0 0)).kind = x := ⟨_, rfl⟩
        obtain ⟨ta, hta⟩ : ∃ x, (l.getD a (nd0 0)).text = x := ⟨_, rfl⟩
        rw [hkda] at a5
        rw [hta] at a2
        rcases RGK.out with rfl | ⟨k, rfl, hkl⟩
        · have qk1 : decide ((-1 : Int) ≥ (l.length : Int)) = false := decide_eq_false (by omega)
          by_cases h7 : kd0 = 7
          · subst h7
            by_cases hn : kn0 = 3
            · subst hn
              have HE : Hid (readF l = none) := HBB.out (by rw [HDF.out]; exact fun h => absurd h.2.2.2.1 (by decide))
              have hxx := HX2.out
              rw [HE.out] at hxx
              cases hxx
              have req := run_hd u6 hd0
              dsimp only [hd0] at req x0 x1 x2 x3
              clear HE HX2 HGG HBB HDF HTp HLq HAq HN6
              go_wp2
              go_ret
              exact ⟨rfl, HU6.out⟩
            · have qn : (kn0 == 3) = false := by simpa using hn
              have HE : Hid (readF l = none) := HBB.out (by rw [HDF.out]; exact fun h => hn h.2.1)
              have hxx := HX2.out
              rw [HE.out] at hxx
              cases hxx
              have req := run_hd u6 hd0
              dsimp only [hd0] at req x0 x1 x2 x3
              clear HE HX2 HGG HBB HDF HTp HLq HAq HN6
              go_wp2
              go_ret
              exact ⟨rfl, HU6.out⟩
          · have q7 : (kd0 == 7) = false := by simpa using h7
            have HE : Hid (readF l = none) := HBB.out (by rw [HDF.out]; exact fun h => h7 h.1)
            have hxx := HX2.out
            rw [HE.out] at hxx
            cases hxx
            have req := run_hd u6 hd0
            dsimp only [hd0] at req x0 x1 x2 x3
            clear HE HX2 HGG HBB HDF HTp HLq HAq HN6
            go_wp2
            go_ret
            exact ⟨rfl, HU6.out⟩
        · skip
          have qk1 : decide ((k : Int) ≥ (l.length : Int)) = false := decide_eq_false (by omega)
          have qk0 : decide ((k : Int) ≥ 0) = true := decide_eq_true (by omega)
          have k5 := (HN6.out.cells hkl).1
          have k2 := (HN6.out.cells hkl).2.1
          have hkl' : (k : Int) < (l.length : Int) := by omega
          obtain ⟨kdk, hkdk⟩ : ∃ x, (l.getD k (nd0 0)).kind = x := ⟨_, rfl⟩
          obtain ⟨tk, htk⟩ : ∃ x, (l.getD k (nd0 0)).text = x := ⟨_, rfl⟩
          rw [hkdk] at k5
          rw [htk] at k2
          rw [Int.toNat_natCast, Int.toNat_natCast, Int.toNat_natCast, hkda, hkdk, hkdt] at HDF
          by_cases h7 : kd0 = 7
          · subst h7
            by_cases hn : kn0 = 3
            · subst hn
              by_cases ha5 : kda = 5
              · subst ha5
                by_cases hk5 : kdk = 5
                · subst hk5
                  by_cases ht5 : kdt = 5
                  · subst ht5
                    have hRd : readF l = some ⟨⟨(ofF ta : Int), tk, tt, true⟩, true, true⟩ := by
                      obtain ⟨a', k', ea, ek, _, _, _, _, _, _, _, hh⟩ := HGG.out (by rw [HDF.out]; exact ⟨rfl, rfl, by omega, by omega, rfl, rfl, Or.inr rfl⟩)
                      obtain rfl : a = a' := by omega
                      obtain rfl : k = k' := by omega
                      rcases hh with ⟨h3, _⟩ | ⟨_, t', et, _, _, _, _, hr⟩
                      · exact absurd (h3.symm.trans hkn0) (by decide)
                      · obtain rfl : t = t' := by omega
                        rw [hta, htk, htt] at hr
                        exact hr
                    have hxx := HX2.out
                    rw [hRd] at hxx
                    dsimp only at hxx
                    have CO := of_any ta u6 (HAq.out u6 HU6.out)
                    obtain ⟨n, hn⟩ : ∃ n, ofF ta = n := ⟨_, rfl⟩
                    have hnm : n ≠ 0 → nameF' (n : Int) = ta := fun h => by rw [← hn]; exact name_of (by rw [hn]; exact h)
                    rw [hn] at hxx CO
                    have HNm : Hid (n ≠ 0 → nameF' (n : Int) = ta) := hnm
                    clear hRd hn hnm HX2 HGG HBB HDF HTp hkd0 hkn0 hkda hkdk hta htk
                    by_cases hz : n = 0
                    · subst hz
                      rw [if_pos (show ((0 : Nat) : Int) = 0 from rfl)] at hxx
                      cases hxx
                      go_wp2_with fail
                      refine CO.mono ?_
                      clear CO
                      rintro e u7 ⟨rfl, hu7⟩
                      have hx := HLq.out u7 hu7
                      have X0 : u7.cell? ⟨hb, 0, none⟩ = some (.int .i64 0) := hx.cell 0 (by simp)
                      have X1 : u7.cell? ⟨hb, 1, none⟩ = some (.string { data := #[] }) := hx.cell 1 (by simp)
                      have X2 : u7.cell? ⟨hb, 2, none⟩ = some (.string { data := #[] }) := hx.cell 2 (by simp)
                      have X3 : u7.cell? ⟨hb, 3, none⟩ = some (.bool false) := hx.cell 3 (by simp)
                      have HU7 : Hid (Below w.heap.size w u7) := HU6.out.trans (hu7.mono HU6.out.size)
                      have req := run_hd u7 hd0
                      dsimp only [hd0] at req
                      clear hx hu7 HLq x0 x1 x2 x3
                      go_wp2
                      go_ret
                      exact ⟨rfl, HU7.out⟩
                    · rw [if_neg (by omega)] at hxx
                      cases hxx
                      have qz : ((n : Int) == 0) = false := by rw [beq_eq_false_iff_ne]; omega
                      have hnam := HNm.out hz
                      go_wp2_with fail
                      refine CO.mono ?_
                      clear CO
                      rintro e u7 ⟨rfl, hu7⟩
                      have hx := HLq.out u7 hu7
                      have hN7 := HN6.out.below hu7 (Nat.le_refl _)
                      have X0 : u7.cell? ⟨hb, 0, none⟩ = some (.int .i64 (n : Int)) := hx.cell 0 (by simp)
                      have X1 : u7.cell? ⟨hb, 1, none⟩ = some (.string ⟨rk.toArray⟩) := hx.cell 1 (by simp)
                      have X2 : u7.cell? ⟨hb, 2, none⟩ = some (.string ⟨rt.toArray⟩) := hx.cell 2 (by simp)
                      have X3 : u7.cell? ⟨hb, 3, none⟩ = some (.bool true) := hx.cell 3 (by simp)
                      have A2 : u7.cell? ⟨g, off + a * 6 + 2, none⟩ = some (.string ⟨ta.toArray⟩) := cell_but a2 fun hlt => hu7.block _ hlt
                      have K2 : u7.cell? ⟨g, off + k * 6 + 2, none⟩ = some (.string ⟨rk.toArray⟩) := cell_but k2 fun hlt => hu7.block _ hlt
                      have T2 : u7.cell? ⟨g, off + t * 6 + 2, none⟩ = some (.string ⟨rt.toArray⟩) := cell_but kt2 fun hlt => hu7.block _ hlt
                      have HU7 : Hid (Below w.heap.size w u7) := HU6.out.trans (hu7.mono HU6.out.size)
                      have CN : ∀ q, Calls Tryz.prog 10 #[.int .i64 (n : Int)] (u7.drewN q) fun e w' => e = .returned (.string ⟨ta.toArray⟩) ∧ w' = u7.drewN q := fun q => by
                        have := kname_any (n : Int) (u7.drewN q) (HAq.out _ (below_drewN HU7.out q))
                        rwa [hnam] at this
                      clear hx hu7 hN7 HLq x0 x1 x2 x3 hnam HNm HN6 HAq a2 k2
                      have qta : (ta == ta) = true := by simp
                      have qtk : (rk == rk) = true := by simp
                      have qnn : ((n : Int) == (n : Int)) = true := by simp
                      have ha0 : (0 : Int) ≤ (a : Int) := by omega
                      have hk0 : (0 : Int) ≤ (k : Int) := by omega
                      go_wp2
                      go_quiet (exact Calls.quiet_of_same (CN _))
                      go_wp2
                      go_quiet (fail)
                      go_wp2
                      go_ret
                      exact ⟨rfl, below_drewN (below_drewN HU7.out _) _⟩
                  · have qt5 : (kdt == 5) = false := by simpa using ht5
                    have HE : Hid (readF l = none) := HBB.out (by rw [HDF.out]; exact fun h => h.2.2.2.2.2.2.elim (fun h => absurd h (by omega)) ht5)
                    have hxx := HX2.out
                    rw [HE.out] at hxx
                    cases hxx
                    have req := run_hd u6 hd0
                    dsimp only [hd0] at req x0 x1 x2 x3
                    clear HE HX2 HGG HBB HDF HTp HLq HAq HN6
                    go_wp2
                    go_ret
                    exact ⟨rfl, HU6.out⟩
                · have qk5 : (kdk == 5) = false := by simpa using hk5
                  have HE : Hid (readF l = none) := HBB.out (by rw [HDF.out]; exact fun h => hk5 h.2.2.2.2.2.1)
                  have hxx := HX2.out
                  rw [HE.out] at hxx
                  cases hxx
                  have req := run_hd u6 hd0
                  dsimp only [hd0] at req x0 x1 x2 x3
                  clear HE HX2 HGG HBB HDF HTp HLq HAq HN6
                  go_wp2
                  go_ret
                  exact ⟨rfl, HU6.out⟩
              · have qa5 : (kda == 5) = false := by simpa using ha5
                have HE : Hid (readF l = none) := HBB.out (by rw [HDF.out]; exact fun h => ha5 h.2.2.2.2.1)
                have hxx := HX2.out
                rw [HE.out] at hxx
                cases hxx
                have req := run_hd u6 hd0
                dsimp only [hd0] at req x0 x1 x2 x3
                clear HE HX2 HGG HBB HDF HTp HLq HAq HN6
                go_wp2
                go_ret
                exact ⟨rfl, HU6.out⟩
            · have qn : (kn0 == 3) = false := by simpa using hn
              have HE : Hid (readF l = none) := HBB.out (by rw [HDF.out]; exact fun h => hn h.2.1)
              have hxx := HX2.out
              rw [HE.out] at hxx
              cases hxx
              have req := run_hd u6 hd0
              dsimp only [hd0] at req x0 x1 x2 x3
              clear HE HX2 HGG HBB HDF HTp HLq HAq HN6
              go_wp2
              go_ret
              exact ⟨rfl, HU6.out⟩
          · have q7 : (kd0 == 7) = false := by simpa using h7
            have HE : Hid (readF l = none) := HBB.out (by rw [HDF.out]; exact fun h => h7 h.1)
            have hxx := HX2.out
            rw [HE.out] at hxx
            cases hxx
            have req := run_hd u6 hd0
            dsimp only [hd0] at req x0 x1 x2 x3
            clear HE HX2 HGG HBB HDF HTp HLq HAq HN6
            go_wp2
            go_ret
            exact ⟨rfl, HU6.out⟩
  · have hx := HL.out u3 HV3.out
    have hxx := HX.out
    rw [if_pos h0] at hxx
    cases hxx
    have x0 : u3.cell? ⟨hb, 0, none⟩ = some (.int .i64 0) := hx.cell 0 (by simp)
    have x1 : u3.cell? ⟨hb, 1, none⟩ = some (.string { data := #[] }) := hx.cell 1 (by simp)
    have x2 : u3.cell? ⟨hb, 2, none⟩ = some (.string { data := #[] }) := hx.cell 2 (by simp)
    have x3 : u3.cell? ⟨hb, 3, none⟩ = some (.bool false) := hx.cell 3 (by simp)
    have req := run_hd u3 hd0
    dsimp only [hd0] at req
    have qc : ((c : Int) != 0) = true := by simp; omega
    have qcc : ((c : Int) == 0) = false := by simp; omega
    clear hx HX HT HL
    go_wp2
    go_ret
    exact ⟨rfl, HU3.out⟩

end Go.Proofs.YtfpimcmhooiooaaGreatDoor
