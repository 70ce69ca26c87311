import Derived.Test.YtdhfjhdlimmjhaaGreatDoorShY
import Derived.Test.YtdhfjhdlimmjhaaGreatDoorShShort
import Derived.Deep.CutRange
namespace Go.Proofs.YtdhfjhdlimmjhaaGreatDoor.Sha
open Go.RowKit
set_option maxRecDepth 100000

set_option maxRecDepth 100000 in
set_option maxHeartbeats 8000000 in
theorem long_any (s0 s1 s2 s3 s4 s5 s6 s7 : Int) (a : Option Addr) (c : Nat) (m : List UInt8) (w : World) (R : Rt w) (hSb : ∀ k, 0 ≤ ([s0, s1, s2, s3, s4, s5, s6, s7] : List Int).getD k 0 ∧ ([s0, s1, s2, s3, s4, s5, s6, s7] : List Int).getD k 0 < 18446744073709551616) (hrd : Rd w a m) (ha : a = none → m.length = 0 ∧ c = 0) (hm : m.length ≤ 100000000) (nb : Nat) (hnb : (padL m).length = 128 * nb) :
    Calls Tryz.prog 62 #[.slice a m.length c, .agg #[.int .u64 s0, .int .u64 s1, .int .u64 s2, .int .u64 s3, .int .u64 s4, .int .u64 s5, .int .u64 s6, .int .u64 s7]] w fun e w' => ∃ v, e = .returned v ∧ w'.ownsRow w.heap.size 5 1 v 64 ((outF 8 8 (chL [s0, s1, s2, s3, s4, s5, s6, s7] (padL m) nb)).map B) ∧ Below w.heap.size w w' := by
  obtain ⟨i0, hi, hz0, hz1, hz2⟩ := info_parts infoB
  obtain ⟨Z, hZ, hz⟩ := zero80
  have HZ : Hid (True → Z = List.replicate 80 (.int .u64 0)) := fun _ => hZ
  have HR : Hid (Rd w a m) := hrd
  have HRt : Hid (Rt w) := R
  have Hnb : Hid (True → (padL m).length = 128 * nb) := fun _ => hnb
  have hnb2 : nb ≤ 1000000 := by
    rw [padL_length] at hnb
    have : zL m.length < 256 := by unfold zL; split <;> omega
    omega
  have HSb : Hid (∀ k, 0 ≤ ([s0, s1, s2, s3, s4, s5, s6, s7] : List Int).getD k 0 ∧ ([s0, s1, s2, s3, s4, s5, s6, s7] : List Int).getD k 0 < 18446744073709551616) := hSb
  clear R hrd hnb hZ hSb
  go_enter Tryz.func62, Tryz.ntmps62
  go_wp2_with fail
  have hA : Hid (Cl (w.alloc (.cells (([s0, s1, s2, s3, s4, s5, s6, s7] : List Int).map V).toArray 100)) w.heap.size (([s0, s1, s2, s3, s4, s5, s6, s7] : List Int).map V)) := alloc_cl _ _ _
  have hB := alloc_below w (.cells (([s0, s1, s2, s3, s4, s5, s6, s7] : List Int).map V).toArray 100)
  have hsz : (w.alloc (.cells (([s0, s1, s2, s3, s4, s5, s6, s7] : List Int).map V).toArray 100)).heap.size = w.heap.size + 1 := alloc_size _ _
  simp only [List.map, V] at hA hB hsz
  generalize w.alloc _ = w0 at hA hB hsz ⊢
  obtain ⟨S, hS⟩ : ∃ S, S = ([s0, s1, s2, s3, s4, s5, s6, s7] : List Int) := ⟨_, rfl⟩
  have HA0 : Hid (Cl w0 w.heap.size ((chL S (padL m) 0).map V)) := by rw [hS]; exact hA.out
  have hSl : S.length = 8 := by rw [hS]; rfl
  have HSS : Hid (True → S = ([s0, s1, s2, s3, s4, s5, s6, s7] : List Int)) := fun _ => hS
  rw [← hS] at HSb
  clear hS
  refine (rfilled_128 a c w0.heap.size m w0 rfl (HR.out.below hB (Nat.le_refl _)) ha hm).mono ?_
  rintro e w1 ⟨vA, rfl, hownA, hbA⟩
  obtain ⟨aP, cP, rfl, hlP, hcP, hcP2, hnP, hrdP, hblP⟩ := own_rd hownA
  have HRP : Hid (Rd w1 aP (padR 128 m)) := hrdP
  have HA1 : Hid (Cl w1 w.heap.size ((chL S (padL m) 0).map V)) := HA0.out.below hbA (by omega)
  have HB1 : Hid (Below w.heap.size w w1) := hB.trans (hbA.mono hB.size)
  have HRt1 : Hid (Rt w1) := HRt.out.below HB1.out (Nat.le_refl _)
  have HbP : Hid (∀ x, aP = some x → w0.heap.size ≤ x.block) := hblP
  have HnP : Hid (aP = none → (padR 128 m).length = 0 ∧ cP = 0) := hnP
  obtain ⟨PL, hPL⟩ : ∃ n, n = (padR 128 m).length := ⟨_, rfl⟩
  have hPL8 : 8 ≤ PL := by rw [hPL]; unfold padR; rw [List.length_append, tobe_length]; omega
  have hPLm : PL ≤ 100000500 := by
    rw [hPL]; unfold padR; simp [tobe_length]
    have : zR 128 m.length < 128 := by unfold zR; omega
    omega
  have HPL : Hid (True → PL = (padR 128 m).length) := fun _ => hPL
  rw [← hPL] at hcP ⊢
  have h01 : w0.heap.size ≤ w1.heap.size := hbA.size
  have hg6 : 7 ≤ w.heap.size := by have := cell_lt (HRt.out.k5 0 (by omega)); omega
  clear hA hB HA0 hownA hbA hlP hnP hrdP hblP hPL HR HRt
  obtain ⟨tb, htb⟩ : ∃ tb, tb = (decide (112 ≤ m.length % 128) && decide (m.length % 128 < 120)) := ⟨_, rfl⟩
  have Htb : Hid (True → tb = (decide (112 ≤ m.length % 128) && decide (m.length % 128 < 120))) := fun _ => htb
  clear htb
  go_upto_region 2 with fail
  go_cut [35] from 26 to 35 (fun s wx => s = .bool tb ∧ w1 = wx)
  case first =>
    by_cases h1 : 112 ≤ m.length % 128
    · by_cases h2 : m.length % 128 < 120
      · have Ht : Hid (True → true = tb) := fun _ => by rw [Htb.out trivial]; simp [h1, h2]
        go_wp2_with fail
        go_meet
        refine ⟨?_, rfl⟩
        rw [← Ht.out trivial]
        first | done | (congr 1; simp; omega)
      · have Ht : Hid (True → false = tb) := fun _ => by rw [Htb.out trivial]; simp [h2]
        go_wp2_with fail
        go_meet
        refine ⟨?_, rfl⟩
        rw [← Ht.out trivial]
        first | done | (congr 1; simp; omega)
    · have Ht : Hid (True → false = tb) := fun _ => by rw [Htb.out trivial]; simp [h1]
      go_wp2_with fail
      go_meet
      refine ⟨?_, rfl⟩
      rw [← Ht.out trivial]
      first | done | (congr 1; simp; omega)
  case rest =>
  obtain ⟨rfl, rfl⟩ := hcut
  go_upto_if 35 with fail
  go_cut [5, 6, 7] from 36 to 56 (fun s5 _ _ wx => ∃ aA cA, s5 = .slice aA (padL m).length cA ∧ Hid (Rd wx aA (padL m)) ∧ Hid (∀ x, aA = some x → w0.heap.size ≤ x.block) ∧ Hid (Below w1.heap.size w1 wx))
  case first =>
    cases tb
    · have Hp : Hid (True → padL m = padR 128 m) := fun _ => padL_plain m (by
        have h := Htb.out trivial
        by_cases h1 : m.length % 128 < 112
        · exact .inl h1
        · by_cases h2 : 120 ≤ m.length % 128
          · exact .inr h2
          · rw [decide_eq_true (by omega : 112 ≤ m.length % 128), decide_eq_true (by omega : m.length % 128 < 120)] at h
            cases h)
      go_wp2_with fail
      go_meet
      refine ⟨aP, cP, ?_, ?_, HbP, Below.refl _ _⟩
      · rw [Hp.out trivial, ← HPL.out trivial]
      · rw [Hp.out trivial]; exact HRP
    · have ht2 : 112 ≤ m.length % 128 ∧ m.length % 128 < 120 := by
        have h := (Htb.out trivial).symm
        rw [Bool.and_eq_true, decide_eq_true_eq, decide_eq_true_eq] at h
        exact h
      have Hp : Hid (True → (padR 128 m).take (PL - 8) ++ List.replicate 128 0 ++ (padR 128 m).drop (PL - 8) = padL m) := fun _ => by
        rw [HPL.out trivial]; exact padL_more m ht2.1 ht2.2
      clear ht2 Htb
      obtain ⟨P8, hP8⟩ : ∃ n, n = PL - 8 := ⟨_, rfl⟩
      obtain ⟨PH, hPH⟩ : ∃ l, l = (padR 128 m).take P8 := ⟨_, rfl⟩
      obtain ⟨PT, hPT⟩ : ∃ l, l = (padR 128 m).drop P8 := ⟨_, rfl⟩
      have hPHl : PH.length = P8 := by rw [hPH, List.length_take, ← HPL.out trivial]; omega
      have hPTl : PT.length = 8 := by rw [hPT, List.length_drop, ← HPL.out trivial]; omega
      rw [← hP8, ← hPH, ← hPT] at Hp
      obtain ⟨gP, oP, rfl, hcP3⟩ : ∃ g o : Nat, aP = some ⟨g, o, none⟩ ∧ ∀ j, j < (padR 128 m).length → w1.cell? ⟨g, o + j, none⟩ = some (B ((padR 128 m).getD j 0)) := by
        rcases HRP.out with h0 | ⟨g, o, e, _, hc⟩
        · have := HPL.out trivial; rw [h0, List.length_nil] at this; omega
        · exact ⟨g, o, e, hc⟩
      have hgP : gP < w1.heap.size := cell_lt (hcP3 0 (by rw [← HPL.out trivial]; omega))
      have HRH : Hid (Rd w1 (some ⟨gP, oP, none⟩) PH) := .inr ⟨gP, oP, rfl, hgP, fun j hj => by
        rw [hcP3 j (by rw [← HPL.out trivial]; omega), hPH, List.getD_eq_getElem?_getD, List.getD_eq_getElem?_getD, List.getElem?_take_of_lt (by omega)]⟩
      have HRT : Hid (Rd w1 (some ⟨gP, oP + P8, none⟩) PT) := .inr ⟨gP, oP + P8, rfl, hgP, fun j hj => by
        rw [show oP + P8 + j = oP + (P8 + j) by omega, hcP3 (P8 + j) (by rw [← HPL.out trivial]; omega), hPT, List.getD_eq_getElem?_getD, List.getD_eq_getElem?_getD, List.getElem?_drop]⟩
      have hPI : (PL : Int) - 8 = (P8 : Int) := by omega
      have hs1 : ∀ W, (Instr.sliceAt 81 (.slice (some ⟨gP, oP, none⟩) PL cP) none (some (.int .i64 (P8 : Int))) none).run Tryz.prog W = .ok (.slice (some ⟨gP, oP, none⟩) P8 cP) W := fun W => slice_high _ _ _ _ W (by omega)
      obtain ⟨a2, hs2, ha2⟩ := slice_low' (some ⟨gP, oP, none⟩) PL cP P8 (by omega) hcP
      have ha3 : a2 = some ⟨gP, oP + P8, none⟩ := ha2 gP oP rfl (by omega)
      subst ha3
      have hP8' : PL - P8 = 8 := by omega
      rw [hP8'] at hs2
      have hP8m : P8 ≤ 100000500 := by omega
      clear ha2 hcP3 hPH hPT hP8 hP8' HRP HbP HnP
      go_wp2_with (at_builtin; refine append_rd rfl (.tmp 36) (.tmp 41) rfl w1.heap.size i0 hi hz0 hz1 hz2 _ 0 [] rfl (World.ownsRow_nil _ _ _ _) (some ⟨gP, oP, none⟩) P8 cP PH (by simp [Act.eval]) hPHl (fun e => by cases e) HRH.out (by omega) (by omega) ?_; intro v1 w2 hown1 hgrow1)
      have HO2 : Hid (w2.ownsRow w1.heap.size 5 1 v1 (P8 + 0) ((PH ++ List.replicate 0 0).map B)) := by
        show World.ownsRow _ _ _ _ _ _ _
        simpa using hown1
      have HB2 : Hid (Below w1.heap.size w1 w2) := (Below.refl _ _).grown hgrow1 (by omega) (fun k h => by cases h)
      clear hown1 hgrow1 HRH hs1
      go_wp2
      go_loopw [6, 7] (fun s s7 ws => ∃ k : Nat, k ≤ 128 ∧ s7 = .int .i64 (k : Int) ∧ Hid (ws.ownsRow w1.heap.size 5 1 s (P8 + k) ((PH ++ List.replicate k 0).map B)) ∧ Hid (Below w1.heap.size w1 ws)) (fun _ s _ => 128 - (intOf s).toNat)
      case atStart => exact ⟨0, by omega, rfl, HO2, HB2⟩
      case round =>
        clear HO2 HB2
        obtain ⟨k, hk, rfl, hown, hbel⟩ := hrel
        have hs2' : w1.heap.size ≤ wr.heap.size := hbel.out.size
        by_cases hlt : k < 128
        · obtain ⟨av, cv, rfl⟩ := own_len hown.out
          go_wp2_with (at_builtin; refine append_rd rfl (.tmp 47) (.tmp 48) rfl w1.heap.size i0 hi hz0 hz1 hz2 _ (P8 + k) (PH ++ List.replicate k 0) rfl (hown.out.alloc _) (some ⟨wr.heap.size, 0, none⟩) 1 1 [0] rfl rfl (fun e => by cases e) (.inr ⟨wr.heap.size, 0, rfl, by simp, fun j hj => by (have : j = 0 := by simpa using hj); subst this; simp [B]⟩) (by omega) (by simp; omega) ?_; intro v5 w5 hown5 hgrow5)
          have HO3 : Hid (w5.ownsRow w1.heap.size 5 1 v5 (P8 + (k + 1)) ((PH ++ List.replicate (k + 1) 0).map B)) := by
            rw [List.replicate_succ', ← List.append_assoc]
            exact hown5
          have HB3 : Hid (Below w1.heap.size w1 w5) := hbel.out.trans ((((alloc_below wr _).mono hs2')).grown hgrow5 (by rw [alloc_size]; omega) (own_block hown.out))
          clear hown5 hgrow5
          go_wp2
          exact ⟨⟨k + 1, by omega, by go_num, HO3, HB3⟩, by simp [intOf]; omega⟩
        · obtain rfl : k = 128 := by omega
          have HRT2 : Hid (Rd wr (some ⟨gP, oP + P8, none⟩) PT) := HRT.out.below hbel.out (Nat.le_refl _)
          obtain ⟨av, cv, rfl⟩ := own_len hown.out
          go_wp2_with (at_builtin; refine append_rd rfl (.tmp 50) (.tmp 55) rfl w1.heap.size i0 hi hz0 hz1 hz2 _ (P8 + 128) (PH ++ List.replicate 128 0) rfl hown.out (some ⟨gP, oP + P8, none⟩) 8 (cP - P8) PT (by simp [Act.eval]) hPTl (fun e => by cases e) HRT2.out (by omega) (by omega) ?_; intro v5 w5 hown5 hgrow5)
          have HO3 : Hid (w5.ownsRow w1.heap.size 5 1 v5 (padL m).length ((padL m).map B)) := by
            have hl : (padL m).length = P8 + 128 + 8 := by rw [← Hp.out trivial, List.length_append, List.length_append, hPHl, hPTl, List.length_replicate]
            rw [hl, ← Hp.out trivial]
            exact hown5
          have HB3 : Hid (Below w1.heap.size w1 w5) := hbel.out.trans ((Below.refl _ _).grown hgrow5 (by omega) (own_block hown.out))
          clear hown5 hgrow5
          obtain ⟨aN, cN, rfl, _, _, _, _, hrdN, hblN⟩ := own_rd HO3.out
          go_meet
          exact ⟨aN, cN, rfl, hrdN, fun x e => Nat.le_trans h01 (hblN x e), HB3⟩
  case rest =>
  obtain ⟨aA, cA, rfl, HRA, HblA, HBA⟩ := hcut
  have HAF : Hid (Cl wc w.heap.size ((chL S (padL m) 0).map V)) := HA1.out.below HBA.out HA1.out.lt
  have HOA : Hid (Off aA (padL m) w.heap.size) := fun x _ e => by have := HblA.out x e; omega
  have HBF : Hid (Below w.heap.size w wc) := HB1.out.trans (HBA.out.mono HB1.out.size)
  have HRtF : Hid (Rt wc) := HRt1.out.below HBA.out (Nat.le_refl _)
  have hlen := Hnb.out trivial
  rw [hlen]
  clear HA1 HB1 HRt1 HRP HbP HnP HPL hPL8 hPLm hcP hcP2 h01 Htb HblA HBA Hnb hsz hm ha
  generalize hALL : padL m = ALL at *
  have HALL : Hid (True → padL m = ALL) := fun _ => hALL
  clear hALL
  have hgF : w.heap.size < wc.heap.size := HAF.out.lt
  generalize hhb : w.heap.size = hb at *
  generalize wc = wF at *
  go_wp2
  go_loopw [8] (fun s ws => ∃ n : Nat, s = .int .i64 (128 * (n : Int)) ∧ n ≤ nb ∧ Hid (Cl ws hb ((chL S ALL n).map V)) ∧ Hid (But wF ws hb)) (fun s _ => (128 * (nb : Int) - intOf s).toNat)
  case atStart => exact ⟨0, rfl, by omega, HAF, But.refl _ _⟩
  case round =>
    clear HAF
    obtain ⟨n, rfl, hn, hcl, hbut⟩ := hrel
    by_cases hlt : n < nb
    · have HRA2 : Hid (Rd wr aA ALL) := HRA.out.but hbut.out HOA.out
      have hgr : wF.heap.size ≤ wr.heap.size := hbut.out.size
      obtain ⟨bl, hbl⟩ : ∃ bl, bl = (ALL.drop (128 * n)).take 128 := ⟨_, rfl⟩
      have hbll : bl.length = 128 := by rw [hbl]; simp; omega
      have Hch : Hid (True → chL S ALL (n + 1) = mixW (chL S ALL n) bl) := fun _ => by rw [hbl]; rfl
      have HbA : Hid (∀ j, j < 128 → bl.getD j 0 = ALL.getD (128 * n + j) 0) := fun j hj => by
        rw [hbl, List.getD_eq_getElem?_getD, List.getD_eq_getElem?_getD, List.getElem?_take_of_lt hj, List.getElem?_drop]
      have hHl := chL_length S ALL n hSl
      generalize chL S ALL n = HH at *
      clear hbl
      obtain ⟨ga, oa, rfl, hca⟩ : ∃ g o : Nat, aA = some ⟨g, o, none⟩ ∧ ∀ j, j < ALL.length → wr.cell? ⟨g, o + j, none⟩ = some (B (ALL.getD j 0)) := by
        rcases HRA2.out with h0 | ⟨g, o, e, _, hc⟩
        · subst h0; simp at hlen; omega
        · exact ⟨g, o, e, hc⟩
      have hga : ga ≠ hb := HOA.out _ (fun e => by subst e; simp at hlen; omega) rfl
      have HcA : Hid (∀ j, j < 128 → wr.cell? ⟨ga, oa + (128 * n + j), none⟩ = some (B (bl.getD j 0))) := fun j hj => by rw [HbA.out j hj]; exact hca _ (by omega)
      have hgal : ga < wr.heap.size := cell_lt (HcA.out 0 (by omega))
      clear hca HRA2
      go_wp2
      have hAw : Hid (Cl (wr.alloc (.cells Z.toArray 122)) wr.heap.size Z) := alloc_cl _ _ _
      have hBw := alloc_below wr (.cells Z.toArray 122)
      generalize wr.alloc _ = w1 at hAw hBw ⊢
      have hlr : hb < wr.heap.size := hcl.out.lt
      have HC1 : Hid (Cl w1 hb (HH.map V)) := hcl.out.below hBw hlr
      have HB1 : Hid (But wF w1 hb) := hbut.out.trans (But.of_below hBw)
      have HcA1 : Hid (∀ j, j < 128 → w1.cell? ⟨ga, oa + (128 * n + j), none⟩ = some (B (bl.getD j 0))) := fun j hj => cell_but (HcA.out j hj) fun hg => hBw.block ga hg
      generalize hbwe : wr.heap.size = bw at *
      have HW1 : Hid (Cl w1 bw ((pad 80 (lw' bl 0)).map V)) := by
        have h1 := hAw.out
        rw [HZ.out trivial] at h1
        exact h1
      clear hAw hBw hcl hbut HcA
      go_loopw [10] (fun s ws => ∃ i : Nat, s = .int .i64 (i : Int) ∧ i ≤ 80 ∧ Hid (Cl ws bw ((pad 80 (lw' bl i)).map V)) ∧ Hid (But w1 ws bw)) (fun s _ => 80 - (intOf s).toNat)
      case atStart => exact ⟨0, rfl, by omega, HW1, But.refl _ _⟩
      case round =>
        clear HW1
        obtain ⟨i, rfl, hi1, hcl, hbut⟩ := hrel
        have hll := lw'_length bl i
        by_cases hl64 : i < 80
        · have hpl2 : ((pad 80 (lw' bl i)).map V).length = 80 := by rw [List.length_map, pad_length _ _ (by omega)]
          have gf := hcl.out.frozen i
          obtain ⟨old, gc⟩ : ∃ v, wr.cell? ⟨bw, i, none⟩ = some v := ⟨_, hcl.out.cell i (by omega)⟩
          by_cases hl16 : i < 16
          · have Hs : Hid (True → lw' bl (i + 1) = lw' bl i ++ [(be (pc bl 8 i) : Int)]) := fun _ => lw'_low bl i hl16
            have HcAi : Hid (∀ j, j < 128 → wr.cell? ⟨ga, oa + (128 * n + j), none⟩ = some (B (bl.getD j 0))) := fun j hj => cell_but (HcA1.out j hj) fun hg => hbut.out.block ga hg (by omega)
            have HI0 : Hid (Cl wr bw ((pad 80 (lw' bl i ++ [((be ((pc bl 8 i).take 0) : Nat) : Int)])).map V)) := by
              rw [show ((be ((pc bl 8 i).take 0) : Nat) : Int) = 0 from rfl, pad_zero _ _ (by omega)]
              exact hcl.out
            have Hbe : Hid (∀ k, k < 8 → be ((pc bl 8 i).take (k + 1)) = be ((pc bl 8 i).take k) * 256 + (bl.getD (8 * i + k) 0).toNat) := fun k hk => pc8_take bl i k (by omega) hk
            have Hbl : Hid (∀ k, k ≤ 7 → be ((pc bl 8 i).take k) < 72057594037927936) := fun k hk => pc8_lt bl i k hk
            have hbut1 : Hid (But w1 wr bw) := hbut
            have Hfull : Hid (True → (pc bl 8 i).take 8 = pc bl 8 i) := fun _ => List.take_of_length_le (by rw [pc_length bl 8 i (by omega)]; omega)
            clear hcl hbut gc gf hpl2
            generalize lw' bl i = L at *
            generalize pc bl 8 i = PC at *
            go_wp2
            go_loopw [11] (fun s ws => ∃ k : Nat, s = .int .i64 (k : Int) ∧ k ≤ 8 ∧ Hid (Cl ws bw ((pad 80 (L ++ [((be (PC.take k) : Nat) : Int)])).map V)) ∧ Hid (But w1 ws bw)) (fun s _ => 8 - (intOf s).toNat)
            case atStart => exact ⟨0, rfl, by omega, HI0, hbut1⟩
            case round =>
              clear HI0 HcAi hbut1
              obtain ⟨k, rfl, hk, hcl, hbut⟩ := hrel
              have hpl3 : ((pad 80 (L ++ [((be (PC.take k) : Nat) : Int)])).map V).length = 80 := by rw [List.length_map, pad_length _ _ (by simp; omega)]
              by_cases hl8 : k < 8
              · have gf := hcl.out.frozen i
                have gi : wr.cell? ⟨bw, i, none⟩ = some (.int .u64 ((be (PC.take k) : Nat) : Int)) := by
                  rw [hcl.out.cell i (by omega), List.getElem_map, pad_get _ _ _ (by simp; omega)]
                  simp [V, ← hll]
                have y0 : wr.cell? ⟨ga, oa + (128 * n + (8 * i + k)), none⟩ = some (B (bl.getD (8 * i + k) 0)) := cell_but (HcA1.out (8 * i + k) (by omega)) fun hg => hbut.out.block ga hg (by omega)
                rw [show oa + (128 * n + (8 * i + k)) = oa + (128 * n + 8 * i + k) by omega] at y0
                unfold B at y0
                have z0 := (bl.getD (8 * i + k) 0).toNat_lt
                have Hb1 : Hid (True → be (PC.take (k + 1)) = be (PC.take k) * 256 + (bl.getD (8 * i + k) 0).toNat) := fun _ => Hbe.out k hl8
                have z1 := Hbl.out k (by omega)
                generalize be (PC.take k) = N at *
                generalize (bl.getD (8 * i + k) 0).toNat = x0 at *
                have hor : bits .or .u64 ((N : Int) * 256) (x0 : Int) = ((N * 256 + x0 : Nat) : Int) := by
                  have e : (N : Int) * 256 = ((N * 256 : Nat) : Int) := by omega
                  rw [e, u64_or_nat (N * 256) x0 (by omega) (by omega), nat_join 8 (N * 256) x0 (by omega) (by omega)]
                go_wp2
                refine wp_region_tail 17 (by kernel_rfl) (by kernel_rfl) ?_
                simp only [List.take_succ_cons, List.take_zero, List.drop_succ_cons, List.drop_zero]
                repeat (first | go_big_quiet_skip | (go_big_quiet_want; go_big_quiet_op; go_big_quiet_on))
                refine wpQuiet_nil ?_
                go_wp2
                refine ⟨⟨k + 1, by go_num, by omega, ?_, (hbut.out.drewN 1).set _ _⟩, by simp [intOf]; omega⟩
                have h1 := hcl.out.set i (V ((N * 256 + x0 : Nat) : Int))
                have h2 := pad_set' 80 L (N : Int) ((N * 256 + x0 : Nat) : Int) (by omega)
                rw [hll] at h2
                rw [← List.map_set, h2] at h1
                rw [Hb1.out trivial]
                exact h1
              · obtain rfl : k = 8 := by omega
                have HI8 : Hid (Cl wr bw ((pad 80 (lw' bl (i + 1))).map V)) := by
                  have h1 := hcl.out
                  rw [Hfull.out trivial, ← Hs.out trivial] at h1
                  exact h1
                clear hcl hk hl8 hpl3
                go_wp2
                exact ⟨⟨i + 1, by go_num, by omega, HI8, hbut⟩, by simp [intOf]; omega⟩
          · have Hs : Hid (True → lw' bl (i + 1) = lw' bl i ++ [nx' (lw' bl i)]) := fun _ => lw'_succ bl i (by omega)
            generalize lw' bl i = L at *
            have hcj : ∀ j, j < i → wr.cell? ⟨bw, j, none⟩ = some (.int .u64 (L.getD j 0)) := fun j hj => by
              rw [hcl.out.cell j (by omega), List.getElem_map, pad_get _ _ _ (by omega)]
              rfl
            have g16 := hcj (i - 16) (by omega)
            have g15 := hcj (i - 15) (by omega)
            have g7 := hcj (i - 7) (by omega)
            have g2 := hcj (i - 2) (by omega)
            have Hnx : Hid (True → nx' L = (L.getD (i - 16) 0 + sa' (L.getD (i - 15) 0) + L.getD (i - 7) 0 + sb' (L.getD (i - 2) 0)) % 18446744073709551616) := fun _ => by
              unfold nx'
              rw [hll]
              exact congrArg (· % (18446744073709551616 : Int)) (by omega)
            generalize L.getD (i - 16) 0 = x16 at *
            generalize L.getD (i - 15) 0 = x15 at *
            generalize L.getD (i - 7) 0 = x7 at *
            generalize L.getD (i - 2) 0 = x2 at *
            clear hcj
            go_wp2
            refine wp_region_tail 29 (by kernel_rfl) (by kernel_rfl) ?_
            simp only [List.take_succ_cons, List.take_zero, List.drop_succ_cons, List.drop_zero]
            repeat (first | go_big_quiet_skip | (go_big_quiet_want; go_big_quiet_op; go_big_quiet_on))
            go_big_quiet_want
            go_big_quiet_op
            refine ⟨_, q64_1 _ _, ?_⟩
            go_big_quiet_on
            repeat (first | go_big_quiet_skip | (go_big_quiet_want; go_big_quiet_op; go_big_quiet_on))
            go_big_quiet_want
            go_big_quiet_op
            refine ⟨_, q64_8 _ _, ?_⟩
            go_big_quiet_on
            repeat (first | go_big_quiet_skip | (go_big_quiet_want; go_big_quiet_op; go_big_quiet_on))
            go_big_quiet_want
            go_big_quiet_op
            refine ⟨_, q64_19 _ _, ?_⟩
            go_big_quiet_on
            repeat (first | go_big_quiet_skip | (go_big_quiet_want; go_big_quiet_op; go_big_quiet_on))
            go_big_quiet_want
            go_big_quiet_op
            refine ⟨_, q64_61 _ _, ?_⟩
            go_big_quiet_on
            repeat (first | go_big_quiet_skip | (go_big_quiet_want; go_big_quiet_op; go_big_quiet_on))
            refine wpQuiet_nil ?_
            go_wp2
            refine ⟨⟨i + 1, by go_num, by omega, ?_, (hbut.out.drewN 1).set _ _⟩, by simp [intOf]; omega⟩
            have h1 := hcl.out.set i (V (nx' L))
            have h2 := pad_set 80 L (nx' L) (by omega)
            rw [hll, ← Hs.out trivial] at h2
            rw [← List.map_set, h2, Hnx.out trivial] at h1
            refine (?_ : Cl _ _ _)
            rw [nxw]
            exact h1
        · obtain rfl : i = 80 := by omega
          rw [show ((80 : Nat) : Int) = 80 from rfl]
          obtain ⟨E, hE⟩ : ∃ E, E = ext' (wds' bl 16) 64 := ⟨_, rfl⟩
          have hEl : E.length = 80 := by rw [hE, ext'_length, wds'_length]
          have HE : Hid (True → ext' (wds' bl 16) 64 = E) := fun _ => hE.symm
          have HW2 : Hid (Cl wr bw (E.map V)) := by
            have h1 := hcl.out
            rw [lw'_full, ← hE, pad_full _ _ hEl] at h1
            exact h1
          have HC2 : Hid (Cl wr hb (HH.map V)) := hbut.out.other HC1.out (by omega)
          have HB2 : Hid (But wF wr hb) := ⟨hbut.out.os.trans HB1.out.os, hbut.out.tape.trans HB1.out.tape, hbut.out.output.trans HB1.out.output, Nat.le_trans HB1.out.size hbut.out.size, fun k hk hne => by rw [hbut.out.block k (by have := HB1.out.size; omega) (by omega)]; exact HB1.out.block k hk hne⟩
          clear hE hcl hbut HC1 HB1 HcA1 hll hl64 hi1
          obtain ⟨c0, c1, c2, c3, c4, c5, c6, c7, rfl⟩ : ∃ c0 c1 c2 c3 c4 c5 c6 c7, HH = [c0, c1, c2, c3, c4, c5, c6, c7] := by
            rcases HH with _ | ⟨c0, _ | ⟨c1, _ | ⟨c2, _ | ⟨c3, _ | ⟨c4, _ | ⟨c5, _ | ⟨c6, _ | ⟨c7, _ | ⟨c8, r⟩⟩⟩⟩⟩⟩⟩⟩⟩ <;> simp at hHl
            exact ⟨_, _, _, _, _, _, _, _, rfl⟩
          have k0 := HC2.out.cell 0 (by simp)
          have k1 := HC2.out.cell 1 (by simp)
          have k2 := HC2.out.cell 2 (by simp)
          have k3 := HC2.out.cell 3 (by simp)
          have k4 := HC2.out.cell 4 (by simp)
          have k5 := HC2.out.cell 5 (by simp)
          have k6 := HC2.out.cell 6 (by simp)
          have k7 := HC2.out.cell 7 (by simp)
          simp only [List.map, List.getElem_cons_zero, List.getElem_cons_succ, V] at k0 k1 k2 k3 k4 k5 k6 k7
          have hwl : bw < wr.heap.size := HW2.out.lt
          have hhl : hb < wr.heap.size := HC2.out.lt
          go_wp2
          have hV : Hid (Cl (wr.alloc (.cells (([c0, c1, c2, c3, c4, c5, c6, c7] : List Int).map V).toArray 100)) wr.heap.size (([c0, c1, c2, c3, c4, c5, c6, c7] : List Int).map V)) := alloc_cl _ _ _
          have hVb := alloc_below wr (.cells (([c0, c1, c2, c3, c4, c5, c6, c7] : List Int).map V).toArray 100)
          simp only [List.map, V] at hV hVb
          generalize wr.alloc _ = w2 at hV hVb ⊢
          generalize hbv : wr.heap.size = bv at *
          have HV0 : Hid (Cl w2 bv ((l8 (rnds' E (r8 [c0, c1, c2, c3, c4, c5, c6, c7]) 0)).map V)) := hV.out
          have HW3 : Hid (Cl w2 bw (E.map V)) := HW2.out.below hVb hwl
          have HC3 : Hid (Cl w2 hb (([c0, c1, c2, c3, c4, c5, c6, c7] : List Int).map V)) := HC2.out.below hVb hhl
          have HB3 : Hid (But wF w2 hb) := HB2.out.trans (But.of_below (hbv ▸ hVb))
          have hF3 : wF.heap.size ≤ bv := by have := HB2.out.size; omega
          clear hV hVb HW2 HC2 HB2 k0 k1 k2 k3 k4 k5 k6 k7
          go_loopw [15] (fun s ws => ∃ k : Nat, s = .int .i64 (k : Int) ∧ k ≤ 80 ∧ Hid (Cl ws bv ((l8 (rnds' E (r8 [c0, c1, c2, c3, c4, c5, c6, c7]) k)).map V)) ∧ Hid (But w2 ws bv)) (fun s _ => 80 - (intOf s).toNat)
          case atStart => exact ⟨0, rfl, by omega, HV0, But.refl _ _⟩
          case round =>
            clear HV0
            obtain ⟨k, rfl, hk, hcl, hbut⟩ := hrel
            by_cases hl : k < 80
            · have gK := cell_but (HRtF.out.k5 k hl) fun hg => HB3.out.block _ hg (by omega)
              have gK2 := cell_but gK fun hg => hbut.out.block _ hg (by omega)
              have gE := (hbut.out.other HW3.out (by omega)).cell k (by rw [List.length_map, hEl]; exact hl)
              have hEk : E[k]'(by omega) = E.getD k 0 := by rw [List.getD_eq_getElem?_getD, List.getElem?_eq_getElem (by omega)]; rfl
              rw [List.getElem_map, hEk] at gE
              have Hn : Hid (True → rnds' E (r8 [c0, c1, c2, c3, c4, c5, c6, c7]) (k + 1) = rnd' (rnds' E (r8 [c0, c1, c2, c3, c4, c5, c6, c7]) k) (K5.getD k 0) (E.getD k 0)) := fun _ => by
                rw [rnds', K5_KT]
              generalize rnds' E (r8 [c0, c1, c2, c3, c4, c5, c6, c7]) k = r at *
              generalize E.getD k 0 = x at *
              generalize K5.getD k 0 = KK at *
              have j0 := hcl.out.cell 0 (by simp [l8])
              have j1 := hcl.out.cell 1 (by simp [l8])
              have j2 := hcl.out.cell 2 (by simp [l8])
              have j3 := hcl.out.cell 3 (by simp [l8])
              have j4 := hcl.out.cell 4 (by simp [l8])
              have j5 := hcl.out.cell 5 (by simp [l8])
              have j6 := hcl.out.cell 6 (by simp [l8])
              have j7 := hcl.out.cell 7 (by simp [l8])
              simp only [l8, List.map, List.getElem_cons_zero, List.getElem_cons_succ, V] at j0 j1 j2 j3 j4 j5 j6 j7
              unfold V at gK2 gE
              have e0 := hcl.out.frozen 0
              have e1 := hcl.out.frozen 1
              have e2 := hcl.out.frozen 2
              have e3 := hcl.out.frozen 3
              have e4 := hcl.out.frozen 4
              have e5 := hcl.out.frozen 5
              have e6 := hcl.out.frozen 6
              have e7 := hcl.out.frozen 7
              clear gK hEk
              go_wp2
              refine wp_region_tail 30 (by kernel_rfl) (by kernel_rfl) ?_
              simp only [List.take_succ_cons, List.take_zero, List.drop_succ_cons, List.drop_zero]
              repeat (first | go_big_quiet_skip | (go_big_quiet_want; go_big_quiet_op; go_big_quiet_on))
              go_big_quiet_want
              go_big_quiet_op
              refine ⟨_, q64_14 _ _, ?_⟩
              go_big_quiet_on
              repeat (first | go_big_quiet_skip | (go_big_quiet_want; go_big_quiet_op; go_big_quiet_on))
              go_big_quiet_want
              go_big_quiet_op
              refine ⟨_, q64_18 _ _, ?_⟩
              go_big_quiet_on
              repeat (first | go_big_quiet_skip | (go_big_quiet_want; go_big_quiet_op; go_big_quiet_on))
              go_big_quiet_want
              go_big_quiet_op
              refine ⟨_, q64_41 _ _, ?_⟩
              go_big_quiet_on
              repeat (first | go_big_quiet_skip | (go_big_quiet_want; go_big_quiet_op; go_big_quiet_on))
              refine wpQuiet_nil ?_
              go_wp2
              refine wp_region_tail 24 (by kernel_rfl) (by kernel_rfl) ?_
              simp only [List.take_succ_cons, List.take_zero, List.drop_succ_cons, List.drop_zero]
              repeat (first | go_big_quiet_skip | (go_big_quiet_want; go_big_quiet_op; go_big_quiet_on))
              go_big_quiet_want
              go_big_quiet_op
              refine ⟨_, q64_28 _ _, ?_⟩
              go_big_quiet_on
              repeat (first | go_big_quiet_skip | (go_big_quiet_want; go_big_quiet_op; go_big_quiet_on))
              go_big_quiet_want
              go_big_quiet_op
              refine ⟨_, q64_34 _ _, ?_⟩
              go_big_quiet_on
              repeat (first | go_big_quiet_skip | (go_big_quiet_want; go_big_quiet_op; go_big_quiet_on))
              go_big_quiet_want
              go_big_quiet_op
              refine ⟨_, q64_39 _ _, ?_⟩
              go_big_quiet_on
              repeat (first | go_big_quiet_skip | (go_big_quiet_want; go_big_quiet_op; go_big_quiet_on))
              refine wpQuiet_nil ?_
              go_wp2
              refine ⟨⟨k + 1, by go_num, by omega, ?_, ((((((((hbut.out.drewN 2).set _ _).set _ _).set _ _).set _ _).set _ _).set _ _).set _ _).set _ _⟩, by simp [intOf]; omega⟩
              rw [Hn.out trivial]
              refine cl_of_eq (set8 (hcl.out.drewN 2) rfl _ _ _ _ _ _ _ _) ?_
              simp only [IntKind.wrap_u64]
              have et : tt' r KK x = (r.h + ge' r.e + chs' r.e r.f r.g + KK + x) % 18446744073709551616 := by
                unfold tt'
                exact congrArg (· % (18446744073709551616 : Int)) (by omega)
              show _ = [V ((tt' r KK x + uu' r) % 18446744073709551616), V r.a, V r.b, V r.c, V ((r.d + tt' r KK x) % 18446744073709551616), V r.e, V r.f, V r.g]
              rw [et]
              simp only [uu', Int.add_emod_emod, Int.emod_add_emod]
              rfl
            · obtain rfl : k = 80 := by omega
              rw [show ((80 : Nat) : Int) = 80 from rfl]
              clear hk hl
              generalize hr : rnds' E (r8 [c0, c1, c2, c3, c4, c5, c6, c7]) 80 = r at *
              have HO : Hid (True → mixW [c0, c1, c2, c3, c4, c5, c6, c7] bl = List.zipWith (fun x y => (x + y) % 18446744073709551616) [c0, c1, c2, c3, c4, c5, c6, c7] (l8 r)) := fun _ => by
                unfold mixW
                rw [HE.out trivial, ← hr]
              have HOl : (mixW [c0, c1, c2, c3, c4, c5, c6, c7] bl).length = 8 := by rw [HO.out trivial]; rfl
              obtain ⟨O, hO0⟩ : ∃ O, mixW [c0, c1, c2, c3, c4, c5, c6, c7] bl = O := ⟨_, rfl⟩
              rw [hO0] at HO HOl Hch
              have HC4 : Hid (Cl wr hb ((O.take 0 ++ ([c0, c1, c2, c3, c4, c5, c6, c7] : List Int).drop 0).map V)) := hbut.out.other HC3.out (by omega)
              have HB4 : Hid (But wF wr hb) := ⟨hbut.out.os.trans HB3.out.os, hbut.out.tape.trans HB3.out.tape, hbut.out.output.trans HB3.out.output, Nat.le_trans HB3.out.size hbut.out.size, fun k hk hne => by rw [hbut.out.block k (by have := HB3.out.size; omega) (by omega)]; exact HB3.out.block k hk hne⟩
              clear hr HE hO0 HC3 HB3 hbut HW3
              rename World => w4
              go_wp2
              go_loopw [20] (fun s ws => ∃ k : Nat, s = .int .i64 (k : Int) ∧ k ≤ 8 ∧ Hid (Cl ws hb ((O.take k ++ ([c0, c1, c2, c3, c4, c5, c6, c7] : List Int).drop k).map V)) ∧ Hid (But w4 ws hb)) (fun s _ => 8 - (intOf s).toNat)
              case atStart => exact ⟨0, rfl, by omega, HC4, But.refl _ _⟩
              case round =>
                clear HC4
                obtain ⟨k, rfl, hk, hcl4, hbut4⟩ := hrel
                by_cases hl : k < 8
                · have hll : (O.take k ++ ([c0, c1, c2, c3, c4, c5, c6, c7] : List Int).drop k).length = 8 := by simp; omega
                  have gf := hcl4.out.frozen k
                  have gh := hcl4.out.cell k (by rw [List.length_map, hll]; exact hl)
                  obtain ⟨x, y, hx, hy, hz⟩ : ∃ x y : Int, wr.cell? ⟨hb, k, none⟩ = some (.int .u64 x) ∧ wr.cell? ⟨bv, k, none⟩ = some (.int .u64 y) ∧ O.getD k 0 = (x + y) % 18446744073709551616 := by
                    have hV := (hbut4.out.other hcl.out (by omega)).cell k (by simp [l8]; omega)
                    rw [List.getElem_map, List.getElem_append_right (by simp; omega)] at gh
                    rw [HO.out trivial]
                    have hq : k = 0 ∨ k = 1 ∨ k = 2 ∨ k = 3 ∨ k = 4 ∨ k = 5 ∨ k = 6 ∨ k = 7 := by omega
                    rcases hq with rfl | rfl | rfl | rfl | rfl | rfl | rfl | rfl
                    all_goals (simp [HOl] at gh; exact ⟨_, _, gh, hV, rfl⟩)
                  have Hz : Hid (True → O.getD k 0 = (x + y) % 18446744073709551616) := fun _ => hz
                  clear hz gh
                  go_wp2
                  refine wp_region_tail 9 (by kernel_rfl) (by kernel_rfl) ?_
                  simp only [List.take_succ_cons, List.take_zero, List.drop_succ_cons, List.drop_zero]
                  repeat (first | go_big_quiet_skip | (go_big_quiet_want; go_big_quiet_op; go_big_quiet_on))
                  refine wpQuiet_nil ?_
                  go_wp2
                  refine ⟨⟨k + 1, by go_num, by omega, ?_, (hbut4.out.drewN 1).set _ _⟩, by simp [intOf]; omega⟩
                  have h1 := hcl4.out.set k (V ((x + y) % 18446744073709551616))
                  rw [← Hz.out trivial, ← List.map_set, mix_set _ _ _ (by omega) (by simp; omega), Hz.out trivial] at h1
                  exact h1
                · obtain rfl : k = 8 := by omega
                  have HC5 : Hid (Cl wr hb ((chL S ALL (n + 1)).map V)) := by
                    have h1 := hcl4.out
                    rw [List.take_of_length_le (by omega), List.drop_of_length_le (by simp), List.append_nil, ← Hch.out trivial] at h1
                    exact h1
                  have HB5 : Hid (But wF wr hb) := HB4.out.trans hbut4.out
                  clear hcl4 hbut4 hk hl HB4 hcl HO
                  go_wp2
                  refine ⟨⟨n + 1, ?_, by omega, HC5, HB5⟩, ?_⟩
                  · first | (congr 1; done) | (congr 1; omega)
                  · first | (simp [intOf]; done) | (simp [intOf]; omega)
    · obtain rfl : n = nb := by omega
      have hFl := chL_length S ALL n hSl
      have HF : Hid (∀ k, 0 ≤ (chL S ALL n).getD k 0 ∧ (chL S ALL n).getD k 0 < 18446744073709551616) := chL_bd S ALL n HSb.out
      generalize hF0 : chL S ALL n = F at *
      have HF0 : Hid (True → chL S ALL n = F) := fun _ => hF0
      clear hF0
      have hB2 : Hid (Below hb w wr) := HBF.out.trans (hbut.out.below (by omega) (Nat.le_refl _))
      have HOw : Hid (wr.ownsRow (hb + 1) 5 1 (.slice none 0 0) (8 * 0) ((outF 8 0 F).map B)) := World.ownsRow_nil _ _ _ _
      have hs1 : hb ≤ wr.heap.size := by have := hcl.out.lt; omega
      clear hbut HRtF HRA HOA HBF
      go_wp2
      go_loopw [21, 22] (fun s21 s ws => ∃ k : Nat, s = .int .i64 (k : Int) ∧ k ≤ 8 ∧ Hid (ws.ownsRow (hb + 1) 5 1 s21 (8 * k) ((outF 8 k F).map B)) ∧ Hid (Cl ws hb (F.map V)) ∧ Hid (Below hb w ws) ∧ hb < ws.heap.size) (fun _ s _ => 8 - (intOf s).toNat)
      case atStart => exact ⟨0, rfl, by omega, HOw, hcl, hB2, hcl.out.lt⟩
      case round =>
        clear HOw hB2 hcl
        obtain ⟨k, rfl, hk, hown, hcl, hbel, hlt8⟩ := hrel
        by_cases hl : k < 8
        · have gk := hcl.out.cell k (by rw [List.length_map]; omega)
          have hF1 : F[k]'(by omega) = F.getD k 0 := by rw [List.getD_eq_getElem?_getD, List.getElem?_eq_getElem (by omega)]; rfl
          rw [List.getElem_map, hF1] at gk
          obtain ⟨N, hN⟩ : ∃ N : Nat, F.getD k 0 = (N : Int) := ⟨(F.getD k 0).toNat, by have := (HF.out k).1; omega⟩
          have hN2 : N < 18446744073709551616 := by have := (HF.out k).2; omega
          have HN : Hid (True → outF 8 (k + 1) F = outF 8 k F ++ tobe 8 N) := fun _ => by rw [outF_succ, hN]; rfl
          rw [hN] at gk
          unfold V at gk
          have HO0 : Hid (wr.ownsRow (hb + 1) 5 1 u21 (8 * k + 0) ((outF 8 k F ++ (tobe 8 N).take 0).map B)) := by
            rw [List.take_zero, List.append_nil]; exact hown
          obtain ⟨Y, hY⟩ : ∃ Y, Y = outF 8 k F := ⟨_, rfl⟩
          rw [← hY] at HO0 HN
          have HCk : Hid (wr.cell? ⟨hb, k, none⟩ = some (.int .u64 (N : Int))) := gk
          clear hF1 hN hY hown gk
          have hkd : decide ((k : Int) < 8) = true := decide_eq_true (by omega)
          go_wp2
          go_loopw [21, 23] (fun s21 s ws => ∃ k2 : Nat, k2 ≤ 8 ∧ s = .int .i64 (7 - (k2 : Int)) ∧ Hid (ws.ownsRow (hb + 1) 5 1 s21 (8 * k + k2) ((Y ++ (tobe 8 N).take k2).map B)) ∧ Hid (Cl ws hb (F.map V)) ∧ Hid (Below hb w ws) ∧ hb < ws.heap.size ∧ Hid (ws.cell? ⟨hb, k, none⟩ = some (.int .u64 (N : Int)))) (fun _ s _ => ((intOf s) + 1).toNat)
          case atStart => exact ⟨0, by omega, rfl, HO0, hcl, hbel, hlt8, HCk⟩
          case round =>
            clear HO0 hcl hbel hlt8 HCk
            obtain ⟨k2, hk2, rfl, hown, hcl, hbel, hlt8, HCk⟩ := hrel
            by_cases hlt2 : k2 < 8
            · obtain ⟨av, cv, rfl⟩ := own_len hown.out
              obtain ⟨j, hj⟩ : ∃ j : Nat, (7 : Int) - (k2 : Int) = (j : Int) := ⟨7 - k2, by omega⟩
              rw [hj]
              have hj2 : j ≤ 7 := by omega
              have gk := HCk.out
              have hand : bits .and .u64 ((N : Int) / 2 ^ (8 * j)) 255 = ((N / 256 ^ j % 256 : Nat) : Int) := by
                have e1 : (N : Int) / 2 ^ (8 * j) = ((N / 256 ^ j : Nat) : Int) := by
                  have : (2 : Int) ^ (8 * j) = ((256 ^ j : Nat) : Int) := by rw [Int.pow_mul]; simp
                  rw [this]; rfl
                rw [e1]
                have e2 : (255 : Int) = ((255 : Nat) : Int) := rfl
                rw [e2, u64_and_nat _ 255 (Nat.lt_of_le_of_lt (Nat.div_le_self _ _) hN2) (by omega), nat_mask8]
              have hbt : N / 256 ^ j % 256 < 256 := Nat.mod_lt _ (by omega)
              have HT8 : Hid (True → (tobe 8 N).take (k2 + 1) = (tobe 8 N).take k2 ++ [UInt8.ofNat (N / 256 ^ j % 256)]) := fun _ => by
                rw [tobe_cons k2 N hlt2, show 7 - k2 = j by omega]
              have hwj : IntKind.u64.wrap (8 * (j : Int)) = 8 * (j : Int) := by rw [IntKind.wrap_u64]; omega
              generalize N / 256 ^ j % 256 = y at *
              have hs2 : hb + 1 ≤ wr.heap.size := by omega
              go_wp2_with (at_builtin; refine append_rd rfl (.tmp 229) (.tmp 239) rfl (hb + 1) i0 hi hz0 hz1 hz2 _ (8 * k + k2) (Y ++ (tobe 8 N).take k2) rfl (hown.out.alloc _) (some ⟨wr.heap.size, 0, none⟩) 1 1 [UInt8.ofNat y] rfl rfl (fun e => by cases e) (.inr ⟨wr.heap.size, 0, rfl, by simp, fun j hj => by (have : j = 0 := by simpa using hj); subst this; simp [B]; omega⟩) (by omega) (by simp; omega) ?_; intro v5 w5 hown5 hgrow5)
              have HO5 : Hid (w5.ownsRow (hb + 1) 5 1 v5 (8 * k + (k2 + 1)) ((Y ++ (tobe 8 N).take (k2 + 1)).map B)) := by
                rw [HT8.out trivial, ← List.append_assoc]
                exact hown5
              have HB5 : Hid (Below (hb + 1) wr w5) := ((alloc_below wr _).mono hs2).grown hgrow5 (by rw [alloc_size]; omega) (own_block hown.out)
              have HC5 : Hid (Cl w5 hb (F.map V)) := hcl.out.below HB5.out (by omega)
              have HB6 : Hid (Below hb w w5) := hbel.out.trans (HB5.out.mono (by omega))
              have hlt5 : hb < w5.heap.size := HC5.out.lt
              have HCk5 : Hid (w5.cell? ⟨hb, k, none⟩ = some (.int .u64 (N : Int))) := cell_but HCk.out fun hg => HB5.out.block hb (by omega)
              clear hown5 hgrow5 hand hwj HT8 hown hcl hbel HB5 HCk gk
              go_wp2
              refine ⟨⟨k2 + 1, by omega, ?_, HO5, HC5, HB6, hlt5, HCk5⟩, ?_⟩
              · congr 1
                omega
              · first | (simp [intOf]; done) | (simp [intOf]; omega)
            · obtain rfl : k2 = 8 := by omega
              have HO5 : Hid (wr.ownsRow (hb + 1) 5 1 u21 (8 * (k + 1)) ((outF 8 (k + 1) F).map B)) := by
                have h1 := hown.out
                rw [List.take_of_length_le (by rw [tobe_length]; omega), ← HN.out trivial] at h1
                exact h1
              clear hown HCk
              go_wp2
              exact ⟨⟨k + 1, by go_num, by omega, HO5, hcl, hbel, hlt8⟩, by simp [intOf]; omega⟩
        · obtain rfl : k = 8 := by omega
          go_wp2
          go_ret
          rw [← HSS.out trivial, HALL.out trivial, HF0.out trivial, hhb]
          exact ⟨_, rfl, own_base hown.out (by omega), hbel.out⟩
end Go.Proofs.YtdhfjhdlimmjhaaGreatDoor.Sha
namespace Go.Proofs.YtdhfjhdlimmjhaaGreatDoor.Sha
open Go.RowKit
set_option maxRecDepth 100000

theorem rd_take {w : World} {ao : Option Addr} {l r : List UInt8} (h : Rd w ao (l ++ r)) : Rd w ao l := by
  rcases h with h | ⟨g, off, e, hg, hc⟩
  · exact .inl (List.append_eq_nil_iff.1 h).1
  · refine .inr ⟨g, off, e, hg, fun j hj => ?_⟩
    rw [hc j (by rw [List.length_append]; omega), List.getD_eq_getElem?_getD, List.getD_eq_getElem?_getD, List.getElem?_append_left hj]
theorem rd_out {w : World} {ao : Option Addr} {F : List Int} (h : Rd w ao (outF 8 8 F)) : Rd w ao (outF 8 6 F) := by
  rw [outF_succ, outF_succ, List.append_assoc] at h
  exact rd_take h

set_option maxRecDepth 100000 in
set_option maxHeartbeats 2000000 in
theorem rsum_1 (a : Option Addr) (c : Nat) (m : List UInt8) (w : World) (R : Rt w) (hrd : Rd w a m) (ha : a = none → m.length = 0 ∧ c = 0) (hm : m.length ≤ 100000000) :
    Calls Tryz.prog 46 #[.int .i64 1, .slice a m.length c] w fun e w' => ∃ a' c', e = .returned (.slice a' 32 c') ∧ 32 ≤ c' ∧ c' ≤ maxLen ∧ Rd w' a' (sumF 1 m) ∧ (∀ x, a' = some x → w.heap.size ≤ x.block) ∧ Below w.heap.size w w' := by
  obtain ⟨nb, hnb, hfin⟩ := chR_fin m
  have Hfin : Hid (True → chR (padR 64 m) nb = finF 1 m) := fun _ => hfin
  have C := short_any a c m w R hrd ha hm nb hnb
  clear R hrd hnb hfin
  go_enter Tryz.func46, Tryz.ntmps46
  go_wp2_with fail
  refine C.mono ?_
  rintro e w1 ⟨v, rfl, hown, hb⟩
  obtain ⟨ao, cap, rfl, _, hcap, hmx, _, hr, hbl⟩ := own_rd hown
  have HR : Hid (Rd w1 ao (outF 4 8 (chR (padR 64 m) nb))) := hr
  have HBL : Hid (∀ x, ao = some x → w.heap.size ≤ x.block) := hbl
  have HBW : Hid (Below w.heap.size w w1) := hb
  clear hown hb hr hbl C
  go_wp2
  go_ret
  refine ⟨ao, cap, rfl, by omega, hmx, ?_, HBL.out, HBW.out⟩
  show Rd w1 ao (outF 4 8 (finF 1 m))
  have h1 := HR.out
  rw [Hfin.out trivial] at h1
  exact h1

set_option maxRecDepth 100000 in
set_option maxHeartbeats 2000000 in
theorem rsum_2 (a : Option Addr) (c : Nat) (m : List UInt8) (w : World) (R : Rt w) (hrd : Rd w a m) (ha : a = none → m.length = 0 ∧ c = 0) (hm : m.length ≤ 100000000) :
    Calls Tryz.prog 46 #[.int .i64 2, .slice a m.length c] w fun e w' => ∃ a' c', e = .returned (.slice a' 48 c') ∧ 48 ≤ c' ∧ c' ≤ maxLen ∧ Rd w' a' (sumF 2 m) ∧ (∀ x, a' = some x → w.heap.size ≤ x.block) ∧ Below w.heap.size w w' := by
  obtain ⟨nb, hnb, hfin⟩ := chL_fin (.inl rfl : isL 2) m
  rw [st0_S3] at hfin
  have Hfin : Hid (True → chL S3 (padL m) nb = finF 2 m) := fun _ => hfin
  have HT : Hid (True → S3 = [S3.getD 0 0, S3.getD 1 0, S3.getD 2 0, S3.getD 3 0, S3.getD 4 0, S3.getD 5 0, S3.getD 6 0, S3.getD 7 0]) := fun _ => rfl
  have HB : Hid (∀ k, 0 ≤ S3.getD k 0 ∧ S3.getD k 0 < 18446744073709551616) := S3_bd
  have s0 := R.s3 0 (by omega)
  have s1 := R.s3 1 (by omega)
  have s2 := R.s3 2 (by omega)
  have s3 := R.s3 3 (by omega)
  have s4 := R.s3 4 (by omega)
  have s5 := R.s3 5 (by omega)
  have s6 := R.s3 6 (by omega)
  have s7 := R.s3 7 (by omega)
  unfold V at s0 s1 s2 s3 s4 s5 s6 s7
  generalize S3.getD 0 0 = x0 at s0 HT
  generalize S3.getD 1 0 = x1 at s1 HT
  generalize S3.getD 2 0 = x2 at s2 HT
  generalize S3.getD 3 0 = x3 at s3 HT
  generalize S3.getD 4 0 = x4 at s4 HT
  generalize S3.getD 5 0 = x5 at s5 HT
  generalize S3.getD 6 0 = x6 at s6 HT
  generalize S3.getD 7 0 = x7 at s7 HT
  rw [HT.out trivial] at Hfin HB
  have C := long_any x0 x1 x2 x3 x4 x5 x6 x7 a c m w R HB.out hrd ha hm nb hnb
  clear R hrd hnb hfin HT HB
  go_enter Tryz.func46, Tryz.ntmps46
  go_wp2_with fail
  refine C.mono ?_
  rintro e w1 ⟨v, rfl, hown, hb⟩
  obtain ⟨ao, cap, rfl, _, hcap, hmx, _, hr, hbl⟩ := own_rd hown
  have HR : Hid (Rd w1 ao (outF 8 8 (chL [x0, x1, x2, x3, x4, x5, x6, x7] (padL m) nb))) := hr
  have HBL : Hid (∀ x, ao = some x → w.heap.size ≤ x.block) := hbl
  have HBW : Hid (Below w.heap.size w w1) := hb
  clear hown hb hr hbl C s0 s1 s2 s3 s4 s5 s6 s7
  have hs : ∀ W, (Instr.sliceAt 81 (.slice ao 64 cap) none (some (.int .i64 48)) none).run Tryz.prog W = .ok (.slice ao 48 cap) W := fun W => slice_high ao 64 cap 48 W (by omega)
  go_wp2
  go_ret
  refine ⟨ao, cap, rfl, by omega, hmx, ?_, HBL.out, HBW.out⟩
  show Rd w1 ao (outF 8 6 (finF 2 m))
  have h1 := HR.out
  rw [Hfin.out trivial] at h1
  exact rd_out h1

set_option maxRecDepth 100000 in
set_option maxHeartbeats 2000000 in
theorem rsum_3 (a : Option Addr) (c : Nat) (m : List UInt8) (w : World) (R : Rt w) (hrd : Rd w a m) (ha : a = none → m.length = 0 ∧ c = 0) (hm : m.length ≤ 100000000) :
    Calls Tryz.prog 46 #[.int .i64 3, .slice a m.length c] w fun e w' => ∃ a' c', e = .returned (.slice a' 64 c') ∧ 64 ≤ c' ∧ c' ≤ maxLen ∧ Rd w' a' (sumF 3 m) ∧ (∀ x, a' = some x → w.heap.size ≤ x.block) ∧ Below w.heap.size w w' := by
  obtain ⟨nb, hnb, hfin⟩ := chL_fin (.inr rfl : isL 3) m
  rw [st0_S5] at hfin
  have Hfin : Hid (True → chL S5 (padL m) nb = finF 3 m) := fun _ => hfin
  have HT : Hid (True → S5 = [S5.getD 0 0, S5.getD 1 0, S5.getD 2 0, S5.getD 3 0, S5.getD 4 0, S5.getD 5 0, S5.getD 6 0, S5.getD 7 0]) := fun _ => rfl
  have HB : Hid (∀ k, 0 ≤ S5.getD k 0 ∧ S5.getD k 0 < 18446744073709551616) := S5_bd
  have s0 := R.s5 0 (by omega)
  have s1 := R.s5 1 (by omega)
  have s2 := R.s5 2 (by omega)
  have s3 := R.s5 3 (by omega)
  have s4 := R.s5 4 (by omega)
  have s5 := R.s5 5 (by omega)
  have s6 := R.s5 6 (by omega)
  have s7 := R.s5 7 (by omega)
  unfold V at s0 s1 s2 s3 s4 s5 s6 s7
  generalize S5.getD 0 0 = x0 at s0 HT
  generalize S5.getD 1 0 = x1 at s1 HT
  generalize S5.getD 2 0 = x2 at s2 HT
  generalize S5.getD 3 0 = x3 at s3 HT
  generalize S5.getD 4 0 = x4 at s4 HT
  generalize S5.getD 5 0 = x5 at s5 HT
  generalize S5.getD 6 0 = x6 at s6 HT
  generalize S5.getD 7 0 = x7 at s7 HT
  rw [HT.out trivial] at Hfin HB
  have C := long_any x0 x1 x2 x3 x4 x5 x6 x7 a c m w R HB.out hrd ha hm nb hnb
  clear R hrd hnb hfin HT HB
  go_enter Tryz.func46, Tryz.ntmps46
  go_wp2_with fail
  refine C.mono ?_
  rintro e w1 ⟨v, rfl, hown, hb⟩
  obtain ⟨ao, cap, rfl, _, hcap, hmx, _, hr, hbl⟩ := own_rd hown
  have HR : Hid (Rd w1 ao (outF 8 8 (chL [x0, x1, x2, x3, x4, x5, x6, x7] (padL m) nb))) := hr
  have HBL : Hid (∀ x, ao = some x → w.heap.size ≤ x.block) := hbl
  have HBW : Hid (Below w.heap.size w w1) := hb
  clear hown hb hr hbl C s0 s1 s2 s3 s4 s5 s6 s7
  go_wp2
  go_ret
  refine ⟨ao, cap, rfl, by omega, hmx, ?_, HBL.out, HBW.out⟩
  show Rd w1 ao (outF 8 8 (finF 3 m))
  have h1 := HR.out
  rw [Hfin.out trivial] at h1
  exact h1

theorem rsum_none (h : Int) (a : Option Addr) (n c : Nat) (w : World) (hh : ¬ isH h) :
    Calls Tryz.prog 46 #[.int .i64 h, .slice a n c] w fun e w' => e = .returned (.slice none 0 0) ∧ w' = w := by
  have h1 : h ≠ 1 := fun e => hh (.inl e)
  have h2 : h ≠ 2 := fun e => hh (.inr (.inl e))
  have h3 : h ≠ 3 := fun e => hh (.inr (.inr e))
  clear hh
  go_enter Tryz.func46, Tryz.ntmps46
  go_wp2
  go_ret
  exact ⟨rfl, rfl⟩

theorem rsum_any (h : Int) (a : Option Addr) (c : Nat) (m : List UInt8) (w : World) (R : Rt w) (hrd : Rd w a m) (ha : a = none → m.length = 0 ∧ c = 0) (hm : m.length ≤ 100000000) :
    Calls Tryz.prog 46 #[.int .i64 h, .slice a m.length c] w fun e w' => ∃ a' c', e = .returned (.slice a' (siz h) c') ∧ siz h ≤ c' ∧ c' ≤ maxLen ∧ (a' = none → siz h = 0 ∧ c' = 0) ∧ Rd w' a' (sumF h m) ∧ (∀ x, a' = some x → w.heap.size ≤ x.block) ∧ Below w.heap.size w w' := by
  by_cases hh : isH h
  · rcases hh with rfl | rfl | rfl
    · refine (rsum_1 a c m w R hrd ha hm).mono ?_
      rintro e w1 ⟨a', c', rfl, h1, h2, h3, h4, h5⟩
      refine ⟨a', c', rfl, h1, h2, fun e => ?_, h3, h4, h5⟩
      rcases h3 with h3 | ⟨g, o, e2, _⟩
      · have := sumF_length 1 m; rw [h3] at this; cases this
      · rw [e] at e2; cases e2
    · refine (rsum_2 a c m w R hrd ha hm).mono ?_
      rintro e w1 ⟨a', c', rfl, h1, h2, h3, h4, h5⟩
      refine ⟨a', c', rfl, h1, h2, fun e => ?_, h3, h4, h5⟩
      rcases h3 with h3 | ⟨g, o, e2, _⟩
      · have := sumF_length 2 m; rw [h3] at this; cases this
      · rw [e] at e2; cases e2
    · refine (rsum_3 a c m w R hrd ha hm).mono ?_
      rintro e w1 ⟨a', c', rfl, h1, h2, h3, h4, h5⟩
      refine ⟨a', c', rfl, h1, h2, fun e => ?_, h3, h4, h5⟩
      rcases h3 with h3 | ⟨g, o, e2, _⟩
      · have := sumF_length 3 m; rw [h3] at this; cases this
      · rw [e] at e2; cases e2
  · have hz := siz_not hh m
    refine (rsum_none h a m.length c w hh).mono ?_
    rintro e w1 ⟨rfl, rfl⟩
    exact ⟨none, 0, by rw [hz.1], by omega, by unfold maxLen; omega, fun _ => ⟨hz.1, rfl⟩, .inl hz.2, (fun x e => by cases e), Below.refl _ _⟩

end Go.Proofs.YtdhfjhdlimmjhaaGreatDoor.Sha