import Derived.Test.YtjehkpndchadbaaGreatDoorCy
import Derived.Deep.CutRange
namespace Go.Proofs.YtjehkpndchadbaaGreatDoor
open Go.RowKit

def awT : List UInt8 := [123, 34, 105, 115, 115, 34, 58, 34, 97, 34, 44, 34, 97, 117, 100, 34, 58, 91, 34, 120, 34, 44, 34, 121, 34, 93, 44, 34, 101, 120, 112, 34, 58, 49, 48, 44, 34, 110, 34, 58, 49, 125]
def awL : List Nd := [⟨7, [], [], false, 0, 4⟩, ⟨5, kIss, [97], false, 0, 0⟩, ⟨6, kAud, [], false, 0, 2⟩, ⟨5, [], [120], false, 0, 0⟩, ⟨5, [], [121], false, 0, 0⟩, ⟨4, kExp, [49, 48], true, 10, 0⟩, ⟨4, [110], [49], true, 1, 0⟩]
def awC : Cm := ⟨awL, [97], true, [], false, [[120], [121]], true, [], false, ⟨true, 10⟩, tm0, tm0⟩
set_option maxRecDepth 100000 in
theorem aw_parse : cparseF awT = (awC, 0) := by decide +kernel
theorem aw_open : openF ⟨true, 10⟩ tm0 tm0 5 = (⟨false, -9223372036854775808, 14⟩, 0) := by decide
theorem aw_clock1 : clockF ⟨true, 10⟩ tm0 tm0 5 14 = 0 := by decide
theorem aw_clock2 : clockF ⟨true, 10⟩ tm0 tm0 5 15 = 134 := by decide
set_option maxRecDepth 100000 in
theorem aw_check1 : checkB (lackG awL [[110]]) [97] true [[120], [121]] true [97] true [121] true = 0 := by decide +kernel
theorem aw_check2 : checkB (lackG awL []) [97] true [[120], [121]] true [] false [] false = 133 := by decide

set_option maxRecDepth 100000 in
set_option maxHeartbeats 8000000 in
theorem awake_any (w : World) (hG : GL w.heap.size w) : Calls Tryz.prog 4 #[] w fun e w' => e = .returned (.bool true) ∧ Below w.heap.size w w' := by
  have HGq : Hid (∀ wq, Below w.heap.size w wq → GL wq.heap.size wq) := fun wq hq => (hG.below hq).up hq.size
  have C0 := cparse_any awT w hG
  rw [aw_parse] at C0
  unfold awC at C0
  dsimp only at C0
  unfold clV tm0 at C0
  have C0 : Calls Tryz.prog 5 #[.string ⟨#[123, 34, 105, 115, 115, 34, 58, 34, 97, 34, 44, 34, 97, 117, 100, 34, 58, 91, 34, 120, 34, 44, 34, 121, 34, 93, 44, 34, 101, 120, 112, 34, 58, 49, 48, 44, 34, 110, 34, 58, 49, 125]⟩] w fun e w' => (∃ va aa, e = .returned (.tuple #[.agg #[va, .string ⟨#[97]⟩, .bool true, .string ⟨#[]⟩, .bool false, aa, .bool true, .string ⟨#[]⟩, .bool false, .bool true, .int .i64 10, .bool false, .int .i64 0, .bool false, .int .i64 0], .int .i64 0]) ∧ NO w.heap.size w' va awL ∧ OT w.heap.size w' aa [[120], [121]]) ∧ Below w.heap.size w w' := C0
  clear hG
  go_enter Tryz.func4, Tryz.ntmps4
  go_wp2_with fail
  refine C0.mono ?_
  clear C0
  rintro e w1 ⟨⟨v, a, rfl, hno, hot⟩, hB1⟩
  obtain ⟨va, vc, hN⟩ := hno.nr
  obtain ⟨e1, _, _⟩ := id hN
  obtain ⟨aa, ac, e2, hT⟩ := hot.tr
  have e1 : v = .slice va 7 vc := e1
  have e2 : a = .slice aa 2 ac := e2
  subst e1 e2
  have HNq : Hid (∀ wq, Below w1.heap.size w1 wq → NR wq (.slice va awL.length vc) awL va vc) := fun wq hq => hN.below hq (Nat.le_refl _)
  have HTq : Hid (∀ wq, Below w1.heap.size w1 wq → TR wq (.slice aa ([[120], [121]] : List (List UInt8)).length ac) [[120], [121]] aa ac) := fun wq hq => hT.below hq (Nat.le_refl _)
  have HB1 : Hid (Below w.heap.size w w1) := hB1
  clear hno hot hN hT hB1
  obtain ⟨w2, hw2⟩ : ∃ x, w1.alloc (.cells #[.slice va 7 vc, .string ⟨#[97]⟩, .bool true, .string ⟨#[]⟩, .bool false, .slice aa 2 ac, .bool true, .string ⟨#[]⟩, .bool false, .bool true, .int .i64 10, .bool false, .int .i64 0, .bool false, .int .i64 0] 28) = x := ⟨_, rfl⟩
  have hB2 : Below w1.heap.size w1 w2 := by rw [← hw2]; exact alloc_below _ _
  have hb2 : Bl 28 w2 w1.heap.size [.slice va 7 vc, .string ⟨#[97]⟩, .bool true, .string ⟨#[]⟩, .bool false, .slice aa 2 ac, .bool true, .string ⟨#[]⟩, .bool false, .bool true, .int .i64 10, .bool false, .int .i64 0, .bool false, .int .i64 0] := by rw [← hw2]; exact alloc_bl _ _ _
  have HKC : Hid (∀ wq, Below w2.heap.size w2 wq → wq.cell? ⟨w1.heap.size, 0, none⟩ = some (.slice va 7 vc) ∧ wq.cell? ⟨w1.heap.size, 1, none⟩ = some (.string ⟨#[97]⟩) ∧ wq.cell? ⟨w1.heap.size, 2, none⟩ = some (.bool true) ∧ wq.cell? ⟨w1.heap.size, 3, none⟩ = some (.string ⟨#[]⟩) ∧ wq.cell? ⟨w1.heap.size, 4, none⟩ = some (.bool false) ∧ wq.cell? ⟨w1.heap.size, 5, none⟩ = some (.slice aa 2 ac) ∧ wq.cell? ⟨w1.heap.size, 6, none⟩ = some (.bool true) ∧ wq.cell? ⟨w1.heap.size, 7, none⟩ = some (.string ⟨#[]⟩) ∧ wq.cell? ⟨w1.heap.size, 8, none⟩ = some (.bool false) ∧ wq.cell? ⟨w1.heap.size, 9, none⟩ = some (.bool true) ∧ wq.cell? ⟨w1.heap.size, 10, none⟩ = some (.int .i64 10) ∧ wq.cell? ⟨w1.heap.size, 11, none⟩ = some (.bool false) ∧ wq.cell? ⟨w1.heap.size, 12, none⟩ = some (.int .i64 0) ∧ wq.cell? ⟨w1.heap.size, 13, none⟩ = some (.bool false) ∧ wq.cell? ⟨w1.heap.size, 14, none⟩ = some (.int .i64 0)) := fun wq hq => by
    have a := hb2.below hq hb2.lt
    exact ⟨a.cell 0 (by simp), a.cell 1 (by simp), a.cell 2 (by simp), a.cell 3 (by simp), a.cell 4 (by simp), a.cell 5 (by simp), a.cell 6 (by simp), a.cell 7 (by simp), a.cell 8 (by simp), a.cell 9 (by simp), a.cell 10 (by simp), a.cell 11 (by simp), a.cell 12 (by simp), a.cell 13 (by simp), a.cell 14 (by simp)⟩
  have HW2 : Hid (w1.alloc (.cells #[.slice va 7 vc, .string ⟨#[97]⟩, .bool true, .string ⟨#[]⟩, .bool false, .slice aa 2 ac, .bool true, .string ⟨#[]⟩, .bool false, .bool true, .int .i64 10, .bool false, .int .i64 0, .bool false, .int .i64 0] 28) = w2) := hw2
  have HQ2 : Hid (Below w1.heap.size w1 w2) := hB2
  have CO := open_any (.slice va 7 vc) (.string ⟨#[97]⟩) (.bool true) (.string ⟨#[]⟩) (.bool false) (.slice aa 2 ac) (.bool true) (.string ⟨#[]⟩) (.bool false) ⟨true, 10⟩ tm0 tm0 5 w2 (by unfold I64; decide) (by unfold I64; decide) (by unfold I64; decide)
  rw [aw_open] at CO
  unfold clW wnV tm0 at CO
  dsimp only at CO
  have CO : Calls Tryz.prog 8 #[.agg #[.slice va 7 vc, .string ⟨#[97]⟩, .bool true, .string ⟨#[]⟩, .bool false, .slice aa 2 ac, .bool true, .string ⟨#[]⟩, .bool false, .bool true, .int .i64 10, .bool false, .int .i64 0, .bool false, .int .i64 0], .int .i64 5] w2 fun r w' => r = .returned (.tuple #[.agg #[.bool false, .int .i64 (-9223372036854775808), .int .i64 14], .int .i64 0]) ∧ Below w2.heap.size w2 w' := CO
  have HRq : Hid (∀ wq, Below w2.heap.size w2 wq → wq.rangeAt w1.heap.size 0 [.slice va 7 vc, .string ⟨#[97]⟩, .bool true, .string ⟨#[]⟩, .bool false, .slice aa 2 ac, .bool true, .string ⟨#[]⟩, .bool false, .bool true, .int .i64 10, .bool false, .int .i64 0, .bool false, .int .i64 0]) := fun wq hq j v hv => by
    obtain ⟨hj, e⟩ := List.getElem?_eq_some_iff.1 hv
    rw [Nat.zero_add, ← e]
    exact (hb2.below hq hb2.lt).cell j hj
  have hcl : (Tryz.prog.info? 28).map (·.size) = some ([.slice va 7 vc, .string ⟨#[97]⟩, .bool true, .string ⟨#[]⟩, .bool false, .slice aa 2 ac, .bool true, .string ⟨#[]⟩, .bool false, .bool true, .int .i64 10, .bool false, .int .i64 0, .bool false, .int .i64 0] : List Value).length := by kernel_rfl
  clear hw2 hB2 hb2
  go_wp2_with (refine wpList_load_mid rfl 28 (.tmp 1) rfl w1.heap.size 0 rfl [.slice va 7 vc, .string ⟨#[97]⟩, .bool true, .string ⟨#[]⟩, .bool false, .slice aa 2 ac, .bool true, .string ⟨#[]⟩, .bool false, .bool true, .int .i64 10, .bool false, .int .i64 0, .bool false, .int .i64 0] _ (by rw [HW2.out]; exact HRq.out w2 (Below.refl _ _)) Tryz.underlying28 rfl hcl ?_)
  rw [HW2.out]
  clear HW2
  refine CO.mono ?_
  clear CO
  rintro e w3 ⟨rfl, hB3⟩
  have HQ3 : Hid (Below w2.heap.size w2 w3) := hB3
  clear hB3
  obtain ⟨w4, hw4⟩ : ∃ x, w3.alloc (.cells #[.bool false, .int .i64 (-9223372036854775808), .int .i64 14] 42) = x := ⟨_, rfl⟩
  have hB4 : Below w3.heap.size w3 w4 := by rw [← hw4]; exact alloc_below _ _
  have hb4 : Bl 42 w4 w3.heap.size [.bool false, .int .i64 (-9223372036854775808), .int .i64 14] := by rw [← hw4]; exact alloc_bl _ _ _
  obtain ⟨bw, hbw⟩ : ∃ b, w3.heap.size = b := ⟨_, rfl⟩
  obtain ⟨bn, hbn⟩ : ∃ b, w4.heap.size = b := ⟨_, rfl⟩
  have hbn2 : w3.heap.size + 1 = bn := by rw [← hbn, ← hw4, alloc_size]
  obtain ⟨w5, hw5⟩ : ∃ x, w4.alloc (.cells #[.string ⟨#[110]⟩] 9) = x := ⟨_, rfl⟩
  have hB5 : Below w4.heap.size w4 w5 := by rw [← hw5]; exact alloc_below _ _
  have hb5 := one_txt w4 [110]
  have hb5 : TR w5 (.slice (some ⟨bn, 0, none⟩) 1 1) [[110]] (some ⟨bn, 0, none⟩) 1 := by rw [← hw5, ← hbn]; exact hb5
  obtain ⟨bp, hbp⟩ : ∃ b, w5.heap.size = b := ⟨_, rfl⟩
  have hbp2 : w3.heap.size + 1 + 1 = bp := by rw [← hbp, ← hw5, alloc_size, hbn, hbn2]
  obtain ⟨w6, hw6⟩ : ∃ x, w5.alloc (.cells #[.slice none 0 0, .string ⟨#[97]⟩, .bool true, .string ⟨#[121]⟩, .bool true, .string ⟨#[]⟩, .bool false, .int .i64 0, .slice (some ⟨bn, 0, none⟩) 1 1] 46) = x := ⟨_, rfl⟩
  have hB6 : Below w5.heap.size w5 w6 := by rw [← hw6]; exact alloc_below _ _
  have hb6 : Bl 46 w6 w5.heap.size [.slice none 0 0, .string ⟨#[97]⟩, .bool true, .string ⟨#[121]⟩, .bool true, .string ⟨#[]⟩, .bool false, .int .i64 0, .slice (some ⟨bn, 0, none⟩) 1 1] := by rw [← hw6]; exact alloc_bl _ _ _
  have hB46 : Below w4.heap.size w4 w6 := hB5.trans (hB6.mono hB5.size)
  have hB36 : Below w3.heap.size w3 w6 := hB4.trans (hB46.mono hB4.size)
  have HQ6 : Hid (Below w2.heap.size w2 w6) := HQ3.out.trans (hB36.mono HQ3.out.size)
  have HQ16 : Hid (Below w1.heap.size w1 w6) := HQ2.out.trans (HQ6.out.mono HQ2.out.size)
  have hb4' : Bl 42 w6 bw [.bool false, .int .i64 (-9223372036854775808), .int .i64 14] := by rw [← hbw]; exact hb4.below hB46 hb4.lt
  have HTn : Hid (∀ wq, Below w6.heap.size w6 wq → TR wq (.slice (some ⟨bn, 0, none⟩) ([[110]] : List (List UInt8)).length 1) [[110]] (some ⟨bn, 0, none⟩) 1) := fun wq hq => (hb5.below hB6 (Nat.le_refl _)).below hq (Nat.le_refl _)
  have z0 : w6.cell? ⟨bw, 0, none⟩ = some (.bool false) := hb4'.cell 0 (by simp)
  have z2 : w6.cell? ⟨bw, 2, none⟩ = some (.int .i64 14) := hb4'.cell 2 (by simp)
  have HPq : Hid (w6.rangeAt bp 0 [.slice none 0 0, .string ⟨#[97]⟩, .bool true, .string ⟨#[121]⟩, .bool true, .string ⟨#[]⟩, .bool false, .int .i64 0, .slice (some ⟨bn, 0, none⟩) 1 1]) := fun j v hv => by
    obtain ⟨hj, e⟩ := List.getElem?_eq_some_iff.1 hv
    rw [Nat.zero_add, ← e, ← hbp]
    exact hb6.cell j hj
  have hcp : (Tryz.prog.info? 46).map (·.size) = some ([.slice none 0 0, .string ⟨#[97]⟩, .bool true, .string ⟨#[121]⟩, .bool true, .string ⟨#[]⟩, .bool false, .int .i64 0, .slice (some ⟨bn, 0, none⟩) 1 1] : List Value).length := by kernel_rfl
  have HW6 : Hid (((w3.alloc (.cells #[.bool false, .int .i64 (-9223372036854775808), .int .i64 14] 42)).alloc (.cells #[.string ⟨#[110]⟩] 9)).alloc (.cells #[.slice none 0 0, .string ⟨#[97]⟩, .bool true, .string ⟨#[121]⟩, .bool true, .string ⟨#[]⟩, .bool false, .int .i64 0, .slice (some ⟨bn, 0, none⟩) 1 1] 46) = w6) := by show _ = _; rw [hw4, hw5]; exact hw6
  have HBn : Hid (w3.heap.size + 1 = bn) := hbn2
  have HBp : Hid (w3.heap.size + 1 + 1 = bp) := hbp2
  have HBw : Hid (w3.heap.size = bw) := hbw
  clear hw4 hB4 hb4 hbw hbn hbn2 hw5 hB5 hb5 hbp hbp2 hw6 hB6 hb6 hB46 hB36 hb4' HQ3 HQ2
  obtain ⟨k0, k1, k2, k3, k4, k5, k6, k7, k8, k9, k10, k11, k12, k13, k14⟩ := HKC.out w6 HQ6.out
  have CK1 := check_any awL va vc [[120], [121]] aa ac awC (.slice none 0 0) [97] true [121] true [] false 0 [[110]] (some ⟨bn, 0, none⟩) 1 w6 (HNq.out w6 HQ16.out) (HTq.out w6 HQ16.out) (HTn.out w6 (Below.refl _ _)) (HGq.out w6 (HB1.out.trans (HQ16.out.mono HB1.out.size))) (by intro n hn; revert n; decide) (by decide) (by decide) (by decide)
  unfold awC at CK1
  dsimp only at CK1
  rw [aw_check1] at CK1
  unfold clV plV tm0 at CK1
  have CK1 : Calls Tryz.prog 9 #[.agg #[.slice va 7 vc, .string ⟨#[97]⟩, .bool true, .string ⟨#[]⟩, .bool false, .slice aa 2 ac, .bool true, .string ⟨#[]⟩, .bool false, .bool true, .int .i64 10, .bool false, .int .i64 0, .bool false, .int .i64 0], .agg #[.slice none 0 0, .string ⟨#[97]⟩, .bool true, .string ⟨#[121]⟩, .bool true, .string ⟨#[]⟩, .bool false, .int .i64 0, .slice (some ⟨bn, 0, none⟩) 1 1]] w6 fun e w' => e = .returned (.int .i64 0) ∧ Below w6.heap.size w6 w' := CK1
  have CK2 : ∀ wq, Below w6.heap.size w6 wq → Calls Tryz.prog 9 #[.agg #[.slice va 7 vc, .string ⟨#[97]⟩, .bool true, .string ⟨#[]⟩, .bool false, .slice aa 2 ac, .bool true, .string ⟨#[]⟩, .bool false, .bool true, .int .i64 10, .bool false, .int .i64 0, .bool false, .int .i64 0], .agg #[.slice none 0 0, .string ⟨#[]⟩, .bool false, .string ⟨#[]⟩, .bool false, .string ⟨#[]⟩, .bool false, .int .i64 0, .slice none 0 0]] wq fun e w' => e = .returned (.int .i64 133) ∧ Below wq.heap.size wq w' := fun wq hq => by
    have h16 := HQ16.out.trans (hq.mono HQ16.out.size)
    have := check_any awL va vc [[120], [121]] aa ac awC (.slice none 0 0) [] false [] false [] false 0 [] none 0 wq (HNq.out wq h16) (HTq.out wq h16) ⟨rfl, Nat.le_refl _, .inl rfl⟩ (HGq.out wq (HB1.out.trans (h16.mono HB1.out.size))) (by intro n hn; revert n; decide) (by decide) (by decide) (by decide)
    unfold awC at this
    dsimp only at this
    rw [aw_check2] at this
    exact this
  have CLK : ∀ (x : Int) (r : Nat), I64 x → clockF ⟨true, 10⟩ tm0 tm0 5 x = r → ∀ wq, Calls Tryz.prog 10 #[.agg #[.slice va 7 vc, .string ⟨#[97]⟩, .bool true, .string ⟨#[]⟩, .bool false, .slice aa 2 ac, .bool true, .string ⟨#[]⟩, .bool false, .bool true, .int .i64 10, .bool false, .int .i64 0, .bool false, .int .i64 0], .int .i64 5, .int .i64 x] wq fun e w' => e = .returned (.int .i64 (r : Nat)) ∧ Below wq.heap.size wq w' := fun x r hx hr wq => by
    have := clock_any (.slice va 7 vc) (.string ⟨#[97]⟩) (.bool true) (.string ⟨#[]⟩) (.bool false) (.slice aa 2 ac) (.bool true) (.string ⟨#[]⟩) (.bool false) ⟨true, 10⟩ tm0 tm0 5 x wq (by unfold I64; decide) (by unfold I64; decide) (by unfold I64; decide) hx
    rw [hr] at this
    exact this
  have HCK2 : Hid _ := CK2
  have HC14 : Hid (∀ wq, Calls Tryz.prog 10 #[.agg #[.slice va 7 vc, .string ⟨#[97]⟩, .bool true, .string ⟨#[]⟩, .bool false, .slice aa 2 ac, .bool true, .string ⟨#[]⟩, .bool false, .bool true, .int .i64 10, .bool false, .int .i64 0, .bool false, .int .i64 0], .int .i64 5, .int .i64 14] wq fun e w' => e = .returned (.int .i64 0) ∧ Below wq.heap.size wq w') := CLK 14 0 (by unfold I64; decide) aw_clock1
  have HC15 : Hid (∀ wq, Calls Tryz.prog 10 #[.agg #[.slice va 7 vc, .string ⟨#[97]⟩, .bool true, .string ⟨#[]⟩, .bool false, .slice aa 2 ac, .bool true, .string ⟨#[]⟩, .bool false, .bool true, .int .i64 10, .bool false, .int .i64 0, .bool false, .int .i64 0], .int .i64 5, .int .i64 15] wq fun e w' => e = .returned (.int .i64 134) ∧ Below wq.heap.size wq w') := CLK 15 134 (by unfold I64; decide) aw_clock2
  have HB6 : Hid (Below w.heap.size w w6) := HB1.out.trans (HQ16.out.mono HB1.out.size)
  clear CK2 CLK HNq HTq HTn HGq HQ16 HB1
  go_upto_region 4 with fail
  first | rw [HBp.out] | rw [show w3.heap.size + 2 = bp from HBp.out]
  rw [HBn.out, HBw.out, HW6.out]
  clear HBn HBp HBw HW6
  go_wp2_with (first | (refine wpList_load_mid rfl 28 (.tmp 1) rfl w1.heap.size 0 rfl [.slice va 7 vc, .string ⟨#[97]⟩, .bool true, .string ⟨#[]⟩, .bool false, .slice aa 2 ac, .bool true, .string ⟨#[]⟩, .bool false, .bool true, .int .i64 10, .bool false, .int .i64 0, .bool false, .int .i64 0] _ (HRq.out w6 HQ6.out) Tryz.underlying28 rfl hcl ?_) | (refine wpList_load_mid rfl 46 (.tmp 5) rfl bp 0 rfl [.slice none 0 0, .string ⟨#[97]⟩, .bool true, .string ⟨#[121]⟩, .bool true, .string ⟨#[]⟩, .bool false, .int .i64 0, .slice (some ⟨bn, 0, none⟩) 1 1] _ HPq.out Tryz.underlying46 rfl hcp ?_))
  refine CK1.mono ?_
  clear CK1 k0 k1 k2 k3 k4 k5 k6 k7 k8 k9 k10 k11 k12 k13 k14 z0 z2 HPq hcp
  rintro e w7 ⟨rfl, hB7⟩
  have HQ7 : Hid (Below w6.heap.size w6 w7) := hB7
  have HR7 : Hid (Below w2.heap.size w2 w7) := HQ6.out.trans (hB7.mono HQ6.out.size)
  obtain ⟨k0, k1, k2, k3, k4, k5, k6, k7, k8, k9, k10, k11, k12, k13, k14⟩ := HKC.out w7 HR7.out
  have CK2 := HCK2.out w7 hB7
  clear hB7 HCK2
  go_wp2_with fail
  refine CK2.mono ?_
  clear CK2 k0 k1 k2 k3 k4 k5 k6 k7 k8 k9 k10 k11 k12 k13 k14
  rintro e w8 ⟨rfl, hB8⟩
  have HQ8 : Hid (Below w6.heap.size w6 w8) := HQ7.out.trans (hB8.mono HQ7.out.size)
  have HR8 : Hid (Below w2.heap.size w2 w8) := HR7.out.trans (hB8.mono HR7.out.size)
  obtain ⟨k0, k1, k2, k3, k4, k5, k6, k7, k8, k9, k10, k11, k12, k13, k14⟩ := HKC.out w8 HR8.out
  have C14 := HC14.out w8
  clear hB8 HC14 HQ7 HR7
  go_wp2_with fail
  refine C14.mono ?_
  clear C14 k0 k1 k2 k3 k4 k5 k6 k7 k8 k9 k10 k11 k12 k13 k14
  rintro e w9 ⟨rfl, hB9⟩
  have HQ9 : Hid (Below w6.heap.size w6 w9) := HQ8.out.trans (hB9.mono HQ8.out.size)
  have HR9 : Hid (Below w2.heap.size w2 w9) := HR8.out.trans (hB9.mono HR8.out.size)
  obtain ⟨k0, k1, k2, k3, k4, k5, k6, k7, k8, k9, k10, k11, k12, k13, k14⟩ := HKC.out w9 HR9.out
  have C15 := HC15.out w9
  clear hB9 HC15 HQ8 HR8
  go_wp2_with fail
  refine C15.mono ?_
  clear C15 k0 k1 k2 k3 k4 k5 k6 k7 k8 k9 k10 k11 k12 k13 k14
  rintro e wA ⟨rfl, hBA⟩
  have HBA : Hid (Below w.heap.size w wA) := HB6.out.trans ((HQ9.out.trans (hBA.mono HQ9.out.size)).mono HB6.out.size)
  clear hBA
  go_wp2
  go_ret
  exact ⟨rfl, HBA.out⟩

end Go.Proofs.YtjehkpndchadbaaGreatDoor
