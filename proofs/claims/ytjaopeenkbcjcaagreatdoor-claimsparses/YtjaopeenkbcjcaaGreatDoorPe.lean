import Derived.Test.YtjaopeenkbcjcaaGreatDoorPZ
import Derived.Test.YtjaopeenkbcjcaaGreatDoorEZ
namespace Go.Proofs.YtjaopeenkbcjcaaGreatDoor
open Go.RowKit Go.Shelf

theorem cparse_lens (t : List UInt8) : (cparseF t).1.val.length ≤ 1000000000 ∧ (cparseF t).1.aud.length ≤ 1000000000 := by
  have h1 := (parse_bd t).1
  unfold cparseF
  split
  · exact ⟨Nat.zero_le _, Nat.zero_le _⟩
  · split
    · exact ⟨Nat.zero_le _, Nat.zero_le _⟩
    · split
      · refine ⟨by show (parseF t).1.length ≤ _; omega, ?_⟩
        show (tsF (parseF t).1 kAud).1.length ≤ _
        unfold tsF
        split
        · simp
        · split
          · simp
          · rw [List.length_map]
            have := @kids_len (parseF t).1 (memF (parseF t).1 0 kAud)
            omega
      · exact ⟨Nat.zero_le _, Nat.zero_le _⟩

set_option maxRecDepth 100000 in
set_option maxHeartbeats 16000000 in
/-- The law, at any string. -/
theorem cparses_any (t : List UInt8) (w : World) (hG : GL w.heap.size w) :
    Calls Tryz.prog 8 #[.string ⟨t.toArray⟩] w fun e w' => e = .returned (.bool true) ∧ Below w.heap.size w w' := by
  have C1 := cparse_any t w hG
  have HR : Hid (∀ wq : World, Calls Tryz.prog 27 #[.string ⟨t.toArray⟩] wq fun e w' => (∃ va aa, e = .returned (.tuple #[clV va aa (cparseF t).1, .int .i64 ((cparseF t).2 : Nat)]) ∧ NO wq.heap.size w' va (cparseF t).1.val ∧ OT wq.heap.size w' aa (cparseF t).1.aud) ∧ Below wq.heap.size wq w') := fun wq => rcparse_any t wq
  have hcb := cparse_lens t
  clear hG
  obtain ⟨cc, hcc⟩ : ∃ c, (cparseF t).1 = c := ⟨_, rfl⟩
  obtain ⟨ce, hce⟩ : ∃ c, (cparseF t).2 = c := ⟨_, rfl⟩
  rw [hcc, hce] at C1 HR
  rw [hcc] at hcb
  clear hcc hce
  obtain ⟨cv, ci, chi, cs, chs, ca, cha, cj, chj, ce1, ce2, ce3⟩ := cc
  dsimp only at hcb C1 HR
  go_enter Tryz.func8, Tryz.ntmps8
  go_wp2_with fail
  refine C1.mono ?_
  clear C1
  rintro e w1 ⟨⟨va, aa, rfl, hno, hot⟩, hB⟩
  obtain ⟨vA, vC, hcN⟩ := hno.nr
  obtain ⟨e1, _, _⟩ := id hcN
  subst e1
  obtain ⟨aA, aC, e2, hcT⟩ := hot.tr
  subst e2
  have HB1 : Hid (Below w.heap.size w w1) := hB
  clear hno hot hB
  unfold clV
  dsimp only at *
  obtain ⟨w2, hw2⟩ : ∃ x, w1.alloc (.cells #[.slice vA cv.length vC, .string ⟨ci.toArray⟩, .bool chi, .string ⟨cs.toArray⟩, .bool chs, .slice aA ca.length aC, .bool cha, .string ⟨cj.toArray⟩, .bool chj, .bool ce1.has, .int .i64 ce1.at_, .bool ce2.has, .int .i64 ce2.at_, .bool ce3.has, .int .i64 ce3.at_] 27) = x := ⟨_, rfl⟩
  have hA2 : Below w1.heap.size w1 w2 := by rw [← hw2]; exact alloc_below _ _
  have hbC : Bl 27 w2 w1.heap.size [.slice vA cv.length vC, .string ⟨ci.toArray⟩, .bool chi, .string ⟨cs.toArray⟩, .bool chs, .slice aA ca.length aC, .bool cha, .string ⟨cj.toArray⟩, .bool chj, .bool ce1.has, .int .i64 ce1.at_, .bool ce2.has, .int .i64 ce2.at_, .bool ce3.has, .int .i64 ce3.at_] := by rw [← hw2]; exact alloc_bl _ _ _
  obtain ⟨bC, hbCe⟩ : ∃ b, w1.heap.size = b := ⟨_, rfl⟩
  rw [hbCe] at hbC
  have HBC : Hid (w1.heap.size = bC) := hbCe
  have HW2 : Hid (w1.alloc (.cells #[.slice vA cv.length vC, .string ⟨ci.toArray⟩, .bool chi, .string ⟨cs.toArray⟩, .bool chs, .slice aA ca.length aC, .bool cha, .string ⟨cj.toArray⟩, .bool chj, .bool ce1.has, .int .i64 ce1.at_, .bool ce2.has, .int .i64 ce2.at_, .bool ce3.has, .int .i64 ce3.at_] 27) = w2) := hw2
  have HB2 : Hid (Below w.heap.size w w2) := HB1.out.trans (hA2.mono HB1.out.size)
  have HcN : Hid (∀ wq, Below w2.heap.size w2 wq → NR wq (.slice vA cv.length vC) cv vA vC) := fun wq hq => (hcN.below hA2 (Nat.le_refl _)).below hq (Nat.le_refl _)
  have HcT : Hid (∀ wq, Below w2.heap.size w2 wq → TR wq (.slice aA ca.length aC) ca aA aC) := fun wq hq => (hcT.below hA2 (Nat.le_refl _)).below hq (Nat.le_refl _)
  have HRC : Hid (∀ wq, Below w2.heap.size w2 wq → wq.rangeAt bC 0 [.slice vA cv.length vC, .string ⟨ci.toArray⟩, .bool chi, .string ⟨cs.toArray⟩, .bool chs, .slice aA ca.length aC, .bool cha, .string ⟨cj.toArray⟩, .bool chj, .bool ce1.has, .int .i64 ce1.at_, .bool ce2.has, .int .i64 ce2.at_, .bool ce3.has, .int .i64 ce3.at_]) := fun wq hq j v hv => by
    obtain ⟨hj, e⟩ := List.getElem?_eq_some_iff.1 hv
    rw [Nat.zero_add, ← e]
    exact (hbC.below hq hbC.lt).cell j hj
  have hcl : (Tryz.prog.info? 27).map (·.size) = some ([.slice vA cv.length vC, .string ⟨ci.toArray⟩, .bool chi, .string ⟨cs.toArray⟩, .bool chs, .slice aA ca.length aC, .bool cha, .string ⟨cj.toArray⟩, .bool chj, .bool ce1.has, .int .i64 ce1.at_, .bool ce2.has, .int .i64 ce2.at_, .bool ce3.has, .int .i64 ce3.at_] : List Value).length := by kernel_rfl
  have CJ := HR.out w2
  clear hw2 hA2 hbC hbCe hcN hcT HR
  go_wp2_with fail
  rw [HBC.out, HW2.out]
  clear HBC HW2
  refine CJ.mono ?_
  clear CJ
  rintro e w3 ⟨⟨va, aa, rfl, hno, hot⟩, hB⟩
  obtain ⟨vB, vD, hdN⟩ := hno.nr
  obtain ⟨e1, _, _⟩ := id hdN
  subst e1
  obtain ⟨aB, aD, e2, hdT⟩ := hot.tr
  subst e2
  have HY3 : Hid (Below w2.heap.size w2 w3) := hB
  have HB3 : Hid (Below w.heap.size w w3) := HB2.out.trans (hB.mono HB2.out.size)
  clear hno hot hB
  unfold clV
  dsimp only at *
  obtain ⟨w4, hw4⟩ : ∃ x, w3.alloc (.cells #[.slice vB cv.length vD, .string ⟨ci.toArray⟩, .bool chi, .string ⟨cs.toArray⟩, .bool chs, .slice aB ca.length aD, .bool cha, .string ⟨cj.toArray⟩, .bool chj, .bool ce1.has, .int .i64 ce1.at_, .bool ce2.has, .int .i64 ce2.at_, .bool ce3.has, .int .i64 ce3.at_] 27) = x := ⟨_, rfl⟩
  have hA4 : Below w3.heap.size w3 w4 := by rw [← hw4]; exact alloc_below _ _
  have hbD : Bl 27 w4 w3.heap.size [.slice vB cv.length vD, .string ⟨ci.toArray⟩, .bool chi, .string ⟨cs.toArray⟩, .bool chs, .slice aB ca.length aD, .bool cha, .string ⟨cj.toArray⟩, .bool chj, .bool ce1.has, .int .i64 ce1.at_, .bool ce2.has, .int .i64 ce2.at_, .bool ce3.has, .int .i64 ce3.at_] := by rw [← hw4]; exact alloc_bl _ _ _
  have hY4 : Below w2.heap.size w2 w4 := HY3.out.trans (hA4.mono HY3.out.size)
  obtain ⟨bD, hbDe⟩ : ∃ b, w3.heap.size = b := ⟨_, rfl⟩
  rw [hbDe] at hbD
  have HBD : Hid (w3.heap.size = bD) := hbDe
  have HW4 : Hid (w3.alloc (.cells #[.slice vB cv.length vD, .string ⟨ci.toArray⟩, .bool chi, .string ⟨cs.toArray⟩, .bool chs, .slice aB ca.length aD, .bool cha, .string ⟨cj.toArray⟩, .bool chj, .bool ce1.has, .int .i64 ce1.at_, .bool ce2.has, .int .i64 ce2.at_, .bool ce3.has, .int .i64 ce3.at_] 27) = w4) := hw4
  have HB4 : Hid (Below w.heap.size w w4) := HB3.out.trans (hA4.mono HB3.out.size)
  have p1 := HRC.out w4 hY4
  have p2 : w4.rangeAt bD 0 [.slice vB cv.length vD, .string ⟨ci.toArray⟩, .bool chi, .string ⟨cs.toArray⟩, .bool chs, .slice aB ca.length aD, .bool cha, .string ⟨cj.toArray⟩, .bool chj, .bool ce1.has, .int .i64 ce1.at_, .bool ce2.has, .int .i64 ce2.at_, .bool ce3.has, .int .i64 ce3.at_] := fun j v hv => by
    obtain ⟨hj, e⟩ := List.getElem?_eq_some_iff.1 hv
    rw [Nat.zero_add, ← e]
    exact hbD.cell j hj
  have CE := csame_eq vA vC aA aC vB vD aB aD ⟨cv, ci, chi, cs, chs, ca, cha, cj, chj, ce1, ce2, ce3⟩ w4 (HcN.out w4 hY4) (HcT.out w4 hY4) (hdN.below hA4 (Nat.le_refl _)) (hdT.below hA4 (Nat.le_refl _)) hcb.1 (Nat.le_trans hcb.2 (by decide))
  unfold clV at CE
  dsimp only at CE
  clear hw4 hA4 hbD hbDe hdN hdT hY4 HcN HcT HRC HY3 HB1 HB2 HB3
  go_upto_region 3 with fail
  rw [HBD.out, HW4.out]
  clear HBD HW4
  go_wp2_with (first | (refine wpList_load_midG rfl 27 (.tmp 3) rfl bC 0 rfl [.slice vA cv.length vC, .string ⟨ci.toArray⟩, .bool chi, .string ⟨cs.toArray⟩, .bool chs, .slice aA ca.length aC, .bool cha, .string ⟨cj.toArray⟩, .bool chj, .bool ce1.has, .int .i64 ce1.at_, .bool ce2.has, .int .i64 ce2.at_, .bool ce3.has, .int .i64 ce3.at_] _ p1 Tryz.underlying27 rfl hcl ?_) | (refine wpList_load_midG rfl 27 (.tmp 5) rfl bD 0 rfl [.slice vB cv.length vD, .string ⟨ci.toArray⟩, .bool chi, .string ⟨cs.toArray⟩, .bool chs, .slice aB ca.length aD, .bool cha, .string ⟨cj.toArray⟩, .bool chj, .bool ce1.has, .int .i64 ce1.at_, .bool ce2.has, .int .i64 ce2.at_, .bool ce3.has, .int .i64 ce3.at_] _ p2 Tryz.underlying27 rfl hcl ?_) | fail)
  refine CE.mono ?_
  clear CE p1 p2 hcl
  rintro e w5 ⟨rfl, hB5⟩
  have HB5 : Hid (Below w.heap.size w w5) := HB4.out.trans (hB5.mono HB4.out.size)
  clear hB5
  go_wp2
  go_ret
  exact ⟨rfl, HB5.out⟩

end Go.Proofs.YtjaopeenkbcjcaaGreatDoor
