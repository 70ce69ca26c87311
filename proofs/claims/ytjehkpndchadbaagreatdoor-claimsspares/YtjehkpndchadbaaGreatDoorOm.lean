import Derived.Test.YtjehkpndchadbaaGreatDoorOr
import Derived.Test.YtjehkpndchadbaaGreatDoorAw
import Derived.Test.YtjehkpndchadbaaGreatDoorEZ
import Derived.Test.YtjehkpndchadbaaGreatDoorMa
namespace Go.Proofs.YtjehkpndchadbaaGreatDoor
open Go.RowKit Go.Shelf

theorem cparse_lensS (t : List UInt8) : (cparseF t).1.val.length ≤ 100000000 ∧ (cparseF t).1.aud.length ≤ 100000000 := by
  have h1 := (parse_bd t).1
  unfold cparseF
  split
  · exact ⟨Nat.zero_le _, Nat.zero_le _⟩
  · split
    · exact ⟨Nat.zero_le _, Nat.zero_le _⟩
    · split
      · refine ⟨by show (parseF t).1.length ≤ _; omega, ?_⟩
        show (tsF (parseF t).1 kAud).1.length ≤ _
        unfold tsF
        split
        · simp
        · split
          · simp
          · rw [List.length_map]
            have := @kids_len (parseF t).1 (memF (parseF t).1 0 kAud)
            omega
      · exact ⟨Nat.zero_le _, Nat.zero_le _⟩


def KZ (a : World) (s1 s2 s3 s4 : Value) (wx : World) : Prop := ∀ g, g < a.heap.size → s1.ownBlock ≠ some g → s2.ownBlock ≠ some g → s3.ownBlock ≠ some g → s4.ownBlock ≠ some g → wx.heap[g]? = a.heap[g]?
def iN (z : Int) : Nd := ⟨0, [], [], false, z, 0⟩
theorem dropS {l : List Nd} {k : Nat} (h : k < l.length) : l.drop k = l.getD k (nd0 0) :: l.drop (k + 1) := by rw [List.drop_eq_getElem_cons h]; simp [List.getD_eq_getElem?_getD, h]
theorem repS_set {m : List UInt8} {l : List (List UInt8)} {k : Nat} (hk : k < l.length) : ((List.replicate k m ++ l.drop k).map tV).set k (tV m) = (List.replicate (k + 1) m ++ l.drop (k + 1)).map tV := by
  rw [← List.map_set]
  congr 1
  rw [List.set_append_right _ _ (by simp), List.length_replicate, Nat.sub_self, List.drop_eq_getElem_cons hk, List.set_cons_zero, List.replicate_succ', List.append_assoc]
  rfl
theorem nRepS (j : Nat) (x : Nd) : nCs (List.replicate (j + 1) x) = nCs (List.replicate j x) ++ nC x := by rw [List.replicate_succ', nCs_append, nCs_one]
theorem tRepS (j : Nat) (x : List UInt8) : (List.replicate (j + 1) x).map tV = (List.replicate j x).map tV ++ [tV x] := by rw [List.replicate_succ', List.map_append]; rfl
theorem own_dn {w : World} {b0 b1 n size : Nat} {e : TypeId} {v : Value} {xs : List Value} (h : w.ownsRow b1 e size v n xs) (hb : b0 ≤ b1) : w.ownsRow b0 e size v n xs :=
  ⟨h.1, h.2.elim .inl fun ⟨g, cap, cur, hv, h1, r⟩ => .inr ⟨g, cap, cur, hv, Nat.le_trans hb h1, r⟩⟩
theorem own_nil {w : World} {b n m size c : Nat} {e : TypeId} {a : Option Addr} {xs : List Value} (h : w.ownsRow b e size (.slice a n c) m xs) : a = none → c = 0 := fun ha => by
  subst ha
  rcases h.2 with ⟨hv, _⟩ | ⟨g, cap, cur, hv, _⟩
  · injection hv
  · cases hv
theorem rep_one {n k : Nat} {x : Nd} (h : k < n) : (nCs (List.replicate n x))[k * 6 + 4]? = some (.int .i64 x.int) := by
  rw [nCs_at _ k 4 (by rw [List.length_replicate]; exact h) (by decide), List.getD_eq_getElem?_getD, List.getElem?_replicate, if_pos h]
  rfl
theorem rep_left {n m k : Nat} {x y : Nd} (h : k < n) : (nCs (List.replicate n x) ++ nCs (List.replicate m y))[k * 6 + 4]? = some (.int .i64 x.int) := by
  rw [List.getElem?_append_left (by rw [nCs_length, List.length_replicate]; omega), rep_one h]
theorem rep_right {n m k : Nat} {x y : Nd} (h : n ≤ k) (h2 : k < n + m) : (nCs (List.replicate n x) ++ nCs (List.replicate m y))[k * 6 + 4]? = some (.int .i64 y.int) := by
  rw [List.getElem?_append_right (by rw [nCs_length, List.length_replicate]; omega), nCs_length, List.length_replicate, show k * 6 + 4 - n * 6 = (k - n) * 6 + 4 by omega, rep_one (by omega)]
theorem trep_one {n k : Nat} {x : List UInt8} (h : k < n) : ((List.replicate n x).map tV)[k]? = some (tV x) := by
  rw [List.getElem?_map, List.getElem?_replicate, if_pos h]
  rfl
theorem trep_left {n m k : Nat} {x y : List UInt8} (h : k < n) : ((List.replicate n x).map tV ++ (List.replicate m y).map tV)[k]? = some (tV x) := by
  rw [List.getElem?_append_left (by rw [List.length_map, List.length_replicate]; omega), trep_one h]
theorem trep_right {n m k : Nat} {x y : List UInt8} (h : n ≤ k) (h2 : k < n + m) : ((List.replicate n x).map tV ++ (List.replicate m y).map tV)[k]? = some (tV y) := by
  rw [List.getElem?_append_right (by rw [List.length_map, List.length_replicate]; omega), List.length_map, List.length_replicate, trep_one (by omega)]
set_option maxRecDepth 100000 in
set_option maxHeartbeats 64000000 in
/-- The law. -/
theorem cspares_any (p : List UInt8) (w : World) (hG : GL w.heap.size w) :
    Calls Tryz.prog 3 #[.string ⟨p.toArray⟩] w fun e w' => e = .returned (.bool true) ∧ Below w.heap.size w w' := by
  have C := awake_any w hG
  have HGq : Hid (∀ wq, Below w.heap.size w wq → GL wq.heap.size wq) := fun wq hq => (hG.below hq).up hq.size
  have HCP : Hid (∀ wq, Below w.heap.size w wq → Calls Tryz.prog 5 #[.string ⟨p.toArray⟩] wq fun e w' => (∃ va aa, e = .returned (.tuple #[clV va aa (cparseF p).1, .int .i64 ((cparseF p).2 : Nat)]) ∧ NO wq.heap.size w' va (cparseF p).1.val ∧ OT wq.heap.size w' aa (cparseF p).1.aud) ∧ Below wq.heap.size wq w') := fun wq hq => cparse_any p wq (HGq.out wq hq)
  have hcb : (cparseF p).1.val.length ≤ 1000000000 ∧ (cparseF p).1.aud.length ≤ 1000000000 := ⟨Nat.le_trans (cparse_lensS p).1 (by decide), Nat.le_trans (cparse_lensS p).2 (by decide)⟩
  have hcb2 : (cparseF p).1.val.length ≤ 100000000 ∧ (cparseF p).1.aud.length ≤ 100000000 := cparse_lensS p
  obtain ⟨cc, hcc⟩ : ∃ c, cparseF p = c := ⟨_, rfl⟩
  rw [hcc] at HCP hcb hcb2
  obtain ⟨⟨cv, ci, chi, cs, chs, ca, cha, cj, chj, ce1, ce2, ce3⟩, ec⟩ := cc
  dsimp only at hcb hcb2
  clear hcc hG
  have qe : ((ec : Int) != (ec : Int)) = false := by simp
  have hcl : (Tryz.prog.info? 28).map (·.size) = some 15 := by kernel_rfl
  go_enter Tryz.func3, Tryz.ntmps3
  go_wp2_with fail
  refine C.mono ?_
  clear C
  rintro e w1 ⟨rfl, hB1⟩
  have HB1 : Hid (Below w.heap.size w w1) := hB1
  have C := HCP.out w1 hB1
  clear hB1
  go_wp2_with fail
  refine C.mono ?_
  clear C
  rintro e w2 ⟨⟨va, aa, rfl, hno, hot⟩, hB⟩
  (try dsimp only at hno hot)
  obtain ⟨vA, vC, hcN⟩ := hno.nr
  obtain ⟨e1, _, _⟩ := id hcN
  subst e1
  obtain ⟨aA, aC, e2, hcT⟩ := hot.tr
  subst e2
  unfold clV
  (try dsimp only)
  obtain ⟨w3, hw3⟩ : ∃ x, w2.alloc (.cells #[.slice vA cv.length vC, .string ⟨ci.toArray⟩, .bool chi, .string ⟨cs.toArray⟩, .bool chs, .slice aA ca.length aC, .bool cha, .string ⟨cj.toArray⟩, .bool chj, .bool ce1.has, .int .i64 ce1.at_, .bool ce2.has, .int .i64 ce2.at_, .bool ce3.has, .int .i64 ce3.at_] 28) = x := ⟨_, rfl⟩
  have hA3 : Below w2.heap.size w2 w3 := by rw [← hw3]; exact alloc_below _ _
  have hbC : Bl 28 w3 w2.heap.size [.slice vA cv.length vC, .string ⟨ci.toArray⟩, .bool chi, .string ⟨cs.toArray⟩, .bool chs, .slice aA ca.length aC, .bool cha, .string ⟨cj.toArray⟩, .bool chj, .bool ce1.has, .int .i64 ce1.at_, .bool ce2.has, .int .i64 ce2.at_, .bool ce3.has, .int .i64 ce3.at_] := by rw [← hw3]; exact alloc_bl _ _ _
  obtain ⟨bC, hbCe⟩ : ∃ b, w2.heap.size = b := ⟨_, rfl⟩
  rw [hbCe] at hbC
  have HBC : Hid (w2.heap.size = bC) := hbCe
  have HW3 : Hid (w2.alloc (.cells #[.slice vA cv.length vC, .string ⟨ci.toArray⟩, .bool chi, .string ⟨cs.toArray⟩, .bool chs, .slice aA ca.length aC, .bool cha, .string ⟨cj.toArray⟩, .bool chj, .bool ce1.has, .int .i64 ce1.at_, .bool ce2.has, .int .i64 ce2.at_, .bool ce3.has, .int .i64 ce3.at_] 28) = w3) := hw3
  have HB3 : Hid (Below w.heap.size w w3) := by
    have h3 := HB1.out.trans (hB.mono HB1.out.size)
    exact h3.trans (hA3.mono h3.size)
  have HvA : Hid (NO w.heap.size w3 (.slice vA cv.length vC) cv) := own_dn (own_below hno hA3 (Nat.le_refl _)) HB1.out.size
  have HaA : Hid (OT w.heap.size w3 (.slice aA ca.length aC) ca) := own_dn (own_below hot hA3 (Nat.le_refl _)) HB1.out.size
  have HcN : Hid (∀ wq, Below w3.heap.size w3 wq → NR wq (.slice vA cv.length vC) cv vA vC) := fun wq hq => (hcN.below hA3 (Nat.le_refl _)).below hq (Nat.le_refl _)
  have HcT : Hid (∀ wq, Below w3.heap.size w3 wq → TR wq (.slice aA ca.length aC) ca aA aC) := fun wq hq => (hcT.below hA3 (Nat.le_refl _)).below hq (Nat.le_refl _)
  have HCB : Hid (∀ wq, Below w3.heap.size w3 wq → Bl 28 wq bC [.slice vA cv.length vC, .string ⟨ci.toArray⟩, .bool chi, .string ⟨cs.toArray⟩, .bool chs, .slice aA ca.length aC, .bool cha, .string ⟨cj.toArray⟩, .bool chj, .bool ce1.has, .int .i64 ce1.at_, .bool ce2.has, .int .i64 ce2.at_, .bool ce3.has, .int .i64 ce3.at_]) := fun wq hq => hbC.below hq hbC.lt
  have HBq : Hid (∀ wq, Below w3.heap.size w3 wq → Below w.heap.size w wq) := fun wq hq => HB3.out.trans (hq.mono HB3.out.size)
  have C := HCP.out w3 HB3.out
  clear hw3 hA3 hbC hbCe hcN hcT hno hot hB HB1
  go_wp2_with fail
  rw [HBC.out, HW3.out]
  clear HBC HW3
  refine C.mono ?_
  clear C
  rintro e w4 ⟨⟨va, aa, rfl, hno, hot⟩, hB⟩
  (try dsimp only at hno hot)
  obtain ⟨vB, vD, hdN⟩ := hno.nr
  obtain ⟨e1, _, _⟩ := id hdN
  subst e1
  obtain ⟨aB, aD, e2, hdT⟩ := hot.tr
  subst e2
  unfold clV
  (try dsimp only)
  obtain ⟨w5, hw5⟩ : ∃ x, w4.alloc (.cells #[.slice vB cv.length vD, .string ⟨ci.toArray⟩, .bool chi, .string ⟨cs.toArray⟩, .bool chs, .slice aB ca.length aD, .bool cha, .string ⟨cj.toArray⟩, .bool chj, .bool ce1.has, .int .i64 ce1.at_, .bool ce2.has, .int .i64 ce2.at_, .bool ce3.has, .int .i64 ce3.at_] 28) = x := ⟨_, rfl⟩
  have hA5 : Below w4.heap.size w4 w5 := by rw [← hw5]; exact alloc_below _ _
  have hbD : Bl 28 w5 w4.heap.size [.slice vB cv.length vD, .string ⟨ci.toArray⟩, .bool chi, .string ⟨cs.toArray⟩, .bool chs, .slice aB ca.length aD, .bool cha, .string ⟨cj.toArray⟩, .bool chj, .bool ce1.has, .int .i64 ce1.at_, .bool ce2.has, .int .i64 ce2.at_, .bool ce3.has, .int .i64 ce3.at_] := by rw [← hw5]; exact alloc_bl _ _ _
  obtain ⟨bD, hbDe⟩ : ∃ b, w4.heap.size = b := ⟨_, rfl⟩
  rw [hbDe] at hbD
  have HBD : Hid (w4.heap.size = bD) := hbDe
  have HW5 : Hid (w4.alloc (.cells #[.slice vB cv.length vD, .string ⟨ci.toArray⟩, .bool chi, .string ⟨cs.toArray⟩, .bool chs, .slice aB ca.length aD, .bool cha, .string ⟨cj.toArray⟩, .bool chj, .bool ce1.has, .int .i64 ce1.at_, .bool ce2.has, .int .i64 ce2.at_, .bool ce3.has, .int .i64 ce3.at_] 28) = w5) := hw5
  have B5 : Hid (Below w3.heap.size w3 w5) := hB.trans (hA5.mono hB.size)
  have HvB : Hid (NO w3.heap.size w5 (.slice vB cv.length vD) cv) := own_below hno hA5 (Nat.le_refl _)
  have HaB : Hid (OT w3.heap.size w5 (.slice aB ca.length aD) ca) := own_below hot hA5 (Nat.le_refl _)
  have HnB : Hid ((vB = none → vD = 0) ∧ (aB = none → aD = 0)) := ⟨own_nil HvB.out, own_nil HaB.out⟩
  have HdN : Hid (∀ wq, Below w5.heap.size w5 wq → NR wq (.slice vB cv.length vD) cv vB vD) := fun wq hq => (hdN.below hA5 (Nat.le_refl _)).below hq (Nat.le_refl _)
  have HdT : Hid (∀ wq, Below w5.heap.size w5 wq → TR wq (.slice aB ca.length aD) ca aB aD) := fun wq hq => (hdT.below hA5 (Nat.le_refl _)).below hq (Nat.le_refl _)
  have HDB : Hid (∀ wq, Below w5.heap.size w5 wq → Bl 28 wq bD [.slice vB cv.length vD, .string ⟨ci.toArray⟩, .bool chi, .string ⟨cs.toArray⟩, .bool chs, .slice aB ca.length aD, .bool cha, .string ⟨cj.toArray⟩, .bool chj, .bool ce1.has, .int .i64 ce1.at_, .bool ce2.has, .int .i64 ce2.at_, .bool ce3.has, .int .i64 ce3.at_]) := fun wq hq => hbD.below hq hbD.lt
  have HBq5 : Hid (∀ wq, Below w5.heap.size w5 wq → Below w3.heap.size w3 wq) := fun wq hq => B5.out.trans (hq.mono B5.out.size)
  have p1 := bl_rng2 (HCB.out w5 B5.out)
  have p2 := bl_rng2 (HDB.out w5 (Below.refl _ _))
  have C := csame_eq vA vC aA aC vB vD aB aD ⟨cv, ci, chi, cs, chs, ca, cha, cj, chj, ce1, ce2, ce3⟩ w5 (HcN.out w5 B5.out) (HcT.out w5 B5.out) (HdN.out w5 (Below.refl _ _)) (HdT.out w5 (Below.refl _ _)) hcb.1 (Nat.le_trans hcb.2 (by decide))
  unfold clV at C
  dsimp only at C
  clear hw5 hA5 hbD hbDe hdN hdT hno hot hB
  go_upto_region 5 with fail
  rw [HBD.out, HW5.out]
  clear HBD HW5
  go_wp2_with (first | (refine wpList_load_midG rfl 28 (.tmp 3) rfl bC 0 rfl [.slice vA cv.length vC, .string ⟨ci.toArray⟩, .bool chi, .string ⟨cs.toArray⟩, .bool chs, .slice aA ca.length aC, .bool cha, .string ⟨cj.toArray⟩, .bool chj, .bool ce1.has, .int .i64 ce1.at_, .bool ce2.has, .int .i64 ce2.at_, .bool ce3.has, .int .i64 ce3.at_] _ p1 Tryz.underlying28 rfl hcl ?_) | (refine wpList_load_midG rfl 28 (.tmp 5) rfl bD 0 rfl [.slice vB cv.length vD, .string ⟨ci.toArray⟩, .bool chi, .string ⟨cs.toArray⟩, .bool chs, .slice aB ca.length aD, .bool cha, .string ⟨cj.toArray⟩, .bool chj, .bool ce1.has, .int .i64 ce1.at_, .bool ce2.has, .int .i64 ce2.at_, .bool ce3.has, .int .i64 ce3.at_] _ p2 Tryz.underlying28 rfl hcl ?_) | fail)
  refine C.mono ?_
  clear C p1 p2
  rintro e w6 ⟨rfl, hB6⟩
  have B6 : Hid (Below w5.heap.size w5 w6) := hB6
  have p2 := bl_rng2 (HDB.out w6 hB6)
  have C := ctwin_any cv vB vD ca aB aD ci chi cs chs cha cj chj ce1 ce2 ce3 w6 (HdN.out w6 hB6) (HdT.out w6 hB6) HnB.out.1 HnB.out.2 hcb2.1 hcb2.2
  clear hB6
  go_wp2_with (first | (refine wpList_load_midG rfl 28 (.tmp 5) rfl bD 0 rfl [.slice vB cv.length vD, .string ⟨ci.toArray⟩, .bool chi, .string ⟨cs.toArray⟩, .bool chs, .slice aB ca.length aD, .bool cha, .string ⟨cj.toArray⟩, .bool chj, .bool ce1.has, .int .i64 ce1.at_, .bool ce2.has, .int .i64 ce2.at_, .bool ce3.has, .int .i64 ce3.at_] _ p2 Tryz.underlying28 rfl hcl ?_) | fail)
  refine C.mono ?_
  clear C p2
  rintro e w7 ⟨⟨va, aa, rfl, hno, hot⟩, hB⟩
  obtain ⟨vT, vU, htN⟩ := hno.nr
  obtain ⟨e1, _, _⟩ := id htN
  subst e1
  obtain ⟨aT, aU, e2, htT⟩ := hot.tr
  subst e2
  obtain ⟨w8, hw8⟩ : ∃ x, w7.alloc (.cells #[.slice vT cv.length vU, .string ⟨ci.toArray⟩, .bool chi, .string ⟨cs.toArray⟩, .bool chs, .slice aT ca.length aU, .bool cha, .string ⟨cj.toArray⟩, .bool chj, .bool ce1.has, .int .i64 ce1.at_, .bool ce2.has, .int .i64 ce2.at_, .bool ce3.has, .int .i64 ce3.at_] 28) = x := ⟨_, rfl⟩
  have hA8 : Below w7.heap.size w7 w8 := by rw [← hw8]; exact alloc_below _ _
  have hbT : Bl 28 w8 w7.heap.size [.slice vT cv.length vU, .string ⟨ci.toArray⟩, .bool chi, .string ⟨cs.toArray⟩, .bool chs, .slice aT ca.length aU, .bool cha, .string ⟨cj.toArray⟩, .bool chj, .bool ce1.has, .int .i64 ce1.at_, .bool ce2.has, .int .i64 ce2.at_, .bool ce3.has, .int .i64 ce3.at_] := by rw [← hw8]; exact alloc_bl _ _ _
  obtain ⟨bT, hbTe⟩ : ∃ b, w7.heap.size = b := ⟨_, rfl⟩
  rw [hbTe] at hbT
  have HBT : Hid (w7.heap.size = bT) := hbTe
  have HW8 : Hid (w7.alloc (.cells #[.slice vT cv.length vU, .string ⟨ci.toArray⟩, .bool chi, .string ⟨cs.toArray⟩, .bool chs, .slice aT ca.length aU, .bool cha, .string ⟨cj.toArray⟩, .bool chj, .bool ce1.has, .int .i64 ce1.at_, .bool ce2.has, .int .i64 ce2.at_, .bool ce3.has, .int .i64 ce3.at_] 28) = w8) := hw8
  have B8 : Hid (Below w5.heap.size w5 w8) := by
    have h3 := B6.out.trans (hB.mono B6.out.size)
    exact h3.trans (hA8.mono h3.size)
  have HtN : Hid (NO w6.heap.size w8 (.slice vT cv.length vU) cv) := own_below hno hA8 (Nat.le_refl _)
  have HtT : Hid (OT w6.heap.size w8 (.slice aT ca.length aU) ca) := own_below hot hA8 (Nat.le_refl _)
  have HTB : Hid (Bl 28 w8 bT [.slice vT cv.length vU, .string ⟨ci.toArray⟩, .bool chi, .string ⟨cs.toArray⟩, .bool chs, .slice aT ca.length aU, .bool cha, .string ⟨cj.toArray⟩, .bool chj, .bool ce1.has, .int .i64 ce1.at_, .bool ce2.has, .int .i64 ce2.at_, .bool ce3.has, .int .i64 ce3.at_]) := hbT
  obtain ⟨a, ha⟩ : ∃ x, w8.alloc (.cells #[.slice vA cv.length vC, .string ⟨ci.toArray⟩, .bool chi, .string ⟨cs.toArray⟩, .bool chs, .slice aA ca.length aC, .bool cha, .string ⟨cj.toArray⟩, .bool chj, .bool ce1.has, .int .i64 ce1.at_, .bool ce2.has, .int .i64 ce2.at_, .bool ce3.has, .int .i64 ce3.at_, .slice vB cv.length vD, .string ⟨ci.toArray⟩, .bool chi, .string ⟨cs.toArray⟩, .bool chs, .slice aB ca.length aD, .bool cha, .string ⟨cj.toArray⟩, .bool chj, .bool ce1.has, .int .i64 ce1.at_, .bool ce2.has, .int .i64 ce2.at_, .bool ce3.has, .int .i64 ce3.at_] 28) = x := ⟨_, rfl⟩
  have hAa : Below w8.heap.size w8 a := by rw [← ha]; exact alloc_below _ _
  have hbL : Bl 28 a w8.heap.size [.slice vA cv.length vC, .string ⟨ci.toArray⟩, .bool chi, .string ⟨cs.toArray⟩, .bool chs, .slice aA ca.length aC, .bool cha, .string ⟨cj.toArray⟩, .bool chj, .bool ce1.has, .int .i64 ce1.at_, .bool ce2.has, .int .i64 ce2.at_, .bool ce3.has, .int .i64 ce3.at_, .slice vB cv.length vD, .string ⟨ci.toArray⟩, .bool chi, .string ⟨cs.toArray⟩, .bool chs, .slice aB ca.length aD, .bool cha, .string ⟨cj.toArray⟩, .bool chj, .bool ce1.has, .int .i64 ce1.at_, .bool ce2.has, .int .i64 ce2.at_, .bool ce3.has, .int .i64 ce3.at_] := by rw [← ha]; exact alloc_bl _ _ _
  obtain ⟨bL, hbLe⟩ : ∃ b, w8.heap.size = b := ⟨_, rfl⟩
  rw [hbLe] at hbL
  have HBL : Hid (w8.heap.size = bL) := hbLe
  have HWa : Hid (w8.alloc (.cells #[.slice vA cv.length vC, .string ⟨ci.toArray⟩, .bool chi, .string ⟨cs.toArray⟩, .bool chs, .slice aA ca.length aC, .bool cha, .string ⟨cj.toArray⟩, .bool chj, .bool ce1.has, .int .i64 ce1.at_, .bool ce2.has, .int .i64 ce2.at_, .bool ce3.has, .int .i64 ce3.at_, .slice vB cv.length vD, .string ⟨ci.toArray⟩, .bool chi, .string ⟨cs.toArray⟩, .bool chs, .slice aB ca.length aD, .bool cha, .string ⟨cj.toArray⟩, .bool chj, .bool ce1.has, .int .i64 ce1.at_, .bool ce2.has, .int .i64 ce2.at_, .bool ce3.has, .int .i64 ce3.at_] 28) = a) := ha
  have HLB : Hid (Bl 28 a bL [.slice vA cv.length vC, .string ⟨ci.toArray⟩, .bool chi, .string ⟨cs.toArray⟩, .bool chs, .slice aA ca.length aC, .bool cha, .string ⟨cj.toArray⟩, .bool chj, .bool ce1.has, .int .i64 ce1.at_, .bool ce2.has, .int .i64 ce2.at_, .bool ce3.has, .int .i64 ce3.at_, .slice vB cv.length vD, .string ⟨ci.toArray⟩, .bool chi, .string ⟨cs.toArray⟩, .bool chs, .slice aB ca.length aD, .bool cha, .string ⟨cj.toArray⟩, .bool chj, .bool ce1.has, .int .i64 ce1.at_, .bool ce2.has, .int .i64 ce2.at_, .bool ce3.has, .int .i64 ce3.at_]) := hbL
  have B8a : Hid (Below w8.heap.size w8 a) := hAa
  have p1 := bl_rng2 (HCB.out w8 (HBq5.out w8 B8.out))
  have p2 := bl_rng2 (HDB.out w8 B8.out)
  clear hw8 hA8 hbT hbTe htN htT hno hot hB ha hAa hbL hbLe
  go_upto_region 8 with fail
  rw [HBT.out, HW8.out]
  clear HBT HW8
  go_upto_region 9 with (first | (refine wpList_load_mid rfl 28 (.tmp 3) rfl bC 0 rfl [.slice vA cv.length vC, .string ⟨ci.toArray⟩, .bool chi, .string ⟨cs.toArray⟩, .bool chs, .slice aA ca.length aC, .bool cha, .string ⟨cj.toArray⟩, .bool chj, .bool ce1.has, .int .i64 ce1.at_, .bool ce2.has, .int .i64 ce2.at_, .bool ce3.has, .int .i64 ce3.at_] _ p1 Tryz.underlying28 rfl hcl ?_) | (refine wpList_load_mid rfl 28 (.tmp 5) rfl bD 0 rfl [.slice vB cv.length vD, .string ⟨ci.toArray⟩, .bool chi, .string ⟨cs.toArray⟩, .bool chs, .slice aB ca.length aD, .bool cha, .string ⟨cj.toArray⟩, .bool chj, .bool ce1.has, .int .i64 ce1.at_, .bool ce2.has, .int .i64 ce2.at_, .bool ce3.has, .int .i64 ce3.at_] _ p2 Tryz.underlying28 rfl hcl ?_) | fail)
  rw [HBL.out, HWa.out]
  clear HBL HWa p1 p2
  have B38 := HBq5.out w8 B8.out
  have B3a := B38.trans (B8a.out.mono B38.size)
  have B5a := B8.out.trans (B8a.out.mono B8.out.size)
  have NA : NO w.heap.size a (.slice vA cv.length vC) cv := own_below HvA.out B3a (Nat.le_refl _)
  have TA : OT w.heap.size a (.slice aA ca.length aC) ca := own_below HaA.out B3a (Nat.le_refl _)
  have NB : NO w3.heap.size a (.slice vB cv.length vD) cv := own_below HvB.out B5a (Nat.le_refl _)
  have TB : OT w3.heap.size a (.slice aB ca.length aD) ca := own_below HaB.out B5a (Nat.le_refl _)
  have NT : NO w6.heap.size a (.slice vT cv.length vU) cv := own_below HtN.out B8a.out (Nat.le_refl _)
  have TT : OT w6.heap.size a (.slice aT ca.length aU) ca := own_below HtT.out B8a.out (Nat.le_refl _)
  have BTa : Bl 28 a bT [.slice vT cv.length vU, .string ⟨ci.toArray⟩, .bool chi, .string ⟨cs.toArray⟩, .bool chs, .slice aT ca.length aU, .bool cha, .string ⟨cj.toArray⟩, .bool chj, .bool ce1.has, .int .i64 ce1.at_, .bool ce2.has, .int .i64 ce2.at_, .bool ce3.has, .int .i64 ce3.at_] := HTB.out.below B8a.out HTB.out.lt
  have hz : (w.heap.size ≤ w3.heap.size ∧ w3.heap.size ≤ w5.heap.size) ∧ w5.heap.size ≤ w6.heap.size ∧ w5.heap.size ≤ a.heap.size := ⟨⟨HB3.out.size, B5.out.size⟩, B6.out.size, B5a.size⟩
  have pA := World.ownsRow.lt HvA.out
  have pa := World.ownsRow.lt HaA.out
  have pB := World.ownsRow.lt HvB.out
  have pb := World.ownsRow.lt HaB.out
  have HLA : Hid ((∀ g, (Value.slice vA cv.length vC).ownBlock = some g → w.heap.size ≤ g) ∧ (∀ g, (Value.slice aA ca.length aC).ownBlock = some g → w.heap.size ≤ g)) := ⟨fun g hg => (pA g hg).1, fun g hg => (pa g hg).1⟩
  have HLB2 : Hid ((∀ g, (Value.slice vB cv.length vD).ownBlock = some g → w.heap.size ≤ g) ∧ (∀ g, (Value.slice aB ca.length aD).ownBlock = some g → w.heap.size ≤ g)) := ⟨fun g hg => Nat.le_trans hz.1.1 (pB g hg).1, fun g hg => Nat.le_trans hz.1.1 (pb g hg).1⟩
  have HSA : Hid (w.heap.size ≤ a.heap.size) := by show _ ≤ _; omega
  have HS0 : Hid (SP w a (.slice vA cv.length vC) (.slice aA ca.length aC) (.slice vB cv.length vD) (.slice aB ca.length aD) cv.length ca.length (.slice vA cv.length vC) (.slice aA ca.length aC) (.slice vB cv.length vD) (.slice aB ca.length aD) 0 0 0 0 (nCs (cv)) [] ((ca).map tV) [] (nCs (cv)) [] ((ca).map tV) [] (.slice none 0 0) (.slice none 0 0) [] [] a) := ⟨HBq.out a B3a, Nat.le_refl _, fun _ _ _ _ _ _ => rfl, ⟨own_dnS NA, by rw [List.append_nil]; exact own_dnS NA, own_dnS NB, by rw [List.append_nil]; exact own_dnS NB, fun g hg => by
    have h1 : (Value.slice vA cv.length vC).ownBlock = some g := hg.elim id id
    have h2 := pA g h1
    exact ⟨fun e => by have := pB g e; omega, fun e => by have := pB g e; omega⟩, .inl rfl, .inl rfl⟩, ⟨own_dnS TA, by rw [List.append_nil]; exact own_dnS TA, own_dnS TB, by rw [List.append_nil]; exact own_dnS TB, fun g hg => by
    have h1 : (Value.slice aA ca.length aC).ownBlock = some g := hg.elim id id
    have h2 := pa g h1
    exact ⟨fun e => by have := pb g e; omega, fun e => by have := pb g e; omega⟩, .inl rfl, .inl rfl⟩, World.ownsRow_nil _ _ _ _, World.ownsRow_nil _ _ _ _⟩
  have HLq : Hid (∀ wx, KZ a (.slice vA cv.length vC) (.slice aA ca.length aC) (.slice vB cv.length vD) (.slice aB ca.length aD) wx → Bl 28 wx bL [.slice vA cv.length vC, .string ⟨ci.toArray⟩, .bool chi, .string ⟨cs.toArray⟩, .bool chs, .slice aA ca.length aC, .bool cha, .string ⟨cj.toArray⟩, .bool chj, .bool ce1.has, .int .i64 ce1.at_, .bool ce2.has, .int .i64 ce2.at_, .bool ce3.has, .int .i64 ce3.at_, .slice vB cv.length vD, .string ⟨ci.toArray⟩, .bool chi, .string ⟨cs.toArray⟩, .bool chs, .slice aB ca.length aD, .bool cha, .string ⟨cj.toArray⟩, .bool chj, .bool ce1.has, .int .i64 ce1.at_, .bool ce2.has, .int .i64 ce2.at_, .bool ce3.has, .int .i64 ce3.at_]) := fun wx hk => by
    unfold Bl
    rw [hk bL HLB.out.lt (block_apart NA HLB.out (by decide)) (block_apart TA HLB.out (by decide)) (block_apart NB HLB.out (by decide)) (block_apart TB HLB.out (by decide))]
    exact HLB.out
  have HTq : Hid (∀ wx, KZ a (.slice vA cv.length vC) (.slice aA ca.length aC) (.slice vB cv.length vD) (.slice aB ca.length aD) wx → Bl 28 wx bT [.slice vT cv.length vU, .string ⟨ci.toArray⟩, .bool chi, .string ⟨cs.toArray⟩, .bool chs, .slice aT ca.length aU, .bool cha, .string ⟨cj.toArray⟩, .bool chj, .bool ce1.has, .int .i64 ce1.at_, .bool ce2.has, .int .i64 ce2.at_, .bool ce3.has, .int .i64 ce3.at_]) := fun wx hk => by
    unfold Bl
    rw [hk bT BTa.lt (block_apart NA BTa (by decide)) (block_apart TA BTa (by decide)) (block_apart NB BTa (by decide)) (block_apart TB BTa (by decide))]
    exact BTa
  have HNT : Hid (∀ wx, KZ a (.slice vA cv.length vC) (.slice aA ca.length aC) (.slice vB cv.length vD) (.slice aB ca.length aD) wx → NR wx (.slice vT cv.length vU) cv vT vU) := fun wx hk => by
    obtain ⟨x, y, hn⟩ := NO.nr (own_keep NT (fun g hg => by
      have h1 := (World.ownsRow.lt NT g hg)
      exact hk g h1.2 (fun e => by have := pA g e; omega) (fun e => by have := pa g e; omega) (fun e => by have := pB g e; omega) (fun e => by have := pb g e; omega)) : NO w6.heap.size wx (.slice vT cv.length vU) cv)
    have e := hn.val
    cases e
    exact hn
  have HTT : Hid (∀ wx, KZ a (.slice vA cv.length vC) (.slice aA ca.length aC) (.slice vB cv.length vD) (.slice aB ca.length aD) wx → TR wx (.slice aT ca.length aU) ca aT aU) := fun wx hk => by
    obtain ⟨x, y, e, hn⟩ := OT.tr (own_keep TT (fun g hg => by
      have h1 := (World.ownsRow.lt TT g hg)
      exact hk g h1.2 (fun e => by have := pA g e; omega) (fun e => by have := pa g e; omega) (fun e => by have := pB g e; omega) (fun e => by have := pb g e; omega)) : OT w6.heap.size wx (.slice aT ca.length aU) ca)
    cases e
    exact hn
  clear B38 B3a B5a NA TA NB TB NT TT BTa hz pA pa pB pb HvA HaA HvB HaB HtN HtT HTB HLB B8a B8 B6 B5 HBq5 HBq HB3 HcN HcT HCB HdN HdT HDB HnB
  go_wp2
  go_loopw [9] (fun s9 wx => (s9 = .int .i64 0 ∧ SP w a (.slice vA cv.length vC) (.slice aA ca.length aC) (.slice vB cv.length vD) (.slice aB ca.length aD) cv.length ca.length (.slice vA cv.length vC) (.slice aA ca.length aC) (.slice vB cv.length vD) (.slice aB ca.length aD) 0 0 0 0 (nCs (cv)) [] ((ca).map tV) [] (nCs (cv)) [] ((ca).map tV) [] (.slice none 0 0) (.slice none 0 0) [] [] wx) ∨ (s9 = .int .i64 1 ∧ SP w a (.slice vA cv.length vC) (.slice aA ca.length aC) (.slice vB cv.length vD) (.slice aB ca.length aD) cv.length ca.length (.slice vA cv.length vC) (.slice aA ca.length aC) (.slice vB cv.length vD) (.slice aB ca.length aD) 0 0 0 0 (nCs (List.replicate cv.length (iN 1000))) [] ((List.replicate ca.length [111, 110, 101]).map tV) [] (nCs (cv)) [] ((ca).map tV) [] (.slice none 0 0) (.slice none 0 0) [] [] wx) ∨ (s9 = .int .i64 2 ∧ SP w a (.slice vA cv.length vC) (.slice aA ca.length aC) (.slice vB cv.length vD) (.slice aB ca.length aD) cv.length ca.length (.slice vA cv.length vC) (.slice aA ca.length aC) (.slice vB cv.length vD) (.slice aB ca.length aD) 0 0 0 0 (nCs (List.replicate cv.length (iN 1000))) [] ((List.replicate ca.length [111, 110, 101]).map tV) [] (nCs (List.replicate cv.length (iN 1001))) [] ((List.replicate ca.length [116, 119, 111]).map tV) [] (.slice none 0 0) (.slice none 0 0) [] [] wx)) (fun s _ => 2 - (intOf s).toNat)
  case atStart => exact .inl ⟨rfl, HS0.out⟩
  case round =>
    clear HS0
    rcases hrel with ⟨rfl, hs⟩ | ⟨rfl, hs⟩ | ⟨rfl, hs⟩
    · as_aux_lemma =>
        have HS : Hid (SP w a (.slice vA cv.length vC) (.slice aA ca.length aC) (.slice vB cv.length vD) (.slice aB ca.length aD) cv.length ca.length (.slice vA cv.length vC) (.slice aA ca.length aC) (.slice vB cv.length vD) (.slice aB ca.length aD) 0 0 0 0 (nCs (cv)) [] ((ca).map tV) [] (nCs (cv)) [] ((ca).map tV) [] (.slice none 0 0) (.slice none 0 0) [] [] wr) := hs
        clear hs
        go_wp2
        go_loopw [10] (fun s10 wx => ∃ k : Nat, s10 = .int .i64 k ∧ k ≤ cv.length ∧ SP w a (.slice vA cv.length vC) (.slice aA ca.length aC) (.slice vB cv.length vD) (.slice aB ca.length aD) cv.length ca.length (.slice vA cv.length vC) (.slice aA ca.length aC) (.slice vB cv.length vD) (.slice aB ca.length aD) 0 0 0 0 (nCs (List.replicate k (iN 1000) ++ cv.drop k)) [] ((ca).map tV) [] (nCs (cv)) [] ((ca).map tV) [] (.slice none 0 0) (.slice none 0 0) [] [] wx) (fun s _ => cv.length - (intOf s).toNat)
        case atStart => exact ⟨0, rfl, Nat.zero_le _, HS.out⟩
        case round =>
          clear HS
          obtain ⟨k, rfl, hk, hs⟩ := hrel
          have kL := (HLq.out wr hs.blk).cell 0 (by simp)
          dsimp only [List.getElem_cons_zero, List.getElem_cons_succ] at kL
          by_cases hlt : k < cv.length
          · have q0 : decide ((k : Int) < (cv.length : Int)) = true := decide_eq_true (by omega)
            have q1 : (k : Int) < (cv.length : Int) := by omega
            have hs' := hs
            have hown := hs'.N.o1
            obtain ⟨g, rfl⟩ : ∃ g, vA = some ⟨g, 0, none⟩ := by
              obtain ⟨x, y, e, _, hg⟩ := own_slice hown
              cases e
              exact hg (by omega)
            rw [dropS hlt] at hown
            have hlen : (nCs (List.replicate k (iN 1000) ++ (cv.getD k (nd0 0) :: cv.drop (k + 1)))).length = cv.length * 6 := hown.1
            have hth : wr.there g (k * 6) 6 := own_there hown (by rw [hlen]; omega)
            have hst := own_setCells (nC (iN 1000)) _ (k * 6) wr hown
            have hsn := setL_node (List.replicate k (iN 1000)) (cv.getD k (nd0 0)) (iN 1000) (cv.drop (k + 1))
            rw [List.length_replicate] at hsn
            rw [hsn] at hst
            obtain ⟨wn, hwn⟩ : ∃ wn, wr.setCells g (k * 6) (nC (iN 1000)) = wn := ⟨_, rfl⟩
            rw [hwn] at hst
            have HSn : Hid (SP w a (.slice (some ⟨g, 0, none⟩) cv.length vC) (.slice aA ca.length aC) (.slice vB cv.length vD) (.slice aB ca.length aD) cv.length ca.length (.slice (some ⟨g, 0, none⟩) cv.length vC) (.slice aA ca.length aC) (.slice vB cv.length vD) (.slice aB ca.length aD) 0 0 0 0 (nCs (List.replicate (k + 1) (iN 1000) ++ cv.drop (k + 1))) [] ((ca).map tV) [] (nCs (cv)) [] ((ca).map tV) [] (.slice none 0 0) (.slice none 0 0) [] [] wn) := SP.putN hs' HLA.out.1 hst.2 (by
              have e : List.replicate (k + 1) (iN 1000) ++ cv.drop (k + 1) = List.replicate k (iN 1000) ++ (iN 1000 :: cv.drop (k + 1)) := by rw [List.replicate_succ', List.append_assoc]; rfl
              rw [e]
              exact hst.1)
            have HTh : Hid (wr.there g (k * 6) 6) := hth
            have hinf : (Tryz.prog.info? 37).map (·.size) = some 6 := by kernel_rfl
            have HW : Hid (wr.setCells g (k * 6) (#[.int .i64 0, .string ⟨#[]⟩, .string ⟨#[]⟩, .bool false, .int .i64 1000, .int .i64 0] : Array Value).toList = wn) := hwn
            clear hs hs' hown hlen hth hst hsn hwn
            go_wp2_with (refine wpList_store_mid rfl 37 (.tmp 74) (.tmp 73) rfl g (k * 6) #[.int .i64 0, .string ⟨#[]⟩, .string ⟨#[]⟩, .bool false, .int .i64 1000, .int .i64 0] rfl (by first | rfl | simp) HTh.out hinf (by simp [Value.oneCell']) ?_; rw [HW.out]; clear HW HTh hinf)
            go_roundw
            case rel => exact ⟨k + 1, by go_num, by omega, HSn.out⟩
            case measure => simp [intOf]; omega
          · have q0 : decide ((k : Int) < (cv.length : Int)) = false := decide_eq_false (by omega)
            obtain rfl : k = cv.length := by omega
            have HS : Hid (SP w a (.slice vA cv.length vC) (.slice aA ca.length aC) (.slice vB cv.length vD) (.slice aB ca.length aD) cv.length ca.length (.slice vA cv.length vC) (.slice aA ca.length aC) (.slice vB cv.length vD) (.slice aB ca.length aD) 0 0 0 0 (nCs (List.replicate cv.length (iN 1000))) [] ((ca).map tV) [] (nCs (cv)) [] ((ca).map tV) [] (.slice none 0 0) (.slice none 0 0) [] [] wr) := by
              rw [List.drop_length, List.append_nil] at hs
              exact hs
            clear hs
            go_wp2
            clear kL q0 hlt hk
            go_loopw [11] (fun s11 wx => ∃ k : Nat, s11 = .int .i64 k ∧ k ≤ ca.length ∧ SP w a (.slice vA cv.length vC) (.slice aA ca.length aC) (.slice vB cv.length vD) (.slice aB ca.length aD) cv.length ca.length (.slice vA cv.length vC) (.slice aA ca.length aC) (.slice vB cv.length vD) (.slice aB ca.length aD) 0 0 0 0 (nCs (List.replicate cv.length (iN 1000))) [] ((List.replicate k [111, 110, 101] ++ ca.drop k).map tV) [] (nCs (cv)) [] ((ca).map tV) [] (.slice none 0 0) (.slice none 0 0) [] [] wx) (fun s _ => ca.length - (intOf s).toNat)
            case atStart => exact ⟨0, rfl, Nat.zero_le _, HS.out⟩
            case round =>
              clear HS
              obtain ⟨k, rfl, hk, hs⟩ := hrel
              have kL := (HLq.out wr hs.blk).cell 5 (by simp)
              dsimp only [List.getElem_cons_zero, List.getElem_cons_succ] at kL
              by_cases hlt : k < ca.length
              · have q0 : decide ((k : Int) < (ca.length : Int)) = true := decide_eq_true (by omega)
                have q1 : (k : Int) < (ca.length : Int) := by omega
                have hs' := hs
                have hown := hs'.T.o1
                obtain ⟨g, rfl⟩ : ∃ g, aA = some ⟨g, 0, none⟩ := by
                  obtain ⟨x, y, e, _, hg⟩ := own_slice hown
                  cases e
                  exact hg (by omega)
                obtain ⟨old, kx, kf⟩ : ∃ o : List UInt8, wr.cell? ⟨g, k, none⟩ = some (.string ⟨o.toArray⟩) ∧ wr.frozen? ⟨g, k, none⟩ = false := by
                  have hl : k < ((List.replicate k [111, 110, 101] ++ ca.drop k).map tV).length := by rw [hown.1]; omega
                  obtain ⟨c1, c2⟩ := own_cell hown k _ (List.getElem?_eq_getElem hl)
                  rw [List.getElem_map] at c1
                  exact ⟨_, c1, c2⟩
                have hX := alloc_below wr (.cells #[.string ⟨#[111, 110, 101]⟩, .string ⟨#[116, 119, 111]⟩] 9)
                have hsX := hs.below hX
                have kL2 := (HLq.out _ hsX.blk).cell 5 (by simp)
                dsimp only [List.getElem_cons_zero, List.getElem_cons_succ] at kL2
                obtain ⟨kx2, kf2⟩ : (wr.alloc (.cells #[.string ⟨#[111, 110, 101]⟩, .string ⟨#[116, 119, 111]⟩] 9)).cell? ⟨g, k, none⟩ = some (.string ⟨old.toArray⟩) ∧ (wr.alloc (.cells #[.string ⟨#[111, 110, 101]⟩, .string ⟨#[116, 119, 111]⟩] 9)).frozen? ⟨g, k, none⟩ = false := by
                  have hl : k < ((List.replicate k [111, 110, 101] ++ ca.drop k).map tV).length := by rw [hown.1]; omega
                  obtain ⟨c1, c2⟩ := own_cell hsX.T.o1 k _ (List.getElem?_eq_getElem hl)
                  obtain ⟨c3, _⟩ := own_cell hown k _ (List.getElem?_eq_getElem hl)
                  rw [kx] at c3
                  rw [← c3] at c1
                  exact ⟨c1, c2⟩
                have hst := World.ownsRow.stored hsX.T.o1 k (tV [111, 110, 101])
                have HSn : Hid (SP w a (.slice vA cv.length vC) (.slice (some ⟨g, 0, none⟩) ca.length aC) (.slice vB cv.length vD) (.slice aB ca.length aD) cv.length ca.length (.slice vA cv.length vC) (.slice (some ⟨g, 0, none⟩) ca.length aC) (.slice vB cv.length vD) (.slice aB ca.length aD) 0 0 0 0 (nCs (List.replicate cv.length (iN 1000))) [] ((List.replicate (k + 1) [111, 110, 101] ++ ca.drop (k + 1)).map tV) [] (nCs (cv)) [] ((ca).map tV) [] (.slice none 0 0) (.slice none 0 0) [] [] (((wr.alloc (.cells #[.string ⟨#[111, 110, 101]⟩, .string ⟨#[116, 119, 111]⟩] 9)).setCell ⟨g, k, none⟩ (.string ⟨#[111, 110, 101]⟩)).drew)) := (SP.putT hsX HLA.out.2 hst.2 (by
                  have e : (List.replicate (k + 1) [111, 110, 101] ++ ca.drop (k + 1)).map tV = ((List.replicate k [111, 110, 101] ++ ca.drop k).map tV).set k (tV [111, 110, 101]) := (repS_set hlt).symm
                  rw [e]
                  exact hst.1)).below (below_drewN (Below.refl _ _) 1)
                clear hs hs' hown hX hsX hst
                go_wp2
                go_region
                go_wp2
                go_roundw
                case rel => exact ⟨k + 1, by go_num, by omega, HSn.out⟩
                case measure => simp [intOf]; omega
              · have q0 : decide ((k : Int) < (ca.length : Int)) = false := decide_eq_false (by omega)
                obtain rfl : k = ca.length := by omega
                have HS : Hid (SP w a (.slice vA cv.length vC) (.slice aA ca.length aC) (.slice vB cv.length vD) (.slice aB ca.length aD) cv.length ca.length (.slice vA cv.length vC) (.slice aA ca.length aC) (.slice vB cv.length vD) (.slice aB ca.length aD) 0 0 0 0 (nCs (List.replicate cv.length (iN 1000))) [] ((List.replicate ca.length [111, 110, 101]).map tV) [] (nCs (cv)) [] ((ca).map tV) [] (.slice none 0 0) (.slice none 0 0) [] [] wr) := by
                  rw [List.drop_length, List.append_nil] at hs
                  exact hs
                clear hs hk hlt
                go_wp2
                go_roundw
                case rel => exact .inr (.inl ⟨by go_num, HS.out⟩)
                case measure => simp [intOf]
    · as_aux_lemma =>
        have HS : Hid (SP w a (.slice vA cv.length vC) (.slice aA ca.length aC) (.slice vB cv.length vD) (.slice aB ca.length aD) cv.length ca.length (.slice vA cv.length vC) (.slice aA ca.length aC) (.slice vB cv.length vD) (.slice aB ca.length aD) 0 0 0 0 (nCs (List.replicate cv.length (iN 1000))) [] ((List.replicate ca.length [111, 110, 101]).map tV) [] (nCs (cv)) [] ((ca).map tV) [] (.slice none 0 0) (.slice none 0 0) [] [] wr) := hs
        clear hs
        go_wp2
        go_loopw [10] (fun s10 wx => ∃ k : Nat, s10 = .int .i64 k ∧ k ≤ cv.length ∧ SP w a (.slice vA cv.length vC) (.slice aA ca.length aC) (.slice vB cv.length vD) (.slice aB ca.length aD) cv.length ca.length (.slice vA cv.length vC) (.slice aA ca.length aC) (.slice vB cv.length vD) (.slice aB ca.length aD) 0 0 0 0 (nCs (List.replicate cv.length (iN 1000))) [] ((List.replicate ca.length [111, 110, 101]).map tV) [] (nCs (List.replicate k (iN 1001) ++ cv.drop k)) [] ((ca).map tV) [] (.slice none 0 0) (.slice none 0 0) [] [] wx) (fun s _ => cv.length - (intOf s).toNat)
        case atStart => exact ⟨0, rfl, Nat.zero_le _, HS.out⟩
        case round =>
          clear HS
          obtain ⟨k, rfl, hk, hs⟩ := hrel
          have kL := (HLq.out wr hs.blk).cell 15 (by simp)
          dsimp only [List.getElem_cons_zero, List.getElem_cons_succ] at kL
          by_cases hlt : k < cv.length
          · have q0 : decide ((k : Int) < (cv.length : Int)) = true := decide_eq_true (by omega)
            have q1 : (k : Int) < (cv.length : Int) := by omega
            have hs' := hs.swap
            have hown := hs'.N.o1
            obtain ⟨g, rfl⟩ : ∃ g, vB = some ⟨g, 0, none⟩ := by
              obtain ⟨x, y, e, _, hg⟩ := own_slice hown
              cases e
              exact hg (by omega)
            rw [dropS hlt] at hown
            have hlen : (nCs (List.replicate k (iN 1001) ++ (cv.getD k (nd0 0) :: cv.drop (k + 1)))).length = cv.length * 6 := hown.1
            have hth : wr.there g (k * 6) 6 := own_there hown (by rw [hlen]; omega)
            have hst := own_setCells (nC (iN 1001)) _ (k * 6) wr hown
            have hsn := setL_node (List.replicate k (iN 1001)) (cv.getD k (nd0 0)) (iN 1001) (cv.drop (k + 1))
            rw [List.length_replicate] at hsn
            rw [hsn] at hst
            obtain ⟨wn, hwn⟩ : ∃ wn, wr.setCells g (k * 6) (nC (iN 1001)) = wn := ⟨_, rfl⟩
            rw [hwn] at hst
            have HSn : Hid (SP w a (.slice vA cv.length vC) (.slice aA ca.length aC) (.slice (some ⟨g, 0, none⟩) cv.length vD) (.slice aB ca.length aD) cv.length ca.length (.slice vA cv.length vC) (.slice aA ca.length aC) (.slice (some ⟨g, 0, none⟩) cv.length vD) (.slice aB ca.length aD) 0 0 0 0 (nCs (List.replicate cv.length (iN 1000))) [] ((List.replicate ca.length [111, 110, 101]).map tV) [] (nCs (List.replicate (k + 1) (iN 1001) ++ cv.drop (k + 1))) [] ((ca).map tV) [] (.slice none 0 0) (.slice none 0 0) [] [] wn) := SP.swap (SP.putN hs' HLB2.out.1 hst.2 (by
              have e : List.replicate (k + 1) (iN 1001) ++ cv.drop (k + 1) = List.replicate k (iN 1001) ++ (iN 1001 :: cv.drop (k + 1)) := by rw [List.replicate_succ', List.append_assoc]; rfl
              rw [e]
              exact hst.1))
            have HTh : Hid (wr.there g (k * 6) 6) := hth
            have hinf : (Tryz.prog.info? 37).map (·.size) = some 6 := by kernel_rfl
            have HW : Hid (wr.setCells g (k * 6) (#[.int .i64 0, .string ⟨#[]⟩, .string ⟨#[]⟩, .bool false, .int .i64 1001, .int .i64 0] : Array Value).toList = wn) := hwn
            clear hs hs' hown hlen hth hst hsn hwn
            go_wp2_with (refine wpList_store_mid rfl 37 (.tmp 74) (.tmp 73) rfl g (k * 6) #[.int .i64 0, .string ⟨#[]⟩, .string ⟨#[]⟩, .bool false, .int .i64 1001, .int .i64 0] rfl (by first | rfl | simp) HTh.out hinf (by simp [Value.oneCell']) ?_; rw [HW.out]; clear HW HTh hinf)
            go_roundw
            case rel => exact ⟨k + 1, by go_num, by omega, HSn.out⟩
            case measure => simp [intOf]; omega
          · have q0 : decide ((k : Int) < (cv.length : Int)) = false := decide_eq_false (by omega)
            obtain rfl : k = cv.length := by omega
            have HS : Hid (SP w a (.slice vA cv.length vC) (.slice aA ca.length aC) (.slice vB cv.length vD) (.slice aB ca.length aD) cv.length ca.length (.slice vA cv.length vC) (.slice aA ca.length aC) (.slice vB cv.length vD) (.slice aB ca.length aD) 0 0 0 0 (nCs (List.replicate cv.length (iN 1000))) [] ((List.replicate ca.length [111, 110, 101]).map tV) [] (nCs (List.replicate cv.length (iN 1001))) [] ((ca).map tV) [] (.slice none 0 0) (.slice none 0 0) [] [] wr) := by
              rw [List.drop_length, List.append_nil] at hs
              exact hs
            clear hs
            go_wp2
            clear kL q0 hlt hk
            go_loopw [11] (fun s11 wx => ∃ k : Nat, s11 = .int .i64 k ∧ k ≤ ca.length ∧ SP w a (.slice vA cv.length vC) (.slice aA ca.length aC) (.slice vB cv.length vD) (.slice aB ca.length aD) cv.length ca.length (.slice vA cv.length vC) (.slice aA ca.length aC) (.slice vB cv.length vD) (.slice aB ca.length aD) 0 0 0 0 (nCs (List.replicate cv.length (iN 1000))) [] ((List.replicate ca.length [111, 110, 101]).map tV) [] (nCs (List.replicate cv.length (iN 1001))) [] ((List.replicate k [116, 119, 111] ++ ca.drop k).map tV) [] (.slice none 0 0) (.slice none 0 0) [] [] wx) (fun s _ => ca.length - (intOf s).toNat)
            case atStart => exact ⟨0, rfl, Nat.zero_le _, HS.out⟩
            case round =>
              clear HS
              obtain ⟨k, rfl, hk, hs⟩ := hrel
              have kL := (HLq.out wr hs.blk).cell 20 (by simp)
              dsimp only [List.getElem_cons_zero, List.getElem_cons_succ] at kL
              by_cases hlt : k < ca.length
              · have q0 : decide ((k : Int) < (ca.length : Int)) = true := decide_eq_true (by omega)
                have q1 : (k : Int) < (ca.length : Int) := by omega
                have hs' := hs.swap
                have hown := hs'.T.o1
                obtain ⟨g, rfl⟩ : ∃ g, aB = some ⟨g, 0, none⟩ := by
                  obtain ⟨x, y, e, _, hg⟩ := own_slice hown
                  cases e
                  exact hg (by omega)
                obtain ⟨old, kx, kf⟩ : ∃ o : List UInt8, wr.cell? ⟨g, k, none⟩ = some (.string ⟨o.toArray⟩) ∧ wr.frozen? ⟨g, k, none⟩ = false := by
                  have hl : k < ((List.replicate k [116, 119, 111] ++ ca.drop k).map tV).length := by rw [hown.1]; omega
                  obtain ⟨c1, c2⟩ := own_cell hown k _ (List.getElem?_eq_getElem hl)
                  rw [List.getElem_map] at c1
                  exact ⟨_, c1, c2⟩
                have hX := alloc_below wr (.cells #[.string ⟨#[111, 110, 101]⟩, .string ⟨#[116, 119, 111]⟩] 9)
                have hsX := hs.below hX
                have kL2 := (HLq.out _ hsX.blk).cell 20 (by simp)
                dsimp only [List.getElem_cons_zero, List.getElem_cons_succ] at kL2
                obtain ⟨kx2, kf2⟩ : (wr.alloc (.cells #[.string ⟨#[111, 110, 101]⟩, .string ⟨#[116, 119, 111]⟩] 9)).cell? ⟨g, k, none⟩ = some (.string ⟨old.toArray⟩) ∧ (wr.alloc (.cells #[.string ⟨#[111, 110, 101]⟩, .string ⟨#[116, 119, 111]⟩] 9)).frozen? ⟨g, k, none⟩ = false := by
                  have hl : k < ((List.replicate k [116, 119, 111] ++ ca.drop k).map tV).length := by rw [hown.1]; omega
                  obtain ⟨c1, c2⟩ := own_cell hsX.swap.T.o1 k _ (List.getElem?_eq_getElem hl)
                  obtain ⟨c3, _⟩ := own_cell hown k _ (List.getElem?_eq_getElem hl)
                  rw [kx] at c3
                  rw [← c3] at c1
                  exact ⟨c1, c2⟩
                have hst := World.ownsRow.stored hsX.swap.T.o1 k (tV [116, 119, 111])
                have HSn : Hid (SP w a (.slice vA cv.length vC) (.slice aA ca.length aC) (.slice vB cv.length vD) (.slice (some ⟨g, 0, none⟩) ca.length aD) cv.length ca.length (.slice vA cv.length vC) (.slice aA ca.length aC) (.slice vB cv.length vD) (.slice (some ⟨g, 0, none⟩) ca.length aD) 0 0 0 0 (nCs (List.replicate cv.length (iN 1000))) [] ((List.replicate ca.length [111, 110, 101]).map tV) [] (nCs (List.replicate cv.length (iN 1001))) [] ((List.replicate (k + 1) [116, 119, 111] ++ ca.drop (k + 1)).map tV) [] (.slice none 0 0) (.slice none 0 0) [] [] (((wr.alloc (.cells #[.string ⟨#[111, 110, 101]⟩, .string ⟨#[116, 119, 111]⟩] 9)).setCell ⟨g, k, none⟩ (.string ⟨#[116, 119, 111]⟩)).drew)) := (SP.swap (SP.putT hsX.swap HLB2.out.2 hst.2 (by
                  have e : (List.replicate (k + 1) [116, 119, 111] ++ ca.drop (k + 1)).map tV = ((List.replicate k [116, 119, 111] ++ ca.drop k).map tV).set k (tV [116, 119, 111]) := (repS_set hlt).symm
                  rw [e]
                  exact hst.1))).below (below_drewN (Below.refl _ _) 1)
                clear hs hs' hown hX hsX hst
                go_wp2
                go_region
                go_wp2
                go_roundw
                case rel => exact ⟨k + 1, by go_num, by omega, HSn.out⟩
                case measure => simp [intOf]; omega
              · have q0 : decide ((k : Int) < (ca.length : Int)) = false := decide_eq_false (by omega)
                obtain rfl : k = ca.length := by omega
                have HS : Hid (SP w a (.slice vA cv.length vC) (.slice aA ca.length aC) (.slice vB cv.length vD) (.slice aB ca.length aD) cv.length ca.length (.slice vA cv.length vC) (.slice aA ca.length aC) (.slice vB cv.length vD) (.slice aB ca.length aD) 0 0 0 0 (nCs (List.replicate cv.length (iN 1000))) [] ((List.replicate ca.length [111, 110, 101]).map tV) [] (nCs (List.replicate cv.length (iN 1001))) [] ((List.replicate ca.length [116, 119, 111]).map tV) [] (.slice none 0 0) (.slice none 0 0) [] [] wr) := by
                  rw [List.drop_length, List.append_nil] at hs
                  exact hs
                clear hs hk hlt
                go_wp2
                go_roundw
                case rel => exact .inr (.inr ⟨by go_num, HS.out⟩)
                case measure => simp [intOf]
    · have HS : Hid (SP w a (.slice vA cv.length vC) (.slice aA ca.length aC) (.slice vB cv.length vD) (.slice aB ca.length aD) cv.length ca.length (.slice vA cv.length vC) (.slice aA ca.length aC) (.slice vB cv.length vD) (.slice aB ca.length aD) 0 0 0 0 (nCs (List.replicate cv.length (iN 1000))) [] ((List.replicate ca.length [111, 110, 101]).map tV) [] (nCs (List.replicate cv.length (iN 1001))) [] ((List.replicate ca.length [116, 119, 111]).map tV) [] (.slice none 0 0) (.slice none 0 0) [] [] wr) := hs
      clear hs
      go_wp2
      go_loopw [12, 13, 14] (fun s12 s13 s14 wx => (s14 = .int .i64 0 ∧ s12 = .slice none 0 0 ∧ s13 = .slice none 0 0 ∧ SP w a (.slice vA cv.length vC) (.slice aA ca.length aC) (.slice vB cv.length vD) (.slice aB ca.length aD) cv.length ca.length (.slice vA cv.length vC) (.slice aA ca.length aC) (.slice vB cv.length vD) (.slice aB ca.length aD) 0 0 0 0 (nCs (List.replicate cv.length (iN 1000))) [] ((List.replicate ca.length [111, 110, 101]).map tV) [] (nCs (List.replicate cv.length (iN 1001))) [] ((List.replicate ca.length [116, 119, 111]).map tV) [] (.slice none 0 0) (.slice none 0 0) [] [] wx) ∨ (s14 = .int .i64 1 ∧ ∃ ga gc ha hc na nc ta tc, s12 = .slice na 1 nc ∧ s13 = .slice ta 1 tc ∧ SP w a (.slice vA cv.length vC) (.slice aA ca.length aC) (.slice vB cv.length vD) (.slice aB ca.length aD) cv.length ca.length (.slice ga (cv.length + 70) gc) (.slice ha (ca.length + 70) hc) (.slice vB cv.length vD) (.slice aB ca.length aD) 70 70 0 0 (nCs (List.replicate cv.length (iN 1000))) (nCs (List.replicate 70 (iN 5000))) ((List.replicate ca.length [111, 110, 101]).map tV) ((List.replicate 70 [116, 104, 114, 101, 101]).map tV) (nCs (List.replicate cv.length (iN 1001))) [] ((List.replicate ca.length [116, 119, 111]).map tV) [] (.slice na 1 nc) (.slice ta 1 tc) [.slice ga (cv.length + 70) gc] [.slice ha (ca.length + 70) hc] wx) ∨ (s14 = .int .i64 2 ∧ ∃ ga gc ha hc gb gd hb hd na nc ta tc, s12 = .slice na 2 nc ∧ s13 = .slice ta 2 tc ∧ SP w a (.slice vA cv.length vC) (.slice aA ca.length aC) (.slice vB cv.length vD) (.slice aB ca.length aD) cv.length ca.length (.slice ga (cv.length + 70) gc) (.slice ha (ca.length + 70) hc) (.slice gb (cv.length + 70) gd) (.slice hb (ca.length + 70) hd) 70 70 70 70 (nCs (List.replicate cv.length (iN 1000))) (nCs (List.replicate 70 (iN 5000))) ((List.replicate ca.length [111, 110, 101]).map tV) ((List.replicate 70 [116, 104, 114, 101, 101]).map tV) (nCs (List.replicate cv.length (iN 1001))) (nCs (List.replicate 70 (iN 5001))) ((List.replicate ca.length [116, 119, 111]).map tV) ((List.replicate 70 [102, 111, 117, 114]).map tV) (.slice na 2 nc) (.slice ta 2 tc) [.slice ga (cv.length + 70) gc, .slice gb (cv.length + 70) gd] [.slice ha (ca.length + 70) hc, .slice hb (ca.length + 70) hd] wx)) (fun _ _ s _ => 2 - (intOf s).toNat)
      case atStart => exact .inl ⟨rfl, rfl, rfl, HS.out⟩
      case round =>
        clear HS
        rcases hrel with ⟨rfl, rfl, rfl, hs⟩ | ⟨rfl, hs⟩ | ⟨rfl, hs⟩
        · have HS : Hid (SP w a (.slice vA cv.length vC) (.slice aA ca.length aC) (.slice vB cv.length vD) (.slice aB ca.length aD) cv.length ca.length (.slice vA cv.length vC) (.slice aA ca.length aC) (.slice vB cv.length vD) (.slice aB ca.length aD) 0 0 0 0 (nCs (List.replicate cv.length (iN 1000))) [] ((List.replicate ca.length [111, 110, 101]).map tV) [] (nCs (List.replicate cv.length (iN 1001))) [] ((List.replicate ca.length [116, 119, 111]).map tV) [] (.slice none 0 0) (.slice none 0 0) [] [] wr) := hs
          have kL := (HLq.out wr hs.blk).cell 0 (by simp)
          have kM := (HLq.out wr hs.blk).cell 5 (by simp)
          dsimp only [List.getElem_cons_zero, List.getElem_cons_succ] at kL kM
          clear hs
          go_wp2
          clear kL kM
          go_loopw [15, 16, 17] (fun s15 s16 s17 wx => ∃ j : Nat, s17 = .int .i64 j ∧ j ≤ 70 ∧ SP w a (.slice vA cv.length vC) (.slice aA ca.length aC) (.slice vB cv.length vD) (.slice aB ca.length aD) cv.length ca.length s15 s16 (.slice vB cv.length vD) (.slice aB ca.length aD) j j 0 0 (nCs (List.replicate cv.length (iN 1000))) (nCs (List.replicate j (iN 5000))) ((List.replicate ca.length [111, 110, 101]).map tV) ((List.replicate j [116, 104, 114, 101, 101]).map tV) (nCs (List.replicate cv.length (iN 1001))) [] ((List.replicate ca.length [116, 119, 111]).map tV) [] (.slice none 0 0) (.slice none 0 0) [] [] wx) (fun _ _ s _ => 70 - (intOf s).toNat)
          case atStart => exact ⟨0, rfl, Nat.zero_le _, HS.out⟩
          case round =>
            clear HS
            obtain ⟨j, rfl, hj, hs⟩ := hrel
            obtain ⟨xa, xc, rfl, _, _⟩ := own_slice hs.N.g1
            obtain ⟨ya, yc, rfl, _, _⟩ := own_slice hs.T.g1
            by_cases hj7 : j < 70
            · have q1 : decide ((j : Int) < 70) = true := decide_eq_true (by omega)
              have q1b : (j : Int) < 70 := by omega
              have hcl1 := hcb2.1
              have hcl2 := hcb2.2
              obtain ⟨v', w', hrun, h1⟩ := SP.pushN hs HSA.out HLA.out.1 (iN 5000) (by omega)
              obtain ⟨X, hX⟩ : ∃ X, wr.alloc (.cells #[.int .i64 0, .string ⟨#[]⟩, .string ⟨#[]⟩, .bool false, .int .i64 5000, .int .i64 0] 37) = X := ⟨_, rfl⟩
              have hrun1 : ∀ ty, (Builtin.append_ #[23, 23] ty #[.slice xa (cv.length + j) xc, .slice (some ⟨wr.heap.size, 0, none⟩) 1 1]).run Tryz.prog X = .ok v' w' := fun ty => by rw [← hX]; exact hrun
              obtain ⟨za, zc, rfl, _, _⟩ := own_slice h1.N.g1
              obtain ⟨Y, hY⟩ : ∃ Y, w'.alloc (.cells #[.string ⟨#[116, 104, 114, 101, 101]⟩, .string ⟨#[102, 111, 117, 114]⟩] 9) = Y := ⟨_, rfl⟩
              have h1b := h1.below (alloc_below w' (.cells #[.string ⟨#[116, 104, 114, 101, 101]⟩, .string ⟨#[102, 111, 117, 114]⟩] 9))
              have hY0 : Y.cell? ⟨w'.heap.size, 0, none⟩ = some (.string ⟨#[116, 104, 114, 101, 101]⟩) := by rw [← hY]; exact (alloc_bl w' [.string ⟨#[116, 104, 114, 101, 101]⟩, .string ⟨#[102, 111, 117, 114]⟩] 9).cell 0 (by simp)
              rw [hY] at h1b
              obtain ⟨t', w'', hrunT, h2⟩ := SP.pushT h1b HSA.out HLA.out.2 [116, 104, 114, 101, 101] (by omega)
              obtain ⟨Z, hZ⟩ : ∃ Z, Y.alloc (.cells #[.string ⟨#[116, 104, 114, 101, 101]⟩] 9) = Z := ⟨_, rfl⟩
              have hrunT1 : ∀ ty, (Builtin.append_ #[24, 24] ty #[.slice ya (ca.length + j) yc, .slice (some ⟨Y.heap.size, 0, none⟩) 1 1]).run Tryz.prog Z = .ok t' w'' := fun ty => by rw [← hZ]; exact hrunT
              have hs1 : Y.heap.size = w'.heap.size + 1 := by rw [← hY, World.size_alloc]
              rw [hs1] at hrunT1
              clear hs1
              have HSn : Hid (SP w a (.slice vA cv.length vC) (.slice aA ca.length aC) (.slice vB cv.length vD) (.slice aB ca.length aD) cv.length ca.length (.slice za (cv.length + (j + 1)) zc) t' (.slice vB cv.length vD) (.slice aB ca.length aD) (j + 1) (j + 1) 0 0 (nCs (List.replicate cv.length (iN 1000))) (nCs (List.replicate (j + 1) (iN 5000))) ((List.replicate ca.length [111, 110, 101]).map tV) ((List.replicate (j + 1) [116, 104, 114, 101, 101]).map tV) (nCs (List.replicate cv.length (iN 1001))) [] ((List.replicate ca.length [116, 119, 111]).map tV) [] (.slice none 0 0) (.slice none 0 0) [] [] w'') := (by
                rw [nRepS, tRepS]
                exact h2)
              have HR1 := (show Hid _ from hrun1)
              have HR2 := (show Hid _ from hrunT1)
              have HY := (show Hid _ from hY)
              have HZ := (show Hid _ from hZ)
              have HX := (show Hid _ from hX)
              have HY0 := (show Hid _ from hY0)
              clear hs h1 h1b h2 hrun hrun1 hrunT hrunT1 hX hY hZ hY0 hcl1 hcl2
              go_upto_region 31 with (at_builtin; rw [HX.out]; clear HX; refine wpList_append_runS rfl (.tmp 116) (.tmp 120) 23 rfl _ _ _ w' rfl rfl (HR1.out _) ?_; clear HR1)
              go_upto_region 29 with (first | (at_builtin; rw [HY.out, HZ.out]; clear HY HZ; refine wpList_append_runS rfl (.tmp 122) (.tmp 127) 24 rfl _ _ t' w'' rfl rfl (HR2.out _) ?_; clear HR2) | fail)
              go_wp2
              go_roundw
              case rel => exact ⟨j + 1, by go_num, by omega, HSn.out⟩
              case measure => simp [intOf]; omega
            · have q1 : decide ((j : Int) < 70) = false := decide_eq_false (by omega)
              obtain rfl : j = 70 := by omega
              obtain ⟨vN, wN, hrN, h3⟩ := SP.addN hs HSA.out xa (cv.length + 70) xc (by simp)
              simp only [List.nil_append] at h3
              obtain ⟨nb, nd, e5, _, _⟩ := own_slice h3.ns
              have e6 : vN = .slice nb 1 nd := e5
              subst e6
              obtain ⟨XN, hXN⟩ : ∃ x, wr.alloc (.cells #[.slice xa (cv.length + 70) xc] 23) = x := ⟨_, rfl⟩
              have hrN1 : ∀ ty, (Builtin.append_ #[38, 38] ty #[.slice none 0 0, .slice (some ⟨wr.heap.size, 0, none⟩) 1 1]).run Tryz.prog XN = .ok (.slice nb 1 nd) wN := fun ty => by rw [← hXN]; exact hrN
              obtain ⟨vT2, wT, hrT, h4⟩ := SP.addT h3 HSA.out ya (ca.length + 70) yc (by simp)
              simp only [List.nil_append] at h4
              obtain ⟨tb, td, e7, _, _⟩ := own_slice h4.ts
              have e8 : vT2 = .slice tb 1 td := e7
              subst e8
              obtain ⟨XT, hXT⟩ : ∃ x, wN.alloc (.cells #[.slice ya (ca.length + 70) yc] 24) = x := ⟨_, rfl⟩
              have hrT1 : ∀ ty, (Builtin.append_ #[39, 39] ty #[.slice none 0 0, .slice (some ⟨wN.heap.size, 0, none⟩) 1 1]).run Tryz.prog XT = .ok (.slice tb 1 td) wT := fun ty => by rw [← hXT]; exact hrT
              have HSn : Hid (SP w a (.slice vA cv.length vC) (.slice aA ca.length aC) (.slice vB cv.length vD) (.slice aB ca.length aD) cv.length ca.length (.slice xa (cv.length + 70) xc) (.slice ya (ca.length + 70) yc) (.slice vB cv.length vD) (.slice aB ca.length aD) 70 70 0 0 (nCs (List.replicate cv.length (iN 1000))) (nCs (List.replicate 70 (iN 5000))) ((List.replicate ca.length [111, 110, 101]).map tV) ((List.replicate 70 [116, 104, 114, 101, 101]).map tV) (nCs (List.replicate cv.length (iN 1001))) [] ((List.replicate ca.length [116, 119, 111]).map tV) [] (.slice nb 1 nd) (.slice tb 1 td) [.slice xa (cv.length + 70) xc] [.slice ya (ca.length + 70) yc] wT) := h4
              have HRN := (show Hid _ from hrN1)
              have HRT := (show Hid _ from hrT1)
              have HXN := (show Hid _ from hXN)
              have HXT := (show Hid _ from hXT)
              clear hs h3 h4 hrN hrT hrN1 hrT1 hXN hXT e5 e7
              go_upto_region 33 with (at_builtin; rw [HXN.out]; clear HXN; refine wpList_append_runS rfl (.tmp 129) (.tmp 131) 38 rfl _ _ _ wN rfl rfl (HRN.out _) ?_; clear HRN)
              go_upto_region 24 with (at_builtin; rw [HXT.out]; clear HXT; refine wpList_append_runS rfl (.tmp 133) (.tmp 135) 39 rfl _ _ _ wT rfl rfl (HRT.out _) ?_; clear HRT)
              go_wp2
              go_roundw
              case rel => exact .inr (.inl ⟨by go_num, xa, xc, ya, yc, nb, nd, tb, td, rfl, rfl, HSn.out⟩)
              case measure => simp [intOf]
        · obtain ⟨ga, gc, ha, hc, na, nc, ta, tc, rfl, rfl, hs⟩ := hs
          have HS : Hid (SP w a (.slice vA cv.length vC) (.slice aA ca.length aC) (.slice vB cv.length vD) (.slice aB ca.length aD) cv.length ca.length (.slice ga (cv.length + 70) gc) (.slice ha (ca.length + 70) hc) (.slice vB cv.length vD) (.slice aB ca.length aD) 70 70 0 0 (nCs (List.replicate cv.length (iN 1000))) (nCs (List.replicate 70 (iN 5000))) ((List.replicate ca.length [111, 110, 101]).map tV) ((List.replicate 70 [116, 104, 114, 101, 101]).map tV) (nCs (List.replicate cv.length (iN 1001))) [] ((List.replicate ca.length [116, 119, 111]).map tV) [] (.slice na 1 nc) (.slice ta 1 tc) [.slice ga (cv.length + 70) gc] [.slice ha (ca.length + 70) hc] wr) := hs
          have kL := (HLq.out wr hs.blk).cell 15 (by simp)
          have kM := (HLq.out wr hs.blk).cell 20 (by simp)
          dsimp only [List.getElem_cons_zero, List.getElem_cons_succ] at kL kM
          clear hs
          go_wp2
          clear kL kM
          go_loopw [15, 16, 17] (fun s15 s16 s17 wx => ∃ j : Nat, s17 = .int .i64 j ∧ j ≤ 70 ∧ SP w a (.slice vA cv.length vC) (.slice aA ca.length aC) (.slice vB cv.length vD) (.slice aB ca.length aD) cv.length ca.length (.slice ga (cv.length + 70) gc) (.slice ha (ca.length + 70) hc) s15 s16 70 70 j j (nCs (List.replicate cv.length (iN 1000))) (nCs (List.replicate 70 (iN 5000))) ((List.replicate ca.length [111, 110, 101]).map tV) ((List.replicate 70 [116, 104, 114, 101, 101]).map tV) (nCs (List.replicate cv.length (iN 1001))) (nCs (List.replicate j (iN 5001))) ((List.replicate ca.length [116, 119, 111]).map tV) ((List.replicate j [102, 111, 117, 114]).map tV) (.slice na 1 nc) (.slice ta 1 tc) [.slice ga (cv.length + 70) gc] [.slice ha (ca.length + 70) hc] wx) (fun _ _ s _ => 70 - (intOf s).toNat)
          case atStart => exact ⟨0, rfl, Nat.zero_le _, HS.out⟩
          case round =>
            clear HS
            obtain ⟨j, rfl, hj, hs⟩ := hrel
            obtain ⟨xa, xc, rfl, _, _⟩ := own_slice hs.swap.N.g1
            obtain ⟨ya, yc, rfl, _, _⟩ := own_slice hs.swap.T.g1
            by_cases hj7 : j < 70
            · have q1 : decide ((j : Int) < 70) = true := decide_eq_true (by omega)
              have q1b : (j : Int) < 70 := by omega
              have hcl1 := hcb2.1
              have hcl2 := hcb2.2
              obtain ⟨v', w', hrun, h1⟩ := SP.pushN hs.swap HSA.out HLB2.out.1 (iN 5001) (by omega)
              obtain ⟨X, hX⟩ : ∃ X, wr.alloc (.cells #[.int .i64 0, .string ⟨#[]⟩, .string ⟨#[]⟩, .bool false, .int .i64 5001, .int .i64 0] 37) = X := ⟨_, rfl⟩
              have hrun1 : ∀ ty, (Builtin.append_ #[23, 23] ty #[.slice xa (cv.length + j) xc, .slice (some ⟨wr.heap.size, 0, none⟩) 1 1]).run Tryz.prog X = .ok v' w' := fun ty => by rw [← hX]; exact hrun
              obtain ⟨za, zc, rfl, _, _⟩ := own_slice h1.N.g1
              obtain ⟨Y, hY⟩ : ∃ Y, w'.alloc (.cells #[.string ⟨#[116, 104, 114, 101, 101]⟩, .string ⟨#[102, 111, 117, 114]⟩] 9) = Y := ⟨_, rfl⟩
              have h1b := h1.below (alloc_below w' (.cells #[.string ⟨#[116, 104, 114, 101, 101]⟩, .string ⟨#[102, 111, 117, 114]⟩] 9))
              have hY0 : Y.cell? ⟨w'.heap.size, 1, none⟩ = some (.string ⟨#[102, 111, 117, 114]⟩) := by rw [← hY]; exact (alloc_bl w' [.string ⟨#[116, 104, 114, 101, 101]⟩, .string ⟨#[102, 111, 117, 114]⟩] 9).cell 1 (by simp)
              rw [hY] at h1b
              obtain ⟨t', w'', hrunT, h2⟩ := SP.pushT h1b HSA.out HLB2.out.2 [102, 111, 117, 114] (by omega)
              obtain ⟨Z, hZ⟩ : ∃ Z, Y.alloc (.cells #[.string ⟨#[102, 111, 117, 114]⟩] 9) = Z := ⟨_, rfl⟩
              have hrunT1 : ∀ ty, (Builtin.append_ #[24, 24] ty #[.slice ya (ca.length + j) yc, .slice (some ⟨Y.heap.size, 0, none⟩) 1 1]).run Tryz.prog Z = .ok t' w'' := fun ty => by rw [← hZ]; exact hrunT
              have hs1 : Y.heap.size = w'.heap.size + 1 := by rw [← hY, World.size_alloc]
              rw [hs1] at hrunT1
              clear hs1
              have HSn : Hid (SP w a (.slice vA cv.length vC) (.slice aA ca.length aC) (.slice vB cv.length vD) (.slice aB ca.length aD) cv.length ca.length (.slice ga (cv.length + 70) gc) (.slice ha (ca.length + 70) hc) (.slice za (cv.length + (j + 1)) zc) t' 70 70 (j + 1) (j + 1) (nCs (List.replicate cv.length (iN 1000))) (nCs (List.replicate 70 (iN 5000))) ((List.replicate ca.length [111, 110, 101]).map tV) ((List.replicate 70 [116, 104, 114, 101, 101]).map tV) (nCs (List.replicate cv.length (iN 1001))) (nCs (List.replicate (j + 1) (iN 5001))) ((List.replicate ca.length [116, 119, 111]).map tV) ((List.replicate (j + 1) [102, 111, 117, 114]).map tV) (.slice na 1 nc) (.slice ta 1 tc) [.slice ga (cv.length + 70) gc] [.slice ha (ca.length + 70) hc] w'') := SP.swap (by
                rw [nRepS, tRepS]
                exact h2)
              have HR1 := (show Hid _ from hrun1)
              have HR2 := (show Hid _ from hrunT1)
              have HY := (show Hid _ from hY)
              have HZ := (show Hid _ from hZ)
              have HX := (show Hid _ from hX)
              have HY0 := (show Hid _ from hY0)
              clear hs h1 h1b h2 hrun hrun1 hrunT hrunT1 hX hY hZ hY0 hcl1 hcl2
              go_upto_region 31 with (at_builtin; rw [HX.out]; clear HX; refine wpList_append_runS rfl (.tmp 116) (.tmp 120) 23 rfl _ _ _ w' rfl rfl (HR1.out _) ?_; clear HR1)
              go_upto_region 29 with (first | (at_builtin; rw [HY.out, HZ.out]; clear HY HZ; refine wpList_append_runS rfl (.tmp 122) (.tmp 127) 24 rfl _ _ t' w'' rfl rfl (HR2.out _) ?_; clear HR2) | fail)
              go_wp2
              go_roundw
              case rel => exact ⟨j + 1, by go_num, by omega, HSn.out⟩
              case measure => simp [intOf]; omega
            · have q1 : decide ((j : Int) < 70) = false := decide_eq_false (by omega)
              obtain rfl : j = 70 := by omega
              obtain ⟨vN, wN, hrN, h3⟩ := SP.addN hs HSA.out xa (cv.length + 70) xc (by simp)
              simp only [List.nil_append, List.cons_append] at h3
              obtain ⟨nb, nd, e5, _, _⟩ := own_slice h3.ns
              have e6 : vN = .slice nb 2 nd := e5
              subst e6
              obtain ⟨XN, hXN⟩ : ∃ x, wr.alloc (.cells #[.slice xa (cv.length + 70) xc] 23) = x := ⟨_, rfl⟩
              have hrN1 : ∀ ty, (Builtin.append_ #[38, 38] ty #[.slice na 1 nc, .slice (some ⟨wr.heap.size, 0, none⟩) 1 1]).run Tryz.prog XN = .ok (.slice nb 2 nd) wN := fun ty => by rw [← hXN]; exact hrN
              obtain ⟨vT2, wT, hrT, h4⟩ := SP.addT h3 HSA.out ya (ca.length + 70) yc (by simp)
              simp only [List.nil_append, List.cons_append] at h4
              obtain ⟨tb, td, e7, _, _⟩ := own_slice h4.ts
              have e8 : vT2 = .slice tb 2 td := e7
              subst e8
              obtain ⟨XT, hXT⟩ : ∃ x, wN.alloc (.cells #[.slice ya (ca.length + 70) yc] 24) = x := ⟨_, rfl⟩
              have hrT1 : ∀ ty, (Builtin.append_ #[39, 39] ty #[.slice ta 1 tc, .slice (some ⟨wN.heap.size, 0, none⟩) 1 1]).run Tryz.prog XT = .ok (.slice tb 2 td) wT := fun ty => by rw [← hXT]; exact hrT
              have HSn : Hid (SP w a (.slice vA cv.length vC) (.slice aA ca.length aC) (.slice vB cv.length vD) (.slice aB ca.length aD) cv.length ca.length (.slice ga (cv.length + 70) gc) (.slice ha (ca.length + 70) hc) (.slice xa (cv.length + 70) xc) (.slice ya (ca.length + 70) yc) 70 70 70 70 (nCs (List.replicate cv.length (iN 1000))) (nCs (List.replicate 70 (iN 5000))) ((List.replicate ca.length [111, 110, 101]).map tV) ((List.replicate 70 [116, 104, 114, 101, 101]).map tV) (nCs (List.replicate cv.length (iN 1001))) (nCs (List.replicate 70 (iN 5001))) ((List.replicate ca.length [116, 119, 111]).map tV) ((List.replicate 70 [102, 111, 117, 114]).map tV) (.slice nb 2 nd) (.slice tb 2 td) [.slice ga (cv.length + 70) gc, .slice xa (cv.length + 70) xc] [.slice ha (ca.length + 70) hc, .slice ya (ca.length + 70) yc] wT) := h4
              have HRN := (show Hid _ from hrN1)
              have HRT := (show Hid _ from hrT1)
              have HXN := (show Hid _ from hXN)
              have HXT := (show Hid _ from hXT)
              clear hs h3 h4 hrN hrT hrN1 hrT1 hXN hXT e5 e7
              go_upto_region 33 with (at_builtin; rw [HXN.out]; clear HXN; refine wpList_append_runS rfl (.tmp 129) (.tmp 131) 38 rfl _ _ _ wN rfl rfl (HRN.out _) ?_; clear HRN)
              go_upto_region 24 with (at_builtin; rw [HXT.out]; clear HXT; refine wpList_append_runS rfl (.tmp 133) (.tmp 135) 39 rfl _ _ _ wT rfl rfl (HRT.out _) ?_; clear HRT)
              go_wp2
              go_roundw
              case rel => exact .inr (.inr ⟨by go_num, ga, gc, ha, hc, xa, xc, ya, yc, nb, nd, tb, td, rfl, rfl, HSn.out⟩)
              case measure => simp [intOf]
        · obtain ⟨ga, gc, ha, hc, gb, gd, hb, hd, na, nc, ta, tc, rfl, rfl, hs⟩ := hs
          obtain ⟨nA, rfl⟩ : ∃ g, na = some ⟨g, 0, none⟩ := by
            obtain ⟨x, y, e, _, hg⟩ := own_slice hs.ns
            cases e
            exact hg (by simp)
          obtain ⟨tA, rfl⟩ : ∃ g, ta = some ⟨g, 0, none⟩ := by
            obtain ⟨x, y, e, _, hg⟩ := own_slice hs.ts
            cases e
            exact hg (by simp)
          obtain ⟨gA, rfl⟩ : ∃ g, ga = some ⟨g, 0, none⟩ := by
            obtain ⟨x, y, e, _, hg⟩ := own_slice hs.N.g1
            cases e
            exact hg (by omega)
          obtain ⟨gB, rfl⟩ : ∃ g, gb = some ⟨g, 0, none⟩ := by
            obtain ⟨x, y, e, _, hg⟩ := own_slice hs.N.g2
            cases e
            exact hg (by omega)
          obtain ⟨hA, rfl⟩ : ∃ g, ha = some ⟨g, 0, none⟩ := by
            obtain ⟨x, y, e, _, hg⟩ := own_slice hs.T.g1
            cases e
            exact hg (by omega)
          obtain ⟨hB, rfl⟩ : ∃ g, hb = some ⟨g, 0, none⟩ := by
            obtain ⟨x, y, e, _, hg⟩ := own_slice hs.T.g2
            cases e
            exact hg (by omega)
          obtain ⟨nN, hnN⟩ : ∃ x, cv.length + 70 = x := ⟨_, rfl⟩
          obtain ⟨mN, hmN⟩ : ∃ x, ca.length + 70 = x := ⟨_, rfl⟩
          rw [hnN, hmN] at hs
          have hnN := (show Hid _ from hnN)
          have hmN := (show Hid _ from hmN)
          have hbn : nN ≤ 100000070 ∧ mN ≤ 100000070 := by
            have h1 := hnN.out
            have h2 := hmN.out
            have h3 := hcb2
            omega
          have HS : Hid (SP w a (.slice vA cv.length vC) (.slice aA ca.length aC) (.slice vB cv.length vD) (.slice aB ca.length aD) cv.length ca.length (.slice (some ⟨gA, 0, none⟩) nN gc) (.slice (some ⟨hA, 0, none⟩) mN hc) (.slice (some ⟨gB, 0, none⟩) nN gd) (.slice (some ⟨hB, 0, none⟩) mN hd) 70 70 70 70 (nCs (List.replicate cv.length (iN 1000))) (nCs (List.replicate 70 (iN 5000))) ((List.replicate ca.length [111, 110, 101]).map tV) ((List.replicate 70 [116, 104, 114, 101, 101]).map tV) (nCs (List.replicate cv.length (iN 1001))) (nCs (List.replicate 70 (iN 5001))) ((List.replicate ca.length [116, 119, 111]).map tV) ((List.replicate 70 [102, 111, 117, 114]).map tV) (.slice (some ⟨nA, 0, none⟩) 2 nc) (.slice (some ⟨tA, 0, none⟩) 2 tc) [.slice (some ⟨gA, 0, none⟩) nN gc, .slice (some ⟨gB, 0, none⟩) nN gd] [.slice (some ⟨hA, 0, none⟩) mN hc, .slice (some ⟨hB, 0, none⟩) mN hd] wr) := hs
          clear hs
          go_wp2
          go_loopw [18] (fun s18 wx => (s18 = .int .i64 0 ∧ SP w a (.slice vA cv.length vC) (.slice aA ca.length aC) (.slice vB cv.length vD) (.slice aB ca.length aD) cv.length ca.length (.slice (some ⟨gA, 0, none⟩) nN gc) (.slice (some ⟨hA, 0, none⟩) mN hc) (.slice (some ⟨gB, 0, none⟩) nN gd) (.slice (some ⟨hB, 0, none⟩) mN hd) 70 70 70 70 (nCs (List.replicate cv.length (iN 1000))) (nCs (List.replicate 70 (iN 5000))) ((List.replicate ca.length [111, 110, 101]).map tV) ((List.replicate 70 [116, 104, 114, 101, 101]).map tV) (nCs (List.replicate cv.length (iN 1001))) (nCs (List.replicate 70 (iN 5001))) ((List.replicate ca.length [116, 119, 111]).map tV) ((List.replicate 70 [102, 111, 117, 114]).map tV) (.slice (some ⟨nA, 0, none⟩) 2 nc) (.slice (some ⟨tA, 0, none⟩) 2 tc) [.slice (some ⟨gA, 0, none⟩) nN gc, .slice (some ⟨gB, 0, none⟩) nN gd] [.slice (some ⟨hA, 0, none⟩) mN hc, .slice (some ⟨hB, 0, none⟩) mN hd] wx) ∨ (s18 = .int .i64 1 ∧ SP w a (.slice vA cv.length vC) (.slice aA ca.length aC) (.slice vB cv.length vD) (.slice aB ca.length aD) cv.length ca.length (.slice (some ⟨gA, 0, none⟩) nN gc) (.slice (some ⟨hA, 0, none⟩) mN hc) (.slice (some ⟨gB, 0, none⟩) nN gd) (.slice (some ⟨hB, 0, none⟩) mN hd) 70 70 70 70 (nCs (List.replicate cv.length (iN 1000))) (nCs (List.replicate 70 (iN 5000))) ((List.replicate ca.length [111, 110, 101]).map tV) ((List.replicate 70 [116, 104, 114, 101, 101]).map tV) (nCs (List.replicate cv.length (iN 1001))) (nCs (List.replicate 70 (iN 5001))) ((List.replicate ca.length [116, 119, 111]).map tV) ((List.replicate 70 [102, 111, 117, 114]).map tV) (.slice (some ⟨nA, 0, none⟩) 2 nc) (.slice (some ⟨tA, 0, none⟩) 2 tc) [.slice (some ⟨gA, 0, none⟩) nN gc, .slice (some ⟨gB, 0, none⟩) nN gd] [.slice (some ⟨hA, 0, none⟩) mN hc, .slice (some ⟨hB, 0, none⟩) mN hd] wx) ∨ (s18 = .int .i64 2 ∧ SP w a (.slice vA cv.length vC) (.slice aA ca.length aC) (.slice vB cv.length vD) (.slice aB ca.length aD) cv.length ca.length (.slice (some ⟨gA, 0, none⟩) nN gc) (.slice (some ⟨hA, 0, none⟩) mN hc) (.slice (some ⟨gB, 0, none⟩) nN gd) (.slice (some ⟨hB, 0, none⟩) mN hd) 70 70 70 70 (nCs (List.replicate cv.length (iN 1000))) (nCs (List.replicate 70 (iN 5000))) ((List.replicate ca.length [111, 110, 101]).map tV) ((List.replicate 70 [116, 104, 114, 101, 101]).map tV) (nCs (List.replicate cv.length (iN 1001))) (nCs (List.replicate 70 (iN 5001))) ((List.replicate ca.length [116, 119, 111]).map tV) ((List.replicate 70 [102, 111, 117, 114]).map tV) (.slice (some ⟨nA, 0, none⟩) 2 nc) (.slice (some ⟨tA, 0, none⟩) 2 tc) [.slice (some ⟨gA, 0, none⟩) nN gc, .slice (some ⟨gB, 0, none⟩) nN gd] [.slice (some ⟨hA, 0, none⟩) mN hc, .slice (some ⟨hB, 0, none⟩) mN hd] wx)) (fun s _ => 2 - (intOf s).toNat)
          case atStart => exact .inl ⟨rfl, HS.out⟩
          case round =>
            clear HS
            rcases hrel with ⟨rfl, hs⟩ | ⟨rfl, hs⟩ | ⟨rfl, hs⟩
            · as_aux_lemma =>
                have HS : Hid (SP w a (.slice vA cv.length vC) (.slice aA ca.length aC) (.slice vB cv.length vD) (.slice aB ca.length aD) cv.length ca.length (.slice (some ⟨gA, 0, none⟩) nN gc) (.slice (some ⟨hA, 0, none⟩) mN hc) (.slice (some ⟨gB, 0, none⟩) nN gd) (.slice (some ⟨hB, 0, none⟩) mN hd) 70 70 70 70 (nCs (List.replicate cv.length (iN 1000))) (nCs (List.replicate 70 (iN 5000))) ((List.replicate ca.length [111, 110, 101]).map tV) ((List.replicate 70 [116, 104, 114, 101, 101]).map tV) (nCs (List.replicate cv.length (iN 1001))) (nCs (List.replicate 70 (iN 5001))) ((List.replicate ca.length [116, 119, 111]).map tV) ((List.replicate 70 [102, 111, 117, 114]).map tV) (.slice (some ⟨nA, 0, none⟩) 2 nc) (.slice (some ⟨tA, 0, none⟩) 2 tc) [.slice (some ⟨gA, 0, none⟩) nN gc, .slice (some ⟨gB, 0, none⟩) nN gd] [.slice (some ⟨hA, 0, none⟩) mN hc, .slice (some ⟨hB, 0, none⟩) mN hd] wr) := hs
                clear hs
                go_wp2
                go_loopw [19] (fun s19 wx => ∃ k : Nat, s19 = .int .i64 k ∧ k ≤ nN ∧ SP w a (.slice vA cv.length vC) (.slice aA ca.length aC) (.slice vB cv.length vD) (.slice aB ca.length aD) cv.length ca.length (.slice (some ⟨gA, 0, none⟩) nN gc) (.slice (some ⟨hA, 0, none⟩) mN hc) (.slice (some ⟨gB, 0, none⟩) nN gd) (.slice (some ⟨hB, 0, none⟩) mN hd) 70 70 70 70 (nCs (List.replicate cv.length (iN 1000))) (nCs (List.replicate 70 (iN 5000))) ((List.replicate ca.length [111, 110, 101]).map tV) ((List.replicate 70 [116, 104, 114, 101, 101]).map tV) (nCs (List.replicate cv.length (iN 1001))) (nCs (List.replicate 70 (iN 5001))) ((List.replicate ca.length [116, 119, 111]).map tV) ((List.replicate 70 [102, 111, 117, 114]).map tV) (.slice (some ⟨nA, 0, none⟩) 2 nc) (.slice (some ⟨tA, 0, none⟩) 2 tc) [.slice (some ⟨gA, 0, none⟩) nN gc, .slice (some ⟨gB, 0, none⟩) nN gd] [.slice (some ⟨hA, 0, none⟩) mN hc, .slice (some ⟨hB, 0, none⟩) mN hd] wx) (fun s _ => nN - (intOf s).toNat)
                case atStart => exact ⟨0, rfl, Nat.zero_le _, HS.out⟩
                case round =>
                  clear HS
                  obtain ⟨k, rfl, hk, hs⟩ := hrel
                  have kL := (HLq.out wr hs.blk).cell 0 (by simp)
                  dsimp only [List.getElem_cons_zero, List.getElem_cons_succ] at kL
                  have kN := (own_cell hs.ns 0 _ rfl).1
                  have hg := hs.N.g1
                  rw [hnN.out] at hg
                  by_cases hkn : k < nN
                  · have q0 : decide ((k : Int) < (nN : Int)) = true := decide_eq_true (by omega)
                    have q0b : (k : Int) < (nN : Int) := by omega
                    by_cases hlt : k < cv.length
                    · have q1 : decide ((k : Int) < (cv.length : Int)) = true := decide_eq_true (by omega)
                      have q1b : (k : Int) < (cv.length : Int) := by omega
                      have q2 : decide ((k : Int) ≥ (cv.length : Int)) = false := decide_eq_false (by omega)
                      obtain ⟨g, rfl⟩ : ∃ g, vA = some ⟨g, 0, none⟩ := by
                        obtain ⟨x, y, e, _, hg⟩ := own_slice hs.N.o1
                        cases e
                        exact hg (by omega)
                      have kV : wr.cell? ⟨g, k * 6 + 4, none⟩ = some (.int .i64 1000) := (own_cell hs.N.o1 (k * 6 + 4) _ (rep_one hlt)).1
                      have kG : wr.cell? ⟨gA, k * 6 + 4, none⟩ = some (.int .i64 1000) := (own_cell hg (k * 6 + 4) _ (rep_left hlt)).1
                      have HSn : Hid (SP w a (.slice (some ⟨g, 0, none⟩) cv.length vC) (.slice aA ca.length aC) (.slice vB cv.length vD) (.slice aB ca.length aD) cv.length ca.length (.slice (some ⟨gA, 0, none⟩) nN gc) (.slice (some ⟨hA, 0, none⟩) mN hc) (.slice (some ⟨gB, 0, none⟩) nN gd) (.slice (some ⟨hB, 0, none⟩) mN hd) 70 70 70 70 (nCs (List.replicate cv.length (iN 1000))) (nCs (List.replicate 70 (iN 5000))) ((List.replicate ca.length [111, 110, 101]).map tV) ((List.replicate 70 [116, 104, 114, 101, 101]).map tV) (nCs (List.replicate cv.length (iN 1001))) (nCs (List.replicate 70 (iN 5001))) ((List.replicate ca.length [116, 119, 111]).map tV) ((List.replicate 70 [102, 111, 117, 114]).map tV) (.slice (some ⟨nA, 0, none⟩) 2 nc) (.slice (some ⟨tA, 0, none⟩) 2 tc) [.slice (some ⟨gA, 0, none⟩) nN gc, .slice (some ⟨gB, 0, none⟩) nN gd] [.slice (some ⟨hA, 0, none⟩) mN hc, .slice (some ⟨hB, 0, none⟩) mN hd] wr) := hs
                      clear hs hg hlt hkn
                      go_wp2
                      go_roundw
                      case rel => exact ⟨k + 1, by go_num, by omega, HSn.out⟩
                      case measure => simp [intOf]; omega
                    · have q1 : decide ((k : Int) < (cv.length : Int)) = false := decide_eq_false (by omega)
                      have q2 : decide ((k : Int) ≥ (cv.length : Int)) = true := decide_eq_true (by omega)
                      have q1n : ¬ ((k : Int) < (cv.length : Int)) := by omega
                      have kG : wr.cell? ⟨gA, k * 6 + 4, none⟩ = some (.int .i64 5000) := (own_cell hg (k * 6 + 4) _ (rep_right (by omega) (by have := hnN.out; omega))).1
                      have HSn : Hid (SP w a (.slice vA cv.length vC) (.slice aA ca.length aC) (.slice vB cv.length vD) (.slice aB ca.length aD) cv.length ca.length (.slice (some ⟨gA, 0, none⟩) nN gc) (.slice (some ⟨hA, 0, none⟩) mN hc) (.slice (some ⟨gB, 0, none⟩) nN gd) (.slice (some ⟨hB, 0, none⟩) mN hd) 70 70 70 70 (nCs (List.replicate cv.length (iN 1000))) (nCs (List.replicate 70 (iN 5000))) ((List.replicate ca.length [111, 110, 101]).map tV) ((List.replicate 70 [116, 104, 114, 101, 101]).map tV) (nCs (List.replicate cv.length (iN 1001))) (nCs (List.replicate 70 (iN 5001))) ((List.replicate ca.length [116, 119, 111]).map tV) ((List.replicate 70 [102, 111, 117, 114]).map tV) (.slice (some ⟨nA, 0, none⟩) 2 nc) (.slice (some ⟨tA, 0, none⟩) 2 tc) [.slice (some ⟨gA, 0, none⟩) nN gc, .slice (some ⟨gB, 0, none⟩) nN gd] [.slice (some ⟨hA, 0, none⟩) mN hc, .slice (some ⟨hB, 0, none⟩) mN hd] wr) := hs
                      clear hs hg hlt hkn
                      go_wp2
                      go_roundw
                      case rel => exact ⟨k + 1, by go_num, by omega, HSn.out⟩
                      case measure => simp [intOf]; omega
                  · have q0 : decide ((k : Int) < (nN : Int)) = false := decide_eq_false (by omega)
                    obtain rfl : nN = k := by omega
                    have HS : Hid (SP w a (.slice vA cv.length vC) (.slice aA ca.length aC) (.slice vB cv.length vD) (.slice aB ca.length aD) cv.length ca.length (.slice (some ⟨gA, 0, none⟩) nN gc) (.slice (some ⟨hA, 0, none⟩) mN hc) (.slice (some ⟨gB, 0, none⟩) nN gd) (.slice (some ⟨hB, 0, none⟩) mN hd) 70 70 70 70 (nCs (List.replicate cv.length (iN 1000))) (nCs (List.replicate 70 (iN 5000))) ((List.replicate ca.length [111, 110, 101]).map tV) ((List.replicate 70 [116, 104, 114, 101, 101]).map tV) (nCs (List.replicate cv.length (iN 1001))) (nCs (List.replicate 70 (iN 5001))) ((List.replicate ca.length [116, 119, 111]).map tV) ((List.replicate 70 [102, 111, 117, 114]).map tV) (.slice (some ⟨nA, 0, none⟩) 2 nc) (.slice (some ⟨tA, 0, none⟩) 2 tc) [.slice (some ⟨gA, 0, none⟩) nN gc, .slice (some ⟨gB, 0, none⟩) nN gd] [.slice (some ⟨hA, 0, none⟩) mN hc, .slice (some ⟨hB, 0, none⟩) mN hd] wr) := hs
                    clear hs hg hkn
                    go_wp2
                    go_loopw [20] (fun s20 wx => ∃ k : Nat, s20 = .int .i64 k ∧ k ≤ mN ∧ SP w a (.slice vA cv.length vC) (.slice aA ca.length aC) (.slice vB cv.length vD) (.slice aB ca.length aD) cv.length ca.length (.slice (some ⟨gA, 0, none⟩) nN gc) (.slice (some ⟨hA, 0, none⟩) mN hc) (.slice (some ⟨gB, 0, none⟩) nN gd) (.slice (some ⟨hB, 0, none⟩) mN hd) 70 70 70 70 (nCs (List.replicate cv.length (iN 1000))) (nCs (List.replicate 70 (iN 5000))) ((List.replicate ca.length [111, 110, 101]).map tV) ((List.replicate 70 [116, 104, 114, 101, 101]).map tV) (nCs (List.replicate cv.length (iN 1001))) (nCs (List.replicate 70 (iN 5001))) ((List.replicate ca.length [116, 119, 111]).map tV) ((List.replicate 70 [102, 111, 117, 114]).map tV) (.slice (some ⟨nA, 0, none⟩) 2 nc) (.slice (some ⟨tA, 0, none⟩) 2 tc) [.slice (some ⟨gA, 0, none⟩) nN gc, .slice (some ⟨gB, 0, none⟩) nN gd] [.slice (some ⟨hA, 0, none⟩) mN hc, .slice (some ⟨hB, 0, none⟩) mN hd] wx) (fun s _ => mN - (intOf s).toNat)
                    case atStart => exact ⟨0, rfl, Nat.zero_le _, HS.out⟩
                    case round =>
                      clear HS
                      obtain ⟨k, rfl, hk, hs⟩ := hrel
                      have kL := (HLq.out wr hs.blk).cell 5 (by simp)
                      dsimp only [List.getElem_cons_zero, List.getElem_cons_succ] at kL
                      have kN := (own_cell hs.ts 0 _ rfl).1
                      have hg := hs.T.g1
                      rw [hmN.out] at hg
                      by_cases hkn : k < mN
                      · have q0 : decide ((k : Int) < (mN : Int)) = true := decide_eq_true (by omega)
                        have q0b : (k : Int) < (mN : Int) := by omega
                        by_cases hlt : k < ca.length
                        · have q1 : decide ((k : Int) < (ca.length : Int)) = true := decide_eq_true (by omega)
                          have q1b : (k : Int) < (ca.length : Int) := by omega
                          have q2 : decide ((k : Int) ≥ (ca.length : Int)) = false := decide_eq_false (by omega)
                          obtain ⟨g, rfl⟩ : ∃ g, aA = some ⟨g, 0, none⟩ := by
                            obtain ⟨x, y, e, _, hg⟩ := own_slice hs.T.o1
                            cases e
                            exact hg (by omega)
                          have kV : wr.cell? ⟨g, k, none⟩ = some (.string ⟨#[111, 110, 101]⟩) := (own_cell hs.T.o1 (k) _ (trep_one hlt)).1
                          have kG : wr.cell? ⟨hA, k, none⟩ = some (.string ⟨#[111, 110, 101]⟩) := (own_cell hg (k) _ (trep_left hlt)).1
                          have hs1 := (hs.below (below_drewN (Below.refl _ wr) 1)).below (alloc_below _ (.cells #[.string ⟨#[111, 110, 101]⟩, .string ⟨#[116, 119, 111]⟩] 9))
                          have HS0 : Hid (wr.cell? ⟨bL, 5, none⟩ = some (.slice (some ⟨g, 0, none⟩) ca.length aC) ∧ wr.cell? ⟨tA, 0, none⟩ = some (.slice (some ⟨hA, 0, none⟩) mN hc) ∧ wr.cell? ⟨g, k, none⟩ = some (.string ⟨#[111, 110, 101]⟩) ∧ wr.cell? ⟨hA, k, none⟩ = some (.string ⟨#[111, 110, 101]⟩)) := ⟨kL, kN, kV, kG⟩
                          have Hlt : Hid (k < ca.length) := hlt
                          have Hkm : Hid (k < mN) := hkn
                          have HSn : Hid (SP w a (.slice vA cv.length vC) (.slice (some ⟨g, 0, none⟩) ca.length aC) (.slice vB cv.length vD) (.slice aB ca.length aD) cv.length ca.length (.slice (some ⟨gA, 0, none⟩) nN gc) (.slice (some ⟨hA, 0, none⟩) mN hc) (.slice (some ⟨gB, 0, none⟩) nN gd) (.slice (some ⟨hB, 0, none⟩) mN hd) 70 70 70 70 (nCs (List.replicate cv.length (iN 1000))) (nCs (List.replicate 70 (iN 5000))) ((List.replicate ca.length [111, 110, 101]).map tV) ((List.replicate 70 [116, 104, 114, 101, 101]).map tV) (nCs (List.replicate cv.length (iN 1001))) (nCs (List.replicate 70 (iN 5001))) ((List.replicate ca.length [116, 119, 111]).map tV) ((List.replicate 70 [102, 111, 117, 114]).map tV) (.slice (some ⟨nA, 0, none⟩) 2 nc) (.slice (some ⟨tA, 0, none⟩) 2 tc) [.slice (some ⟨gA, 0, none⟩) nN gc, .slice (some ⟨gB, 0, none⟩) nN gd] [.slice (some ⟨hA, 0, none⟩) mN hc, .slice (some ⟨hB, 0, none⟩) mN hd] ((World.drew wr).alloc (.cells #[.string ⟨#[111, 110, 101]⟩, .string ⟨#[116, 119, 111]⟩] 9))) := hs1
                          clear hs hs1 hg hlt hkn
                          go_wp2
                          refine wp_region45 (by kernel_rfl) ?_
                          refine r45_use1 g bL tA hA ca.length mN aC hc tc 0 k ⟨#[111, 110, 101]⟩ (by decide) Hlt.out Hkm.out rfl (fun o _ _ _ _ h => by cases o <;> exact h) (by kernel_rfl) (by kernel_rfl) (by kernel_rfl) (by kernel_rfl) (by kernel_rfl) HS0.out ?_
                          intros
                          dsimp only [Exit.then, List.take_succ_cons, List.take_zero, List.drop_succ_cons, List.drop_zero, List.cons_append, List.nil_append]
                          go_wp2
                          go_roundw
                          case rel =>
                            exact ⟨k + 1, by go_num, by omega, HSn.out⟩
                          case measure => simp [intOf]; omega
                        · have q1 : decide ((k : Int) < (ca.length : Int)) = false := decide_eq_false (by omega)
                          have q2 : decide ((k : Int) ≥ (ca.length : Int)) = true := decide_eq_true (by omega)
                          have q1n : ¬ ((k : Int) < (ca.length : Int)) := by omega
                          have kG : wr.cell? ⟨hA, k, none⟩ = some (.string ⟨#[116, 104, 114, 101, 101]⟩) := (own_cell hg (k) _ (trep_right (by omega) (by have := hmN.out; omega))).1
                          have hs1 := (hs.below (below_drewN (Below.refl _ wr) 1)).below (alloc_below _ (.cells #[.string ⟨#[116, 104, 114, 101, 101]⟩, .string ⟨#[102, 111, 117, 114]⟩] 9))
                          have HS0 : Hid (wr.cell? ⟨bL, 5, none⟩ = some (.slice aA ca.length aC) ∧ wr.cell? ⟨tA, 0, none⟩ = some (.slice (some ⟨hA, 0, none⟩) mN hc) ∧ wr.cell? ⟨hA, k, none⟩ = some (.string ⟨#[116, 104, 114, 101, 101]⟩)) := ⟨kL, kN, kG⟩
                          have Hlt : Hid (ca.length ≤ k) := Nat.le_of_not_lt hlt
                          have Hkm : Hid (k < mN) := hkn
                          have HSn : Hid (SP w a (.slice vA cv.length vC) (.slice aA ca.length aC) (.slice vB cv.length vD) (.slice aB ca.length aD) cv.length ca.length (.slice (some ⟨gA, 0, none⟩) nN gc) (.slice (some ⟨hA, 0, none⟩) mN hc) (.slice (some ⟨gB, 0, none⟩) nN gd) (.slice (some ⟨hB, 0, none⟩) mN hd) 70 70 70 70 (nCs (List.replicate cv.length (iN 1000))) (nCs (List.replicate 70 (iN 5000))) ((List.replicate ca.length [111, 110, 101]).map tV) ((List.replicate 70 [116, 104, 114, 101, 101]).map tV) (nCs (List.replicate cv.length (iN 1001))) (nCs (List.replicate 70 (iN 5001))) ((List.replicate ca.length [116, 119, 111]).map tV) ((List.replicate 70 [102, 111, 117, 114]).map tV) (.slice (some ⟨nA, 0, none⟩) 2 nc) (.slice (some ⟨tA, 0, none⟩) 2 tc) [.slice (some ⟨gA, 0, none⟩) nN gc, .slice (some ⟨gB, 0, none⟩) nN gd] [.slice (some ⟨hA, 0, none⟩) mN hc, .slice (some ⟨hB, 0, none⟩) mN hd] ((World.drew wr).alloc (.cells #[.string ⟨#[116, 104, 114, 101, 101]⟩, .string ⟨#[102, 111, 117, 114]⟩] 9))) := hs1
                          clear hs hs1 hg hlt hkn
                          go_wp2
                          refine wp_region45 (by kernel_rfl) ?_
                          refine r45_use2 _ bL tA hA ca.length mN aC hc tc 0 k ⟨#[116, 104, 114, 101, 101]⟩ (by decide) Hlt.out Hkm.out rfl (fun o _ _ _ _ h => by cases o <;> exact h) (by kernel_rfl) (by kernel_rfl) (by kernel_rfl) (by kernel_rfl) (by kernel_rfl) HS0.out ?_
                          intros
                          dsimp only [Exit.then, List.take_succ_cons, List.take_zero, List.drop_succ_cons, List.drop_zero, List.cons_append, List.nil_append]
                          go_wp2
                          go_roundw
                          case rel =>
                            exact ⟨k + 1, by go_num, by omega, HSn.out⟩
                          case measure => simp [intOf]; omega
                      · have q0 : decide ((k : Int) < (mN : Int)) = false := decide_eq_false (by omega)
                        obtain rfl : mN = k := by omega
                        have HS : Hid (SP w a (.slice vA cv.length vC) (.slice aA ca.length aC) (.slice vB cv.length vD) (.slice aB ca.length aD) cv.length ca.length (.slice (some ⟨gA, 0, none⟩) nN gc) (.slice (some ⟨hA, 0, none⟩) mN hc) (.slice (some ⟨gB, 0, none⟩) nN gd) (.slice (some ⟨hB, 0, none⟩) mN hd) 70 70 70 70 (nCs (List.replicate cv.length (iN 1000))) (nCs (List.replicate 70 (iN 5000))) ((List.replicate ca.length [111, 110, 101]).map tV) ((List.replicate 70 [116, 104, 114, 101, 101]).map tV) (nCs (List.replicate cv.length (iN 1001))) (nCs (List.replicate 70 (iN 5001))) ((List.replicate ca.length [116, 119, 111]).map tV) ((List.replicate 70 [102, 111, 117, 114]).map tV) (.slice (some ⟨nA, 0, none⟩) 2 nc) (.slice (some ⟨tA, 0, none⟩) 2 tc) [.slice (some ⟨gA, 0, none⟩) nN gc, .slice (some ⟨gB, 0, none⟩) nN gd] [.slice (some ⟨hA, 0, none⟩) mN hc, .slice (some ⟨hB, 0, none⟩) mN hd] wr) := hs
                        clear hs hg hkn
                        go_wp2
                        go_roundw
                        case rel => exact .inr (.inl ⟨by go_num, HS.out⟩)
                        case measure => simp [intOf]
            · as_aux_lemma =>
                have HS : Hid (SP w a (.slice vA cv.length vC) (.slice aA ca.length aC) (.slice vB cv.length vD) (.slice aB ca.length aD) cv.length ca.length (.slice (some ⟨gA, 0, none⟩) nN gc) (.slice (some ⟨hA, 0, none⟩) mN hc) (.slice (some ⟨gB, 0, none⟩) nN gd) (.slice (some ⟨hB, 0, none⟩) mN hd) 70 70 70 70 (nCs (List.replicate cv.length (iN 1000))) (nCs (List.replicate 70 (iN 5000))) ((List.replicate ca.length [111, 110, 101]).map tV) ((List.replicate 70 [116, 104, 114, 101, 101]).map tV) (nCs (List.replicate cv.length (iN 1001))) (nCs (List.replicate 70 (iN 5001))) ((List.replicate ca.length [116, 119, 111]).map tV) ((List.replicate 70 [102, 111, 117, 114]).map tV) (.slice (some ⟨nA, 0, none⟩) 2 nc) (.slice (some ⟨tA, 0, none⟩) 2 tc) [.slice (some ⟨gA, 0, none⟩) nN gc, .slice (some ⟨gB, 0, none⟩) nN gd] [.slice (some ⟨hA, 0, none⟩) mN hc, .slice (some ⟨hB, 0, none⟩) mN hd] wr) := hs
                clear hs
                go_wp2
                go_loopw [19] (fun s19 wx => ∃ k : Nat, s19 = .int .i64 k ∧ k ≤ nN ∧ SP w a (.slice vA cv.length vC) (.slice aA ca.length aC) (.slice vB cv.length vD) (.slice aB ca.length aD) cv.length ca.length (.slice (some ⟨gA, 0, none⟩) nN gc) (.slice (some ⟨hA, 0, none⟩) mN hc) (.slice (some ⟨gB, 0, none⟩) nN gd) (.slice (some ⟨hB, 0, none⟩) mN hd) 70 70 70 70 (nCs (List.replicate cv.length (iN 1000))) (nCs (List.replicate 70 (iN 5000))) ((List.replicate ca.length [111, 110, 101]).map tV) ((List.replicate 70 [116, 104, 114, 101, 101]).map tV) (nCs (List.replicate cv.length (iN 1001))) (nCs (List.replicate 70 (iN 5001))) ((List.replicate ca.length [116, 119, 111]).map tV) ((List.replicate 70 [102, 111, 117, 114]).map tV) (.slice (some ⟨nA, 0, none⟩) 2 nc) (.slice (some ⟨tA, 0, none⟩) 2 tc) [.slice (some ⟨gA, 0, none⟩) nN gc, .slice (some ⟨gB, 0, none⟩) nN gd] [.slice (some ⟨hA, 0, none⟩) mN hc, .slice (some ⟨hB, 0, none⟩) mN hd] wx) (fun s _ => nN - (intOf s).toNat)
                case atStart => exact ⟨0, rfl, Nat.zero_le _, HS.out⟩
                case round =>
                  clear HS
                  obtain ⟨k, rfl, hk, hs⟩ := hrel
                  have kL := (HLq.out wr hs.blk).cell 15 (by simp)
                  dsimp only [List.getElem_cons_zero, List.getElem_cons_succ] at kL
                  have kN := (own_cell hs.ns 1 _ rfl).1
                  have hg := hs.N.g2
                  rw [hnN.out] at hg
                  by_cases hkn : k < nN
                  · have q0 : decide ((k : Int) < (nN : Int)) = true := decide_eq_true (by omega)
                    have q0b : (k : Int) < (nN : Int) := by omega
                    by_cases hlt : k < cv.length
                    · have q1 : decide ((k : Int) < (cv.length : Int)) = true := decide_eq_true (by omega)
                      have q1b : (k : Int) < (cv.length : Int) := by omega
                      have q2 : decide ((k : Int) ≥ (cv.length : Int)) = false := decide_eq_false (by omega)
                      obtain ⟨g, rfl⟩ : ∃ g, vB = some ⟨g, 0, none⟩ := by
                        obtain ⟨x, y, e, _, hg⟩ := own_slice hs.N.o2
                        cases e
                        exact hg (by omega)
                      have kV : wr.cell? ⟨g, k * 6 + 4, none⟩ = some (.int .i64 1001) := (own_cell hs.N.o2 (k * 6 + 4) _ (rep_one hlt)).1
                      have kG : wr.cell? ⟨gB, k * 6 + 4, none⟩ = some (.int .i64 1001) := (own_cell hg (k * 6 + 4) _ (rep_left hlt)).1
                      have HSn : Hid (SP w a (.slice vA cv.length vC) (.slice aA ca.length aC) (.slice (some ⟨g, 0, none⟩) cv.length vD) (.slice aB ca.length aD) cv.length ca.length (.slice (some ⟨gA, 0, none⟩) nN gc) (.slice (some ⟨hA, 0, none⟩) mN hc) (.slice (some ⟨gB, 0, none⟩) nN gd) (.slice (some ⟨hB, 0, none⟩) mN hd) 70 70 70 70 (nCs (List.replicate cv.length (iN 1000))) (nCs (List.replicate 70 (iN 5000))) ((List.replicate ca.length [111, 110, 101]).map tV) ((List.replicate 70 [116, 104, 114, 101, 101]).map tV) (nCs (List.replicate cv.length (iN 1001))) (nCs (List.replicate 70 (iN 5001))) ((List.replicate ca.length [116, 119, 111]).map tV) ((List.replicate 70 [102, 111, 117, 114]).map tV) (.slice (some ⟨nA, 0, none⟩) 2 nc) (.slice (some ⟨tA, 0, none⟩) 2 tc) [.slice (some ⟨gA, 0, none⟩) nN gc, .slice (some ⟨gB, 0, none⟩) nN gd] [.slice (some ⟨hA, 0, none⟩) mN hc, .slice (some ⟨hB, 0, none⟩) mN hd] wr) := hs
                      clear hs hg hlt hkn
                      go_wp2
                      go_roundw
                      case rel => exact ⟨k + 1, by go_num, by omega, HSn.out⟩
                      case measure => simp [intOf]; omega
                    · have q1 : decide ((k : Int) < (cv.length : Int)) = false := decide_eq_false (by omega)
                      have q2 : decide ((k : Int) ≥ (cv.length : Int)) = true := decide_eq_true (by omega)
                      have q1n : ¬ ((k : Int) < (cv.length : Int)) := by omega
                      have kG : wr.cell? ⟨gB, k * 6 + 4, none⟩ = some (.int .i64 5001) := (own_cell hg (k * 6 + 4) _ (rep_right (by omega) (by have := hnN.out; omega))).1
                      have HSn : Hid (SP w a (.slice vA cv.length vC) (.slice aA ca.length aC) (.slice vB cv.length vD) (.slice aB ca.length aD) cv.length ca.length (.slice (some ⟨gA, 0, none⟩) nN gc) (.slice (some ⟨hA, 0, none⟩) mN hc) (.slice (some ⟨gB, 0, none⟩) nN gd) (.slice (some ⟨hB, 0, none⟩) mN hd) 70 70 70 70 (nCs (List.replicate cv.length (iN 1000))) (nCs (List.replicate 70 (iN 5000))) ((List.replicate ca.length [111, 110, 101]).map tV) ((List.replicate 70 [116, 104, 114, 101, 101]).map tV) (nCs (List.replicate cv.length (iN 1001))) (nCs (List.replicate 70 (iN 5001))) ((List.replicate ca.length [116, 119, 111]).map tV) ((List.replicate 70 [102, 111, 117, 114]).map tV) (.slice (some ⟨nA, 0, none⟩) 2 nc) (.slice (some ⟨tA, 0, none⟩) 2 tc) [.slice (some ⟨gA, 0, none⟩) nN gc, .slice (some ⟨gB, 0, none⟩) nN gd] [.slice (some ⟨hA, 0, none⟩) mN hc, .slice (some ⟨hB, 0, none⟩) mN hd] wr) := hs
                      clear hs hg hlt hkn
                      go_wp2
                      go_roundw
                      case rel => exact ⟨k + 1, by go_num, by omega, HSn.out⟩
                      case measure => simp [intOf]; omega
                  · have q0 : decide ((k : Int) < (nN : Int)) = false := decide_eq_false (by omega)
                    obtain rfl : nN = k := by omega
                    have HS : Hid (SP w a (.slice vA cv.length vC) (.slice aA ca.length aC) (.slice vB cv.length vD) (.slice aB ca.length aD) cv.length ca.length (.slice (some ⟨gA, 0, none⟩) nN gc) (.slice (some ⟨hA, 0, none⟩) mN hc) (.slice (some ⟨gB, 0, none⟩) nN gd) (.slice (some ⟨hB, 0, none⟩) mN hd) 70 70 70 70 (nCs (List.replicate cv.length (iN 1000))) (nCs (List.replicate 70 (iN 5000))) ((List.replicate ca.length [111, 110, 101]).map tV) ((List.replicate 70 [116, 104, 114, 101, 101]).map tV) (nCs (List.replicate cv.length (iN 1001))) (nCs (List.replicate 70 (iN 5001))) ((List.replicate ca.length [116, 119, 111]).map tV) ((List.replicate 70 [102, 111, 117, 114]).map tV) (.slice (some ⟨nA, 0, none⟩) 2 nc) (.slice (some ⟨tA, 0, none⟩) 2 tc) [.slice (some ⟨gA, 0, none⟩) nN gc, .slice (some ⟨gB, 0, none⟩) nN gd] [.slice (some ⟨hA, 0, none⟩) mN hc, .slice (some ⟨hB, 0, none⟩) mN hd] wr) := hs
                    clear hs hg hkn
                    go_wp2
                    go_loopw [20] (fun s20 wx => ∃ k : Nat, s20 = .int .i64 k ∧ k ≤ mN ∧ SP w a (.slice vA cv.length vC) (.slice aA ca.length aC) (.slice vB cv.length vD) (.slice aB ca.length aD) cv.length ca.length (.slice (some ⟨gA, 0, none⟩) nN gc) (.slice (some ⟨hA, 0, none⟩) mN hc) (.slice (some ⟨gB, 0, none⟩) nN gd) (.slice (some ⟨hB, 0, none⟩) mN hd) 70 70 70 70 (nCs (List.replicate cv.length (iN 1000))) (nCs (List.replicate 70 (iN 5000))) ((List.replicate ca.length [111, 110, 101]).map tV) ((List.replicate 70 [116, 104, 114, 101, 101]).map tV) (nCs (List.replicate cv.length (iN 1001))) (nCs (List.replicate 70 (iN 5001))) ((List.replicate ca.length [116, 119, 111]).map tV) ((List.replicate 70 [102, 111, 117, 114]).map tV) (.slice (some ⟨nA, 0, none⟩) 2 nc) (.slice (some ⟨tA, 0, none⟩) 2 tc) [.slice (some ⟨gA, 0, none⟩) nN gc, .slice (some ⟨gB, 0, none⟩) nN gd] [.slice (some ⟨hA, 0, none⟩) mN hc, .slice (some ⟨hB, 0, none⟩) mN hd] wx) (fun s _ => mN - (intOf s).toNat)
                    case atStart => exact ⟨0, rfl, Nat.zero_le _, HS.out⟩
                    case round =>
                      clear HS
                      obtain ⟨k, rfl, hk, hs⟩ := hrel
                      have kL := (HLq.out wr hs.blk).cell 20 (by simp)
                      dsimp only [List.getElem_cons_zero, List.getElem_cons_succ] at kL
                      have kN := (own_cell hs.ts 1 _ rfl).1
                      have hg := hs.T.g2
                      rw [hmN.out] at hg
                      by_cases hkn : k < mN
                      · have q0 : decide ((k : Int) < (mN : Int)) = true := decide_eq_true (by omega)
                        have q0b : (k : Int) < (mN : Int) := by omega
                        by_cases hlt : k < ca.length
                        · have q1 : decide ((k : Int) < (ca.length : Int)) = true := decide_eq_true (by omega)
                          have q1b : (k : Int) < (ca.length : Int) := by omega
                          have q2 : decide ((k : Int) ≥ (ca.length : Int)) = false := decide_eq_false (by omega)
                          obtain ⟨g, rfl⟩ : ∃ g, aB = some ⟨g, 0, none⟩ := by
                            obtain ⟨x, y, e, _, hg⟩ := own_slice hs.T.o2
                            cases e
                            exact hg (by omega)
                          have kV : wr.cell? ⟨g, k, none⟩ = some (.string ⟨#[116, 119, 111]⟩) := (own_cell hs.T.o2 (k) _ (trep_one hlt)).1
                          have kG : wr.cell? ⟨hB, k, none⟩ = some (.string ⟨#[116, 119, 111]⟩) := (own_cell hg (k) _ (trep_left hlt)).1
                          have hs1 := (hs.below (below_drewN (Below.refl _ wr) 1)).below (alloc_below _ (.cells #[.string ⟨#[111, 110, 101]⟩, .string ⟨#[116, 119, 111]⟩] 9))
                          have HS0 : Hid (wr.cell? ⟨bL, 20, none⟩ = some (.slice (some ⟨g, 0, none⟩) ca.length aD) ∧ wr.cell? ⟨tA, 1, none⟩ = some (.slice (some ⟨hB, 0, none⟩) mN hd) ∧ wr.cell? ⟨g, k, none⟩ = some (.string ⟨#[116, 119, 111]⟩) ∧ wr.cell? ⟨hB, k, none⟩ = some (.string ⟨#[116, 119, 111]⟩)) := ⟨kL, kN, kV, kG⟩
                          have Hlt : Hid (k < ca.length) := hlt
                          have Hkm : Hid (k < mN) := hkn
                          have HSn : Hid (SP w a (.slice vA cv.length vC) (.slice aA ca.length aC) (.slice vB cv.length vD) (.slice (some ⟨g, 0, none⟩) ca.length aD) cv.length ca.length (.slice (some ⟨gA, 0, none⟩) nN gc) (.slice (some ⟨hA, 0, none⟩) mN hc) (.slice (some ⟨gB, 0, none⟩) nN gd) (.slice (some ⟨hB, 0, none⟩) mN hd) 70 70 70 70 (nCs (List.replicate cv.length (iN 1000))) (nCs (List.replicate 70 (iN 5000))) ((List.replicate ca.length [111, 110, 101]).map tV) ((List.replicate 70 [116, 104, 114, 101, 101]).map tV) (nCs (List.replicate cv.length (iN 1001))) (nCs (List.replicate 70 (iN 5001))) ((List.replicate ca.length [116, 119, 111]).map tV) ((List.replicate 70 [102, 111, 117, 114]).map tV) (.slice (some ⟨nA, 0, none⟩) 2 nc) (.slice (some ⟨tA, 0, none⟩) 2 tc) [.slice (some ⟨gA, 0, none⟩) nN gc, .slice (some ⟨gB, 0, none⟩) nN gd] [.slice (some ⟨hA, 0, none⟩) mN hc, .slice (some ⟨hB, 0, none⟩) mN hd] ((World.drew wr).alloc (.cells #[.string ⟨#[111, 110, 101]⟩, .string ⟨#[116, 119, 111]⟩] 9))) := hs1
                          clear hs hs1 hg hlt hkn
                          go_wp2
                          refine wp_region45 (by kernel_rfl) ?_
                          refine r45_use1 g bL tA hB ca.length mN aD hd tc 1 k ⟨#[116, 119, 111]⟩ (by decide) Hlt.out Hkm.out rfl (fun o _ _ _ _ h => by cases o <;> exact h) (by kernel_rfl) (by kernel_rfl) (by kernel_rfl) (by kernel_rfl) (by kernel_rfl) HS0.out ?_
                          intros
                          dsimp only [Exit.then, List.take_succ_cons, List.take_zero, List.drop_succ_cons, List.drop_zero, List.cons_append, List.nil_append]
                          go_wp2
                          go_roundw
                          case rel =>
                            exact ⟨k + 1, by go_num, by omega, HSn.out⟩
                          case measure => simp [intOf]; omega
                        · have q1 : decide ((k : Int) < (ca.length : Int)) = false := decide_eq_false (by omega)
                          have q2 : decide ((k : Int) ≥ (ca.length : Int)) = true := decide_eq_true (by omega)
                          have q1n : ¬ ((k : Int) < (ca.length : Int)) := by omega
                          have kG : wr.cell? ⟨hB, k, none⟩ = some (.string ⟨#[102, 111, 117, 114]⟩) := (own_cell hg (k) _ (trep_right (by omega) (by have := hmN.out; omega))).1
                          have hs1 := (hs.below (below_drewN (Below.refl _ wr) 1)).below (alloc_below _ (.cells #[.string ⟨#[116, 104, 114, 101, 101]⟩, .string ⟨#[102, 111, 117, 114]⟩] 9))
                          have HS0 : Hid (wr.cell? ⟨bL, 20, none⟩ = some (.slice aB ca.length aD) ∧ wr.cell? ⟨tA, 1, none⟩ = some (.slice (some ⟨hB, 0, none⟩) mN hd) ∧ wr.cell? ⟨hB, k, none⟩ = some (.string ⟨#[102, 111, 117, 114]⟩)) := ⟨kL, kN, kG⟩
                          have Hlt : Hid (ca.length ≤ k) := Nat.le_of_not_lt hlt
                          have Hkm : Hid (k < mN) := hkn
                          have HSn : Hid (SP w a (.slice vA cv.length vC) (.slice aA ca.length aC) (.slice vB cv.length vD) (.slice aB ca.length aD) cv.length ca.length (.slice (some ⟨gA, 0, none⟩) nN gc) (.slice (some ⟨hA, 0, none⟩) mN hc) (.slice (some ⟨gB, 0, none⟩) nN gd) (.slice (some ⟨hB, 0, none⟩) mN hd) 70 70 70 70 (nCs (List.replicate cv.length (iN 1000))) (nCs (List.replicate 70 (iN 5000))) ((List.replicate ca.length [111, 110, 101]).map tV) ((List.replicate 70 [116, 104, 114, 101, 101]).map tV) (nCs (List.replicate cv.length (iN 1001))) (nCs (List.replicate 70 (iN 5001))) ((List.replicate ca.length [116, 119, 111]).map tV) ((List.replicate 70 [102, 111, 117, 114]).map tV) (.slice (some ⟨nA, 0, none⟩) 2 nc) (.slice (some ⟨tA, 0, none⟩) 2 tc) [.slice (some ⟨gA, 0, none⟩) nN gc, .slice (some ⟨gB, 0, none⟩) nN gd] [.slice (some ⟨hA, 0, none⟩) mN hc, .slice (some ⟨hB, 0, none⟩) mN hd] ((World.drew wr).alloc (.cells #[.string ⟨#[116, 104, 114, 101, 101]⟩, .string ⟨#[102, 111, 117, 114]⟩] 9))) := hs1
                          clear hs hs1 hg hlt hkn
                          go_wp2
                          refine wp_region45 (by kernel_rfl) ?_
                          refine r45_use2 _ bL tA hB ca.length mN aD hd tc 1 k ⟨#[102, 111, 117, 114]⟩ (by decide) Hlt.out Hkm.out rfl (fun o _ _ _ _ h => by cases o <;> exact h) (by kernel_rfl) (by kernel_rfl) (by kernel_rfl) (by kernel_rfl) (by kernel_rfl) HS0.out ?_
                          intros
                          dsimp only [Exit.then, List.take_succ_cons, List.take_zero, List.drop_succ_cons, List.drop_zero, List.cons_append, List.nil_append]
                          go_wp2
                          go_roundw
                          case rel =>
                            exact ⟨k + 1, by go_num, by omega, HSn.out⟩
                          case measure => simp [intOf]; omega
                      · have q0 : decide ((k : Int) < (mN : Int)) = false := decide_eq_false (by omega)
                        obtain rfl : mN = k := by omega
                        have HS : Hid (SP w a (.slice vA cv.length vC) (.slice aA ca.length aC) (.slice vB cv.length vD) (.slice aB ca.length aD) cv.length ca.length (.slice (some ⟨gA, 0, none⟩) nN gc) (.slice (some ⟨hA, 0, none⟩) mN hc) (.slice (some ⟨gB, 0, none⟩) nN gd) (.slice (some ⟨hB, 0, none⟩) mN hd) 70 70 70 70 (nCs (List.replicate cv.length (iN 1000))) (nCs (List.replicate 70 (iN 5000))) ((List.replicate ca.length [111, 110, 101]).map tV) ((List.replicate 70 [116, 104, 114, 101, 101]).map tV) (nCs (List.replicate cv.length (iN 1001))) (nCs (List.replicate 70 (iN 5001))) ((List.replicate ca.length [116, 119, 111]).map tV) ((List.replicate 70 [102, 111, 117, 114]).map tV) (.slice (some ⟨nA, 0, none⟩) 2 nc) (.slice (some ⟨tA, 0, none⟩) 2 tc) [.slice (some ⟨gA, 0, none⟩) nN gc, .slice (some ⟨gB, 0, none⟩) nN gd] [.slice (some ⟨hA, 0, none⟩) mN hc, .slice (some ⟨hB, 0, none⟩) mN hd] wr) := hs
                        clear hs hg hkn
                        go_wp2
                        go_roundw
                        case rel => exact .inr (.inr ⟨by go_num, HS.out⟩)
                        case measure => simp [intOf]
            · as_aux_lemma =>
                have HS : Hid (SP w a (.slice vA cv.length vC) (.slice aA ca.length aC) (.slice vB cv.length vD) (.slice aB ca.length aD) cv.length ca.length (.slice (some ⟨gA, 0, none⟩) nN gc) (.slice (some ⟨hA, 0, none⟩) mN hc) (.slice (some ⟨gB, 0, none⟩) nN gd) (.slice (some ⟨hB, 0, none⟩) mN hd) 70 70 70 70 (nCs (List.replicate cv.length (iN 1000))) (nCs (List.replicate 70 (iN 5000))) ((List.replicate ca.length [111, 110, 101]).map tV) ((List.replicate 70 [116, 104, 114, 101, 101]).map tV) (nCs (List.replicate cv.length (iN 1001))) (nCs (List.replicate 70 (iN 5001))) ((List.replicate ca.length [116, 119, 111]).map tV) ((List.replicate 70 [102, 111, 117, 114]).map tV) (.slice (some ⟨nA, 0, none⟩) 2 nc) (.slice (some ⟨tA, 0, none⟩) 2 tc) [.slice (some ⟨gA, 0, none⟩) nN gc, .slice (some ⟨gB, 0, none⟩) nN gd] [.slice (some ⟨hA, 0, none⟩) mN hc, .slice (some ⟨hB, 0, none⟩) mN hd] wr) := hs
                clear hs
                have C := HCP.out wr HS.out.bel
                go_wp2_with fail
                refine C.mono ?_
                clear C
                rintro e w10 ⟨⟨va, aa, rfl, hno, hot⟩, hB⟩
                (try dsimp only at hno hot)
                obtain ⟨vN, vM, hnN⟩ := hno.nr
                obtain ⟨e1, _, _⟩ := id hnN
                subst e1
                obtain ⟨aN, aM, e2, hnT⟩ := hot.tr
                subst e2
                unfold clV
                (try dsimp only)
                obtain ⟨w11, hw11⟩ : ∃ x, w10.alloc (.cells #[.slice vN cv.length vM, .string ⟨ci.toArray⟩, .bool chi, .string ⟨cs.toArray⟩, .bool chs, .slice aN ca.length aM, .bool cha, .string ⟨cj.toArray⟩, .bool chj, .bool ce1.has, .int .i64 ce1.at_, .bool ce2.has, .int .i64 ce2.at_, .bool ce3.has, .int .i64 ce3.at_] 28) = x := ⟨_, rfl⟩
                have hA : Below w10.heap.size w10 w11 := by rw [← hw11]; exact alloc_below _ _
                have hbN : Bl 28 w11 w10.heap.size [.slice vN cv.length vM, .string ⟨ci.toArray⟩, .bool chi, .string ⟨cs.toArray⟩, .bool chs, .slice aN ca.length aM, .bool cha, .string ⟨cj.toArray⟩, .bool chj, .bool ce1.has, .int .i64 ce1.at_, .bool ce2.has, .int .i64 ce2.at_, .bool ce3.has, .int .i64 ce3.at_] := by rw [← hw11]; exact alloc_bl _ _ _
                obtain ⟨bN, hbNe⟩ : ∃ b, w10.heap.size = b := ⟨_, rfl⟩
                rw [hbNe] at hbN
                have hs11 := HS.out.below (hB.trans (hA.mono hB.size))
                have p1 := bl_rng2 hbN
                have p2 := bl_rng2 (HTq.out w11 hs11.blk)
                have C := csame_eq vN vM aN aM vT vU aT aU ⟨cv, ci, chi, cs, chs, ca, cha, cj, chj, ce1, ce2, ce3⟩ w11 (hnN.below hA (Nat.le_refl _)) (hnT.below hA (Nat.le_refl _)) (HNT.out w11 hs11.blk) (HTT.out w11 hs11.blk) hcb.1 (Nat.le_trans hcb.2 (by decide))
                unfold clV at C
                dsimp only at C
                have HBN : Hid (w10.heap.size = bN) := hbNe
                have HW : Hid (w10.alloc (.cells #[.slice vN cv.length vM, .string ⟨ci.toArray⟩, .bool chi, .string ⟨cs.toArray⟩, .bool chs, .slice aN ca.length aM, .bool cha, .string ⟨cj.toArray⟩, .bool chj, .bool ce1.has, .int .i64 ce1.at_, .bool ce2.has, .int .i64 ce2.at_, .bool ce3.has, .int .i64 ce3.at_] 28) = w11) := hw11
                have HB11 : Hid (Below w.heap.size w w11) := hs11.bel
                clear hw11 hA hbN hbNe hs11 hno hot hB hnN hnT HS
                go_upto_region 48 with fail
                rw [HBN.out, HW.out]
                clear HBN HW
                go_wp2_with (first | (refine wpList_load_midG rfl 28 (.tmp 21) rfl bN 0 rfl [.slice vN cv.length vM, .string ⟨ci.toArray⟩, .bool chi, .string ⟨cs.toArray⟩, .bool chs, .slice aN ca.length aM, .bool cha, .string ⟨cj.toArray⟩, .bool chj, .bool ce1.has, .int .i64 ce1.at_, .bool ce2.has, .int .i64 ce2.at_, .bool ce3.has, .int .i64 ce3.at_] _ p1 Tryz.underlying28 rfl hcl ?_) | (refine wpList_load_midG rfl 28 (.tmp 7) rfl bT 0 rfl [.slice vT cv.length vU, .string ⟨ci.toArray⟩, .bool chi, .string ⟨cs.toArray⟩, .bool chs, .slice aT ca.length aU, .bool cha, .string ⟨cj.toArray⟩, .bool chj, .bool ce1.has, .int .i64 ce1.at_, .bool ce2.has, .int .i64 ce2.at_, .bool ce3.has, .int .i64 ce3.at_] _ p2 Tryz.underlying28 rfl hcl ?_) | fail)
                refine C.mono ?_
                clear C p1 p2
                rintro e w12 ⟨rfl, hB12⟩
                have HB : Hid (Below w.heap.size w w12) := HB11.out.trans (hB12.mono HB11.out.size)
                clear hB12
                go_wp2_with fail
                go_ret
                exact ⟨rfl, HB.out⟩

end Go.Proofs.YtjehkpndchadbaaGreatDoor
