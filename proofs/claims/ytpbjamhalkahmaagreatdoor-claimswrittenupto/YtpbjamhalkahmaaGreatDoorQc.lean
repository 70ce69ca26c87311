import Derived.Test.YtpbjamhalkahmaaGreatDoorQb
import Derived.Test.YtpbjamhalkahmaaGreatDoorEZ
import Derived.Test.YtpbjamhalkahmaaGreatDoorAw
import Derived.Test.YtpbjamhalkahmaaGreatDoorMa
import Derived.Test.YtpbjamhalkahmaaGreatDoorUZ
namespace Go.Proofs.YtpbjamhalkahmaaGreatDoor
open Go.RowKit Go.Shelf

theorem nCs_setQ (P : List Nd) (n m : Nd) (R : List Nd) (j : Nat) (v : Value) (hj : j < 6) (hm : (nC n).set j v = nC m) : (nCs (P ++ n :: R)).set (P.length * 6 + j) v = nCs (P ++ m :: R) := by
  have e1 : ∀ x : Nd, nCs (P ++ x :: R) = nCs P ++ (nC x ++ nCs R) := fun x => by rw [nCs_append]; rfl
  rw [e1, e1, List.set_append_right _ _ (by rw [nCs_length]; omega), nCs_length, show P.length * 6 + j - P.length * 6 = j by omega, List.set_append_left _ _ (by rw [nC_length]; exact hj), hm]
/-- One cell of a node is written over. -/
theorem no_cellQ {B : Nat} {w : World} {g n cap : Nat} {Y : List Nd} (h : NO B w (.slice (some ⟨g, 0, none⟩) n cap) Y) (hn : Y.length = n) (k j : Nat) (v : Value) (y : Nd) (hk : k < n) (hj : j < 6) (hy : (nC (Y.getD k (nd0 0))).set j v = nC y) :
    NO B (w.setCell ⟨g, k * 6 + j, none⟩ v) (.slice (some ⟨g, 0, none⟩) n cap) (Y.set k y) ∧ w.grownBy (w.setCell ⟨g, k * 6 + j, none⟩ v) (some g) := by
  have hN2 := h
  unfold NO at hN2
  rw [hn] at hN2
  have hYk : Y = Y.take k ++ (Y.getD k (nd0 0) :: Y.drop (k + 1)) := by rw [← dropN (by omega), List.take_append_drop]
  have hs := World.ownsRow.stored hN2 (k * 6 + j) v
  have hsn := nCs_setQ (Y.take k) (Y.getD k (nd0 0)) y (Y.drop (k + 1)) j v hj hy
  rw [List.length_take_of_le (by omega), ← hYk] at hsn
  rw [hsn] at hs
  refine ⟨?_, hs.2⟩
  unfold NO
  rw [List.length_set, hn, List.set_eq_take_append_cons_drop, if_pos (by omega)]
  exact hs.1
theorem no_atQ {B : Nat} {w : World} {g n cap : Nat} {Y : List Nd} (h : NO B w (.slice (some ⟨g, 0, none⟩) n cap) Y) (hn : Y.length = n) (k j : Nat) (v : Value) (hk : k < n) (hj : (nC (Y.getD k (nd0 0)))[j]? = some v) : w.cell? ⟨g, k * 6 + j, none⟩ = some v ∧ w.frozen? ⟨g, k * 6 + j, none⟩ = false := by
  have hN2 := h
  unfold NO at hN2
  rw [hn] at hN2
  have hj6 : j < 6 := (List.getElem?_eq_some_iff.1 hj).1
  have hYk : Y = Y.take k ++ (Y.getD k (nd0 0) :: Y.drop (k + 1)) := by rw [← dropN (by omega), List.take_append_drop]
  refine own_cell hN2 (k * 6 + j) v ?_
  have e1 : nCs Y = nCs (Y.take k) ++ (nC (Y.getD k (nd0 0)) ++ nCs (Y.drop (k + 1))) := by
    conv => lhs; rw [hYk]
    rw [nCs_append]
    rfl
  rw [e1, List.getElem?_append_right (by rw [nCs_length, List.length_take_of_le (by omega)]; omega), nCs_length, List.length_take_of_le (by omega), show k * 6 + j - k * 6 = j by omega, List.getElem?_append_left (by rw [nC_length]; exact hj6)]
  exact hj


theorem cparse_of {t : List UInt8} {x : List Nd} {p : Nat} (h : parseF t = (x, 0, p)) : cparseF t = if (x.getD 0 (nd0 0)).kind ≠ 7 then (cm0, 130) else if (kidsF x 0).all (fitF x) then (saidF x, 0) else (cm0, 131) := by
  unfold cparseF
  rw [h]
  simp
theorem cparse_bad {t : List UInt8} (h : (parseF t).2.1 ≠ 0) : (cparseF t).2 = (parseF t).2.1 := by
  unfold cparseF
  rw [if_pos h]
theorem cparse_ok {t : List UInt8} (h : (cparseF t).2 = 0) : (parseF t).2.1 = 0 ∧ ((parseF t).1.getD 0 (nd0 0)).kind = 7 ∧ (kidsF (parseF t).1 0).all (fitF (parseF t).1) = true ∧ cparseF t = (saidF (parseF t).1, 0) := by
  unfold cparseF at h ⊢
  by_cases h1 : (parseF t).2.1 = 0
  · rw [if_neg (by simpa using h1)] at h ⊢
    by_cases h7 : ((parseF t).1.getD 0 (nd0 0)).kind = 7
    · rw [if_neg (by simpa using h7)] at h ⊢
      cases ha : (kidsF (parseF t).1 0).all (fitF (parseF t).1) with
      | true => exact ⟨h1, h7, rfl, if_pos rfl⟩
      | false =>
        rw [ha, if_neg (by decide)] at h
        exact absurd h (by decide)
    · rw [if_pos h7] at h
      exact absurd h (by decide)
  · rw [if_pos h1] at h
    exact absurd h h1
theorem print_code {x : List Nd} (hs : shapedF x = true) : (printF x).2 = 0 ∨ (printF x).2 = 10 := by
  unfold printF
  rw [if_neg (by rw [hs]; decide)]
  split
  · exact .inr rfl
  · exact .inl rfl
theorem print_ok {x : List Nd} (h : (printF x).2 = 0) : parseF (printF x).1 = (x, 0, 0) := by
  unfold printF at h ⊢
  cases hs : shapedF x with
  | false =>
    rw [hs, if_pos rfl] at h
    exact absurd h (by decide)
  | true =>
    rw [if_neg (by rw [hs]; decide)] at h
    rw [if_neg (by decide)]
    by_cases hl : 262144 < (prF x 33 0).1.length
    · rw [if_pos hl] at h
      exact absurd h (by decide)
    · rw [if_neg hl]
      exact cparse_print hs (by omega)
theorem more_set {v : List Nd} (h0 : 0 < v.length) (name more : List UInt8) : v.set 0 { v.getD 0 (nd0 0) with kids := (v.getD 0 (nd0 0)).kids + 1 } ++ [⟨5, name, more, false, 0, 0⟩] = moreV v name more := by
  cases v with
  | nil => simp at h0
  | cons n r => rfl

theorem one_ndQ (w : World) (n : Nd) (cs : Array Value) (hcs : cs = (nC n).toArray) : NR (w.alloc (.cells cs 40)) (.slice (some ⟨w.heap.size, 0, none⟩) 1 1) [n] (some ⟨w.heap.size, 0, none⟩) 1 := by
  subst hcs
  have hbl : Bl 40 (w.alloc (.cells (nC n).toArray 40)) w.heap.size (nC n) := alloc_bl _ _ _
  refine ⟨rfl, Nat.le_refl _, .inr ⟨w.heap.size, 0, rfl, hbl.lt, fun j u hu => ?_⟩⟩
  rw [Nat.zero_add]
  rw [nCs_one] at hu
  obtain ⟨hj, e⟩ := List.getElem?_eq_some_iff.1 hu
  rw [← e]
  exact hbl.cell j hj
theorem tb_more {v : List Nd} (h : TB v) (h0 : 0 < v.length) {name more : List UInt8} (hn : name.length ≤ 1073741824) (hm : more.length ≤ 1073741824) : TB (moreV v name more) := by
  intro n hx
  unfold moreV at hx
  rcases List.mem_cons.1 hx with rfl | hx
  · exact h.at h0
  · rcases List.mem_append.1 hx with hx | hx
    · exact h n (List.mem_of_mem_drop hx)
    · rw [List.mem_singleton.1 hx]
      exact ⟨hm, hn⟩
theorem rngQ {t : TypeId} {w : World} {b : Nat} {cs : List Value} (h : Bl t w b cs) : w.rangeAt b 0 cs := fun j v hv => by
  obtain ⟨hj, e⟩ := List.getElem?_eq_some_iff.1 hv
  rw [Nat.zero_add, ← e]
  exact h.cell j hj
theorem cparse_lensQ (t : List UInt8) : (cparseF t).1.val.length ≤ 1000000000 ∧ (cparseF t).1.aud.length ≤ 1000000000 := by
  have h1 := (parse_bd t).1
  unfold cparseF
  split
  · exact ⟨Nat.zero_le _, Nat.zero_le _⟩
  · split
    · exact ⟨Nat.zero_le _, Nat.zero_le _⟩
    · split
      · refine ⟨by show (parseF t).1.length ≤ _; omega, ?_⟩
        show (tsF (parseF t).1 kAud).1.length ≤ _
        unfold tsF
        split
        · simp
        · split
          · simp
          · rw [List.length_map]
            have := @kids_len (parseF t).1 (memF (parseF t).1 0 kAud)
            omega
      · exact ⟨Nat.zero_le _, Nat.zero_le _⟩

set_option maxRecDepth 100000 in
set_option maxHeartbeats 64000000 in
/-- The law. -/
theorem cwritten_any (p nm mo : List UInt8) (w : World) (hG : GL w.heap.size w) (hnl : nm.length ≤ 1048576) (hml : mo.length ≤ 1048576) :
    Calls Tryz.prog 3 #[.string ⟨p.toArray⟩, .string ⟨nm.toArray⟩, .string ⟨mo.toArray⟩] w fun e w' => e = .returned (.bool true) ∧ Below w.heap.size w w' := by
  have C := awake_any w hG
  have HGq : Hid (∀ wq, Below w.heap.size w wq → GL wq.heap.size wq) := fun wq hq => (hG.below hq).up hq.size
  have HCP : Hid (∀ t wq, Below w.heap.size w wq → Calls Tryz.prog 5 #[.string ⟨t.toArray⟩] wq fun e w' => (∃ va aa, e = .returned (.tuple #[clV va aa (cparseF t).1, .int .i64 ((cparseF t).2 : Nat)]) ∧ NO wq.heap.size w' va (cparseF t).1.val ∧ OT wq.heap.size w' aa (cparseF t).1.aud) ∧ Below wq.heap.size wq w') := fun t wq hq => cparse_any t wq (HGq.out wq hq)
  have HJP : Hid (∀ wq, Below w.heap.size w wq → Calls Tryz.prog 6 #[.string ⟨p.toArray⟩] wq fun e w' => Below wq.heap.size wq w' ∧ ∃ v, e = .returned (.tuple #[v, .int .i64 ((parseF p).2.1 : Int), .int .i64 ((parseF p).2.2 : Int)]) ∧ NO wq.heap.size w' v (parseF p).1) := fun wq hq => parse_all p wq (HGq.out wq hq)
  have hcb : (cparseF p).1.val.length ≤ 1000000000 ∧ (cparseF p).1.aud.length ≤ 1000000000 := cparse_lensQ p
  have HBAD : Hid ((parseF p).2.1 ≠ 0 → (cparseF p).2 = (parseF p).2.1) := cparse_bad
  have HOK : Hid ((cparseF p).2 = 0 → (parseF p).2.1 = 0 ∧ ((parseF p).1.getD 0 (nd0 0)).kind = 7 ∧ (kidsF (parseF p).1 0).all (fitF (parseF p).1) = true ∧ cparseF p = (saidF (parseF p).1, 0)) := cparse_ok
  have HSQ : Hid ((parseF p).2.1 = 0 → Sq 0 [[]] (parseF p).1) := parse_val
  have HSAME : Hid (∀ s, (parseF p).2.1 = 0 → parseF s = ((parseF p).1, 0, 0) → cparseF s = cparseF p) := fun s h1 h2 => by
    rw [cparse_of h2, cparse_of (t := p) (x := (parseF p).1) (p := (parseF p).2.2) (by rw [← h1])]
  obtain ⟨hbd, htb⟩ := parse_bd p
  obtain ⟨cc, hcc⟩ : ∃ c, cparseF p = c := ⟨_, rfl⟩
  obtain ⟨pf, hpf⟩ : ∃ c, parseF p = c := ⟨_, rfl⟩
  have HCC : Hid (cparseF p = cc) := hcc
  rw [hcc] at hcb HBAD HOK HSAME
  rw [hpf] at HJP HBAD HOK HSQ HSAME hbd htb
  obtain ⟨⟨cv, ci, chi, cs, chs, ca, cha, cj, chj, ce1, ce2, ce3⟩, ec⟩ := cc
  obtain ⟨V, f, fp⟩ := pf
  dsimp only at *
  clear hcc hpf hG
  go_enter Tryz.func3, Tryz.ntmps3
  go_wp2_with fail
  refine C.mono ?_
  clear C
  rintro e w1 ⟨rfl, hB1⟩
  have HB1 : Hid (Below w.heap.size w w1) := hB1
  have C := HCP.out p w1 hB1
  rw [HCC.out] at C
  clear hB1
  go_wp2_with fail
  refine C.mono ?_
  clear C
  rintro e w2 ⟨⟨va, aa, rfl, hno, hot⟩, hB⟩
  (try dsimp only at hno hot)
  obtain ⟨vA, vC, hcN⟩ := hno.nr
  obtain ⟨e1, _, _⟩ := id hcN
  subst e1
  obtain ⟨aA, aC, e2, hcT⟩ := hot.tr
  subst e2
  unfold clV
  (try dsimp only)
  obtain ⟨w3, hw3⟩ : ∃ x, w2.alloc (.cells #[.slice vA cv.length vC, .string ⟨ci.toArray⟩, .bool chi, .string ⟨cs.toArray⟩, .bool chs, .slice aA ca.length aC, .bool cha, .string ⟨cj.toArray⟩, .bool chj, .bool ce1.has, .int .i64 ce1.at_, .bool ce2.has, .int .i64 ce2.at_, .bool ce3.has, .int .i64 ce3.at_] 28) = x := ⟨_, rfl⟩
  have hA3 : Below w2.heap.size w2 w3 := by rw [← hw3]; exact alloc_below _ _
  have hbC : Bl 28 w3 w2.heap.size [.slice vA cv.length vC, .string ⟨ci.toArray⟩, .bool chi, .string ⟨cs.toArray⟩, .bool chs, .slice aA ca.length aC, .bool cha, .string ⟨cj.toArray⟩, .bool chj, .bool ce1.has, .int .i64 ce1.at_, .bool ce2.has, .int .i64 ce2.at_, .bool ce3.has, .int .i64 ce3.at_] := by rw [← hw3]; exact alloc_bl _ _ _
  obtain ⟨bC, hbCe⟩ : ∃ b, w2.heap.size = b := ⟨_, rfl⟩
  rw [hbCe] at hbC
  have HBC : Hid (w2.heap.size = bC) := hbCe
  have HW3 : Hid (w2.alloc (.cells #[.slice vA cv.length vC, .string ⟨ci.toArray⟩, .bool chi, .string ⟨cs.toArray⟩, .bool chs, .slice aA ca.length aC, .bool cha, .string ⟨cj.toArray⟩, .bool chj, .bool ce1.has, .int .i64 ce1.at_, .bool ce2.has, .int .i64 ce2.at_, .bool ce3.has, .int .i64 ce3.at_] 28) = w3) := hw3
  have HB3 : Hid (Below w.heap.size w w3) := by
    have h3 := HB1.out.trans (hB.mono HB1.out.size)
    exact h3.trans (hA3.mono h3.size)
  have HcN : Hid (∀ wq, Below w3.heap.size w3 wq → NR wq (.slice vA cv.length vC) cv vA vC) := fun wq hq => (hcN.below hA3 (Nat.le_refl _)).below hq (Nat.le_refl _)
  have HcT : Hid (∀ wq, Below w3.heap.size w3 wq → TR wq (.slice aA ca.length aC) ca aA aC) := fun wq hq => (hcT.below hA3 (Nat.le_refl _)).below hq (Nat.le_refl _)
  have HCB : Hid (∀ wq, Below w3.heap.size w3 wq → Bl 28 wq bC [.slice vA cv.length vC, .string ⟨ci.toArray⟩, .bool chi, .string ⟨cs.toArray⟩, .bool chs, .slice aA ca.length aC, .bool cha, .string ⟨cj.toArray⟩, .bool chj, .bool ce1.has, .int .i64 ce1.at_, .bool ce2.has, .int .i64 ce2.at_, .bool ce3.has, .int .i64 ce3.at_]) := fun wq hq => hbC.below hq hbC.lt
  have hcl : (Tryz.prog.info? 28).map (·.size) = some 15 := by kernel_rfl
  have HBq : Hid (∀ wq, Below w3.heap.size w3 wq → Below w.heap.size w wq) := fun wq hq => HB3.out.trans (hq.mono HB3.out.size)
  have C := HJP.out w3 HB3.out
  clear hw3 hA3 hbC hbCe hcN hcT hno hot hB HB1 HJP
  go_wp2_with fail
  rw [HBC.out, HW3.out]
  clear HBC HW3
  refine C.mono ?_
  clear C
  rintro e w4 ⟨hB4, v4, rfl, hO4⟩
  have B4 : Hid (Below w3.heap.size w3 w4) := hB4
  by_cases hf : f = 0
  case neg =>
    have qf : ((f : Int) != 0) = true := by simp; omega
    have hef := HBAD.out hf
    subst hef
    have qe : ((ec : Int) == (ec : Int)) = true := by simp
    have HBz : Hid (Below w.heap.size w w4) := HBq.out w4 hB4
    clear hB4 hO4 HCP HSAME HOK HSQ HBAD HCC
    go_wp2
    go_ret
    exact ⟨rfl, HBz.out⟩
  subst hf
  have hsq := HSQ.out rfl
  have h0 := (all_of hsq hbd).1
  have hsh : shapedF V = true := Sq.shaped hsq
  obtain ⟨a4, c4, hr4⟩ := hO4.nr
  obtain ⟨e4, _, _⟩ := id hr4
  subst e4
  have HN4 : Hid (∀ wq, Below w4.heap.size w4 wq → NR wq (.slice a4 V.length c4) V a4 c4) := fun wq hq => hr4.below hq (Nat.le_refl _)
  have C := print_any _ V a4 c4 w4 hr4 (HGq.out w4 (HBq.out w4 hB4)) htb (by omega)
  have hpc := print_code hsh
  have HPO : Hid ((printF V).2 = 0 → parseF (printF V).1 = (V, 0, 0)) := print_ok
  obtain ⟨⟨s, g⟩, hpv⟩ : ∃ q, printF V = q := ⟨_, rfl⟩
  rw [hpv] at C hpc HPO
  dsimp only at C hpc HPO
  have HS0 : Hid (Sq 0 [[]] V) := hsq
  clear hB4 hO4 hr4 HSQ HBAD hpv hsh hsq
  go_wp2_with fail
  refine C.mono ?_
  clear C
  rintro e w5 ⟨rfl, hB5⟩
  have B5 : Hid (Below w4.heap.size w4 w5) := hB5
  have B5' : Hid (Below w3.heap.size w3 w5) := B4.out.trans (hB5.mono B4.out.size)
  have HB4q : Hid (∀ wq, Below w4.heap.size w4 wq → Below w3.heap.size w3 wq) := fun wq hq => B4.out.trans (hq.mono B4.out.size)
  clear hB5
  by_cases hg : g = 0
  case neg =>
    have hg10 : g = 10 := by omega
    subst hg10
    have HBz : Hid (Below w.heap.size w w5) := HBq.out w5 B5'.out
    clear HCP HSAME HOK HPO HCC
    go_wp2
    go_ret
    exact ⟨rfl, HBz.out⟩
  subst hg
  have hse := HSAME.out s (by first | rfl | trivial) (HPO.out (by first | rfl | trivial))
  have C := HCP.out s w5 (HBq.out w5 B5'.out)
  rw [hse] at C
  dsimp only at C
  clear HSAME HPO hse hpc
  go_wp2_with fail
  refine C.mono ?_
  clear C
  rintro e w6 ⟨⟨va, aa, rfl, hno, hot⟩, hB⟩
  (try dsimp only at hno hot)
  obtain ⟨vB, vD, hdN⟩ := hno.nr
  obtain ⟨e1, _, _⟩ := id hdN
  subst e1
  obtain ⟨aB, aD, e2, hdT⟩ := hot.tr
  subst e2
  unfold clV
  (try dsimp only)
  obtain ⟨w7, hw7⟩ : ∃ x, w6.alloc (.cells #[.slice vB cv.length vD, .string ⟨ci.toArray⟩, .bool chi, .string ⟨cs.toArray⟩, .bool chs, .slice aB ca.length aD, .bool cha, .string ⟨cj.toArray⟩, .bool chj, .bool ce1.has, .int .i64 ce1.at_, .bool ce2.has, .int .i64 ce2.at_, .bool ce3.has, .int .i64 ce3.at_] 28) = x := ⟨_, rfl⟩
  have hA7 : Below w6.heap.size w6 w7 := by rw [← hw7]; exact alloc_below _ _
  have hbD : Bl 28 w7 w6.heap.size [.slice vB cv.length vD, .string ⟨ci.toArray⟩, .bool chi, .string ⟨cs.toArray⟩, .bool chs, .slice aB ca.length aD, .bool cha, .string ⟨cj.toArray⟩, .bool chj, .bool ce1.has, .int .i64 ce1.at_, .bool ce2.has, .int .i64 ce2.at_, .bool ce3.has, .int .i64 ce3.at_] := by rw [← hw7]; exact alloc_bl _ _ _
  have B7 : Hid (Below w4.heap.size w4 w7) := by
    have h3 := B5.out.trans (hB.mono B5.out.size)
    exact h3.trans (hA7.mono h3.size)
  have B7' : Hid (Below w3.heap.size w3 w7) := HB4q.out w7 B7.out
  obtain ⟨bD, hbDe⟩ : ∃ b, w6.heap.size = b := ⟨_, rfl⟩
  rw [hbDe] at hbD
  have HBD : Hid (w6.heap.size = bD) := hbDe
  have HW7 : Hid (w6.alloc (.cells #[.slice vB cv.length vD, .string ⟨ci.toArray⟩, .bool chi, .string ⟨cs.toArray⟩, .bool chs, .slice aB ca.length aD, .bool cha, .string ⟨cj.toArray⟩, .bool chj, .bool ce1.has, .int .i64 ce1.at_, .bool ce2.has, .int .i64 ce2.at_, .bool ce3.has, .int .i64 ce3.at_] 28) = w7) := hw7
  have p1 : w7.rangeAt bC 0 [.slice vA cv.length vC, .string ⟨ci.toArray⟩, .bool chi, .string ⟨cs.toArray⟩, .bool chs, .slice aA ca.length aC, .bool cha, .string ⟨cj.toArray⟩, .bool chj, .bool ce1.has, .int .i64 ce1.at_, .bool ce2.has, .int .i64 ce2.at_, .bool ce3.has, .int .i64 ce3.at_] := rngQ (HCB.out w7 B7'.out)
  have p2 : w7.rangeAt bD 0 [.slice vB cv.length vD, .string ⟨ci.toArray⟩, .bool chi, .string ⟨cs.toArray⟩, .bool chs, .slice aB ca.length aD, .bool cha, .string ⟨cj.toArray⟩, .bool chj, .bool ce1.has, .int .i64 ce1.at_, .bool ce2.has, .int .i64 ce2.at_, .bool ce3.has, .int .i64 ce3.at_] := rngQ hbD
  have C := csame_eq vA vC aA aC vB vD aB aD ⟨cv, ci, chi, cs, chs, ca, cha, cj, chj, ce1, ce2, ce3⟩ w7 (HcN.out w7 B7'.out) (HcT.out w7 B7'.out) (hdN.below hA7 (Nat.le_refl _)) (hdT.below hA7 (Nat.le_refl _)) hcb.1 (Nat.le_trans hcb.2 (by decide))
  unfold clV at C
  dsimp only at C
  have qe : ((ec : Int) != (ec : Int)) = false := by simp
  clear hw7 hA7 hbD hbDe hdN hdT hno hot hB B5 B5'
  go_upto_region 11 with fail
  rw [HBD.out, HW7.out]
  clear HBD HW7
  go_wp2_with (first | (refine wpList_load_midG rfl 28 (.tmp 7) rfl bC 0 rfl [.slice vA cv.length vC, .string ⟨ci.toArray⟩, .bool chi, .string ⟨cs.toArray⟩, .bool chs, .slice aA ca.length aC, .bool cha, .string ⟨cj.toArray⟩, .bool chj, .bool ce1.has, .int .i64 ce1.at_, .bool ce2.has, .int .i64 ce2.at_, .bool ce3.has, .int .i64 ce3.at_] _ p1 Tryz.underlying28 rfl hcl ?_) | (refine wpList_load_midG rfl 28 (.tmp 14) rfl bD 0 rfl [.slice vB cv.length vD, .string ⟨ci.toArray⟩, .bool chi, .string ⟨cs.toArray⟩, .bool chs, .slice aB ca.length aD, .bool cha, .string ⟨cj.toArray⟩, .bool chj, .bool ce1.has, .int .i64 ce1.at_, .bool ce2.has, .int .i64 ce2.at_, .bool ce3.has, .int .i64 ce3.at_] _ p2 Tryz.underlying28 rfl hcl ?_) | fail)
  refine C.mono ?_
  clear C p1 p2 qe
  rintro e w8 ⟨rfl, hB8⟩
  have B8 : Hid (Below w4.heap.size w4 w8) := B7.out.trans (hB8.mono B7.out.size)
  have HBz : Hid (Below w.heap.size w w8) := HBq.out w8 (HB4q.out w8 B8.out)
  clear hB8 B7 B7'
  by_cases hkIss : nm = kIss
  · subst hkIss
    clear HCP HOK HCC
    go_wp2
    go_ret
    exact ⟨rfl, HBz.out⟩
  have qkIss : (nm == [105, 115, 115]) = false := by simpa using hkIss
  by_cases hkSub : nm = kSub
  · subst hkSub
    clear HCP HOK HCC
    go_wp2
    go_ret
    exact ⟨rfl, HBz.out⟩
  have qkSub : (nm == [115, 117, 98]) = false := by simpa using hkSub
  by_cases hkAud : nm = kAud
  · subst hkAud
    clear HCP HOK HCC
    go_wp2
    go_ret
    exact ⟨rfl, HBz.out⟩
  have qkAud : (nm == [97, 117, 100]) = false := by simpa using hkAud
  by_cases hkJti : nm = kJti
  · subst hkJti
    clear HCP HOK HCC
    go_wp2
    go_ret
    exact ⟨rfl, HBz.out⟩
  have qkJti : (nm == [106, 116, 105]) = false := by simpa using hkJti
  by_cases hkExp : nm = kExp
  · subst hkExp
    clear HCP HOK HCC
    go_wp2
    go_ret
    exact ⟨rfl, HBz.out⟩
  have qkExp : (nm == [101, 120, 112]) = false := by simpa using hkExp
  by_cases hkNbf : nm = kNbf
  · subst hkNbf
    clear HCP HOK HCC
    go_wp2
    go_ret
    exact ⟨rfl, HBz.out⟩
  have qkNbf : (nm == [110, 98, 102]) = false := by simpa using hkNbf
  by_cases hkIat : nm = kIat
  · subst hkIat
    clear HCP HOK HCC
    go_wp2
    go_ret
    exact ⟨rfl, HBz.out⟩
  have qkIat : (nm == [105, 97, 116]) = false := by simpa using hkIat
  have hst : strange nm := ⟨hkIss, hkSub, hkAud, hkJti, hkExp, hkNbf, hkIat⟩
  clear hkIss hkSub hkAud hkJti hkExp hkNbf hkIat
  by_cases he : ec = 0
  case neg =>
    have qe : ((ec : Int) != 0) = true := by simp; omega
    clear HCP HOK HCC
    go_wp2
    go_ret
    exact ⟨rfl, HBz.out⟩
  subst he
  obtain ⟨_, h7, hfit, hsaid⟩ := HOK.out (by first | rfl | trivial)
  have C := member_any _ V a4 c4 0 nm w8 (HN4.out w8 B8.out) (by omega)
  obtain ⟨mv, hmv⟩ : ∃ m, memF V 0 nm = m := ⟨_, rfl⟩
  rw [hmv] at C
  clear HOK hmv
  go_wp2_with fail
  refine C.mono ?_
  clear C
  rintro e w9 ⟨rfl, hB9⟩
  have B9 : Hid (Below w4.heap.size w4 w9) := B8.out.trans (hB9.mono B8.out.size)
  have HBz : Hid (Below w.heap.size w w9) := HBq.out w9 (HB4q.out w9 B9.out)
  clear hB9 B8
  by_cases hmm : mv ≥ 0
  · have qm : decide (mv ≥ 0) = true := decide_eq_true hmm
    clear HCP HCC
    go_wp2
    go_ret
    exact ⟨rfl, HBz.out⟩
  have qm : decide (mv ≥ 0) = false := decide_eq_false hmm
  clear qkIss qkSub qkAud qkJti qkExp qkNbf qkIat
  -- the longer value
  obtain ⟨wa, hwa⟩ : ∃ x, w9.alloc (.cells #[] 40) = x := ⟨_, rfl⟩
  have hAa : Below w9.heap.size w9 wa := by rw [← hwa]; exact alloc_below _ _
  have Ba : Hid (Below w4.heap.size w4 wa) := B9.out.trans (hAa.mono B9.out.size)
  have hnoa : NO w4.heap.size wa (.slice (some ⟨w9.heap.size, 0, none⟩) 0 0) [] := by rw [← hwa]; exact World.ownsRow_lit w9 #[] 0 B9.out.size (by decide) rfl
  have hSa : w4.heap.size ≤ wa.heap.size := Ba.out.size
  have hRa := HN4.out wa Ba.out
  have ha4 : a4 = none → c4 = 0 := fun e => by
    exfalso
    rcases hRa.cell with e0 | ⟨g0, o0, e0, _⟩
    · rw [e0] at h0; simp at h0
    · rw [e] at e0; cases e0
  have HWA : Hid (w9.alloc (.cells #[] 40) = wa) := hwa
  clear hwa hAa
  go_upto_region 25 with (at_builtin; rw [HWA.out]; refine append_nds rfl (.tmp 77) (.tmp 78) rfl w4.heap.size (.slice (some ⟨w9.heap.size, 0, none⟩) 0 0) [] rfl hnoa a4 c4 V rfl hRa ha4 (by simp only [List.length_nil]; omega) hSa ?_; intro vb wb hob hgb; have HOB : Hid (NO w4.heap.size wb vb V) := hob; have Bb : Hid (Below w4.heap.size w4 wb) := Ba.out.grown hgb hSa (own_block hnoa); obtain ⟨xb, cb, exb, _, hgx⟩ := own_slice hob; subst exb; clear hob hgb hnoa hRa hSa)
  obtain ⟨gx, egx⟩ := hgx h0
  subst egx
  obtain ⟨⟨k0, y0, t0, b0, z0, K⟩, hV0⟩ : ∃ n, V.getD 0 (nd0 0) = n := ⟨_, rfl⟩
  have hat := no_atQ HOB.out rfl 0 5 (.int .i64 K) h0 (by rw [hV0]; rfl)
  have hst5 := no_cellQ HOB.out rfl 0 5 (.int .i64 (K + 1)) ⟨k0, y0, t0, b0, z0, K + 1⟩ h0 (by decide) (by rw [hV0]; rfl)
  rw [show 0 * 6 + 5 = 5 from rfl] at hat hst5
  have k5 := hat.1
  have f5 := hat.2
  have hKb : 0 ≤ K ∧ K ≤ 262144 := by
    have h1 := (at_of HS0.out hbd h0).ln
    rw [hV0] at h1
    have h2 := @kids_len V ((0 : Nat) : Int)
    dsimp only at h1
    omega
  have hK0 := hKb.1
  have hK1 := hKb.2
  have hKw : IntKind.i64.wrap (K + 1) = K + 1 := IntWalk.i64_in _ (by omega)
  obtain ⟨wc, hwc⟩ : ∃ x, wb.setCell ⟨gx, 5, none⟩ (.int .i64 (K + 1)) = x := ⟨_, rfl⟩
  rw [hwc] at hst5
  have hgx4 : w4.heap.size ≤ gx := (HOB.out.lt gx rfl).1
  have Bc : Hid (Below w4.heap.size w4 wc) := by rw [← hwc]; exact Bb.out.setCell hgx4 _
  have HOC : Hid (NO w4.heap.size wc (.slice (some ⟨gx, 0, none⟩) V.length cb) (V.set 0 ⟨k0, y0, t0, b0, z0, K + 1⟩)) := hst5.1
  have HSET : Hid (V.set 0 ⟨k0, y0, t0, b0, z0, K + 1⟩ ++ [⟨5, nm, mo, false, 0, 0⟩] = moreV V nm mo) := by
    have h1 := more_set h0 nm mo
    rw [hV0] at h1
    exact h1
  have hl0 : (0 : Int) < (V.length : Int) := by omega
  clear hat hst5 hKb HOB hV0 hgx4 Bb
  go_upto_region 26 with fail
  clear hwc k5 f5 hKw hK0 hK1
  have hsl : (V.set 0 ⟨k0, y0, t0, b0, z0, K + 1⟩).length = V.length := List.length_set
  generalize V.set 0 ⟨k0, y0, t0, b0, z0, K + 1⟩ = Y at *
  have HSL : Hid (Y.length = V.length) := hsl
  have hnd : NR (wc.alloc (.cells #[.int .i64 5, .string ⟨nm.toArray⟩, .string ⟨mo.toArray⟩, .bool false, .int .i64 0, .int .i64 0] 40)) (.slice (some ⟨wc.heap.size, 0, none⟩) 1 1) [⟨5, nm, mo, false, 0, 0⟩] (some ⟨wc.heap.size, 0, none⟩) 1 := one_ndQ wc ⟨5, nm, mo, false, 0, 0⟩ #[.int .i64 5, .string ⟨nm.toArray⟩, .string ⟨mo.toArray⟩, .bool false, .int .i64 0, .int .i64 0] rfl
  have hod : NO w4.heap.size (wc.alloc (.cells #[.int .i64 5, .string ⟨nm.toArray⟩, .string ⟨mo.toArray⟩, .bool false, .int .i64 0, .int .i64 0] 40)) (.slice (some ⟨gx, 0, none⟩) V.length cb) Y := World.ownsRow.alloc HOC.out _
  have hSd : w4.heap.size ≤ (wc.alloc (.cells #[.int .i64 5, .string ⟨nm.toArray⟩, .string ⟨mo.toArray⟩, .bool false, .int .i64 0, .int .i64 0] 40)).heap.size := by rw [alloc_size]; have := Bc.out.size; omega
  have hBd : Below w4.heap.size w4 (wc.alloc (.cells #[.int .i64 5, .string ⟨nm.toArray⟩, .string ⟨mo.toArray⟩, .bool false, .int .i64 0, .int .i64 0] 40)) := Bc.out.trans ((alloc_below _ _).mono Bc.out.size)
  obtain ⟨X, hX⟩ : ∃ X, moreV V nm mo = X := ⟨_, rfl⟩
  have HXe : Hid (moreV V nm mo = X) := hX
  clear hsl hX HOC
  go_upto_region 27 with (at_builtin; refine append_nds (wr := wc.alloc (.cells #[.int .i64 5, .string ⟨nm.toArray⟩, .string ⟨mo.toArray⟩, .bool false, .int .i64 0, .int .i64 0] 40)) rfl (.tmp 87) (.tmp 91) rfl w4.heap.size (.slice (some ⟨gx, 0, none⟩) V.length cb) Y rfl hod (some ⟨wc.heap.size, 0, none⟩) 1 [⟨5, nm, mo, false, 0, 0⟩] rfl hnd (fun h => by cases h) (by rw [HSL.out]; simp only [List.length_cons, List.length_nil]; omega) hSd ?_; intro ve we hoe hge; have HOE : Hid (NO w4.heap.size we ve X) := (by rw [← HXe.out, ← HSET.out]; exact hoe); have Be : Hid (Below w4.heap.size w4 we) := hBd.grown hge hSd (own_block hod); clear hoe hge hod hnd hSd hBd)
  obtain ⟨aX, cX, hrX⟩ := HOE.out.nr
  obtain ⟨eX, _, _⟩ := id hrX
  subst eX
  have HNX : Hid (∀ wq, Below we.heap.size we wq → NR wq (.slice aX X.length cX) X aX cX) := fun wq hq => hrX.below hq (Nat.le_refl _)
  have hXl : X.length ≤ 300000 := by rw [← HXe.out, more_len h0]; omega
  have htbX : TB X := by rw [← HXe.out]; exact tb_more htb h0 (by omega) (by omega)
  have C := print_any _ X aX cX we hrX (HGq.out we (HBq.out we (HB4q.out we Be.out))) htbX (by omega)
  have HPX : Hid ((printF X).2 = 0 → parseF (printF X).1 = (X, 0, 0)) := print_ok
  obtain ⟨⟨t, g2⟩, hpx⟩ : ∃ q, printF X = q := ⟨_, rfl⟩
  rw [hpx] at C HPX
  dsimp only at C HPX
  clear hrX HOE htbX hpx HSET HSL htb
  go_wp2_with fail
  refine C.mono ?_
  clear C
  rintro e wf ⟨rfl, hBf⟩
  have Bfe : Hid (Below we.heap.size we wf) := hBf
  have Bf : Hid (Below w4.heap.size w4 wf) := Be.out.trans (hBf.mono Be.out.size)
  clear hBf
  by_cases hg2 : g2 = 0
  case neg =>
    have qg : ((g2 : Int) != 0) = true := by simp; omega
    have HBz : Hid (Below w.heap.size w wf) := HBq.out wf (HB4q.out wf Bf.out)
    clear HCP HPX HCC hsaid hfit
    go_wp2
    go_ret
    exact ⟨rfl, HBz.out⟩
  subst hg2
  have hcp : cparseF t = (⟨X, ci, chi, cs, chs, ca, cha, cj, chj, ce1, ce2, ce3⟩, 0) := by
    have h1 := cparse_of (HPX.out (by first | rfl | trivial))
    have h2 := more_fit HS0.out hbd nm mo hst
    have h3 := more_said HS0.out hbd h7 nm mo hst
    have h4 : saidF V = ⟨cv, ci, chi, cs, chs, ca, cha, cj, chj, ce1, ce2, ce3⟩ := (congrArg Prod.fst hsaid).symm
    rw [HXe.out] at h2 h3
    rw [h4] at h3
    rw [h1, if_neg (by rw [← HXe.out, more_zero]; simpa using h7), h2, hfit, if_pos rfl, h3]
  have C := HCP.out t wf (HBq.out wf (HB4q.out wf Bf.out))
  rw [hcp] at C
  dsimp only at C
  clear HCP HPX hcp HCC hfit h7
  go_wp2_with fail
  refine C.mono ?_
  clear C
  rintro e wg ⟨⟨va, aa, rfl, hno, hot⟩, hB⟩
  (try dsimp only at hno hot)
  obtain ⟨vE, vF, hbN⟩ := hno.nr
  obtain ⟨e1, _, _⟩ := id hbN
  subst e1
  obtain ⟨aE, aF, e2, hbT⟩ := hot.tr
  subst e2
  unfold clV
  (try dsimp only)
  obtain ⟨wh, hwh⟩ : ∃ x, wg.alloc (.cells #[.slice vE X.length vF, .string ⟨ci.toArray⟩, .bool chi, .string ⟨cs.toArray⟩, .bool chs, .slice aE ca.length aF, .bool cha, .string ⟨cj.toArray⟩, .bool chj, .bool ce1.has, .int .i64 ce1.at_, .bool ce2.has, .int .i64 ce2.at_, .bool ce3.has, .int .i64 ce3.at_] 28) = x := ⟨_, rfl⟩
  have hAh : Below wg.heap.size wg wh := by rw [← hwh]; exact alloc_below _ _
  have hbE : Bl 28 wh wg.heap.size [.slice vE X.length vF, .string ⟨ci.toArray⟩, .bool chi, .string ⟨cs.toArray⟩, .bool chs, .slice aE ca.length aF, .bool cha, .string ⟨cj.toArray⟩, .bool chj, .bool ce1.has, .int .i64 ce1.at_, .bool ce2.has, .int .i64 ce2.at_, .bool ce3.has, .int .i64 ce3.at_] := by rw [← hwh]; exact alloc_bl _ _ _
  have Bhe : Hid (Below we.heap.size we wh) := by
    have h3 := Bfe.out.trans (hB.mono Bfe.out.size)
    exact h3.trans (hAh.mono h3.size)
  have Bh : Hid (Below w4.heap.size w4 wh) := Be.out.trans (Bhe.out.mono Be.out.size)
  have Bh' : Hid (Below w3.heap.size w3 wh) := HB4q.out wh Bh.out
  obtain ⟨bE, hbEe⟩ : ∃ b, wg.heap.size = b := ⟨_, rfl⟩
  rw [hbEe] at hbE
  have HBE : Hid (wg.heap.size = bE) := hbEe
  have HWH : Hid (wg.alloc (.cells #[.slice vE X.length vF, .string ⟨ci.toArray⟩, .bool chi, .string ⟨cs.toArray⟩, .bool chs, .slice aE ca.length aF, .bool cha, .string ⟨cj.toArray⟩, .bool chj, .bool ce1.has, .int .i64 ce1.at_, .bool ce2.has, .int .i64 ce2.at_, .bool ce3.has, .int .i64 ce3.at_] 28) = wh) := hwh
  have HEB : Hid (Bl 28 wh bE [.slice vE X.length vF, .string ⟨ci.toArray⟩, .bool chi, .string ⟨cs.toArray⟩, .bool chs, .slice aE ca.length aF, .bool cha, .string ⟨cj.toArray⟩, .bool chj, .bool ce1.has, .int .i64 ce1.at_, .bool ce2.has, .int .i64 ce2.at_, .bool ce3.has, .int .i64 ce3.at_]) := hbE
  have e0 := hbE.cell 0 (by simp)
  have hlt3 : w3.heap.size ≤ bE := by rw [← hbEe]; have h8 := (HB4q.out wf Bf.out).size; have h9 := hB.size; omega
  have HBTq : Hid (∀ wq, Below wg.heap.size wg wq → TR wq (.slice aE ca.length aF) ca aE aF) := fun wq hq => hbT.below hq (Nat.le_refl _)
  have HAH : Hid (Below wg.heap.size wg wh) := hAh
  have HLE : Hid (wg.heap.size ≤ bE) := Nat.le_of_eq hbEe
  have C := snodes_any (.slice vE X.length vF) (.slice aX X.length cX) X X vE aX vF cX wh (hbN.below hAh (Nat.le_refl _)) (HNX.out wh Bhe.out) (by omega)
  rw [decide_eq_true rfl] at C
  clear hwh hAh hbE hbEe hbN hbT hno hot hB Bfe Bf HNX
  go_upto_region 31 with fail
  rw [HBE.out, HWH.out]
  clear HBE HWH
  go_wp2_with fail
  refine C.mono ?_
  clear C e0
  rintro e wi ⟨rfl, q, rfl⟩
  have B9' : Hid (Below w3.heap.size w3 (wh.drewN q)) := below_drewN Bh'.out q
  have d0 := (HCB.out _ B9'.out).cell 0 (by simp)
  have hEB : Bl 28 (wh.drewN q) bE [.slice vE X.length vF, .string ⟨ci.toArray⟩, .bool chi, .string ⟨cs.toArray⟩, .bool chs, .slice aE ca.length aF, .bool cha, .string ⟨cj.toArray⟩, .bool chj, .bool ce1.has, .int .i64 ce1.at_, .bool ce2.has, .int .i64 ce2.at_, .bool ce3.has, .int .i64 ce3.at_] := HEB.out
  have x0 := hEB.cell 0 (by simp)
  have xf := hEB.frozen 0
  have hne : bC ≠ bE := fun e => by
    have h8 := (HCB.out w3 (Below.refl _ _)).lt
    omega
  have hset := hEB.set 0 (.slice vA cv.length vC)
  obtain ⟨wj, hwj⟩ : ∃ x, (wh.drewN q).setCell ⟨bE, 0, none⟩ (.slice vA cv.length vC) = x := ⟨_, rfl⟩
  rw [hwj] at hset
  have Bj : Hid (Below w3.heap.size w3 wj) := by rw [← hwj]; exact B9'.out.setCell hlt3 _
  have p1 : wj.rangeAt bE 0 [.slice vA cv.length vC, .string ⟨ci.toArray⟩, .bool chi, .string ⟨cs.toArray⟩, .bool chs, .slice aE ca.length aF, .bool cha, .string ⟨cj.toArray⟩, .bool chj, .bool ce1.has, .int .i64 ce1.at_, .bool ce2.has, .int .i64 ce2.at_, .bool ce3.has, .int .i64 ce3.at_] := rngQ hset
  have p2 : wj.rangeAt bC 0 [.slice vA cv.length vC, .string ⟨ci.toArray⟩, .bool chi, .string ⟨cs.toArray⟩, .bool chs, .slice aA ca.length aC, .bool cha, .string ⟨cj.toArray⟩, .bool chj, .bool ce1.has, .int .i64 ce1.at_, .bool ce2.has, .int .i64 ce2.at_, .bool ce3.has, .int .i64 ce3.at_] := rngQ (HCB.out wj Bj.out)
  have hT9 : TR wj (.slice aE ca.length aF) ca aE aF := HBTq.out wj (by rw [← hwj]; exact (below_drewN HAH.out q).setCell HLE.out _)
  have C := csame_eq vA vC aE aF vA vC aA aC ⟨cv, ci, chi, cs, chs, ca, cha, cj, chj, ce1, ce2, ce3⟩ wj (HcN.out wj Bj.out) hT9 (HcN.out wj Bj.out) (HcT.out wj Bj.out) hcb.1 (Nat.le_trans hcb.2 (by decide))
  unfold clV at C
  dsimp only at C
  clear hset hT9 hEB HEB HBTq Bh Bhe Be
  go_upto_region 34 with fail
  clear hwj x0 xf d0
  go_wp2_with (first | (refine wpList_load_midG rfl 28 (.tmp 18) rfl bE 0 rfl [.slice vA cv.length vC, .string ⟨ci.toArray⟩, .bool chi, .string ⟨cs.toArray⟩, .bool chs, .slice aE ca.length aF, .bool cha, .string ⟨cj.toArray⟩, .bool chj, .bool ce1.has, .int .i64 ce1.at_, .bool ce2.has, .int .i64 ce2.at_, .bool ce3.has, .int .i64 ce3.at_] _ p1 Tryz.underlying28 rfl hcl ?_) | (refine wpList_load_midG rfl 28 (.tmp 7) rfl bC 0 rfl [.slice vA cv.length vC, .string ⟨ci.toArray⟩, .bool chi, .string ⟨cs.toArray⟩, .bool chs, .slice aA ca.length aC, .bool cha, .string ⟨cj.toArray⟩, .bool chj, .bool ce1.has, .int .i64 ce1.at_, .bool ce2.has, .int .i64 ce2.at_, .bool ce3.has, .int .i64 ce3.at_] _ p2 Tryz.underlying28 rfl hcl ?_) | fail)
  refine C.mono ?_
  clear C p1 p2
  rintro e wk ⟨rfl, hBk⟩
  have HBz : Hid (Below w.heap.size w wk) := HBq.out wk (Bj.out.trans (hBk.mono Bj.out.size))
  clear hBk
  go_wp2
  go_ret
  exact ⟨rfl, HBz.out⟩

end Go.Proofs.YtpbjamhalkahmaaGreatDoor
