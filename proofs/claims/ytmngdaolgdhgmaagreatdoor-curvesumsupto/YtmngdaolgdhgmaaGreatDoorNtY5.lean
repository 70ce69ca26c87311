import Derived.Test.YtmngdaolgdhgmaaGreatDoorNtY4
import Derived.Test.YtmngdaolgdhgmaaGreatDoorNtY3
namespace Go.Proofs.YtmngdaolgdhgmaaGreatDoor
open Go.RowKit

/-- A number as the document's calls want it. -/
def Nd (w : World) (v : Value) (V k : Nat) : Prop := Vl w v V k ∧ Nz v ∧ ∀ a n c, v = .slice a n c → c ≤ 9223372036854775807
theorem Nd.below {w w' : World} {v : Value} {V k n : Nat} (h : Nd w v V k) (hb : Below n w w') (hn : w.heap.size ≤ n) : Nd w' v V k := ⟨h.1.below hb hn, h.2⟩
theorem Nd.le {w : World} {v : Value} {V k m : Nat} (h : Nd w v V k) (hk : k ≤ m) : Nd w v V m := ⟨h.1.le hk, h.2⟩
theorem New.nd {w w' : World} {r : Value} {V k : Nat} (h : New w w' r V k) : Nd w' r V k := ⟨h.vl, h.1.nz, h.1.cap⟩
theorem Re.nd {w w' : World} {r : Value} {V : Nat} (h : Re w w' r V) : Nd w' r V 3000000 := New.nd h
theorem Om.nd {w : World} {r : Value} {V : Nat} (h : Om w r V) : Nd w r V 3000000 := ⟨h.nu, h.1.nz, h.1.cap⟩
theorem dtrim (v : Value) (V k : Nat) (w : World) (hv : Nd w v V k) (hk : k ≤ 3000000) : Calls Tryz.prog 126 #[v] w fun e w' => ∃ r, e = .returned r ∧ Re w w' r V := by
  have hl := hv.1.len
  obtain ⟨⟨xs, n1, rfl, k1⟩, hz, hc⟩ := hv
  refine (trim_nm v xs w n1 hz hc (by omega)).mono ?_
  rintro e w' ⟨r, rfl, h1, h2⟩
  exact ⟨r, rfl, h1, by omega, h2⟩
theorem dcmp (v u : Value) (U V k m : Nat) (w : World) (hv : Vl w v U k) (hu : Vl w u V m) (hk : k ≤ 100000000) (hm : m ≤ 100000000) :
    Calls Tryz.prog 127 #[v, u] w fun e w' => e = .returned (.int .i64 (cmp3 U V)) ∧ w' = w := by
  obtain ⟨xs, n1, rfl, k1⟩ := hv
  obtain ⟨ys, n2, rfl, k2⟩ := hu
  exact s7_rcmp_nm v u xs ys w n1 n2 (by omega) (by omega)
theorem dplus (v u : Value) (U V k m : Nat) (w : World) (hv : Vl w v U k) (hu : Vl w u V m) (hk : k ≤ 100000000) (hm : m ≤ 100000000) :
    Calls Tryz.prog 104 #[v, u] w fun e w' => ∃ r, e = .returned r ∧ New w w' r (U + V) (k + m + 1) := by
  have l1 := hv.len
  have l2 := hu.len
  obtain ⟨xs, n1, rfl, k1⟩ := hv
  obtain ⟨ys, n2, rfl, k2⟩ := hu
  refine (plus_nm v u xs ys w n1 n2 (by omega) (by omega)).mono ?_
  rintro e w' ⟨r, rfl, h1, h2⟩
  exact ⟨r, rfl, h1, dgl_add _ _ _ _ l1 l2, h2⟩
theorem dtimes (v u : Value) (U V k m : Nat) (w : World) (hv : Vl w v U k) (hu : Vl w u V m) (hk : k ≤ 100000000) (hm : m ≤ 100000000) :
    Calls Tryz.prog 106 #[v, u] w fun e w' => ∃ r, e = .returned r ∧ New w w' r (U * V) (k + m) := by
  have l1 := hv.len
  have l2 := hu.len
  obtain ⟨xs, n1, rfl, k1⟩ := hv
  obtain ⟨ys, n2, rfl, k2⟩ := hu
  refine (times_nm v u xs ys w n1 n2 (by omega) (by omega)).mono ?_
  rintro e w' ⟨r, rfl, h1, h2⟩
  exact ⟨r, rfl, h1, dgl_mul _ _ _ _ l1 l2, h2⟩
theorem dminus (v u : Value) (U V k m : Nat) (w : World) (hv : Vl w v U k) (hu : Vl w u V m) (hk : k ≤ 100000000) (hle : V ≤ U) :
    Calls Tryz.prog 105 #[v, u] w fun e w' => ∃ r, e = .returned r ∧ New w w' r (U - V) k := by
  have l1 := hv.len
  obtain ⟨xs, n1, rfl, k1⟩ := hv
  obtain ⟨ys, n2, rfl, k2⟩ := hu
  refine (minus_nm v u xs ys w n1 n2 (by omega) hle).mono ?_
  rintro e w' ⟨r, rfl, h1, h2⟩
  exact ⟨r, rfl, h1, dgl_le _ _ _ (Nat.sub_le _ _) l1, h2⟩
theorem ddivide (v u : Value) (U V k m : Nat) (w : World) (hv : Nd w v U k) (hu : Nd w u V m) (hk : k ≤ 10000000) (hm : m ≤ 10000000) (h0 : V ≠ 0) :
    Calls Tryz.prog 129 #[v, u] w fun e w' => ∃ q r, e = .returned (.tuple #[q, r]) ∧ New w w' q (U / V) k ∧ New w w' r (U % V) m := by
  have l1 := hv.1.len
  have l2 := hu.1.len
  obtain ⟨⟨xs, n1, e1, k1⟩, hz, hc⟩ := hv
  obtain ⟨⟨ys, n2, e2, k2⟩, hz2, hc2⟩ := hu
  refine (rdivide_any v u xs ys U V w n1 hz hc n2 hz2 hc2 e1 e2 (by omega) (by omega) h0).mono ?_
  rintro e w' ⟨q, r, rfl, h1, h2, h3⟩
  exact ⟨q, r, rfl, ⟨h1, dgl_le _ _ _ (Nat.div_le_self _ _) l1, h3⟩, h2, dgl_le _ _ _ (Nat.le_of_lt (Nat.mod_lt _ (by omega))) l2, h3⟩
theorem drest (v u : Value) (U V : Nat) (w : World) (hv : Nd w v U 10000000) (hu : Nd w u V 3000000) (h0 : V ≠ 0) :
    Calls Tryz.prog 103 #[v, u] w fun e w' => ∃ r, e = .returned r ∧ Re w w' r (U % V) := by
  have C := ddivide v u U V _ _ w hv hu (by decide) (by decide) h0
  clear hv hu h0
  go_enter Tryz.func103, Tryz.ntmps103
  go_wp2_with fail
  refine C.mono ?_
  rintro e w1 ⟨q, r, rfl, _, h⟩
  have H : Hid (Re w w1 r (U % V)) := h
  clear C h
  go_wp2
  go_ret
  exact ⟨r, rfl, H.out⟩
theorem done1 (w : World) : Calls Tryz.prog 128 #[] w fun e w' => ∃ r, e = .returned r ∧ Re w w' r 1 := by
  have HR : Hid (Re w (w.alloc (.cells #[.int .u32 1] 51)) (.slice (some ⟨w.heap.size, 0, none⟩) 1 1) 1) := by
    have h := Bl.ow (base := w.heap.size) (alloc_bl w ([1].map U) 51) 1 (by simp) (Nat.le_refl _) (by simp)
    rw [show ([1] : List Nat).take 1 = dg Bs 1 by rw [dg_small (by decide) (by decide)]; rfl] at h
    exact ⟨h, by rw [dg_small (by decide) (by decide)]; decide, alloc_below _ _⟩
  go_enter Tryz.func128, Tryz.ntmps128
  go_wp2
  go_ret
  exact ⟨_, rfl, HR.out⟩

/-- Numbers that lie in a row, as the document's calls want them. -/
def Nds (w : World) (g n : Nat) (vs : Nat → Value) (Vs : Nat → Nat) : Prop := ∀ j, j < n → w.cell? ⟨g, j, none⟩ = some (vs j) ∧ Nd w (vs j) (Vs j) 3000000

set_option maxHeartbeats 2000000 in
theorem dwrong (m : Value) (M g n : Nat) (vs : Nat → Value) (Vs : Nat → Nat) (w : World) (hm : Nd w m M 3000000) (h : Nds w g n vs Vs) (hn : n ≤ 10) :
    Calls Tryz.prog 102 #[m, .slice (some ⟨g, 0, none⟩) n n] w fun e w' => e = .returned (.int .i64 ((rcode M (anyL n Vs) : Nat) : Int)) ∧ Below w.heap.size w w' := by
  have H : Hid (Nds w g n vs Vs) := h
  have HM : Hid (Nd w m M 3000000) := hm
  clear h hm
  go_enter Tryz.func102, Tryz.ntmps102
  go_wp2
  go_loopw [5] (fun s wr => ∃ k : Nat, k ≤ n ∧ s = .int .i64 (k : Int) ∧ Hid (Below w.heap.size w wr) ∧ Hid (∀ j, j < k → Lg (Vs j) = false)) (fun s _ => n - (intOf s).toNat)
  case atStart => exact ⟨0, Nat.zero_le _, rfl, Below.refl _ _, fun j hj => by omega⟩
  case round =>
    obtain ⟨k, hk, rfl, HB, hf⟩ := hrel
    by_cases hlt : k < n
    · have hc := cell_below (H.out k hlt).1 HB.out (Nat.le_refl _)
      have C := dtrim (vs k) (Vs k) _ wr ((H.out k hlt).2.below HB.out (Nat.le_refl _)) (by decide)
      have hlI : (k : Int) < (n : Int) := by omega
      generalize vs k = v at hc C
      go_wp2_with fail
      refine C.mono ?_
      clear C
      rintro e w1 ⟨r, rfl, hr⟩
      have HB1 : Hid (Below _ _ _) := HB.out.trans (hr.bel.mono HB.out.size)
      obtain ⟨nl, Hnl, hnl⟩ : ∃ nl : Nat, Hid ((dg Bs (Vs k)).length = nl) ∧ decide ((nl : Int) > 128) = Lg (Vs k) := ⟨_, rfl, by unfold Lg; congr 1; simp; omega⟩
      obtain ⟨ra, rc, rfl, _⟩ := hr.1.nm (dg_sm Bs_two _)
      rw [Hnl.out]
      have hnb : nl ≤ 3000000 := by rw [← Hnl.out]; exact hr.2.1
      clear hr
      cases hL : Lg (Vs k) with
      | true =>
        rw [hL] at hnl
        have HC : Hid (rcode M (anyL n Vs) = 10) := by
          show _ = _
          have h1 : anyL n Vs = true := by unfold anyL; rw [List.any_eq_true]; exact ⟨k, List.mem_range.2 hlt, hL⟩
          unfold rcode
          rw [h1, Bool.or_true, if_pos rfl]
        clear hL
        go_wp2
        go_ret
        rw [HC.out]
        exact ⟨rfl, HB1.out⟩
      | false =>
        rw [hL] at hnl
        have HL : Hid (Lg (Vs k) = false) := hL
        clear hL
        go_wp2
        go_roundw
        case rel => exact ⟨k + 1, by omega, by go_num, HB1, fun j hj => by
          by_cases e : j = k
          · rw [e]; exact HL.out
          · exact hf.out j (by omega)⟩
        case measure => simp [intOf]; omega
    · have hlI : ¬ (k : Int) < (n : Int) := by omega
      have HA : Hid (anyL n Vs = false) := by
        show anyL n Vs = false
        unfold anyL
        rw [List.any_eq_false]
        intro j hj
        rw [hf.out j (by have := List.mem_range.1 hj; omega)]
        decide
      have HM1 := HM.out.below HB.out (Nat.le_refl _)
      have C := dtrim m M _ wr HM1 (by decide)
      have HM2 : Hid (Nd wr m M 3000000) := HM1
      clear HM1 hf
      go_wp2_with fail
      refine C.mono ?_
      clear C
      rintro e w1 ⟨r, rfl, hr⟩
      have HB1 : Hid (Below _ _ _) := HB.out.trans (hr.bel.mono HB.out.size)
      have HM3 : Hid (Nd w1 m M 3000000) := HM2.out.below hr.bel (Nat.le_refl _)
      obtain ⟨nl, Hnl, hnl⟩ : ∃ nl : Nat, Hid ((dg Bs M).length = nl) ∧ decide ((nl : Int) > 128) = Lg M := ⟨_, rfl, by unfold Lg; congr 1; simp; omega⟩
      obtain ⟨ra, rc, rfl, _⟩ := hr.1.nm (dg_sm Bs_two _)
      rw [Hnl.out]
      have hnb : nl ≤ 3000000 := by rw [← Hnl.out]; exact hr.2.1
      clear hr
      cases hL : Lg M with
      | true =>
        rw [hL] at hnl
        have HC : Hid (rcode M (anyL n Vs) = 10) := by
          show _ = _
          unfold rcode
          rw [hL, Bool.true_or, if_pos rfl]
        clear hL
        go_wp2
        go_ret
        rw [HC.out]
        exact ⟨rfl, HB1.out⟩
      | false =>
        rw [hL] at hnl
        have HC : Hid (rcode M (anyL n Vs) = if M < 2 then 60 else 0) := by
          show _ = _
          unfold rcode
          rw [hL, HA.out, if_neg (by decide)]
        clear hL
        go_wp2_with fail
        refine (done1 w1).mono ?_
        rintro e w2 ⟨o1, rfl, ho⟩
        have HB2 : Hid (Below _ _ _) := HB1.out.trans (ho.bel.mono HB1.out.size)
        have C := dcmp m o1 M 1 _ _ w2 (HM3.out.below ho.bel (Nat.le_refl _)).1 ho.nu (by decide) (by decide)
        clear ho
        by_cases h2 : M < 2
        · have hcb : decide (cmp3 ((M : Nat) : Int) ((1 : Nat) : Int) ≤ 0) = true := by
            rcases (by omega : M = 0 ∨ M = 1) with h | h <;> subst h <;> decide
          rw [if_pos h2] at HC
          generalize cmp3 ((M : Nat) : Int) ((1 : Nat) : Int) = oo at C hcb
          clear h2
          go_wp2_with fail
          refine C.mono ?_
          clear C
          rintro e w3 ⟨rfl, rfl⟩
          go_wp2
          go_ret
          rw [HC.out]
          exact ⟨rfl, HB2.out⟩
        · rw [cmp3_gt (by omega)] at C
          rw [if_neg h2] at HC
          clear h2
          go_wp2_with fail
          refine C.mono ?_
          clear C
          rintro e w3 ⟨rfl, rfl⟩
          go_wp2
          go_ret
          rw [HC.out]
          exact ⟨rfl, HB2.out⟩

theorem Nd.shape {w : World} {v : Value} {V k : Nat} (h : Nd w v V k) : ∃ a n c, v = .slice a n c := by obtain ⟨⟨xs, ⟨a, c, e, _⟩, _⟩, _⟩ := h; exact ⟨a, _, c, e⟩
theorem dwrong1 (m a : Value) (M A : Nat) (w : World) (hm : Nd w m M 3000000) (ha : Nd w a A 3000000) :
    Calls Tryz.prog 102 #[m, .slice (some ⟨w.heap.size, 0, none⟩) 1 1] (w.alloc (.cells #[a] 24)) fun e w' => e = .returned (.int .i64 ((rcode M (Lg A) : Nat) : Int)) ∧ Below w.heap.size w w' := by
  have hb := alloc_below w (.cells #[a] 24)
  have h := dwrong m M w.heap.size 1 (fun _ => a) (fun _ => A) _ (hm.below hb (Nat.le_refl _)) (fun j hj => by
    obtain rfl : j = 0 := by omega
    exact ⟨(alloc_bl w [a] 24).cell 0 (by simp), ha.below hb (Nat.le_refl _)⟩) (by decide)
  rw [show anyL 1 (fun _ => A) = Lg A by unfold anyL; simp [List.range_succ]] at h
  refine h.mono ?_
  rintro e w' ⟨rfl, h2⟩
  exact ⟨rfl, hb.trans (h2.mono hb.size)⟩
theorem dwrong2 (m a b : Value) (M A B : Nat) (w : World) (hm : Nd w m M 3000000) (ha : Nd w a A 3000000) (hb : Nd w b B 3000000) :
    Calls Tryz.prog 102 #[m, .slice (some ⟨w.heap.size, 0, none⟩) 2 2] (w.alloc (.cells #[a, b] 24)) fun e w' => e = .returned (.int .i64 ((rcode M (Lg A || Lg B) : Nat) : Int)) ∧ Below w.heap.size w w' := by
  have hbel := alloc_below w (.cells #[a, b] 24)
  have h := dwrong m M w.heap.size 2 (fun j => if j = 0 then a else b) (fun j => if j = 0 then A else B) _ (hm.below hbel (Nat.le_refl _)) (fun j hj => by
    rcases (by omega : j = 0 ∨ j = 1) with rfl | rfl
    · exact ⟨(alloc_bl w [a, b] 24).cell 0 (by simp), ha.below hbel (Nat.le_refl _)⟩
    · exact ⟨(alloc_bl w [a, b] 24).cell 1 (by simp), hb.below hbel (Nat.le_refl _)⟩) (by decide)
  rw [show anyL 2 (fun j => if j = 0 then A else B) = (Lg A || Lg B) by unfold anyL; simp [List.range_succ]] at h
  refine h.mono ?_
  rintro e w' ⟨rfl, h2⟩
  exact ⟨rfl, hbel.trans (h2.mono hbel.size)⟩


set_option maxHeartbeats 4000000 in
theorem dadd (a b m : Value) (A B M : Nat) (w : World) (ha : Nd w a A 3000000) (hb : Nd w b B 3000000) (hm : Nd w m M 3000000) :
    Calls Tryz.prog 71 #[a, b, m] w fun e w' => Ans w w' e (rcode M (Lg A || Lg B)) ((A + B) % M) := by
  obtain ⟨a0, a1, a2, rfl⟩ := ha.shape
  obtain ⟨b0, b1, b2, rfl⟩ := hb.shape
  have C := dwrong2 m _ _ M A B w hm ha hb
  by_cases h0 : rcode M (Lg A || Lg B) = 0
  · have hM : 2 ≤ M := (rcode_zero h0).2.2
    have lB0 : Hid (Lg B = false) := by have := (rcode_zero h0).2.1; simp at this; exact this.2
    rw [h0] at C ⊢
    have HA : Hid (Nd w (.slice a0 a1 a2) A 3000000) := ha
    have HB : Hid (Nd w (.slice b0 b1 b2) B 3000000) := hb
    have HM : Hid (Nd w m M 3000000) := hm
    clear ha hb hm h0
    go_enter Tryz.func71, Tryz.ntmps71
    go_wp2_with fail
    refine C.mono ?_
    clear C
    rintro e w1 ⟨rfl, hbel⟩
    have HB1 : Hid (Below w.heap.size w w1) := hbel
    clear hbel
    have C := dplus _ _ _ _ _ _ w1 (HA.out.below HB1.out (Nat.le_refl _)).1 (HB.out.below HB1.out (Nat.le_refl _)).1 (by decide) (by decide)
    go_wp2_with fail
    refine C.mono ?_
    clear C
    rintro e w2 ⟨s, rfl, hn⟩
    have HB2 : Hid (Below _ _ _) := HB1.out.trans (hn.2.2.mono HB1.out.size)
    have Ns : Hid (Nd w2 s _ 10000000) := hn.nd.le (by decide)
    clear hn
    have C := drest s m _ M w2 Ns.out (HM.out.below HB2.out (Nat.le_refl _)) (by omega)
    go_wp2_with fail
    refine C.mono ?_
    clear C
    rintro e w3 ⟨r, rfl, hn⟩
    have HB3 : Hid (Below _ _ _) := HB2.out.trans (hn.2.2.mono HB2.out.size)
    have H : Hid (Re w w3 r ((A + B) % M)) := Re.later HB2.out hn
    clear hn
    go_wp2
    go_ret2
    exact .inr ⟨rfl, r, rfl, H.out⟩
  · generalize rcode M (Lg A || Lg B) = c at C h0
    have hc : ((c : Int) != 0) = true := by simp; omega
    have Hc : Hid (c ≠ 0) := h0
    clear ha hb hm h0
    go_enter Tryz.func71, Tryz.ntmps71
    go_wp2_with fail
    refine C.mono ?_
    clear C
    rintro e w1 ⟨rfl, hbel⟩
    have HB1 : Hid (Below w.heap.size w w1) := hbel
    clear hbel
    go_wp2
    go_ret2
    exact .inl ⟨Hc.out, rfl, HB1.out⟩

set_option maxHeartbeats 4000000 in
theorem dmul (a b m : Value) (A B M : Nat) (w : World) (ha : Nd w a A 3000000) (hb : Nd w b B 3000000) (hm : Nd w m M 3000000) :
    Calls Tryz.prog 73 #[a, b, m] w fun e w' => Ans w w' e (rcode M (Lg A || Lg B)) (A * B % M) := by
  obtain ⟨a0, a1, a2, rfl⟩ := ha.shape
  obtain ⟨b0, b1, b2, rfl⟩ := hb.shape
  have C := dwrong2 m _ _ M A B w hm ha hb
  by_cases h0 : rcode M (Lg A || Lg B) = 0
  · have hM : 2 ≤ M := (rcode_zero h0).2.2
    have lB0 : Hid (Lg B = false) := by have := (rcode_zero h0).2.1; simp at this; exact this.2
    rw [h0] at C ⊢
    have HA : Hid (Nd w (.slice a0 a1 a2) A 3000000) := ha
    have HB : Hid (Nd w (.slice b0 b1 b2) B 3000000) := hb
    have HM : Hid (Nd w m M 3000000) := hm
    clear ha hb hm h0
    go_enter Tryz.func73, Tryz.ntmps73
    go_wp2_with fail
    refine C.mono ?_
    clear C
    rintro e w1 ⟨rfl, hbel⟩
    have HB1 : Hid (Below w.heap.size w w1) := hbel
    clear hbel
    have C := dtimes _ _ _ _ _ _ w1 (HA.out.below HB1.out (Nat.le_refl _)).1 (HB.out.below HB1.out (Nat.le_refl _)).1 (by decide) (by decide)
    go_wp2_with fail
    refine C.mono ?_
    clear C
    rintro e w2 ⟨s, rfl, hn⟩
    have HB2 : Hid (Below _ _ _) := HB1.out.trans (hn.2.2.mono HB1.out.size)
    have Ns : Hid (Nd w2 s _ 10000000) := hn.nd.le (by decide)
    clear hn
    have C := drest s m _ M w2 Ns.out (HM.out.below HB2.out (Nat.le_refl _)) (by omega)
    go_wp2_with fail
    refine C.mono ?_
    clear C
    rintro e w3 ⟨r, rfl, hn⟩
    have HB3 : Hid (Below _ _ _) := HB2.out.trans (hn.2.2.mono HB2.out.size)
    have H : Hid (Re w w3 r (A * B % M)) := Re.later HB2.out hn
    clear hn
    go_wp2
    go_ret2
    exact .inr ⟨rfl, r, rfl, H.out⟩
  · generalize rcode M (Lg A || Lg B) = c at C h0
    have hc : ((c : Int) != 0) = true := by simp; omega
    have Hc : Hid (c ≠ 0) := h0
    clear ha hb hm h0
    go_enter Tryz.func73, Tryz.ntmps73
    go_wp2_with fail
    refine C.mono ?_
    clear C
    rintro e w1 ⟨rfl, hbel⟩
    have HB1 : Hid (Below w.heap.size w w1) := hbel
    clear hbel
    go_wp2
    go_ret2
    exact .inl ⟨Hc.out, rfl, HB1.out⟩

set_option maxHeartbeats 4000000 in
theorem dsub (a b m : Value) (A B M : Nat) (w : World) (ha : Nd w a A 3000000) (hb : Nd w b B 3000000) (hm : Nd w m M 3000000) :
    Calls Tryz.prog 72 #[a, b, m] w fun e w' => Ans w w' e (rcode M (Lg A || Lg B)) (lessV M (A % M) (B % M)) := by
  obtain ⟨a0, a1, a2, rfl⟩ := ha.shape
  obtain ⟨b0, b1, b2, rfl⟩ := hb.shape
  have C := dwrong2 m _ _ M A B w hm ha hb
  by_cases h0 : rcode M (Lg A || Lg B) = 0
  · have hM : 2 ≤ M := (rcode_zero h0).2.2
    have lB0 : Hid (Lg B = false) := by have := (rcode_zero h0).2.1; simp at this; exact this.2
    rw [h0] at C ⊢
    have HA : Hid (Nd w (.slice a0 a1 a2) A 3000000) := ha
    have HB : Hid (Nd w (.slice b0 b1 b2) B 3000000) := hb
    have HM : Hid (Nd w m M 3000000) := hm
    clear ha hb hm h0
    go_enter Tryz.func72, Tryz.ntmps72
    go_wp2_with fail
    refine C.mono ?_
    clear C
    rintro e w1 ⟨rfl, hbel⟩
    have HB1 : Hid (Below w.heap.size w w1) := hbel
    clear hbel
    have C := drest _ m A M w1 ((HA.out.below HB1.out (Nat.le_refl _)).le (by decide)) (HM.out.below HB1.out (Nat.le_refl _)) (by omega)
    go_wp2_with fail
    refine C.mono ?_
    clear C
    rintro e w2 ⟨ra, rfl, hn⟩
    have HB2 : Hid (Below _ _ _) := HB1.out.trans (hn.2.2.mono HB1.out.size)
    have Nra : Hid (Nd w2 ra (A % M) 3000000) := hn.nd
    clear hn
    have C := dplus ra m _ _ _ _ w2 Nra.out.1 (HM.out.below HB2.out (Nat.le_refl _)).1 (by decide) (by decide)
    go_wp2_with fail
    refine C.mono ?_
    clear C
    rintro e w3 ⟨t, rfl, hn⟩
    have HB3 : Hid (Below _ _ _) := HB2.out.trans (hn.2.2.mono HB2.out.size)
    have Nt : Hid (Nd w3 t (A % M + M) 10000000) := hn.nd.le (by decide)
    clear hn Nra
    have C := drest _ m B M w3 ((HB.out.below HB3.out (Nat.le_refl _)).le (by decide)) (HM.out.below HB3.out (Nat.le_refl _)) (by omega)
    go_wp2_with fail
    refine C.mono ?_
    clear C
    rintro e w4 ⟨rb, rfl, hn⟩
    have HB4 : Hid (Below _ _ _) := HB3.out.trans (hn.2.2.mono HB3.out.size)
    replace Nt : Hid (Nd w4 t (A % M + M) 10000000) := Nt.out.below hn.2.2 (Nat.le_refl _)
    have Nrb : Hid (Nd w4 rb (B % M) 3000000) := hn.nd
    clear hn
    have C := dminus t rb _ _ _ _ w4 Nt.out.1 Nrb.out.1 (by decide) (by have := Nat.mod_lt B (show 0 < M by omega); omega)
    go_wp2_with fail
    refine C.mono ?_
    clear C
    rintro e w5 ⟨u, rfl, hn⟩
    have HB5 : Hid (Below _ _ _) := HB4.out.trans (hn.2.2.mono HB4.out.size)
    have Nu5 : Hid (Nd w5 u (A % M + M - B % M) 10000000) := hn.nd
    clear hn Nt Nrb
    have C := drest u m _ M w5 Nu5.out (HM.out.below HB5.out (Nat.le_refl _)) (by omega)
    go_wp2_with fail
    refine C.mono ?_
    clear C
    rintro e w6 ⟨r, rfl, hn⟩
    have HB6 : Hid (Below _ _ _) := HB5.out.trans (hn.2.2.mono HB5.out.size)
    rw [← lessV_mod (Nat.mod_lt A (show 0 < M by omega)) (Nat.mod_lt B (show 0 < M by omega))] at hn
    have H : Hid (Re w w6 r (lessV M (A % M) (B % M))) := Re.later HB5.out hn
    clear hn
    go_wp2
    go_ret2
    exact .inr ⟨rfl, r, rfl, H.out⟩
  · generalize rcode M (Lg A || Lg B) = c at C h0
    have hc : ((c : Int) != 0) = true := by simp; omega
    have Hc : Hid (c ≠ 0) := h0
    clear ha hb hm h0
    go_enter Tryz.func72, Tryz.ntmps72
    go_wp2_with fail
    refine C.mono ?_
    clear C
    rintro e w1 ⟨rfl, hbel⟩
    have HB1 : Hid (Below w.heap.size w w1) := hbel
    clear hbel
    go_wp2
    go_ret2
    exact .inl ⟨Hc.out, rfl, HB1.out⟩

end Go.Proofs.YtmngdaolgdhgmaaGreatDoor

namespace Go.Proofs.YtmngdaolgdhgmaaGreatDoor
open Go.RowKit

end Go.Proofs.YtmngdaolgdhgmaaGreatDoor
