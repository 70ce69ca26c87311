import Derived.Test.YthlfboaidhgnlaaGreatDoorLk
import Derived.Test.YthlfboaidhgnlaaGreatDoorLg
import Derived.Test.YthlfboaidhgnlaaGreatDoorLe
import Derived.Test.YthlfboaidhgnlaaGreatDoorAw
namespace Go.Proofs.YthlfboaidhgnlaaGreatDoor
open Go.RowKit

/-- What the window says of the clocks. -/
theorem win_way {e n i : Tm} {l x : Int} (he : I64 e.at_) (hn : I64 n.at_) (hi : I64 i.at_) (hl : 0 ≤ l ∧ l ≤ 600) (hx : lstF e l = some x) (_hle : ¬ x < max (fstF n l) (fstF i l)) :
    (∀ y, I64 y → (clockF e n i l y = 0 ↔ (max (fstF n l) (fstF i l) ≤ y ∧ y ≤ x))) ∧ (∀ y, I64 y → x < y → clockF e n i l y = 134) := by
  constructor
  · intro y hy
    rw [clock_way he hn hi hy hl.1 hl.2, hx]
    show (if x < y then 134 else if y < fstF n l then 135 else if y < fstF i l then 136 else 0) = 0 ↔ _
    split
    · constructor
      · intro h; cases h
      · intro h; omega
    · split
      · constructor
        · intro h; cases h
        · intro h; omega
      · split
        · constructor
          · intro h; cases h
          · intro h; omega
        · constructor
          · intro _; omega
          · intro _; rfl
  · intro y hy h
    rw [clock_way he hn hi hy hl.1 hl.2, hx]
    exact if_pos h
theorem win_none {e n i : Tm} {l : Int} (he : I64 e.at_) (hn : I64 n.at_) (hi : I64 i.at_) (hl : 0 ≤ l ∧ l ≤ 600) (hx : (openF e n i l).1.empty = true) : ∀ y, I64 y → clockF e n i l y ≠ 0 := by
  intro y hy
  rw [clock_way he hn hi hy hl.1 hl.2]
  cases hz : lstF e l with
  | none => simp
  | some x =>
    rw [open_some hl hz] at hx
    split at hx
    · show (if x < y then 134 else if y < fstF n l then 135 else if y < fstF i l then 136 else 0) ≠ 0
      split
      · simp
      · split
        · simp
        · split
          · simp
          · omega
    · cases hx
theorem clock_more {e n i : Tm} {l m y : Int} (hl : 0 ≤ l ∧ l ≤ 600) (h : clockF e n i l y = 0) (h1 : l ≤ m) (h2 : m ≤ 600) : clockF e n i m y = 0 := by
  unfold clockF at *
  rw [if_neg (by omega)] at h ⊢
  split at h
  · cases h
  · rename_i a
    split at h
    · cases h
    · rename_i b
      split at h
      · cases h
      · rename_i c
        rw [if_neg (fun hh => a ⟨hh.1, by have := hh.2; omega⟩), if_neg (fun hh => b ⟨hh.1, by have := hh.2; omega⟩), if_neg (fun hh => c ⟨hh.1, by have := hh.2; omega⟩)]
theorem clock_less {e n i : Tm} {l y : Int} (h : clockF e n i l y = 0) : clockF tm0 n i l y = 0 ∧ clockF e tm0 i l y = 0 ∧ clockF e n tm0 l y = 0 := by
  unfold clockF at *
  split at h
  · cases h
  · rename_i z
    split at h
    · cases h
    · rename_i a
      split at h
      · cases h
      · rename_i b
        split at h
        · cases h
        · rename_i c
          have t : ∀ p : Prop, ¬ (tm0.has = true ∧ p) := fun p hh => by cases hh.1
          refine ⟨?_, ?_, ?_⟩
          · rw [if_neg z, if_neg (t _), if_neg b, if_neg c]
          · rw [if_neg z, if_neg a, if_neg (t _), if_neg c]
          · rw [if_neg z, if_neg a, if_neg b, if_neg (t _)]
theorem open_in {e n i : Tm} {l : Int} (hl : 0 ≤ l ∧ l ≤ 600) : ((openF e n i l).1 = ⟨true, 0, 0⟩ ∧ (openF e n i l).2 = 0) ∨ ∃ x, lstF e l = some x ∧ ¬ x < max (fstF n l) (fstF i l) ∧ (openF e n i l).1 = ⟨false, max (fstF n l) (fstF i l), x⟩ ∧ (openF e n i l).2 = 0 := by
  cases hz : lstF e l with
  | none => rw [open_none hl hz]; exact .inl ⟨rfl, rfl⟩
  | some x =>
    rw [open_some hl hz]
    by_cases h : x < max (fstF n l) (fstF i l)
    · rw [if_pos h]; exact .inl ⟨rfl, rfl⟩
    · rw [if_neg h]; exact .inr ⟨x, rfl, h, rfl, rfl⟩

set_option maxRecDepth 100000 in
set_option maxHeartbeats 16000000 in
theorem clockLaw_out (va : Option Addr) (vn vc : Nat) (s1 : ByteArray) (b2 : Bool) (s3 : ByteArray) (b4 : Bool) (aa : Option Addr) (an ac : Nat) (b6 : Bool) (s7 : ByteArray) (b8 : Bool) (e n i : Tm) (l more now : Int) (w : World) (he : I64 e.at_) (hn : I64 n.at_) (hi : I64 i.at_) (_hm : I64 more) (hw : I64 now) (hG : GL w.heap.size w) (hl : ¬ (0 ≤ l ∧ l ≤ 600)) : Calls Tryz.prog 3 #[clW (.slice va vn vc) (.string s1) (.bool b2) (.string s3) (.bool b4) (.slice aa an ac) (.bool b6) (.string s7) (.bool b8) e n i, .int .i64 l, .int .i64 more, .int .i64 now] w fun r w' => r = .returned (.bool true) ∧ Below w.heap.size w w' := by
  unfold clW
  obtain ⟨W, hW⟩ : ∃ W : World, w.alloc (.cells #[.slice va vn vc, .string s1, .bool b2, .string s3, .bool b4, .slice aa an ac, .bool b6, .string s7, .bool b8, .bool e.has, .int .i64 e.at_, .bool n.has, .int .i64 n.at_, .bool i.has, .int .i64 i.at_] 27) = W := ⟨_, rfl⟩
  have hB : Below w.heap.size w W := by rw [← hW]; exact alloc_below _ _
  have hbl : Bl 27 W w.heap.size [.slice va vn vc, .string s1, .bool b2, .string s3, .bool b4, .slice aa an ac, .bool b6, .string s7, .bool b8, .bool e.has, .int .i64 e.at_, .bool n.has, .int .i64 n.at_, .bool i.has, .int .i64 i.at_] := by rw [← hW]; exact alloc_bl _ _ _
  have HRq : Hid (∀ wq, Below W.heap.size W wq → wq.rangeAt w.heap.size 0 [.slice va vn vc, .string s1, .bool b2, .string s3, .bool b4, .slice aa an ac, .bool b6, .string s7, .bool b8, .bool e.has, .int .i64 e.at_, .bool n.has, .int .i64 n.at_, .bool i.has, .int .i64 i.at_]) := fun wq hq j v hv => by
    obtain ⟨hj, e⟩ := List.getElem?_eq_some_iff.1 hv
    rw [Nat.zero_add, ← e]
    exact (hbl.below hq hbl.lt).cell j hj
  have hcl : (Tryz.prog.info? 27).map (·.size) = some ([.slice va vn vc, .string s1, .bool b2, .string s3, .bool b4, .slice aa an ac, .bool b6, .string s7, .bool b8, .bool e.has, .int .i64 e.at_, .bool n.has, .int .i64 n.at_, .bool i.has, .int .i64 i.at_] : List Value).length := by kernel_rfl
  have HBW : Hid (Below w.heap.size w W) := hB
  have HW : Hid (w.alloc (.cells #[.slice va vn vc, .string s1, .bool b2, .string s3, .bool b4, .slice aa an ac, .bool b6, .string s7, .bool b8, .bool e.has, .int .i64 e.at_, .bool n.has, .int .i64 n.at_, .bool i.has, .int .i64 i.at_] 27) = W) := hW
  have CA := awake_any W ((hG.below hB).up hB.size)
  have HCk : Hid (∀ (x : Int) (r : Nat), I64 x → clockF e n i l x = r → ∀ wq, Calls Tryz.prog 10 #[.agg #[.slice va vn vc, .string s1, .bool b2, .string s3, .bool b4, .slice aa an ac, .bool b6, .string s7, .bool b8, .bool e.has, .int .i64 e.at_, .bool n.has, .int .i64 n.at_, .bool i.has, .int .i64 i.at_], .int .i64 l, .int .i64 x] wq fun z w' => z = .returned (.int .i64 (r : Int)) ∧ Below wq.heap.size wq w') := fun x r hx hr wq => by
    have := clock_any (.slice va vn vc) (.string s1) (.bool b2) (.string s3) (.bool b4) (.slice aa an ac) (.bool b6) (.string s7) (.bool b8) e n i l x wq he hn hi hx
    rw [hr] at this
    exact this
  have HOp : Hid (∀ wq, Calls Tryz.prog 11 #[.agg #[.slice va vn vc, .string s1, .bool b2, .string s3, .bool b4, .slice aa an ac, .bool b6, .string s7, .bool b8, .bool e.has, .int .i64 e.at_, .bool n.has, .int .i64 n.at_, .bool i.has, .int .i64 i.at_], .int .i64 l] wq fun r w' => r = .returned (.tuple #[.agg #[.bool (openF e n i l).1.empty, .int .i64 (openF e n i l).1.fr, .int .i64 (openF e n i l).1.en], .int .i64 ((openF e n i l).2 : Nat)]) ∧ Below wq.heap.size wq w') := fun wq => open_any (.slice va vn vc) (.string s1) (.bool b2) (.string s3) (.bool b4) (.slice aa an ac) (.bool b6) (.string s7) (.bool b8) e n i l wq he hn hi
  have HQ : Hid (Below W.heap.size W W) := Below.refl _ _
  have hrw := run_win
  obtain ⟨G, hGG⟩ : ∃ g, clockF e n i l now = g := ⟨_, rfl⟩
  have C1 := HCk.out now G hw hGG
  have HC1 : Hid _ := C1
  clear hG hB hbl hW C1
  have HX : Hid (openF e n i l = (⟨false, 0, 0⟩, 12)) := open_out hl
  rw [HX.out] at HOp
  dsimp only at HOp
  have hg12 : G = 12 := by rw [← hGG]; exact clock_out hl
  subst hg12
  clear HCk he hn hi hw hGG HX
  rcases (show l < 0 ∨ (¬ l < 0 ∧ 600 < l) by omega) with h | ⟨h1, h2⟩
  · have q0 : decide (l < 0) = true := decide_eq_true h
    clear hl h
    go_enter Tryz.func3, Tryz.ntmps3
    go_wp2_with (first | (refine wpList_load_mid rfl 27 (.tmp 4) rfl w.heap.size 0 rfl [.slice va vn vc, .string s1, .bool b2, .string s3, .bool b4, .slice aa an ac, .bool b6, .string s7, .bool b8, .bool e.has, .int .i64 e.at_, .bool n.has, .int .i64 n.at_, .bool i.has, .int .i64 i.at_] _ (HRq.out _ HQ.out) Tryz.underlying27 rfl hcl ?_) | (refine wpList_load_midG rfl 27 (.tmp 4) rfl w.heap.size 0 rfl [.slice va vn vc, .string s1, .bool b2, .string s3, .bool b4, .slice aa an ac, .bool b6, .string s7, .bool b8, .bool e.has, .int .i64 e.at_, .bool n.has, .int .i64 n.at_, .bool i.has, .int .i64 i.at_] _ (HRq.out _ HQ.out) Tryz.underlying27 rfl hcl ?_))
    rw [HW.out]
    clear HW
    refine CA.mono ?_
    clear CA
    rintro r w1 ⟨rfl, hB⟩
    have HQn : Hid (Below W.heap.size W w1) := HQ.out.trans (hB.mono HQ.out.size)
    clear HQ hB
    have HQ := HQn
    clear HQn
    have C1 := HC1.out w1
    clear HC1
    go_wp2_with (first | (refine wpList_load_mid rfl 27 (.tmp 4) rfl w.heap.size 0 rfl [.slice va vn vc, .string s1, .bool b2, .string s3, .bool b4, .slice aa an ac, .bool b6, .string s7, .bool b8, .bool e.has, .int .i64 e.at_, .bool n.has, .int .i64 n.at_, .bool i.has, .int .i64 i.at_] _ (HRq.out _ HQ.out) Tryz.underlying27 rfl hcl ?_) | (refine wpList_load_midG rfl 27 (.tmp 4) rfl w.heap.size 0 rfl [.slice va vn vc, .string s1, .bool b2, .string s3, .bool b4, .slice aa an ac, .bool b6, .string s7, .bool b8, .bool e.has, .int .i64 e.at_, .bool n.has, .int .i64 n.at_, .bool i.has, .int .i64 i.at_] _ (HRq.out _ HQ.out) Tryz.underlying27 rfl hcl ?_))
    refine C1.mono ?_
    clear C1
    rintro r w2 ⟨rfl, hB⟩
    have HQn : Hid (Below W.heap.size W w2) := HQ.out.trans (hB.mono HQ.out.size)
    clear HQ hB
    have HQ := HQn
    clear HQn
    have C2 := HOp.out w2
    clear HOp
    go_wp2_with (first | (refine wpList_load_mid rfl 27 (.tmp 4) rfl w.heap.size 0 rfl [.slice va vn vc, .string s1, .bool b2, .string s3, .bool b4, .slice aa an ac, .bool b6, .string s7, .bool b8, .bool e.has, .int .i64 e.at_, .bool n.has, .int .i64 n.at_, .bool i.has, .int .i64 i.at_] _ (HRq.out _ HQ.out) Tryz.underlying27 rfl hcl ?_) | (refine wpList_load_midG rfl 27 (.tmp 4) rfl w.heap.size 0 rfl [.slice va vn vc, .string s1, .bool b2, .string s3, .bool b4, .slice aa an ac, .bool b6, .string s7, .bool b8, .bool e.has, .int .i64 e.at_, .bool n.has, .int .i64 n.at_, .bool i.has, .int .i64 i.at_] _ (HRq.out _ HQ.out) Tryz.underlying27 rfl hcl ?_))
    refine C2.mono ?_
    clear C2
    rintro r w3 ⟨rfl, hB⟩
    have HQn : Hid (Below W.heap.size W w3) := HQ.out.trans (hB.mono HQ.out.size)
    clear HQ hB
    have HQ := HQn
    clear HQn
    obtain ⟨w4, hw4⟩ : ∃ x, w3.alloc (.cells #[.bool false, .int .i64 0, .int .i64 0] 32) = x := ⟨_, rfl⟩
    obtain ⟨bw, hbw⟩ : ∃ b, w3.heap.size = b := ⟨_, rfl⟩
    have hb4 : Bl 32 w4 w3.heap.size [.bool false, .int .i64 0, .int .i64 0] := by rw [← hw4]; exact alloc_bl _ _ _
    rw [hbw] at hb4
    have hA4 : Below w3.heap.size w3 w4 := by rw [← hw4]; exact alloc_below _ _
    have HQn : Hid (Below W.heap.size W w4) := HQ.out.trans (hA4.mono HQ.out.size)
    have HZ : Hid (∀ wq, Below w4.heap.size w4 wq → wq.cell? ⟨bw, 0, none⟩ = some (.bool false) ∧ wq.cell? ⟨bw, 1, none⟩ = some (.int .i64 0) ∧ wq.cell? ⟨bw, 2, none⟩ = some (.int .i64 0)) := fun wq hq => by
      have a := hb4.below hq hb4.lt
      exact ⟨a.cell 0 (by simp), a.cell 1 (by simp), a.cell 2 (by simp)⟩
    have HW4 : Hid (w3.alloc (.cells #[.bool false, .int .i64 0, .int .i64 0] 32) = w4) := hw4
    have HBw : Hid (w3.heap.size = bw) := hbw
    clear HQ hw4 hbw hb4 hA4
    have HQ := HQn
    clear HQn
    obtain ⟨z0, z1, z2⟩ := HZ.out w4 (Below.refl _ _)
    go_upto_region 5 with fail
    rw [HBw.out, HW4.out]
    clear HBw HW4
    go_wp2
    go_ret
    exact ⟨rfl, HBW.out.trans (HQ.out.mono HBW.out.size)⟩
  · have q0 : decide (l < 0) = false := decide_eq_false h1
    have q6 : decide (l > 600) = true := decide_eq_true h2
    clear hl h1 h2
    go_enter Tryz.func3, Tryz.ntmps3
    go_wp2_with (first | (refine wpList_load_mid rfl 27 (.tmp 4) rfl w.heap.size 0 rfl [.slice va vn vc, .string s1, .bool b2, .string s3, .bool b4, .slice aa an ac, .bool b6, .string s7, .bool b8, .bool e.has, .int .i64 e.at_, .bool n.has, .int .i64 n.at_, .bool i.has, .int .i64 i.at_] _ (HRq.out _ HQ.out) Tryz.underlying27 rfl hcl ?_) | (refine wpList_load_midG rfl 27 (.tmp 4) rfl w.heap.size 0 rfl [.slice va vn vc, .string s1, .bool b2, .string s3, .bool b4, .slice aa an ac, .bool b6, .string s7, .bool b8, .bool e.has, .int .i64 e.at_, .bool n.has, .int .i64 n.at_, .bool i.has, .int .i64 i.at_] _ (HRq.out _ HQ.out) Tryz.underlying27 rfl hcl ?_))
    rw [HW.out]
    clear HW
    refine CA.mono ?_
    clear CA
    rintro r w1 ⟨rfl, hB⟩
    have HQn : Hid (Below W.heap.size W w1) := HQ.out.trans (hB.mono HQ.out.size)
    clear HQ hB
    have HQ := HQn
    clear HQn
    have C1 := HC1.out w1
    clear HC1
    go_wp2_with (first | (refine wpList_load_mid rfl 27 (.tmp 4) rfl w.heap.size 0 rfl [.slice va vn vc, .string s1, .bool b2, .string s3, .bool b4, .slice aa an ac, .bool b6, .string s7, .bool b8, .bool e.has, .int .i64 e.at_, .bool n.has, .int .i64 n.at_, .bool i.has, .int .i64 i.at_] _ (HRq.out _ HQ.out) Tryz.underlying27 rfl hcl ?_) | (refine wpList_load_midG rfl 27 (.tmp 4) rfl w.heap.size 0 rfl [.slice va vn vc, .string s1, .bool b2, .string s3, .bool b4, .slice aa an ac, .bool b6, .string s7, .bool b8, .bool e.has, .int .i64 e.at_, .bool n.has, .int .i64 n.at_, .bool i.has, .int .i64 i.at_] _ (HRq.out _ HQ.out) Tryz.underlying27 rfl hcl ?_))
    refine C1.mono ?_
    clear C1
    rintro r w2 ⟨rfl, hB⟩
    have HQn : Hid (Below W.heap.size W w2) := HQ.out.trans (hB.mono HQ.out.size)
    clear HQ hB
    have HQ := HQn
    clear HQn
    have C2 := HOp.out w2
    clear HOp
    go_wp2_with (first | (refine wpList_load_mid rfl 27 (.tmp 4) rfl w.heap.size 0 rfl [.slice va vn vc, .string s1, .bool b2, .string s3, .bool b4, .slice aa an ac, .bool b6, .string s7, .bool b8, .bool e.has, .int .i64 e.at_, .bool n.has, .int .i64 n.at_, .bool i.has, .int .i64 i.at_] _ (HRq.out _ HQ.out) Tryz.underlying27 rfl hcl ?_) | (refine wpList_load_midG rfl 27 (.tmp 4) rfl w.heap.size 0 rfl [.slice va vn vc, .string s1, .bool b2, .string s3, .bool b4, .slice aa an ac, .bool b6, .string s7, .bool b8, .bool e.has, .int .i64 e.at_, .bool n.has, .int .i64 n.at_, .bool i.has, .int .i64 i.at_] _ (HRq.out _ HQ.out) Tryz.underlying27 rfl hcl ?_))
    refine C2.mono ?_
    clear C2
    rintro r w3 ⟨rfl, hB⟩
    have HQn : Hid (Below W.heap.size W w3) := HQ.out.trans (hB.mono HQ.out.size)
    clear HQ hB
    have HQ := HQn
    clear HQn
    obtain ⟨w4, hw4⟩ : ∃ x, w3.alloc (.cells #[.bool false, .int .i64 0, .int .i64 0] 32) = x := ⟨_, rfl⟩
    obtain ⟨bw, hbw⟩ : ∃ b, w3.heap.size = b := ⟨_, rfl⟩
    have hb4 : Bl 32 w4 w3.heap.size [.bool false, .int .i64 0, .int .i64 0] := by rw [← hw4]; exact alloc_bl _ _ _
    rw [hbw] at hb4
    have hA4 : Below w3.heap.size w3 w4 := by rw [← hw4]; exact alloc_below _ _
    have HQn : Hid (Below W.heap.size W w4) := HQ.out.trans (hA4.mono HQ.out.size)
    have HZ : Hid (∀ wq, Below w4.heap.size w4 wq → wq.cell? ⟨bw, 0, none⟩ = some (.bool false) ∧ wq.cell? ⟨bw, 1, none⟩ = some (.int .i64 0) ∧ wq.cell? ⟨bw, 2, none⟩ = some (.int .i64 0)) := fun wq hq => by
      have a := hb4.below hq hb4.lt
      exact ⟨a.cell 0 (by simp), a.cell 1 (by simp), a.cell 2 (by simp)⟩
    have HW4 : Hid (w3.alloc (.cells #[.bool false, .int .i64 0, .int .i64 0] 32) = w4) := hw4
    have HBw : Hid (w3.heap.size = bw) := hbw
    clear HQ hw4 hbw hb4 hA4
    have HQ := HQn
    clear HQn
    obtain ⟨z0, z1, z2⟩ := HZ.out w4 (Below.refl _ _)
    go_upto_region 5 with fail
    rw [HBw.out, HW4.out]
    clear HBw HW4
    go_wp2
    go_ret
    exact ⟨rfl, HBW.out.trans (HQ.out.mono HBW.out.size)⟩

set_option maxRecDepth 100000 in
set_option maxHeartbeats 16000000 in
theorem clockLaw_empty (va : Option Addr) (vn vc : Nat) (s1 : ByteArray) (b2 : Bool) (s3 : ByteArray) (b4 : Bool) (aa : Option Addr) (an ac : Nat) (b6 : Bool) (s7 : ByteArray) (b8 : Bool) (e n i : Tm) (l more now : Int) (w : World) (he : I64 e.at_) (hn : I64 n.at_) (hi : I64 i.at_) (_hm : I64 more) (hw : I64 now) (hG : GL w.heap.size w) (hl : 0 ≤ l ∧ l ≤ 600) (hz1 : (openF e n i l).1 = ⟨true, 0, 0⟩) (hz2 : (openF e n i l).2 = 0) : Calls Tryz.prog 3 #[clW (.slice va vn vc) (.string s1) (.bool b2) (.string s3) (.bool b4) (.slice aa an ac) (.bool b6) (.string s7) (.bool b8) e n i, .int .i64 l, .int .i64 more, .int .i64 now] w fun r w' => r = .returned (.bool true) ∧ Below w.heap.size w w' := by
  unfold clW
  obtain ⟨W, hW⟩ : ∃ W : World, w.alloc (.cells #[.slice va vn vc, .string s1, .bool b2, .string s3, .bool b4, .slice aa an ac, .bool b6, .string s7, .bool b8, .bool e.has, .int .i64 e.at_, .bool n.has, .int .i64 n.at_, .bool i.has, .int .i64 i.at_] 27) = W := ⟨_, rfl⟩
  have hB : Below w.heap.size w W := by rw [← hW]; exact alloc_below _ _
  have hbl : Bl 27 W w.heap.size [.slice va vn vc, .string s1, .bool b2, .string s3, .bool b4, .slice aa an ac, .bool b6, .string s7, .bool b8, .bool e.has, .int .i64 e.at_, .bool n.has, .int .i64 n.at_, .bool i.has, .int .i64 i.at_] := by rw [← hW]; exact alloc_bl _ _ _
  have HRq : Hid (∀ wq, Below W.heap.size W wq → wq.rangeAt w.heap.size 0 [.slice va vn vc, .string s1, .bool b2, .string s3, .bool b4, .slice aa an ac, .bool b6, .string s7, .bool b8, .bool e.has, .int .i64 e.at_, .bool n.has, .int .i64 n.at_, .bool i.has, .int .i64 i.at_]) := fun wq hq j v hv => by
    obtain ⟨hj, e⟩ := List.getElem?_eq_some_iff.1 hv
    rw [Nat.zero_add, ← e]
    exact (hbl.below hq hbl.lt).cell j hj
  have hcl : (Tryz.prog.info? 27).map (·.size) = some ([.slice va vn vc, .string s1, .bool b2, .string s3, .bool b4, .slice aa an ac, .bool b6, .string s7, .bool b8, .bool e.has, .int .i64 e.at_, .bool n.has, .int .i64 n.at_, .bool i.has, .int .i64 i.at_] : List Value).length := by kernel_rfl
  have HBW : Hid (Below w.heap.size w W) := hB
  have HW : Hid (w.alloc (.cells #[.slice va vn vc, .string s1, .bool b2, .string s3, .bool b4, .slice aa an ac, .bool b6, .string s7, .bool b8, .bool e.has, .int .i64 e.at_, .bool n.has, .int .i64 n.at_, .bool i.has, .int .i64 i.at_] 27) = W) := hW
  have CA := awake_any W ((hG.below hB).up hB.size)
  have HCk : Hid (∀ (x : Int) (r : Nat), I64 x → clockF e n i l x = r → ∀ wq, Calls Tryz.prog 10 #[.agg #[.slice va vn vc, .string s1, .bool b2, .string s3, .bool b4, .slice aa an ac, .bool b6, .string s7, .bool b8, .bool e.has, .int .i64 e.at_, .bool n.has, .int .i64 n.at_, .bool i.has, .int .i64 i.at_], .int .i64 l, .int .i64 x] wq fun z w' => z = .returned (.int .i64 (r : Int)) ∧ Below wq.heap.size wq w') := fun x r hx hr wq => by
    have := clock_any (.slice va vn vc) (.string s1) (.bool b2) (.string s3) (.bool b4) (.slice aa an ac) (.bool b6) (.string s7) (.bool b8) e n i l x wq he hn hi hx
    rw [hr] at this
    exact this
  have HOp : Hid (∀ wq, Calls Tryz.prog 11 #[.agg #[.slice va vn vc, .string s1, .bool b2, .string s3, .bool b4, .slice aa an ac, .bool b6, .string s7, .bool b8, .bool e.has, .int .i64 e.at_, .bool n.has, .int .i64 n.at_, .bool i.has, .int .i64 i.at_], .int .i64 l] wq fun r w' => r = .returned (.tuple #[.agg #[.bool (openF e n i l).1.empty, .int .i64 (openF e n i l).1.fr, .int .i64 (openF e n i l).1.en], .int .i64 ((openF e n i l).2 : Nat)]) ∧ Below wq.heap.size wq w') := fun wq => open_any (.slice va vn vc) (.string s1) (.bool b2) (.string s3) (.bool b4) (.slice aa an ac) (.bool b6) (.string s7) (.bool b8) e n i l wq he hn hi
  have HQ : Hid (Below W.heap.size W W) := Below.refl _ _
  have hrw := run_win
  obtain ⟨G, hGG⟩ : ∃ g, clockF e n i l now = g := ⟨_, rfl⟩
  have C1 := HCk.out now G hw hGG
  have HC1 : Hid _ := C1
  clear hG hB hbl hW C1
  have q0 : decide (l < 0) = false := decide_eq_false (by omega)
  have q6 : decide (l > 600) = false := decide_eq_false (by omega)
  have HLets : Hid (∀ wq, Calls Tryz.prog 12 #[.agg #[.slice va vn vc, .string s1, .bool b2, .string s3, .bool b4, .slice aa an ac, .bool b6, .string s7, .bool b8, .bool e.has, .int .i64 e.at_, .bool n.has, .int .i64 n.at_, .bool i.has, .int .i64 i.at_], .int .i64 l, .int .i64 now] wq fun r w' => r = .returned (.int .i64 (G : Int)) ∧ Below wq.heap.size wq w') := fun wq => by
    have := lets_any (.slice va vn vc) (.string s1) (.bool b2) (.string s3) (.bool b4) (.slice aa an ac) (.bool b6) (.string s7) (.bool b8) e n i l now wq he hn hi hw hl
    rw [hGG] at this
    exact this
  have hne : G ≠ 0 := by rw [← hGG]; exact win_none he hn hi hl (by rw [hz1]) now hw
  have qg : ((G : Int) != 0) = true := by simp; omega
  rw [hz1, hz2] at HOp
  dsimp only at HOp
  clear HCk he hn hi hw hl hGG hz1 hz2 hne
  go_enter Tryz.func3, Tryz.ntmps3
  go_wp2_with (first | (refine wpList_load_mid rfl 27 (.tmp 4) rfl w.heap.size 0 rfl [.slice va vn vc, .string s1, .bool b2, .string s3, .bool b4, .slice aa an ac, .bool b6, .string s7, .bool b8, .bool e.has, .int .i64 e.at_, .bool n.has, .int .i64 n.at_, .bool i.has, .int .i64 i.at_] _ (HRq.out _ HQ.out) Tryz.underlying27 rfl hcl ?_) | (refine wpList_load_midG rfl 27 (.tmp 4) rfl w.heap.size 0 rfl [.slice va vn vc, .string s1, .bool b2, .string s3, .bool b4, .slice aa an ac, .bool b6, .string s7, .bool b8, .bool e.has, .int .i64 e.at_, .bool n.has, .int .i64 n.at_, .bool i.has, .int .i64 i.at_] _ (HRq.out _ HQ.out) Tryz.underlying27 rfl hcl ?_))
  rw [HW.out]
  clear HW
  refine CA.mono ?_
  clear CA
  rintro r w1 ⟨rfl, hB⟩
  have HQn : Hid (Below W.heap.size W w1) := HQ.out.trans (hB.mono HQ.out.size)
  clear HQ hB
  have HQ := HQn
  clear HQn
  have C1 := HC1.out w1
  clear HC1
  go_wp2_with (first | (refine wpList_load_mid rfl 27 (.tmp 4) rfl w.heap.size 0 rfl [.slice va vn vc, .string s1, .bool b2, .string s3, .bool b4, .slice aa an ac, .bool b6, .string s7, .bool b8, .bool e.has, .int .i64 e.at_, .bool n.has, .int .i64 n.at_, .bool i.has, .int .i64 i.at_] _ (HRq.out _ HQ.out) Tryz.underlying27 rfl hcl ?_) | (refine wpList_load_midG rfl 27 (.tmp 4) rfl w.heap.size 0 rfl [.slice va vn vc, .string s1, .bool b2, .string s3, .bool b4, .slice aa an ac, .bool b6, .string s7, .bool b8, .bool e.has, .int .i64 e.at_, .bool n.has, .int .i64 n.at_, .bool i.has, .int .i64 i.at_] _ (HRq.out _ HQ.out) Tryz.underlying27 rfl hcl ?_))
  refine C1.mono ?_
  clear C1
  rintro r w2 ⟨rfl, hB⟩
  have HQn : Hid (Below W.heap.size W w2) := HQ.out.trans (hB.mono HQ.out.size)
  clear HQ hB
  have HQ := HQn
  clear HQn
  have C2 := HOp.out w2
  clear HOp
  go_wp2_with (first | (refine wpList_load_mid rfl 27 (.tmp 4) rfl w.heap.size 0 rfl [.slice va vn vc, .string s1, .bool b2, .string s3, .bool b4, .slice aa an ac, .bool b6, .string s7, .bool b8, .bool e.has, .int .i64 e.at_, .bool n.has, .int .i64 n.at_, .bool i.has, .int .i64 i.at_] _ (HRq.out _ HQ.out) Tryz.underlying27 rfl hcl ?_) | (refine wpList_load_midG rfl 27 (.tmp 4) rfl w.heap.size 0 rfl [.slice va vn vc, .string s1, .bool b2, .string s3, .bool b4, .slice aa an ac, .bool b6, .string s7, .bool b8, .bool e.has, .int .i64 e.at_, .bool n.has, .int .i64 n.at_, .bool i.has, .int .i64 i.at_] _ (HRq.out _ HQ.out) Tryz.underlying27 rfl hcl ?_))
  refine C2.mono ?_
  clear C2
  rintro r w3 ⟨rfl, hB⟩
  have HQn : Hid (Below W.heap.size W w3) := HQ.out.trans (hB.mono HQ.out.size)
  clear HQ hB
  have HQ := HQn
  clear HQn
  obtain ⟨w4, hw4⟩ : ∃ x, w3.alloc (.cells #[.bool true, .int .i64 0, .int .i64 0] 32) = x := ⟨_, rfl⟩
  obtain ⟨bw, hbw⟩ : ∃ b, w3.heap.size = b := ⟨_, rfl⟩
  have hb4 : Bl 32 w4 w3.heap.size [.bool true, .int .i64 0, .int .i64 0] := by rw [← hw4]; exact alloc_bl _ _ _
  rw [hbw] at hb4
  have hA4 : Below w3.heap.size w3 w4 := by rw [← hw4]; exact alloc_below _ _
  have HQn : Hid (Below W.heap.size W w4) := HQ.out.trans (hA4.mono HQ.out.size)
  have HZ : Hid (∀ wq, Below w4.heap.size w4 wq → wq.cell? ⟨bw, 0, none⟩ = some (.bool true) ∧ wq.cell? ⟨bw, 1, none⟩ = some (.int .i64 0) ∧ wq.cell? ⟨bw, 2, none⟩ = some (.int .i64 0)) := fun wq hq => by
    have a := hb4.below hq hb4.lt
    exact ⟨a.cell 0 (by simp), a.cell 1 (by simp), a.cell 2 (by simp)⟩
  have HW4 : Hid (w3.alloc (.cells #[.bool true, .int .i64 0, .int .i64 0] 32) = w4) := hw4
  have HBw : Hid (w3.heap.size = bw) := hbw
  clear HQ hw4 hbw hb4 hA4
  have HQ := HQn
  clear HQn
  obtain ⟨z0, z1, z2⟩ := HZ.out w4 (Below.refl _ _)
  go_upto_region 5 with fail
  rw [HBw.out, HW4.out]
  clear HBw HW4
  have HY : Hid (Below w4.heap.size w4 w4) := Below.refl _ _
  have CL := HLets.out w4
  clear HLets
  have qgg : ((G : Int) != (G : Int)) = false := by simp
  go_wp2_with (first | (refine wpList_load_mid rfl 27 (.tmp 4) rfl w.heap.size 0 rfl [.slice va vn vc, .string s1, .bool b2, .string s3, .bool b4, .slice aa an ac, .bool b6, .string s7, .bool b8, .bool e.has, .int .i64 e.at_, .bool n.has, .int .i64 n.at_, .bool i.has, .int .i64 i.at_] _ (HRq.out _ HQ.out) Tryz.underlying27 rfl hcl ?_) | (refine wpList_load_midG rfl 27 (.tmp 4) rfl w.heap.size 0 rfl [.slice va vn vc, .string s1, .bool b2, .string s3, .bool b4, .slice aa an ac, .bool b6, .string s7, .bool b8, .bool e.has, .int .i64 e.at_, .bool n.has, .int .i64 n.at_, .bool i.has, .int .i64 i.at_] _ (HRq.out _ HQ.out) Tryz.underlying27 rfl hcl ?_))
  refine CL.mono ?_
  clear CL z0 z1 z2
  rintro r w5 ⟨rfl, hB⟩
  have HQn : Hid (Below W.heap.size W w5) := HQ.out.trans (hB.mono HQ.out.size)
  have HYn : Hid (Below w4.heap.size w4 w5) := HY.out.trans (hB.mono HY.out.size)
  clear HQ HY hB
  have HQ := HQn
  have HY := HYn
  clear HQn HYn
  obtain ⟨z0, z1, z2⟩ := HZ.out w5 HY.out
  go_wp2
  go_ret
  exact ⟨rfl, HBW.out.trans (HQ.out.mono HBW.out.size)⟩

end Go.Proofs.YthlfboaidhgnlaaGreatDoor
