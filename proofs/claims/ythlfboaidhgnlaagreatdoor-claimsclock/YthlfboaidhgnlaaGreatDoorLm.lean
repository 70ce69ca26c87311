import Derived.Test.YthlfboaidhgnlaaGreatDoorLl
namespace Go.Proofs.YthlfboaidhgnlaaGreatDoor
open Go.RowKit

set_option maxRecDepth 100000 in
set_option maxHeartbeats 16000000 in
theorem clockLaw_win (va : Option Addr) (vn vc : Nat) (s1 : ByteArray) (b2 : Bool) (s3 : ByteArray) (b4 : Bool) (aa : Option Addr) (an ac : Nat) (b6 : Bool) (s7 : ByteArray) (b8 : Bool) (e n i : Tm) (l more now : Int) (w : World) (he : I64 e.at_) (hn : I64 n.at_) (hi : I64 i.at_) (_hm : I64 more) (hw : I64 now) (hG : GL w.heap.size w) (hl : 0 ≤ l ∧ l ≤ 600) (T : Int) (hT : lstF e l = some T) (hle : ¬ T < max (fstF n l) (fstF i l)) (hz1 : (openF e n i l).1 = ⟨false, max (fstF n l) (fstF i l), T⟩) (hz2 : (openF e n i l).2 = 0) : Calls Tryz.prog 3 #[clW (.slice va vn vc) (.string s1) (.bool b2) (.string s3) (.bool b4) (.slice aa an ac) (.bool b6) (.string s7) (.bool b8) e n i, .int .i64 l, .int .i64 more, .int .i64 now] w fun r w' => r = .returned (.bool true) ∧ Below w.heap.size w w' := by
  unfold clW
  obtain ⟨W, hW⟩ : ∃ W : World, w.alloc (.cells #[.slice va vn vc, .string s1, .bool b2, .string s3, .bool b4, .slice aa an ac, .bool b6, .string s7, .bool b8, .bool e.has, .int .i64 e.at_, .bool n.has, .int .i64 n.at_, .bool i.has, .int .i64 i.at_] 27) = W := ⟨_, rfl⟩
  have hB : Below w.heap.size w W := by rw [← hW]; exact alloc_below _ _
  have hbl : Bl 27 W w.heap.size [.slice va vn vc, .string s1, .bool b2, .string s3, .bool b4, .slice aa an ac, .bool b6, .string s7, .bool b8, .bool e.has, .int .i64 e.at_, .bool n.has, .int .i64 n.at_, .bool i.has, .int .i64 i.at_] := by rw [← hW]; exact alloc_bl _ _ _
  have HRq : Hid (∀ wq, Below W.heap.size W wq → wq.rangeAt w.heap.size 0 [.slice va vn vc, .string s1, .bool b2, .string s3, .bool b4, .slice aa an ac, .bool b6, .string s7, .bool b8, .bool e.has, .int .i64 e.at_, .bool n.has, .int .i64 n.at_, .bool i.has, .int .i64 i.at_]) := fun wq hq j v hv => by
    obtain ⟨hj, e⟩ := List.getElem?_eq_some_iff.1 hv
    rw [Nat.zero_add, ← e]
    exact (hbl.below hq hbl.lt).cell j hj
  have hcl : (Tryz.prog.info? 27).map (·.size) = some ([.slice va vn vc, .string s1, .bool b2, .string s3, .bool b4, .slice aa an ac, .bool b6, .string s7, .bool b8, .bool e.has, .int .i64 e.at_, .bool n.has, .int .i64 n.at_, .bool i.has, .int .i64 i.at_] : List Value).length := by kernel_rfl
  have HBW : Hid (Below w.heap.size w W) := hB
  have HW : Hid (w.alloc (.cells #[.slice va vn vc, .string s1, .bool b2, .string s3, .bool b4, .slice aa an ac, .bool b6, .string s7, .bool b8, .bool e.has, .int .i64 e.at_, .bool n.has, .int .i64 n.at_, .bool i.has, .int .i64 i.at_] 27) = W) := hW
  have CA := awake_any W ((hG.below hB).up hB.size)
  have HCk : Hid (∀ (x : Int) (r : Nat), I64 x → clockF e n i l x = r → ∀ wq, Calls Tryz.prog 10 #[.agg #[.slice va vn vc, .string s1, .bool b2, .string s3, .bool b4, .slice aa an ac, .bool b6, .string s7, .bool b8, .bool e.has, .int .i64 e.at_, .bool n.has, .int .i64 n.at_, .bool i.has, .int .i64 i.at_], .int .i64 l, .int .i64 x] wq fun z w' => z = .returned (.int .i64 (r : Int)) ∧ Below wq.heap.size wq w') := fun x r hx hr wq => by
    have := clock_any (.slice va vn vc) (.string s1) (.bool b2) (.string s3) (.bool b4) (.slice aa an ac) (.bool b6) (.string s7) (.bool b8) e n i l x wq he hn hi hx
    rw [hr] at this
    exact this
  have HOp : Hid (∀ wq, Calls Tryz.prog 11 #[.agg #[.slice va vn vc, .string s1, .bool b2, .string s3, .bool b4, .slice aa an ac, .bool b6, .string s7, .bool b8, .bool e.has, .int .i64 e.at_, .bool n.has, .int .i64 n.at_, .bool i.has, .int .i64 i.at_], .int .i64 l] wq fun r w' => r = .returned (.tuple #[.agg #[.bool (openF e n i l).1.empty, .int .i64 (openF e n i l).1.fr, .int .i64 (openF e n i l).1.en], .int .i64 ((openF e n i l).2 : Nat)]) ∧ Below wq.heap.size wq w') := fun wq => open_any (.slice va vn vc) (.string s1) (.bool b2) (.string s3) (.bool b4) (.slice aa an ac) (.bool b6) (.string s7) (.bool b8) e n i l wq he hn hi
  have HQ : Hid (Below W.heap.size W W) := Below.refl _ _
  have hrw := run_win
  obtain ⟨G, hGG⟩ : ∃ g, clockF e n i l now = g := ⟨_, rfl⟩
  have C1 := HCk.out now G hw hGG
  have HC1 : Hid _ := C1
  clear hG hB hbl hW C1
  have q0 : decide (l < 0) = false := decide_eq_false (by omega)
  have q6 : decide (l > 600) = false := decide_eq_false (by omega)
  have HLets : Hid (∀ wq, Calls Tryz.prog 12 #[.agg #[.slice va vn vc, .string s1, .bool b2, .string s3, .bool b4, .slice aa an ac, .bool b6, .string s7, .bool b8, .bool e.has, .int .i64 e.at_, .bool n.has, .int .i64 n.at_, .bool i.has, .int .i64 i.at_], .int .i64 l, .int .i64 now] wq fun r w' => r = .returned (.int .i64 (G : Int)) ∧ Below wq.heap.size wq w') := fun wq => by
    have := lets_any (.slice va vn vc) (.string s1) (.bool b2) (.string s3) (.bool b4) (.slice aa an ac) (.bool b6) (.string s7) (.bool b8) e n i l now wq he hn hi hw hl
    rw [hGG] at this
    exact this
  have HCM : Hid (G = 0 → l ≤ more → more ≤ 600 → ∀ wq, Calls Tryz.prog 10 #[.agg #[.slice va vn vc, .string s1, .bool b2, .string s3, .bool b4, .slice aa an ac, .bool b6, .string s7, .bool b8, .bool e.has, .int .i64 e.at_, .bool n.has, .int .i64 n.at_, .bool i.has, .int .i64 i.at_], .int .i64 more, .int .i64 now] wq fun z w' => z = .returned (.int .i64 0) ∧ Below wq.heap.size wq w') := fun hg h1 h2 wq => by
    have := clock_any (.slice va vn vc) (.string s1) (.bool b2) (.string s3) (.bool b4) (.slice aa an ac) (.bool b6) (.string s7) (.bool b8) e n i more now wq he hn hi hw
    rw [clock_more hl (hGG.trans hg) h1 h2] at this
    exact this
  have HCE : Hid (G = 0 → ∀ wq, Calls Tryz.prog 10 #[.agg #[.slice va vn vc, .string s1, .bool b2, .string s3, .bool b4, .slice aa an ac, .bool b6, .string s7, .bool b8, .bool false, .int .i64 0, .bool n.has, .int .i64 n.at_, .bool i.has, .int .i64 i.at_], .int .i64 l, .int .i64 now] wq fun z w' => z = .returned (.int .i64 0) ∧ Below wq.heap.size wq w') := fun hg wq => by
    have := clock_any (.slice va vn vc) (.string s1) (.bool b2) (.string s3) (.bool b4) (.slice aa an ac) (.bool b6) (.string s7) (.bool b8) tm0 n i l now wq (by unfold I64; decide) hn hi hw
    rw [(clock_less (hGG.trans hg)).1] at this
    exact this
  have HCN : Hid (G = 0 → ∀ wq, Calls Tryz.prog 10 #[.agg #[.slice va vn vc, .string s1, .bool b2, .string s3, .bool b4, .slice aa an ac, .bool b6, .string s7, .bool b8, .bool e.has, .int .i64 e.at_, .bool false, .int .i64 0, .bool i.has, .int .i64 i.at_], .int .i64 l, .int .i64 now] wq fun z w' => z = .returned (.int .i64 0) ∧ Below wq.heap.size wq w') := fun hg wq => by
    have := clock_any (.slice va vn vc) (.string s1) (.bool b2) (.string s3) (.bool b4) (.slice aa an ac) (.bool b6) (.string s7) (.bool b8) e tm0 i l now wq he (by unfold I64; decide) hi hw
    rw [(clock_less (hGG.trans hg)).2.1] at this
    exact this
  have HCI : Hid (G = 0 → ∀ wq, Calls Tryz.prog 10 #[.agg #[.slice va vn vc, .string s1, .bool b2, .string s3, .bool b4, .slice aa an ac, .bool b6, .string s7, .bool b8, .bool e.has, .int .i64 e.at_, .bool n.has, .int .i64 n.at_, .bool false, .int .i64 0], .int .i64 l, .int .i64 now] wq fun z w' => z = .returned (.int .i64 0) ∧ Below wq.heap.size wq w') := fun hg wq => by
    have := clock_any (.slice va vn vc) (.string s1) (.bool b2) (.string s3) (.bool b4) (.slice aa an ac) (.bool b6) (.string s7) (.bool b8) e n tm0 l now wq he hn (by unfold I64; decide) hw
    rw [(clock_less (hGG.trans hg)).2.2] at this
    exact this
  obtain ⟨F, hF⟩ : ∃ f, max (fstF n l) (fstF i l) = f := ⟨_, rfl⟩
  rw [hF] at hle hz1
  have hFT : F ≤ T := by omega
  have hF64 : I64 F := by rw [← hF]; have a := fst_i64 hn hl.1 hl.2; have b := fst_i64 hi hl.1 hl.2; unfold I64 at *; omega
  have hT64 : I64 T := lst_i64 he hl.1 hl.2 hT
  have hw1 := win_way he hn hi hl hT (by rw [hF]; exact hle)
  rw [hF] at hw1
  have HGz : Hid (G = 0 ↔ (F ≤ now ∧ now ≤ T)) := by rw [← hGG]; exact hw1.1 now hw
  have HCF : Hid (∀ wq, _) := HCk.out F 0 hF64 ((hw1.1 F hF64).2 ⟨Int.le_refl _, hFT⟩)
  have HCT : Hid (∀ wq, _) := HCk.out T 0 hT64 ((hw1.1 T hT64).2 ⟨hFT, Int.le_refl _⟩)
  have hf1 : -9223372036854775808 ≤ F := hF64.1
  have hf2 : F ≤ 9223372036854775807 := hF64.2
  have ht1 : -9223372036854775808 ≤ T := hT64.1
  have ht2 : T ≤ 9223372036854775807 := hT64.2
  have HCFm : Hid (-9223372036854775808 < F → ∃ r : Nat, r ≠ 0 ∧ ∀ wq, Calls Tryz.prog 10 #[.agg #[.slice va vn vc, .string s1, .bool b2, .string s3, .bool b4, .slice aa an ac, .bool b6, .string s7, .bool b8, .bool e.has, .int .i64 e.at_, .bool n.has, .int .i64 n.at_, .bool i.has, .int .i64 i.at_], .int .i64 l, .int .i64 (F - 1)] wq fun z w' => z = .returned (.int .i64 (r : Int)) ∧ Below wq.heap.size wq w') := fun h => by
    have h64 : I64 (F - 1) := by unfold I64; omega
    exact ⟨_, fun h0 => by have := (hw1.1 (F - 1) h64).1 h0; omega, HCk.out (F - 1) _ h64 rfl⟩
  have HCTp : Hid (T < 9223372036854775807 → ∀ wq, Calls Tryz.prog 10 #[.agg #[.slice va vn vc, .string s1, .bool b2, .string s3, .bool b4, .slice aa an ac, .bool b6, .string s7, .bool b8, .bool e.has, .int .i64 e.at_, .bool n.has, .int .i64 n.at_, .bool i.has, .int .i64 i.at_], .int .i64 l, .int .i64 (T + 1)] wq fun z w' => z = .returned (.int .i64 134) ∧ Below wq.heap.size wq w') := fun h => by
    have h64 : I64 (T + 1) := by unfold I64; omega
    exact HCk.out (T + 1) 134 h64 (hw1.2 (T + 1) h64 (by omega))
  rw [hz1, hz2] at HOp
  dsimp only at HOp
  clear HCk he hn hi hw hl hGG hz1 hz2 hF hle hF64 hT64 hw1 hT
  go_enter Tryz.func3, Tryz.ntmps3
  go_wp2_with (first | (refine wpList_load_mid rfl 27 (.tmp 4) rfl w.heap.size 0 rfl [.slice va vn vc, .string s1, .bool b2, .string s3, .bool b4, .slice aa an ac, .bool b6, .string s7, .bool b8, .bool e.has, .int .i64 e.at_, .bool n.has, .int .i64 n.at_, .bool i.has, .int .i64 i.at_] _ (HRq.out _ HQ.out) Tryz.underlying27 rfl hcl ?_) | (refine wpList_load_midG rfl 27 (.tmp 4) rfl w.heap.size 0 rfl [.slice va vn vc, .string s1, .bool b2, .string s3, .bool b4, .slice aa an ac, .bool b6, .string s7, .bool b8, .bool e.has, .int .i64 e.at_, .bool n.has, .int .i64 n.at_, .bool i.has, .int .i64 i.at_] _ (HRq.out _ HQ.out) Tryz.underlying27 rfl hcl ?_))
  rw [HW.out]
  clear HW
  refine CA.mono ?_
  clear CA
  rintro r w1 ⟨rfl, hB⟩
  have HQn : Hid (Below W.heap.size W w1) := HQ.out.trans (hB.mono HQ.out.size)
  clear HQ hB
  have HQ := HQn
  clear HQn
  have C1 := HC1.out w1
  clear HC1
  go_wp2_with (first | (refine wpList_load_mid rfl 27 (.tmp 4) rfl w.heap.size 0 rfl [.slice va vn vc, .string s1, .bool b2, .string s3, .bool b4, .slice aa an ac, .bool b6, .string s7, .bool b8, .bool e.has, .int .i64 e.at_, .bool n.has, .int .i64 n.at_, .bool i.has, .int .i64 i.at_] _ (HRq.out _ HQ.out) Tryz.underlying27 rfl hcl ?_) | (refine wpList_load_midG rfl 27 (.tmp 4) rfl w.heap.size 0 rfl [.slice va vn vc, .string s1, .bool b2, .string s3, .bool b4, .slice aa an ac, .bool b6, .string s7, .bool b8, .bool e.has, .int .i64 e.at_, .bool n.has, .int .i64 n.at_, .bool i.has, .int .i64 i.at_] _ (HRq.out _ HQ.out) Tryz.underlying27 rfl hcl ?_))
  refine C1.mono ?_
  clear C1
  rintro r w2 ⟨rfl, hB⟩
  have HQn : Hid (Below W.heap.size W w2) := HQ.out.trans (hB.mono HQ.out.size)
  clear HQ hB
  have HQ := HQn
  clear HQn
  have C2 := HOp.out w2
  clear HOp
  go_wp2_with (first | (refine wpList_load_mid rfl 27 (.tmp 4) rfl w.heap.size 0 rfl [.slice va vn vc, .string s1, .bool b2, .string s3, .bool b4, .slice aa an ac, .bool b6, .string s7, .bool b8, .bool e.has, .int .i64 e.at_, .bool n.has, .int .i64 n.at_, .bool i.has, .int .i64 i.at_] _ (HRq.out _ HQ.out) Tryz.underlying27 rfl hcl ?_) | (refine wpList_load_midG rfl 27 (.tmp 4) rfl w.heap.size 0 rfl [.slice va vn vc, .string s1, .bool b2, .string s3, .bool b4, .slice aa an ac, .bool b6, .string s7, .bool b8, .bool e.has, .int .i64 e.at_, .bool n.has, .int .i64 n.at_, .bool i.has, .int .i64 i.at_] _ (HRq.out _ HQ.out) Tryz.underlying27 rfl hcl ?_))
  refine C2.mono ?_
  clear C2
  rintro r w3 ⟨rfl, hB⟩
  have HQn : Hid (Below W.heap.size W w3) := HQ.out.trans (hB.mono HQ.out.size)
  clear HQ hB
  have HQ := HQn
  clear HQn
  obtain ⟨w4, hw4⟩ : ∃ x, w3.alloc (.cells #[.bool false, .int .i64 F, .int .i64 T] 32) = x := ⟨_, rfl⟩
  obtain ⟨bw, hbw⟩ : ∃ b, w3.heap.size = b := ⟨_, rfl⟩
  have hb4 : Bl 32 w4 w3.heap.size [.bool false, .int .i64 F, .int .i64 T] := by rw [← hw4]; exact alloc_bl _ _ _
  rw [hbw] at hb4
  have hA4 : Below w3.heap.size w3 w4 := by rw [← hw4]; exact alloc_below _ _
  have HQn : Hid (Below W.heap.size W w4) := HQ.out.trans (hA4.mono HQ.out.size)
  have HZ : Hid (∀ wq, Below w4.heap.size w4 wq → wq.cell? ⟨bw, 0, none⟩ = some (.bool false) ∧ wq.cell? ⟨bw, 1, none⟩ = some (.int .i64 F) ∧ wq.cell? ⟨bw, 2, none⟩ = some (.int .i64 T)) := fun wq hq => by
    have a := hb4.below hq hb4.lt
    exact ⟨a.cell 0 (by simp), a.cell 1 (by simp), a.cell 2 (by simp)⟩
  have HW4 : Hid (w3.alloc (.cells #[.bool false, .int .i64 F, .int .i64 T] 32) = w4) := hw4
  have HBw : Hid (w3.heap.size = bw) := hbw
  clear HQ hw4 hbw hb4 hA4
  have HQ := HQn
  clear HQn
  obtain ⟨z0, z1, z2⟩ := HZ.out w4 (Below.refl _ _)
  go_upto_region 5 with fail
  rw [HBw.out, HW4.out]
  clear HBw HW4
  have HY : Hid (Below w4.heap.size w4 w4) := Below.refl _ _
  have CL := HLets.out w4
  clear HLets
  have qgg : ((G : Int) != (G : Int)) = false := by simp
  go_wp2_with (first | (refine wpList_load_mid rfl 27 (.tmp 4) rfl w.heap.size 0 rfl [.slice va vn vc, .string s1, .bool b2, .string s3, .bool b4, .slice aa an ac, .bool b6, .string s7, .bool b8, .bool e.has, .int .i64 e.at_, .bool n.has, .int .i64 n.at_, .bool i.has, .int .i64 i.at_] _ (HRq.out _ HQ.out) Tryz.underlying27 rfl hcl ?_) | (refine wpList_load_midG rfl 27 (.tmp 4) rfl w.heap.size 0 rfl [.slice va vn vc, .string s1, .bool b2, .string s3, .bool b4, .slice aa an ac, .bool b6, .string s7, .bool b8, .bool e.has, .int .i64 e.at_, .bool n.has, .int .i64 n.at_, .bool i.has, .int .i64 i.at_] _ (HRq.out _ HQ.out) Tryz.underlying27 rfl hcl ?_))
  refine CL.mono ?_
  clear CL z0 z1 z2
  rintro r w5 ⟨rfl, hB⟩
  have HQn : Hid (Below W.heap.size W w5) := HQ.out.trans (hB.mono HQ.out.size)
  have HYn : Hid (Below w4.heap.size w4 w5) := HY.out.trans (hB.mono HY.out.size)
  clear HQ HY hB
  have HQ := HQn
  have HY := HYn
  clear HQn HYn
  obtain ⟨z0, z1, z2⟩ := HZ.out w5 HY.out
  go_upto_region 11 with fail
  go_cut [88] from 69 to 88 (fun s wx => s = .bool false ∧ wx = w5)
  case first =>
    have qtf : decide (T < F) = false := decide_eq_false (by omega)
    by_cases hg : G = 0
    · have hh := HGz.out.1 hg
      have q1 : decide (F ≤ now) = true := decide_eq_true hh.1
      have q2 : decide (now ≤ T) = true := decide_eq_true hh.2
      subst hg
      go_wp2
      go_meet
      exact ⟨rfl, rfl⟩
    · have hh : ¬ (F ≤ now ∧ now ≤ T) := fun h => hg (HGz.out.2 h)
      have qg : ((G : Int) == 0) = false := by simp; omega
      by_cases h1 : F ≤ now
      · have q1 : decide (F ≤ now) = true := decide_eq_true h1
        have q2 : decide (now ≤ T) = false := decide_eq_false (fun h => hh ⟨h1, h⟩)
        clear hg hh h1
        go_wp2
        go_meet
        exact ⟨rfl, rfl⟩
      · have q1 : decide (F ≤ now) = false := decide_eq_false h1
        clear hg hh h1
        go_wp2
        go_meet
        exact ⟨rfl, rfl⟩
  case rest =>
  obtain ⟨rfl, rfl⟩ := hcut
  have CF := HCF.out wc
  clear HCF
  go_wp2_with (first | (refine wpList_load_mid rfl 27 (.tmp 4) rfl w.heap.size 0 rfl [.slice va vn vc, .string s1, .bool b2, .string s3, .bool b4, .slice aa an ac, .bool b6, .string s7, .bool b8, .bool e.has, .int .i64 e.at_, .bool n.has, .int .i64 n.at_, .bool i.has, .int .i64 i.at_] _ (HRq.out _ HQ.out) Tryz.underlying27 rfl hcl ?_) | (refine wpList_load_midG rfl 27 (.tmp 4) rfl w.heap.size 0 rfl [.slice va vn vc, .string s1, .bool b2, .string s3, .bool b4, .slice aa an ac, .bool b6, .string s7, .bool b8, .bool e.has, .int .i64 e.at_, .bool n.has, .int .i64 n.at_, .bool i.has, .int .i64 i.at_] _ (HRq.out _ HQ.out) Tryz.underlying27 rfl hcl ?_))
  refine CF.mono ?_
  clear CF z0 z1 z2
  rintro r w6 ⟨rfl, hB⟩
  have HQn : Hid (Below W.heap.size W w6) := HQ.out.trans (hB.mono HQ.out.size)
  have HYn : Hid (Below w4.heap.size w4 w6) := HY.out.trans (hB.mono HY.out.size)
  clear HQ HY hB
  have HQ := HQn
  have HY := HYn
  clear HQn HYn
  obtain ⟨z0, z1, z2⟩ := HZ.out w6 HY.out
  have CT := HCT.out w6
  clear HCT
  go_wp2_with (first | (refine wpList_load_mid rfl 27 (.tmp 4) rfl w.heap.size 0 rfl [.slice va vn vc, .string s1, .bool b2, .string s3, .bool b4, .slice aa an ac, .bool b6, .string s7, .bool b8, .bool e.has, .int .i64 e.at_, .bool n.has, .int .i64 n.at_, .bool i.has, .int .i64 i.at_] _ (HRq.out _ HQ.out) Tryz.underlying27 rfl hcl ?_) | (refine wpList_load_midG rfl 27 (.tmp 4) rfl w.heap.size 0 rfl [.slice va vn vc, .string s1, .bool b2, .string s3, .bool b4, .slice aa an ac, .bool b6, .string s7, .bool b8, .bool e.has, .int .i64 e.at_, .bool n.has, .int .i64 n.at_, .bool i.has, .int .i64 i.at_] _ (HRq.out _ HQ.out) Tryz.underlying27 rfl hcl ?_))
  refine CT.mono ?_
  clear CT z0 z1 z2
  rintro r w7 ⟨rfl, hB⟩
  have HQn : Hid (Below W.heap.size W w7) := HQ.out.trans (hB.mono HQ.out.size)
  have HYn : Hid (Below w4.heap.size w4 w7) := HY.out.trans (hB.mono HY.out.size)
  clear HQ HY hB
  have HQ := HQn
  have HY := HYn
  clear HQn HYn
  obtain ⟨z0, z1, z2⟩ := HZ.out w7 HY.out
  go_upto_region 16 with fail
  go_cut [129] from 103 to 129 (fun s wx => s = .bool false ∧ Hid (Below w4.heap.size w4 wx) ∧ Hid (Below W.heap.size W wx))
  case first =>
    have hminus : wrap64 (F - 1) = F - 1 ∨ True := .inr trivial
    clear hminus
    by_cases h1 : -9223372036854775808 < F
    · have q1 : decide (F > -9223372036854775808) = true := decide_eq_true h1
      obtain ⟨r, hr, CFm⟩ := HCFm.out h1
      have qr : ((r : Int) == 0) = false := by simp; omega
      have CM := CFm w7
      clear CFm HCFm hr
      go_wp2_with (first | (refine wpList_load_mid rfl 27 (.tmp 4) rfl w.heap.size 0 rfl [.slice va vn vc, .string s1, .bool b2, .string s3, .bool b4, .slice aa an ac, .bool b6, .string s7, .bool b8, .bool e.has, .int .i64 e.at_, .bool n.has, .int .i64 n.at_, .bool i.has, .int .i64 i.at_] _ (HRq.out _ HQ.out) Tryz.underlying27 rfl hcl ?_) | (refine wpList_load_midG rfl 27 (.tmp 4) rfl w.heap.size 0 rfl [.slice va vn vc, .string s1, .bool b2, .string s3, .bool b4, .slice aa an ac, .bool b6, .string s7, .bool b8, .bool e.has, .int .i64 e.at_, .bool n.has, .int .i64 n.at_, .bool i.has, .int .i64 i.at_] _ (HRq.out _ HQ.out) Tryz.underlying27 rfl hcl ?_))
      refine CM.mono ?_
      clear CM z0 z1 z2
      rintro r w8 ⟨rfl, hB⟩
      have HQn : Hid (Below W.heap.size W w8) := HQ.out.trans (hB.mono HQ.out.size)
      have HYn : Hid (Below w4.heap.size w4 w8) := HY.out.trans (hB.mono HY.out.size)
      clear HQ HY hB
      have HQ := HQn
      have HY := HYn
      clear HQn HYn
      obtain ⟨z0, z1, z2⟩ := HZ.out w8 HY.out
      by_cases h2 : T < 9223372036854775807
      · have q2 : decide (T < 9223372036854775807) = true := decide_eq_true h2
        have CP := HCTp.out h2 w8
        go_wp2_with (first | (refine wpList_load_mid rfl 27 (.tmp 4) rfl w.heap.size 0 rfl [.slice va vn vc, .string s1, .bool b2, .string s3, .bool b4, .slice aa an ac, .bool b6, .string s7, .bool b8, .bool e.has, .int .i64 e.at_, .bool n.has, .int .i64 n.at_, .bool i.has, .int .i64 i.at_] _ (HRq.out _ HQ.out) Tryz.underlying27 rfl hcl ?_) | (refine wpList_load_midG rfl 27 (.tmp 4) rfl w.heap.size 0 rfl [.slice va vn vc, .string s1, .bool b2, .string s3, .bool b4, .slice aa an ac, .bool b6, .string s7, .bool b8, .bool e.has, .int .i64 e.at_, .bool n.has, .int .i64 n.at_, .bool i.has, .int .i64 i.at_] _ (HRq.out _ HQ.out) Tryz.underlying27 rfl hcl ?_))
        refine CP.mono ?_
        clear CP z0 z1 z2
        rintro r w9 ⟨rfl, hB⟩
        have HQn : Hid (Below W.heap.size W w9) := HQ.out.trans (hB.mono HQ.out.size)
        have HYn : Hid (Below w4.heap.size w4 w9) := HY.out.trans (hB.mono HY.out.size)
        clear HQ HY hB
        have HQ := HQn
        have HY := HYn
        clear HQn HYn
        obtain ⟨z0, z1, z2⟩ := HZ.out w9 HY.out
        go_wp2
        go_meet
        exact ⟨rfl, HY, HQ⟩
      · have q2 : decide (T < 9223372036854775807) = false := decide_eq_false h2
        go_wp2
        go_meet
        exact ⟨rfl, HY, HQ⟩
    · obtain rfl : F = -9223372036854775808 := by omega
      clear h1 hf1 hf2 HCFm
      by_cases h2 : T < 9223372036854775807
      · have q2 : decide (T < 9223372036854775807) = true := decide_eq_true h2
        have k0 : w7.cell? ⟨w.heap.size, 0, none⟩ = some (.slice va vn vc) := by have := HRq.out w7 HQ.out 0 _ rfl; rwa [Nat.zero_add] at this
        have k1 : w7.cell? ⟨w.heap.size, 1, none⟩ = some (.string s1) := by have := HRq.out w7 HQ.out 1 _ rfl; rwa [Nat.zero_add] at this
        have k2 : w7.cell? ⟨w.heap.size, 2, none⟩ = some (.bool b2) := by have := HRq.out w7 HQ.out 2 _ rfl; rwa [Nat.zero_add] at this
        have k3 : w7.cell? ⟨w.heap.size, 3, none⟩ = some (.string s3) := by have := HRq.out w7 HQ.out 3 _ rfl; rwa [Nat.zero_add] at this
        have k4 : w7.cell? ⟨w.heap.size, 4, none⟩ = some (.bool b4) := by have := HRq.out w7 HQ.out 4 _ rfl; rwa [Nat.zero_add] at this
        have k5 : w7.cell? ⟨w.heap.size, 5, none⟩ = some (.slice aa an ac) := by have := HRq.out w7 HQ.out 5 _ rfl; rwa [Nat.zero_add] at this
        have k6 : w7.cell? ⟨w.heap.size, 6, none⟩ = some (.bool b6) := by have := HRq.out w7 HQ.out 6 _ rfl; rwa [Nat.zero_add] at this
        have k7 : w7.cell? ⟨w.heap.size, 7, none⟩ = some (.string s7) := by have := HRq.out w7 HQ.out 7 _ rfl; rwa [Nat.zero_add] at this
        have k8 : w7.cell? ⟨w.heap.size, 8, none⟩ = some (.bool b8) := by have := HRq.out w7 HQ.out 8 _ rfl; rwa [Nat.zero_add] at this
        have k9 : w7.cell? ⟨w.heap.size, 9, none⟩ = some (.bool e.has) := by have := HRq.out w7 HQ.out 9 _ rfl; rwa [Nat.zero_add] at this
        have k10 : w7.cell? ⟨w.heap.size, 10, none⟩ = some (.int .i64 e.at_) := by have := HRq.out w7 HQ.out 10 _ rfl; rwa [Nat.zero_add] at this
        have k11 : w7.cell? ⟨w.heap.size, 11, none⟩ = some (.bool n.has) := by have := HRq.out w7 HQ.out 11 _ rfl; rwa [Nat.zero_add] at this
        have k12 : w7.cell? ⟨w.heap.size, 12, none⟩ = some (.int .i64 n.at_) := by have := HRq.out w7 HQ.out 12 _ rfl; rwa [Nat.zero_add] at this
        have k13 : w7.cell? ⟨w.heap.size, 13, none⟩ = some (.bool i.has) := by have := HRq.out w7 HQ.out 13 _ rfl; rwa [Nat.zero_add] at this
        have k14 : w7.cell? ⟨w.heap.size, 14, none⟩ = some (.int .i64 i.at_) := by have := HRq.out w7 HQ.out 14 _ rfl; rwa [Nat.zero_add] at this
        have CP := HCTp.out h2 w7
        go_wp2_with  fail
        refine CP.mono ?_
        clear CP k0 k1 k2 k3 k4 k5 k6 k7 k8 k9 k10 k11 k12 k13 k14 z0 z1 z2
        rintro r w9 ⟨rfl, hB⟩
        have HQn : Hid (Below W.heap.size W w9) := HQ.out.trans (hB.mono HQ.out.size)
        have HYn : Hid (Below w4.heap.size w4 w9) := HY.out.trans (hB.mono HY.out.size)
        clear HQ HY hB
        have HQ := HQn
        have HY := HYn
        clear HQn HYn
        obtain ⟨z0, z1, z2⟩ := HZ.out w9 HY.out
        go_wp2
        go_meet
        exact ⟨rfl, HY, HQ⟩
      · have q2 : decide (T < 9223372036854775807) = false := decide_eq_false h2
        go_wp2
        go_meet
        exact ⟨rfl, HY, HQ⟩
  case rest =>
  obtain ⟨rfl, HYn, HQn⟩ := hcut
  clear HY HQ z0 z1 z2
  have HY := HYn
  have HQ := HQn
  clear HYn HQn
  rcases Nat.eq_zero_or_pos G with hg | hg
  · subst hg
    go_upto_region 20 with fail
    go_cut [145] from 132 to 145 (fun s wx => s = .bool false ∧ Hid (Below W.heap.size W wx))
    case first =>
      by_cases h1 : l ≤ more
      · have q1 : decide (more ≥ l) = true := decide_eq_true h1
        by_cases h2 : more ≤ 600
        · have q2 : decide (more ≤ 600) = true := decide_eq_true h2
          have CM := HCM.out rfl h1 h2 wc
          go_wp2_with (first | (refine wpList_load_mid rfl 27 (.tmp 4) rfl w.heap.size 0 rfl [.slice va vn vc, .string s1, .bool b2, .string s3, .bool b4, .slice aa an ac, .bool b6, .string s7, .bool b8, .bool e.has, .int .i64 e.at_, .bool n.has, .int .i64 n.at_, .bool i.has, .int .i64 i.at_] _ (HRq.out _ HQ.out) Tryz.underlying27 rfl hcl ?_) | (refine wpList_load_midG rfl 27 (.tmp 4) rfl w.heap.size 0 rfl [.slice va vn vc, .string s1, .bool b2, .string s3, .bool b4, .slice aa an ac, .bool b6, .string s7, .bool b8, .bool e.has, .int .i64 e.at_, .bool n.has, .int .i64 n.at_, .bool i.has, .int .i64 i.at_] _ (HRq.out _ HQ.out) Tryz.underlying27 rfl hcl ?_))
          refine CM.mono ?_
          clear CM
          rintro r w8 ⟨rfl, hB⟩
          have HQn : Hid (Below W.heap.size W w8) := HQ.out.trans (hB.mono HQ.out.size)
          clear hB
          go_wp2
          go_meet
          exact ⟨rfl, HQn⟩
        · have q2 : decide (more ≤ 600) = false := decide_eq_false h2
          go_wp2
          go_meet
          exact ⟨rfl, HQ⟩
      · have q1 : decide (more ≥ l) = false := decide_eq_false h1
        go_wp2
        go_meet
        exact ⟨rfl, HQ⟩
    case rest =>
    obtain ⟨rfl, HQn⟩ := hcut
    clear HQ HY
    have HQ := HQn
    clear HQn
    have HCEq : Hid _ := HCE.out rfl
    have HCNq : Hid _ := HCN.out rfl
    have HCIq : Hid _ := HCI.out rfl
    clear HCE HCN HCI HCM HGz
    obtain ⟨V1, hV1⟩ : ∃ x, wc.alloc (.cells #[.slice va vn vc, .string s1, .bool b2, .string s3, .bool b4, .slice aa an ac, .bool b6, .string s7, .bool b8, .bool false, .int .i64 0, .bool n.has, .int .i64 n.at_, .bool i.has, .int .i64 i.at_] 27) = x := ⟨_, rfl⟩
    have aV1 : Below wc.heap.size wc V1 := by rw [← hV1]; exact alloc_below _ _
    have bV1 : Bl 27 V1 wc.heap.size [.slice va vn vc, .string s1, .bool b2, .string s3, .bool b4, .slice aa an ac, .bool b6, .string s7, .bool b8, .bool false, .int .i64 0, .bool n.has, .int .i64 n.at_, .bool i.has, .int .i64 i.at_] := by rw [← hV1]; exact alloc_bl _ _ _
    have HQV1 : Hid (Below W.heap.size W V1) := HQ.out.trans (aV1.mono HQ.out.size)
    have HV1 : Hid (wc.alloc (.cells #[.slice va vn vc, .string s1, .bool b2, .string s3, .bool b4, .slice aa an ac, .bool b6, .string s7, .bool b8, .bool false, .int .i64 0, .bool n.has, .int .i64 n.at_, .bool i.has, .int .i64 i.at_] 27) = V1) := hV1
    clear hV1
    obtain ⟨V2, hV2⟩ : ∃ x, V1.alloc (.cells #[.slice va vn vc, .string s1, .bool b2, .string s3, .bool b4, .slice aa an ac, .bool b6, .string s7, .bool b8, .bool e.has, .int .i64 e.at_, .bool false, .int .i64 0, .bool i.has, .int .i64 i.at_] 27) = x := ⟨_, rfl⟩
    have aV2 : Below V1.heap.size V1 V2 := by rw [← hV2]; exact alloc_below _ _
    have bV2 : Bl 27 V2 V1.heap.size [.slice va vn vc, .string s1, .bool b2, .string s3, .bool b4, .slice aa an ac, .bool b6, .string s7, .bool b8, .bool e.has, .int .i64 e.at_, .bool false, .int .i64 0, .bool i.has, .int .i64 i.at_] := by rw [← hV2]; exact alloc_bl _ _ _
    have HQV2 : Hid (Below W.heap.size W V2) := HQV1.out.trans (aV2.mono HQV1.out.size)
    have HV2 : Hid (V1.alloc (.cells #[.slice va vn vc, .string s1, .bool b2, .string s3, .bool b4, .slice aa an ac, .bool b6, .string s7, .bool b8, .bool e.has, .int .i64 e.at_, .bool false, .int .i64 0, .bool i.has, .int .i64 i.at_] 27) = V2) := hV2
    clear hV2
    obtain ⟨V3, hV3⟩ : ∃ x, V2.alloc (.cells #[.slice va vn vc, .string s1, .bool b2, .string s3, .bool b4, .slice aa an ac, .bool b6, .string s7, .bool b8, .bool e.has, .int .i64 e.at_, .bool n.has, .int .i64 n.at_, .bool false, .int .i64 0] 27) = x := ⟨_, rfl⟩
    have aV3 : Below V2.heap.size V2 V3 := by rw [← hV3]; exact alloc_below _ _
    have bV3 : Bl 27 V3 V2.heap.size [.slice va vn vc, .string s1, .bool b2, .string s3, .bool b4, .slice aa an ac, .bool b6, .string s7, .bool b8, .bool e.has, .int .i64 e.at_, .bool n.has, .int .i64 n.at_, .bool false, .int .i64 0] := by rw [← hV3]; exact alloc_bl _ _ _
    have HQV3 : Hid (Below W.heap.size W V3) := HQV2.out.trans (aV3.mono HQV2.out.size)
    have HV3 : Hid (V2.alloc (.cells #[.slice va vn vc, .string s1, .bool b2, .string s3, .bool b4, .slice aa an ac, .bool b6, .string s7, .bool b8, .bool e.has, .int .i64 e.at_, .bool n.has, .int .i64 n.at_, .bool false, .int .i64 0] 27) = V3) := hV3
    clear hV3
    have aV13 : Below V1.heap.size V1 V3 := aV2.trans (aV3.mono aV2.size)
    have bV13 := bV1.below aV13 bV1.lt
    have bV23 := bV2.below aV3 bV2.lt
    have HR : ∀ (b : Nat) (cs : List Value), Bl 27 V3 b cs → ∀ wq, Below V3.heap.size V3 wq → wq.rangeAt b 0 cs := fun b cs hb wq hq j v hv => by
      obtain ⟨hj, e⟩ := List.getElem?_eq_some_iff.1 hv
      rw [Nat.zero_add, ← e]
      exact (hb.below hq hb.lt).cell j hj
    have HR1 : Hid (∀ wq, Below V3.heap.size V3 wq → wq.rangeAt wc.heap.size 0 [.slice va vn vc, .string s1, .bool b2, .string s3, .bool b4, .slice aa an ac, .bool b6, .string s7, .bool b8, .bool false, .int .i64 0, .bool n.has, .int .i64 n.at_, .bool i.has, .int .i64 i.at_]) := HR _ _ bV13
    have HR2 : Hid (∀ wq, Below V3.heap.size V3 wq → wq.rangeAt V1.heap.size 0 [.slice va vn vc, .string s1, .bool b2, .string s3, .bool b4, .slice aa an ac, .bool b6, .string s7, .bool b8, .bool e.has, .int .i64 e.at_, .bool false, .int .i64 0, .bool i.has, .int .i64 i.at_]) := HR _ _ bV23
    have HR3 : Hid (∀ wq, Below V3.heap.size V3 wq → wq.rangeAt V2.heap.size 0 [.slice va vn vc, .string s1, .bool b2, .string s3, .bool b4, .slice aa an ac, .bool b6, .string s7, .bool b8, .bool e.has, .int .i64 e.at_, .bool n.has, .int .i64 n.at_, .bool false, .int .i64 0]) := HR _ _ bV3
    have HBV : Hid (Below w.heap.size w V3) := HBW.out.trans (HQV3.out.mono HBW.out.size)
    clear HR aV13 bV13 bV23 aV1 aV2 aV3 bV1 bV2 bV3
    go_upto_region 24 with (refine wpList_load_mid rfl 27 (.tmp 4) rfl w.heap.size 0 rfl [.slice va vn vc, .string s1, .bool b2, .string s3, .bool b4, .slice aa an ac, .bool b6, .string s7, .bool b8, .bool e.has, .int .i64 e.at_, .bool n.has, .int .i64 n.at_, .bool i.has, .int .i64 i.at_] _ (HRq.out _ HQ.out) Tryz.underlying27 rfl hcl ?_)
    rw [HV1.out]
    clear HV1
    go_upto_region 26 with (refine wpList_load_mid rfl 27 (.tmp 4) rfl w.heap.size 0 rfl [.slice va vn vc, .string s1, .bool b2, .string s3, .bool b4, .slice aa an ac, .bool b6, .string s7, .bool b8, .bool e.has, .int .i64 e.at_, .bool n.has, .int .i64 n.at_, .bool i.has, .int .i64 i.at_] _ (HRq.out _ HQV1.out) Tryz.underlying27 rfl hcl ?_)
    rw [HV2.out]
    clear HV2
    go_upto_region 28 with (refine wpList_load_mid rfl 27 (.tmp 4) rfl w.heap.size 0 rfl [.slice va vn vc, .string s1, .bool b2, .string s3, .bool b4, .slice aa an ac, .bool b6, .string s7, .bool b8, .bool e.has, .int .i64 e.at_, .bool n.has, .int .i64 n.at_, .bool i.has, .int .i64 i.at_] _ (HRq.out _ HQV2.out) Tryz.underlying27 rfl hcl ?_)
    rw [HV3.out]
    clear HV3
    have CX := HCEq.out V3
    clear HCEq
    go_wp2_with (refine wpList_load_mid rfl 27 (.tmp 13) rfl wc.heap.size 0 rfl [.slice va vn vc, .string s1, .bool b2, .string s3, .bool b4, .slice aa an ac, .bool b6, .string s7, .bool b8, .bool false, .int .i64 0, .bool n.has, .int .i64 n.at_, .bool i.has, .int .i64 i.at_] _ (HR1.out _ (Below.refl _ _)) Tryz.underlying27 rfl hcl ?_)
    refine CX.mono ?_
    clear CX
    rintro r y1 ⟨rfl, hB⟩
    have HY1 : Hid (Below V3.heap.size V3 y1) := hB
    clear hB
    have CX := HCNq.out y1
    clear HCNq
    go_wp2_with (refine wpList_load_midG rfl 27 (.tmp 14) rfl V1.heap.size 0 rfl [.slice va vn vc, .string s1, .bool b2, .string s3, .bool b4, .slice aa an ac, .bool b6, .string s7, .bool b8, .bool e.has, .int .i64 e.at_, .bool false, .int .i64 0, .bool i.has, .int .i64 i.at_] _ (HR2.out _ HY1.out) Tryz.underlying27 rfl hcl ?_)
    refine CX.mono ?_
    clear CX
    rintro r y2 ⟨rfl, hB⟩
    have HY2 : Hid (Below V3.heap.size V3 y2) := HY1.out.trans (hB.mono HY1.out.size)
    clear hB HY1
    have CX := HCIq.out y2
    clear HCIq
    go_wp2_with (refine wpList_load_midG rfl 27 (.tmp 15) rfl V2.heap.size 0 rfl [.slice va vn vc, .string s1, .bool b2, .string s3, .bool b4, .slice aa an ac, .bool b6, .string s7, .bool b8, .bool e.has, .int .i64 e.at_, .bool n.has, .int .i64 n.at_, .bool false, .int .i64 0] _ (HR3.out _ HY2.out) Tryz.underlying27 rfl hcl ?_)
    refine CX.mono ?_
    clear CX
    rintro r y3 ⟨rfl, hB⟩
    have HY3 : Hid (Below V3.heap.size V3 y3) := HY2.out.trans (hB.mono HY2.out.size)
    clear hB HY2
    go_wp2
    go_ret
    exact ⟨rfl, HBV.out.trans (HY3.out.mono HBV.out.size)⟩
  · have qg : ((G : Int) != 0) = true := by simp; omega
    clear HCM HCE HCN HCI
    go_wp2
    go_ret
    exact ⟨rfl, HBW.out.trans (HQ.out.mono HBW.out.size)⟩

end Go.Proofs.YthlfboaidhgnlaaGreatDoor
