import Derived.Test.YtidmjojlhcgedaaTb
import Derived.Test.YtidmjojlhcgedaaSb
namespace Go.Proofs.Ytidmjojlhcgedaa
open Go.RowKit Go.Maps
set_option maxRecDepth 100000

theorem RdE.below {w w' : World} {ao : Option Addr} {l : List En} {n : Nat} (h : RdE w ao l) (hb : Below n w w') (hn : w.heap.size ≤ n) : RdE w' ao l := by
  rcases h with h | ⟨g, e, hg, hc⟩
  · exact .inl h
  · have key : ∀ i v, w.cell? ⟨g, i, none⟩ = some v → w'.cell? ⟨g, i, none⟩ = some v := fun i v h => cell_but h fun h1 => hb.block g (by omega)
    exact .inr ⟨g, e, Nat.lt_of_lt_of_le hg hb.size, fun i hi => ⟨key _ _ (hc i hi).1, key _ _ (hc i hi).2⟩⟩

set_option maxHeartbeats 4000000 in
theorem rbytes_any (has : Bool) (clk : Int) (ao : Option Addr) (cap : Nat) (L : List En) (w : World) (hr0 : RdE w ao L) (hnm0 : ∀ p ∈ L, p.1.length ≤ 1024) (hN : L.length ≤ 4096) :
    Calls Try.prog 44 #[.bool has, .int .i64 clk, .slice ao L.length cap] w fun e w' => ∃ v', e = .returned v' ∧ OBb w.heap.size w w' v' (imgF ⟨has, clk, L⟩) := by
  have hr : Hid (RdE w ao L) := hr0
  have hnm : Hid (∀ p ∈ L, p.1.length ≤ 1024) := hnm0
  clear hr0 hnm0
  have hu1 := u64_wrap clk
  have hu2 := u64_lt clk
  have HH : Hid (headF has clk = [82, 1, if has then 1 else 0] ++ tobe 8 (u64 clk)) := by show _ = _; unfold headF; cases has <;> rfl
  have HI : Hid (imgF ⟨has, clk, L⟩ = (headF has clk ++ tobe 4 L.length ++ L.flatMap nameF) ++ tobe 8 (sumF (headF has clk ++ tobe 4 L.length ++ L.flatMap nameF))) := rfl
  generalize imgF ⟨has, clk, L⟩ = IM at HI ⊢
  have hhl := headF_length has clk
  generalize headF has clk = HD at HH HI hhl
  generalize u64 clk = U at hu1 hu2 HH
  cases has with
  | false =>
    have hO0 : Hid (OBb w.heap.size w (w.alloc (Obj.cells #[.int .u8 82, .int .u8 1, .int .u8 0] 5)) (.slice (some ⟨w.heap.size, 0, none⟩) 3 3) [82, 1, 0]) := ⟨Bl.owb (l := [82, 1, 0]) (alloc_bl w (([82, 1, 0] : List UInt8).map B) 5) (Nat.le_refl _) (by simp), alloc_below _ _, Kd.of_below (alloc_below _ _)⟩
    have HHz : Hid (HD = [82, 1, 0] ++ tobe 8 U) := HH
    clear HH
    obtain ⟨N, hNe⟩ : ∃ N, L.length = N := ⟨_, rfl⟩
    have hNh : Hid (L.length = N) := hNe
    rw [hNe] at hN ⊢
    clear hNe
    go_enter Try.func44, Try.ntmps44
    go_wp2_with fail
    refine (rput_any w.heap.size _ [82, 1, 0] U 8 w _ hO0.out (Nat.le_refl _) (by simp) (by omega)).mono ?_
    rintro e w1 ⟨v1, rfl, hob1⟩
    have hO1 : Hid (OBb w.heap.size w w1 v1 HD) := by rw [HHz.out]; exact hob1
    clear hob1 hO0
    have hcn : IntKind.u64.wrap (N : Int) = (N : Int) := u64_nat (by omega)
    go_wp2_with fail
    refine (rput_any w.heap.size _ HD N 4 w _ hO1.out (Nat.le_refl _) (by omega) (by omega)).mono ?_
    rintro e w2 ⟨v2, rfl, hob2⟩
    have hO2 : Hid (OBb w.heap.size w w2 v2 (HD ++ tobe 4 N)) := hob2
    clear hob2 hO1 hcn
    go_wp2_with fail
    go_loopw [7, 8, 9] (fun s7 s _ wr => ∃ k : Nat, s = .int .i64 (k : Int) ∧ k ≤ N ∧ OBb w.heap.size w wr s7 (HD ++ tobe 4 N ++ (L.take k).flatMap nameF)) (fun _ s _ _ => N - (intOf s).toNat)
    case atStart => exact ⟨0, rfl, Nat.zero_le _, by simpa using hO2.out⟩
    case round =>
      obtain ⟨k, rfl, hk, hob⟩ := hrel
      have hOr : Hid (OBb w.heap.size w wr _ (HD ++ tobe 4 N ++ (L.take k).flatMap nameF)) := hob
      clear hob hO2
      by_cases hlt : k < N
      · have hltL : k < L.length := by rw [hNh.out]; exact hlt
        rcases hr.out with h0 | ⟨g, hao, hgl, hc⟩
        · rw [h0] at hltL; simp at hltL
        subst hao
        obtain ⟨d0, d1⟩ := hc k hltL
        rw [getD_eq _ _ hltL] at d0 d1
        have hF : Hid ((L.take (k + 1)).flatMap nameF = (L.take k).flatMap nameF ++ (tobe 2 L[k].1.length ++ L[k].1 ++ tobe 8 (_root_.Go.Proofs.Ytidmjojlhcgedaa.u64 L[k].2))) := flat_snoc L k hltL
        have hnk : L[k].1.length ≤ 1024 := hnm.out _ (List.getElem_mem hltL)
        have hfl := names_take hnm.out (by rw [hNh.out]; exact hN) k
        generalize (L[k]).1 = nm at d0 d1 hF hnk
        generalize (L[k]).2 = en at d1 hF
        generalize (L.take k).flatMap nameF = ys at hOr hF hfl
        have hcu := u64_wrap en
        have hul := u64_lt en
        generalize _root_.Go.Proofs.Ytidmjojlhcgedaa.u64 en = V at hcu hul hF
        have hC : Hid (∀ wx, Below w.heap.size w wx → wx.cell? ⟨g, k * 2, none⟩ = some (.string ⟨nm.toArray⟩) ∧ wx.cell? ⟨g, k * 2 + 1, none⟩ = some (.int .i64 en)) := fun wx hb => ⟨cell_but d0 fun h1 => hb.block g (by omega), cell_but d1 fun h1 => hb.block g (by omega)⟩
        clear hc d0 d1 hr
        obtain ⟨d0, d1⟩ := hC.out wr hOr.out.bel
        have hcl : IntKind.u64.wrap (nm.length : Int) = (nm.length : Int) := u64_nat (by omega)
        have hyl : (HD ++ tobe 4 N ++ ys).length ≤ 6000000 := by simp only [List.length_append, tobe_length]; omega
        go_wp2_with fail
        refine (rput_any w.heap.size _ (HD ++ tobe 4 N ++ ys) nm.length 2 w _ hOr.out (Nat.le_refl _) (by omega) (by omega)).mono ?_
        rintro e w3 ⟨v3, rfl, hob3⟩
        have hO3 : Hid (OBb w.heap.size w w3 v3 (HD ++ tobe 4 N ++ ys ++ tobe 2 nm.length)) := hob3
        clear hob3 hOr d0 d1 hcl
        have hy3 : (HD ++ tobe 4 N ++ ys ++ tobe 2 nm.length).length ≤ 6000010 := by simp only [List.length_append, tobe_length] at hyl ⊢; omega
        have hsn : Hid (HD ++ tobe 4 N ++ ys ++ tobe 2 nm.length = HD ++ tobe 4 N ++ ys ++ tobe 2 nm.length) := rfl
        generalize hX : HD ++ tobe 4 N ++ ys ++ tobe 2 nm.length = X at hO3 hy3
        have hXh : Hid (HD ++ tobe 4 N ++ ys ++ tobe 2 nm.length = X) := hX
        clear hX hsn hyl
        go_wp2_with fail
        go_loopw [7, 9] (fun s7 s wx => ∃ j : Nat, s = .int .i64 (j : Int) ∧ j ≤ nm.length ∧ OBb w.heap.size w wx s7 (X ++ nm.take j)) (fun _ s _ => nm.length - (intOf s).toNat)
        case atStart => exact ⟨0, rfl, Nat.zero_le _, by simpa using hO3.out⟩
        case round =>
          obtain ⟨j, rfl, hj, hob⟩ := hrel
          have hOj : Hid (OBb w.heap.size w wr _ (X ++ nm.take j)) := hob
          clear hob hO3
          obtain ⟨d0, d1⟩ := hC.out wr hOj.out.bel
          by_cases hlj : j < nm.length
          · have hT : Hid (nm.take (j + 1) = nm.take j ++ [nm[j]]) := List.take_succ_eq_append_getElem hlj
            have hxl : (X ++ nm.take j).length ≤ 1000000000 := by simp only [List.length_append, List.length_take]; omega
            go_wp2_with (at_builtin; refine append_oneb rfl _ _ rfl w.heap.size _ (X ++ nm.take j) nm[j] rfl hOj.out rfl hxl (Nat.le_refl _) ?_; intro v' w' hob')
            exact ⟨⟨j + 1, by go_num, by omega, by rw [hT.out, ← List.append_assoc]; exact hob'⟩, by simp [intOf]; omega⟩
          · obtain rfl : j = nm.length := by omega
            have hO4 : Hid (OBb w.heap.size w wr u7 (X ++ nm)) := by
              have := hOj.out
              rw [List.take_length] at this
              exact this
            clear hOj
            go_wp2_with fail
            refine (rput_any w.heap.size _ (X ++ nm) V 8 w _ hO4.out (Nat.le_refl _) (by simp only [List.length_append]; omega) (by omega)).mono ?_
            rintro e w5 ⟨v5, rfl, hob5⟩
            have hO5 : Hid (OBb w.heap.size w w5 v5 (X ++ nm ++ tobe 8 V)) := hob5
            clear hob5 hO4
            go_wp2_with fail
            refine ⟨⟨k + 1, by go_num, by omega, ?_⟩, by simp [intOf]; omega⟩
            have := hO5.out
            rw [← hXh.out] at this
            rw [hF.out]
            simpa [List.append_assoc] using this
      · obtain rfl : k = N := by omega
        have hO6 : Hid (OBb w.heap.size w wr u7 (HD ++ tobe 4 k ++ L.flatMap nameF)) := by
          have := hOr.out
          rw [List.take_of_length_le (by rw [hNh.out]; exact Nat.le_refl _)] at this
          exact this
        have hfl := names_take hnm.out (by rw [hNh.out]; exact hN) L.length
        rw [List.take_length] at hfl
        have hbl : (HD ++ tobe 4 k ++ L.flatMap nameF).length ≤ 6000000 := by simp only [List.length_append, tobe_length]; omega
        rw [hNh.out] at HI
        generalize HD ++ tobe 4 k ++ L.flatMap nameF = Y at hO6 HI hbl
        clear hOr
        obtain ⟨a6, c6, e6, hc6, hr6⟩ := hO6.out.own.nb
        subst e6
        go_wp2_with fail
        refine (rsum_any a6 Y c6 wr hr6 (by omega)).mono ?_
        rintro e w7 ⟨rfl, rfl⟩
        go_wp2_with fail
        refine (rput_any w.heap.size _ Y (sumF Y) 8 w _ hO6.out (Nat.le_refl _) (by omega) (by omega)).mono ?_
        rintro e w8 ⟨v8, rfl, hob8⟩
        go_wp2_with fail
        go_ret
        exact ⟨v8, rfl, by rw [HI.out]; exact hob8⟩
  | true =>
    have hO0 : Hid (OBb w.heap.size w (w.alloc (Obj.cells #[.int .u8 82, .int .u8 1, .int .u8 1] 5)) (.slice (some ⟨w.heap.size, 0, none⟩) 3 3) [82, 1, 1]) := ⟨Bl.owb (l := [82, 1, 1]) (alloc_bl w (([82, 1, 1] : List UInt8).map B) 5) (Nat.le_refl _) (by simp), alloc_below _ _, Kd.of_below (alloc_below _ _)⟩
    have HHz : Hid (HD = [82, 1, 1] ++ tobe 8 U) := HH
    clear HH
    obtain ⟨N, hNe⟩ : ∃ N, L.length = N := ⟨_, rfl⟩
    have hNh : Hid (L.length = N) := hNe
    rw [hNe] at hN ⊢
    clear hNe
    go_enter Try.func44, Try.ntmps44
    go_wp2_with fail
    refine (rput_any w.heap.size _ [82, 1, 1] U 8 w _ hO0.out (Nat.le_refl _) (by simp) (by omega)).mono ?_
    rintro e w1 ⟨v1, rfl, hob1⟩
    have hO1 : Hid (OBb w.heap.size w w1 v1 HD) := by rw [HHz.out]; exact hob1
    clear hob1 hO0
    have hcn : IntKind.u64.wrap (N : Int) = (N : Int) := u64_nat (by omega)
    go_wp2_with fail
    refine (rput_any w.heap.size _ HD N 4 w _ hO1.out (Nat.le_refl _) (by omega) (by omega)).mono ?_
    rintro e w2 ⟨v2, rfl, hob2⟩
    have hO2 : Hid (OBb w.heap.size w w2 v2 (HD ++ tobe 4 N)) := hob2
    clear hob2 hO1 hcn
    go_wp2_with fail
    go_loopw [7, 8, 9] (fun s7 s _ wr => ∃ k : Nat, s = .int .i64 (k : Int) ∧ k ≤ N ∧ OBb w.heap.size w wr s7 (HD ++ tobe 4 N ++ (L.take k).flatMap nameF)) (fun _ s _ _ => N - (intOf s).toNat)
    case atStart => exact ⟨0, rfl, Nat.zero_le _, by simpa using hO2.out⟩
    case round =>
      obtain ⟨k, rfl, hk, hob⟩ := hrel
      have hOr : Hid (OBb w.heap.size w wr _ (HD ++ tobe 4 N ++ (L.take k).flatMap nameF)) := hob
      clear hob hO2
      by_cases hlt : k < N
      · have hltL : k < L.length := by rw [hNh.out]; exact hlt
        rcases hr.out with h0 | ⟨g, hao, hgl, hc⟩
        · rw [h0] at hltL; simp at hltL
        subst hao
        obtain ⟨d0, d1⟩ := hc k hltL
        rw [getD_eq _ _ hltL] at d0 d1
        have hF : Hid ((L.take (k + 1)).flatMap nameF = (L.take k).flatMap nameF ++ (tobe 2 L[k].1.length ++ L[k].1 ++ tobe 8 (_root_.Go.Proofs.Ytidmjojlhcgedaa.u64 L[k].2))) := flat_snoc L k hltL
        have hnk : L[k].1.length ≤ 1024 := hnm.out _ (List.getElem_mem hltL)
        have hfl := names_take hnm.out (by rw [hNh.out]; exact hN) k
        generalize (L[k]).1 = nm at d0 d1 hF hnk
        generalize (L[k]).2 = en at d1 hF
        generalize (L.take k).flatMap nameF = ys at hOr hF hfl
        have hcu := u64_wrap en
        have hul := u64_lt en
        generalize _root_.Go.Proofs.Ytidmjojlhcgedaa.u64 en = V at hcu hul hF
        have hC : Hid (∀ wx, Below w.heap.size w wx → wx.cell? ⟨g, k * 2, none⟩ = some (.string ⟨nm.toArray⟩) ∧ wx.cell? ⟨g, k * 2 + 1, none⟩ = some (.int .i64 en)) := fun wx hb => ⟨cell_but d0 fun h1 => hb.block g (by omega), cell_but d1 fun h1 => hb.block g (by omega)⟩
        clear hc d0 d1 hr
        obtain ⟨d0, d1⟩ := hC.out wr hOr.out.bel
        have hcl : IntKind.u64.wrap (nm.length : Int) = (nm.length : Int) := u64_nat (by omega)
        have hyl : (HD ++ tobe 4 N ++ ys).length ≤ 6000000 := by simp only [List.length_append, tobe_length]; omega
        go_wp2_with fail
        refine (rput_any w.heap.size _ (HD ++ tobe 4 N ++ ys) nm.length 2 w _ hOr.out (Nat.le_refl _) (by omega) (by omega)).mono ?_
        rintro e w3 ⟨v3, rfl, hob3⟩
        have hO3 : Hid (OBb w.heap.size w w3 v3 (HD ++ tobe 4 N ++ ys ++ tobe 2 nm.length)) := hob3
        clear hob3 hOr d0 d1 hcl
        have hy3 : (HD ++ tobe 4 N ++ ys ++ tobe 2 nm.length).length ≤ 6000010 := by simp only [List.length_append, tobe_length] at hyl ⊢; omega
        have hsn : Hid (HD ++ tobe 4 N ++ ys ++ tobe 2 nm.length = HD ++ tobe 4 N ++ ys ++ tobe 2 nm.length) := rfl
        generalize hX : HD ++ tobe 4 N ++ ys ++ tobe 2 nm.length = X at hO3 hy3
        have hXh : Hid (HD ++ tobe 4 N ++ ys ++ tobe 2 nm.length = X) := hX
        clear hX hsn hyl
        go_wp2_with fail
        go_loopw [7, 9] (fun s7 s wx => ∃ j : Nat, s = .int .i64 (j : Int) ∧ j ≤ nm.length ∧ OBb w.heap.size w wx s7 (X ++ nm.take j)) (fun _ s _ => nm.length - (intOf s).toNat)
        case atStart => exact ⟨0, rfl, Nat.zero_le _, by simpa using hO3.out⟩
        case round =>
          obtain ⟨j, rfl, hj, hob⟩ := hrel
          have hOj : Hid (OBb w.heap.size w wr _ (X ++ nm.take j)) := hob
          clear hob hO3
          obtain ⟨d0, d1⟩ := hC.out wr hOj.out.bel
          by_cases hlj : j < nm.length
          · have hT : Hid (nm.take (j + 1) = nm.take j ++ [nm[j]]) := List.take_succ_eq_append_getElem hlj
            have hxl : (X ++ nm.take j).length ≤ 1000000000 := by simp only [List.length_append, List.length_take]; omega
            go_wp2_with (at_builtin; refine append_oneb rfl _ _ rfl w.heap.size _ (X ++ nm.take j) nm[j] rfl hOj.out rfl hxl (Nat.le_refl _) ?_; intro v' w' hob')
            exact ⟨⟨j + 1, by go_num, by omega, by rw [hT.out, ← List.append_assoc]; exact hob'⟩, by simp [intOf]; omega⟩
          · obtain rfl : j = nm.length := by omega
            have hO4 : Hid (OBb w.heap.size w wr u7 (X ++ nm)) := by
              have := hOj.out
              rw [List.take_length] at this
              exact this
            clear hOj
            go_wp2_with fail
            refine (rput_any w.heap.size _ (X ++ nm) V 8 w _ hO4.out (Nat.le_refl _) (by simp only [List.length_append]; omega) (by omega)).mono ?_
            rintro e w5 ⟨v5, rfl, hob5⟩
            have hO5 : Hid (OBb w.heap.size w w5 v5 (X ++ nm ++ tobe 8 V)) := hob5
            clear hob5 hO4
            go_wp2_with fail
            refine ⟨⟨k + 1, by go_num, by omega, ?_⟩, by simp [intOf]; omega⟩
            have := hO5.out
            rw [← hXh.out] at this
            rw [hF.out]
            simpa [List.append_assoc] using this
      · obtain rfl : k = N := by omega
        have hO6 : Hid (OBb w.heap.size w wr u7 (HD ++ tobe 4 k ++ L.flatMap nameF)) := by
          have := hOr.out
          rw [List.take_of_length_le (by rw [hNh.out]; exact Nat.le_refl _)] at this
          exact this
        have hfl := names_take hnm.out (by rw [hNh.out]; exact hN) L.length
        rw [List.take_length] at hfl
        have hbl : (HD ++ tobe 4 k ++ L.flatMap nameF).length ≤ 6000000 := by simp only [List.length_append, tobe_length]; omega
        rw [hNh.out] at HI
        generalize HD ++ tobe 4 k ++ L.flatMap nameF = Y at hO6 HI hbl
        clear hOr
        obtain ⟨a6, c6, e6, hc6, hr6⟩ := hO6.out.own.nb
        subst e6
        go_wp2_with fail
        refine (rsum_any a6 Y c6 wr hr6 (by omega)).mono ?_
        rintro e w7 ⟨rfl, rfl⟩
        go_wp2_with fail
        refine (rput_any w.heap.size _ Y (sumF Y) 8 w _ hO6.out (Nat.le_refl _) (by omega) (by omega)).mono ?_
        rintro e w8 ⟨v8, rfl, hob8⟩
        go_wp2_with fail
        go_ret
        exact ⟨v8, rfl, by rw [HI.out]; exact hob8⟩

end Go.Proofs.Ytidmjojlhcgedaa
