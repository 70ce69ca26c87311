import Derived.Test.YtoclnmjljilfdaaDoorRSum
import Derived.Test.YtoclnmjljilfdaaDoorHm4
namespace Go.Proofs.YtoclnmjljilfdaaDoor
open Go.RowKit

theorem fill_set (x : UInt8) (N k : Nat) (hk : k < N) : ((List.replicate k x ++ List.replicate (N - k) 0).map B).set k (B x) = (List.replicate (k + 1) x ++ List.replicate (N - (k + 1)) 0).map B := by
  rw [← List.map_set, List.set_append_right _ _ (by simp), List.length_replicate, Nat.sub_self, show N - k = (N - (k + 1)) + 1 by omega, List.replicate_succ, List.set_cons_zero, List.replicate_succ', List.append_assoc]
  rfl

theorem mem_rep {w : World} {g N i : Nat} {x : UInt8} (h : Bl 5 w g ((List.replicate N x).map B)) (hi : i < N) : Rd w (some ⟨g, i, none⟩) [x] := by
  refine .inr ⟨g, i, rfl, h.lt, fun j hj => ?_⟩
  have : j = 0 := by simpa using hj
  subst this
  rw [Nat.add_zero, h.cell i (by simpa using hi)]
  simp

set_option maxRecDepth 100000 in
set_option maxHeartbeats 4000000 in
theorem fills_core (h : Int) (x : UInt8) (n : Int) (hn1 : -9223372036854775808 ≤ n) (hn2 : n ≤ 9223372036854775807) (w : World) (T : Tb w) (R : Rt w) :
    Calls Tryd.prog 5 #[.int .i64 h, .int .u8 (x.toNat : Int), .int .i64 n] w fun e w' => e = .returned (.bool true) ∧ Below w.heap.size w w' := by
  have HT : Hid (Tb w) := T
  have HR : Hid (Rt w) := R
  have hsl := siz_le h
  have hg7 : 7 ≤ w.heap.size := by have := cell_lt (T.k 0 (by omega)); omega
  obtain ⟨n0, hn0, hn3⟩ : ∃ n0 : Nat, (n < 0 → (n0 : Int) = 0) ∧ (¬ n < 0 → (n0 : Int) = n) := by
    by_cases hl : n < 0
    · exact ⟨0, fun _ => rfl, fun h => absurd hl h⟩
    · exact ⟨n.toNat, fun h => absurd h hl, fun _ => by omega⟩
  have hn0b : n0 ≤ 9223372036854775807 := by
    by_cases hl : n < 0
    · have := hn0 hl; omega
    · have := hn3 hl; omega
  have Hn0 : Hid (n < 0 → (n0 : Int) = 0) := hn0
  have Hn3 : Hid (¬ n < 0 → (n0 : Int) = n) := hn3
  clear T R hn0 hn3
  go_enter Tryd.func5, Tryd.ntmps5
  go_upto_if 14 with fail
  go_cut [2] from 13 to 14 (fun s wx => s = .int .i64 (n0 : Int) ∧ w = wx)
  case first =>
    by_cases hl : n < 0
    · have He := Hn0.out hl
      clear Hn0 Hn3
      go_wp2_with fail
      go_meet
      exact ⟨by rw [He], rfl⟩
    · have He : Hid ((n0 : Int) = n) := Hn3.out hl
      clear Hn0 Hn3
      go_wp2_with fail
      go_meet
      exact ⟨by rw [He.out], rfl⟩
  case rest =>
  obtain ⟨rfl, rfl⟩ := hcut
  clear Hn0 Hn3 hn1 hn2
  obtain ⟨N, hN⟩ : ∃ N, N = n0 % 300 := ⟨_, rfl⟩
  have hN3 : N < 300 := by omega
  have hNI : (n0 : Int) % 300 = (N : Int) := by omega
  obtain ⟨wm, hmk, hcm, hbm⟩ := made w N (by omega)
  have HC0 : Hid (Bl 5 wm w.heap.size ((List.replicate 0 x ++ List.replicate (N - 0) 0).map B)) := by
    rw [List.replicate_zero, List.nil_append, Nat.sub_zero]; exact hcm
  have HB0 : Hid (Below w.heap.size w wm) := hbm
  clear hN hcm hbm
  go_wp2
  clear hmk
  go_loopw [8] (fun s ws => ∃ k : Nat, s = .int .i64 (k : Int) ∧ k ≤ N ∧ Hid (Bl 5 ws w.heap.size ((List.replicate k x ++ List.replicate (N - k) 0).map B)) ∧ Hid (Below w.heap.size w ws)) (fun s _ => N - (intOf s).toNat)
  case atStart => exact ⟨0, rfl, by omega, HC0, HB0⟩
  case round =>
    clear HC0 HB0
    obtain ⟨k, rfl, hk, hcl, hbel⟩ := hrel
    by_cases hlt : k < N
    · have gf := hcl.out.frozen k
      obtain ⟨old, gc⟩ : ∃ v, wr.cell? ⟨w.heap.size, k, none⟩ = some v := ⟨_, hcl.out.cell k (by simp; omega)⟩
      go_wp2
      refine ⟨⟨k + 1, by go_num, by omega, ?_, ?_⟩, by simp [intOf]; omega⟩
      · have h1 := hcl.out.set k (B x)
        rw [fill_set x N k hlt] at h1
        exact h1
      · exact Below.setCell hbel.out (Nat.le_refl _) _
    · obtain rfl : k = N := by omega
      clear hlt hk
      have HC1 : Hid (Bl 5 wr w.heap.size ((List.replicate k x).map B)) := by
        have h1 := hcl.out
        rw [Nat.sub_self, List.replicate_zero, List.append_nil] at h1
        exact h1
      have hgr : w.heap.size < wr.heap.size := HC1.out.lt
      have C1 := rsum_any h (some ⟨w.heap.size, 0, none⟩) k (List.replicate k x) wr (HR.out.below hbel.out (Nat.le_refl _)) (bl_rd HC1.out) (fun e => by cases e) (by rw [List.length_replicate]; omega)
      rw [List.length_replicate] at C1
      clear hcl
      go_wp2_with fail
      refine C1.mono ?_
      rintro e w1 ⟨a1, c1, rfl, hc1, hc1m, hn1, hr1, hbl1, hb1⟩
      have HR1 : Hid (Rd w1 a1 (sumF h (List.replicate k x))) := hr1
      have HB1 : Hid (Below w.heap.size w w1) := hbel.out.trans (hb1.mono hbel.out.size)
      have HC2 : Hid (Bl 5 w1 w.heap.size ((List.replicate k x).map B)) := HC1.out.below hb1 hgr
      clear C1 hr1 hb1 hbl1 hn1 HC1 hbel
      go_wp2_with fail
      have hp := pts1 w1 23 ⟨some ⟨w.heap.size, 0, none⟩, k, List.replicate k x⟩ ⟨bl_rd HC2.out, by simp, by simp; omega⟩
      have hb3 := alloc_below w1 (.cells #[prV ⟨some ⟨w.heap.size, 0, none⟩, k, List.replicate k x⟩] 23)
      have hsz := alloc_size w1 (.cells #[prV ⟨some ⟨w.heap.size, 0, none⟩, k, List.replicate k x⟩] 23)
      have C2 := ssum_any h (some ⟨w1.heap.size, 0, none⟩) 1 [⟨some ⟨w.heap.size, 0, none⟩, k, List.replicate k x⟩] _ ((HT.out.below HB1.out).below hb3) hp (by simp) (by rw [cat1, List.length_replicate]; omega)
      rw [cat1] at C2
      dsimp only [prV] at C2 hb3 hsz
      simp only [List.length_replicate] at C2 hb3 hsz
      refine C2.mono ?_
      rintro e w2 ⟨a2, rfl, ho2, hb2⟩
      have hw1 : w1.heap.size ≤ w2.heap.size := by have := hb2.size; rw [hsz] at this; omega
      have HB12 : Hid (Below w1.heap.size w1 w2) := hb3.trans (hb2.mono (by rw [hsz]; omega))
      have C3 := same_any a2 a1 (siz h) c1 (sumF h (List.replicate k x)) (sumF h (List.replicate k x)) w2 ho2.rd (HR1.out.below HB12.out (Nat.le_refl _)) (by rw [sumF_length]; omega)
      rw [sumF_length, decide_eq_true rfl] at C3
      have HB2 : Hid (Below w.heap.size w w2) := HB1.out.trans (HB12.out.mono HB1.out.size)
      have HC3 : Hid (Bl 5 w2 w.heap.size ((List.replicate k x).map B)) := HC2.out.below HB12.out HC2.out.lt
      have HR2 : Hid (Rd w2 a1 (sumF h (List.replicate k x))) := HR1.out.below HB12.out (Nat.le_refl _)
      clear hp hb3 hsz C2 hb2 HC2 HR1 HB1 HB12 ho2
      go_wp2_with fail
      refine C3.mono ?_
      rintro e w3 ⟨rfl, q, rfl⟩
      have HB3 : Hid (Below w.heap.size w (w2.drewN q)) := below_drewN HB2.out q
      have HC4 : Hid (Bl 5 (w2.drewN q) w.heap.size ((List.replicate k x).map B)) := HC3.out
      have HR3 : Hid (Rd (w2.drewN q) a1 (sumF h (List.replicate k x))) := HR2.out
      clear C3 HB2 HC3 HR2
      generalize w2.drewN q = w3 at *
      by_cases hh : isH h
      · have CN := new_any h w3 hh (HT.out.below HB3.out)
        go_wp2_with fail
        refine CN.mono ?_
        rintro e w4 ⟨rfl, hs4, hb4⟩
        have hg4 : w.heap.size < w3.heap.size := HC4.out.lt
        have HS4 : Hid (Sta w4 w3.heap.size h (List.replicate 0 x)) := hs4
        have HB4 : Hid (Below w.heap.size w w4) := HB3.out.trans (hb4.mono HB3.out.size)
        have HC5 : Hid (Bl 5 w4 w.heap.size ((List.replicate k x).map B)) := HC4.out.below hb4 hg4
        have HB34 : Hid (Below w3.heap.size w3 w4) := hb4
        clear CN hs4 hb4 HC4
        go_wp2
        go_loopw [11] (fun s ws => ∃ i : Nat, s = .int .i64 (i : Int) ∧ i ≤ k ∧ Hid (Sta ws w3.heap.size h (List.replicate i x)) ∧ Hid (Below w3.heap.size w3 ws) ∧ Hid (Bl 5 ws w.heap.size ((List.replicate k x).map B))) (fun s _ => k - (intOf s).toNat)
        case atStart => exact ⟨0, rfl, by omega, HS4, HB34, HC5⟩
        case round =>
          clear HS4 HB34 HC5
          obtain ⟨i, rfl, hi, hst, hbel, hcl⟩ := hrel
          have HBi : Hid (Below w.heap.size w wr) := HB3.out.trans (hbel.out.mono HB3.out.size)
          by_cases hlt : i < k
          · have hs : ∀ W, (Instr.sliceAt 23 (.slice (some ⟨w.heap.size, 0, none⟩) k k) (some (.int .i64 (i : Int))) (some (.int .i64 ((i : Int) + 1))) none).run Tryd.prog W = .ok (.slice (some ⟨w.heap.size, i, none⟩) 1 (k - i)) W := fun W => slice_mid w.heap.size k i (i + 1) 1 W _ _ rfl (by omega) rfl (by omega) (by omega)
            have C5 := write_any w3.heap.size h (List.replicate i x) [x] (some ⟨w.heap.size, i, none⟩) (k - i) wr hst.out hh (HT.out.below HBi.out) (by omega) (mem_rep hcl.out hlt) (fun a _ e => by cases e; show w.heap.size ≠ w3.heap.size; omega) (by simp; omega) (by rw [List.length_replicate]; omega) (by simp) (by omega)
            rw [show ([x] : List UInt8).length = 1 from rfl, ← List.replicate_succ'] at C5
            go_wp2_with fail
            refine C5.mono ?_
            rintro e w5 ⟨rfl, hs5, hb5⟩
            have HS5 : Hid (Sta w5 w3.heap.size h (List.replicate (i + 1) x)) := hs5
            have HB5 : Hid (Below w3.heap.size w3 w5) := hbel.out.trans (hb5.below hbel.out.size (Nat.le_refl _))
            have HC6 : Hid (Bl 5 w5 w.heap.size ((List.replicate k x).map B)) := hcl.out.but hb5 (by omega)
            clear C5 hs5 hb5 hst hbel hcl HBi hs
            go_wp2
            exact ⟨⟨i + 1, by go_num, by omega, HS5, HB5, HC6⟩, by simp [intOf]; omega⟩
          · obtain rfl : i = k := by omega
            have C6 := sum_any w3.heap.size h (List.replicate i x) wr hst.out hh (HT.out.below HBi.out) (by rw [List.length_replicate]; omega)
            have HR4 : Hid (Rd wr a1 (sumF h (List.replicate i x))) := HR3.out.below hbel.out (Nat.le_refl _)
            clear hst hcl hbel
            go_wp2_with fail
            refine C6.mono ?_
            rintro e w6 ⟨g6, rfl, hg6, hc6, hb6⟩
            have C7 := same_any (some ⟨g6, 0, none⟩) a1 (siz h) c1 (sumF h (List.replicate i x)) (sumF h (List.replicate i x)) w6 (bl_rd hc6) (HR4.out.below hb6 (Nat.le_refl _)) (by rw [sumF_length]; omega)
            rw [sumF_length, decide_eq_true rfl] at C7
            have HB6 : Hid (Below w.heap.size w w6) := HBi.out.trans (hb6.mono HBi.out.size)
            clear C6 hc6 hb6 HR4 HBi
            go_wp2_with fail
            refine C7.mono ?_
            rintro e w7 ⟨rfl, q, rfl⟩
            have HB7 : Hid (Below w.heap.size w (w6.drewN q)) := below_drewN HB6.out q
            clear C7 HB6
            go_wp2
            go_ret
            exact ⟨rfl, HB7.out⟩
      · have hz := (siz_not hh (List.replicate k x)).1
        rw [hz]
        have CN := new_none h w3 hh
        clear hz hsl
        go_wp2_with fail
        refine CN.mono ?_
        rintro e w4 ⟨rfl, hb4⟩
        have HB4 : Hid (Below w.heap.size w w4) := HB3.out.trans (hb4.mono HB3.out.size)
        clear CN hb4
        go_wp2
        go_ret
        exact ⟨rfl, HB4.out⟩

theorem fills_core' (h a1 n : Int) (h1 : 0 ≤ a1 ∧ a1 ≤ 255) (hn1 : -9223372036854775808 ≤ n) (hn2 : n ≤ 9223372036854775807) (w : World) (T : Tb w) (R : Rt w) :
    Calls Tryd.prog 5 #[.int .i64 h, .int .u8 a1, .int .i64 n] w fun e w' => e = .returned (.bool true) ∧ Below w.heap.size w w' := by
  have e : a1 = ((UInt8.ofNat a1.toNat).toNat : Int) := by rw [UInt8.toNat_ofNat']; omega
  rw [e]
  exact fills_core h _ n hn1 hn2 w T R

end Go.Proofs.YtoclnmjljilfdaaDoor
