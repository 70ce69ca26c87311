import Derived.Test.YthnogdkkdekgpaaDoorRA
namespace Go.Proofs.YthnogdkkdekgpaaDoor
open Go.RowKit

theorem Rm.off {w : World} {g : Nat} {l : List UInt8} (h : Rm w g l) : g < w.heap.size := Bl.lt h

set_option maxRecDepth 100000 in
set_option maxHeartbeats 8000000 in
theorem masks_core (h : Int) (a : Option Addr) (c : Nat) (seed : List UInt8) (n : Int) (W : World) (T : Sha.Tb W) (R : Sha.Rt W) (hr : Rd W a seed) (hn : a = none → c = 0) (hc : seed.length ≤ c) (hl : seed.length ≤ 2000000) :
    Calls Tryd.prog 6 #[.int .i64 h, .slice a seed.length c, .int .i64 n] W fun x w' => x = .returned (.bool true) ∧ Below W.heap.size W w' := by
  have HT : Hid (Sha.Tb W) := T
  have HR : Hid (Sha.Rt W) := R
  have HS : Hid (Rd W a seed) := hr
  have HN : Hid (a = none → seed.length = 0 ∧ c = 0) := fun e => by have := hn e; omega
  have C1 := proomy_any a c seed W hr (by omega)
  obtain ⟨e, He⟩ : ∃ e, Hid (mcode h n = e) := ⟨_, rfl⟩
  have HP : Hid (∀ (w : World) (g : Nat) (s' : List UInt8), Below W.heap.size W w → Rm w g s' → s'.length = seed.length → Calls Tryd.prog 12 #[.int .i64 h, .slice (some ⟨g, 0, none⟩) seed.length (seed.length + 9), .int .i64 n] w fun x w' => ∃ a' c', x = .returned (.tuple #[.slice a' (maskV h s' n).length c', .int .i64 e]) ∧ Rd w' a' (maskV h s' n) ∧ Below w.heap.size w w') := fun w g s' hb hR hs => by
    have := pmask_any h (some ⟨g, 0, none⟩) (seed.length + 9) s' n w (HT.out.below hb) hR.rd (by omega) (by omega) (by omega)
    rw [hs, He.out] at this
    refine this.mono ?_
    rintro x w' ⟨r, rfl, ho⟩
    obtain ⟨a', c', er, _, hr⟩ := ho.own.nb
    exact ⟨a', c', by rw [er], hr, ho.bel⟩
  have HD : Hid (∀ (w : World) (b : Option Addr) (d : Nat) (s' : List UInt8), Below W.heap.size W w → Rd w b s' → s'.length = seed.length → (b = none → seed.length = 0 ∧ d = 0) → Calls Tryd.prog 21 #[.int .i64 h, .slice b seed.length d, .int .i64 n] w fun x w' => ∃ a' c', x = .returned (.tuple #[.slice a' (maskV h s' n).length c', .int .i64 e]) ∧ Rd w' a' (maskV h s' n) ∧ Below w.heap.size w w') := fun w b d s' hb hR hs hn => by
    have := rMask_any h b d s' n w (RtB HR.out hb (Nat.le_refl _)) hR (by rw [hs]; exact hn) (by omega)
    rwa [hs, He.out] at this
  have HL : Hid (∀ s' : List UInt8, (maskV h s' n).length ≤ 65536) := fun s' => by
    unfold maskV
    split
    · rename_i h0
      unfold mcode at h0
      split at h0
      · cases h0
      · rename_i hb
        split at h0
        · cases h0
        · rw [maskF_length h s' _ (isHB_pos (by simpa using hb))]
          omega
    · simp
  clear T R hr hn
  go_enter Tryd.func6, Tryd.ntmps6
  go_wp2_with fail
  refine C1.mono ?_
  rintro x w1 ⟨rfl, hR1, hb1⟩
  clear C1
  obtain ⟨g, hg⟩ : ∃ g, W.heap.size = g := ⟨_, rfl⟩
  rw [hg] at hR1
  have Hg : Hid (W.heap.size = g) := hg
  have HR1 : Hid (Rm w1 g seed) := hR1
  have B1 : Hid (Below W.heap.size W w1) := hb1
  have C2 := HP.out w1 g seed hb1 hR1 rfl
  rw [hg]
  clear hR1 hb1 hg
  go_wp2_with fail
  refine C2.mono ?_
  rintro x w2 ⟨a2, c2, rfl, hr2, hb2⟩
  clear C2
  have B2 : Hid (Below W.heap.size W w2) := B1.out.trans (hb2.mono B1.out.size)
  have HR2 : Hid (Rm w2 g seed) := HR1.out.below hb2 (Nat.le_refl _)
  have Hr2 : Hid (Rd w2 a2 (maskV h seed n)) := hr2
  have C3 := HD.out w2 a c seed B2.out (HS.out.below B2.out (Nat.le_refl _)) rfl HN.out
  clear hr2 hb2 B1 HR1
  go_wp2_with fail
  refine C3.mono ?_
  rintro x w3 ⟨a3, c3, rfl, hr3, hb3⟩
  clear C3
  have B3 : Hid (Below W.heap.size W w3) := B2.out.trans (hb3.mono B2.out.size)
  have HR3 : Hid (Rm w3 g seed) := HR2.out.below hb3 (Nat.le_refl _)
  have C4 := psame_any a2 a3 c2 c3 _ _ w3 (Hr2.out.below hb3 (Nat.le_refl _)) hr3 (by have := HL.out seed; omega)
  rw [decide_eq_true rfl] at C4
  generalize (maskV h seed n).length = z1 at *
  clear hr3 hb3 B2 HR2 Hr2
  go_wp2_with fail
  refine C4.mono ?_
  rintro x w4 ⟨rfl, q4, hw4⟩
  clear C4
  have B4 : Hid (Below W.heap.size W w4) := by rw [hw4]; exact below_drewN B3.out q4
  have HR4 : Hid (Rm w4 g seed) := by rw [hw4]; exact HR3.out
  have C5 := pspared_any g c seed.length a seed w4 rfl HR4.out (HS.out.below B4.out (Nat.le_refl _)) (by omega)
  clear hw4 B3 HR3
  go_wp2_with fail
  refine C5.mono ?_
  rintro x w5 ⟨rfl, q5, hw5⟩
  clear C5
  have B5 : Hid (Below W.heap.size W w5) := by rw [hw5]; exact below_drewN B4.out q5
  have HR5 : Hid (Rm w5 g (trL seed 0)) := by rw [hw5, trL_zero]; exact HR4.out
  clear hw5 B4 HR4
  have d0 : (e == e) = true := by simp
  go_wp2
  go_loopw [12] (fun s wr => ∃ k : Nat, s = .int .i64 (k : Int) ∧ k ≤ seed.length ∧ Hid (Rm wr g (trL seed k)) ∧ Hid (Below W.heap.size W wr)) (fun s _ => seed.length - (intOf s).toNat)
  case atStart => exact ⟨0, rfl, by omega, HR5, B5⟩
  case round =>
    clear HR5 B5
    obtain ⟨k, rfl, hk, HRk, HW⟩ := hrel
    by_cases hlt : k < seed.length
    · have gf := Bl.frozen HRk.out k
      have gc := HRk.out.cell k (by rw [trL_length]; omega)
      rw [List.getElem_append_left (by rw [trL_length]; exact hlt), trL_get seed k hlt] at gc
      have HR2 : Hid (Rm (wr.setCell ⟨g, k, none⟩ (B (trn seed[k]))) g (trL seed (k + 1))) := HRk.out.step hlt
      have HW2 : Hid (Below W.heap.size W (wr.setCell ⟨g, k, none⟩ (B (trn seed[k])))) := HW.out.setCell (by rw [Hg.out]; exact Nat.le_refl _) _
      unfold B at gc HR2 HW2
      rw [trn_nat] at HR2 HW2
      have hx := seed[k].toNat_lt
      generalize seed[k] = x at *
      have hki : (k : Int) < (seed.length : Int) := by omega
      clear HRk HW
      go_wp2
      exact ⟨⟨k + 1, by go_num, by omega, HR2, HW2⟩, by simp [intOf]; omega⟩
    · obtain rfl : k = seed.length := by omega
      have HR6 : Hid (Rm wr g (seed.map trn)) := by have := HRk.out; rw [trL_full] at this; exact this
      have hlm : (seed.map trn).length = seed.length := by simp
      have C6 := HD.out wr (some ⟨g, 0, none⟩) (seed.length + 9) (seed.map trn) HW.out HR6.out.rd hlm (fun e => by cases e)
      generalize seed.map trn = s2 at *
      clear HRk hlt hk
      go_wp2_with fail
      refine C6.mono ?_
      rintro x w6 ⟨a6, c6, rfl, hr6, hb6⟩
      clear C6
      have B6 : Hid (Below W.heap.size W w6) := HW.out.trans (hb6.mono HW.out.size)
      have HR7 : Hid (Rm w6 g s2) := HR6.out.below hb6 (Nat.le_refl _)
      have Hr6 : Hid (Rd w6 a6 (maskV h s2 n)) := hr6
      have C7 := HP.out w6 g s2 B6.out HR7.out hlm
      clear hr6 hb6 HR6
      go_wp2_with fail
      refine C7.mono ?_
      rintro x w7 ⟨a7, c7, rfl, hr7, hb7⟩
      clear C7
      have B7 : Hid (Below W.heap.size W w7) := B6.out.trans (hb7.mono B6.out.size)
      have C8 := psame_any a7 a6 c7 c6 _ _ w7 hr7 (Hr6.out.below hb7 (Nat.le_refl _)) (by have := HL.out s2; omega)
      rw [decide_eq_true rfl] at C8
      generalize (maskV h s2 n).length = z2 at *
      clear hr7 hb7 Hr6 B6
      go_wp2_with fail
      refine C8.mono ?_
      rintro x w8 ⟨rfl, q8, hw8⟩
      clear C8
      have B8 : Hid (Below W.heap.size W w8) := by rw [hw8]; exact below_drewN B7.out q8
      clear hw8
      go_wp2
      go_ret
      exact ⟨rfl, B8.out⟩

end Go.Proofs.YthnogdkkdekgpaaDoor
