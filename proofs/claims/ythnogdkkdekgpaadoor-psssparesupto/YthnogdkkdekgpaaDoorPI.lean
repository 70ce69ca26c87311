import Derived.Test.YthnogdkkdekgpaaDoorPH
import Derived.Test.YthnogdkkdekgpaaDoorShZ8
import Derived.Lib.SlBytesConst
namespace Go.Proofs.YthnogdkkdekgpaaDoor
open Go.RowKit

set_option maxRecDepth 100000 in
theorem mask_foo : maskF 1 [102, 111, 111] 3 = [59, 218, 186] := by decide +kernel

theorem salt_set (h : Int) (em : List UInt8) (k : Nat) (y : UInt8) (hk : k < em.length - 1 - 2 * Sha.siz h) : saltF h (em.set k y) = saltF h em := by
  unfold saltF
  rw [List.length_set, List.drop_set_of_lt (by omega), List.drop_set_of_lt (by omega)]
/-- A byte ahead of the salt that is another one: no encoding. -/
theorem holds_bad (h : Int) (d s : List UInt8) (bits : Int) (k : Nat) (y : UInt8) (hp : pcode h d.length s.length bits = 0) (hsl : s.length = Sha.siz h) (hk : k < wid bits.toNat - 1 - 2 * Sha.siz h) (hy : (encF h d s bits.toNat).getD k 0 ≠ y) :
    holdsV h d ((encF h d s bits.toNat).set k y) bits = false := by
  obtain ⟨h1, h2, h3, h4, h5⟩ := pcode_ok hp
  have hs := isHB_pos h1
  have hl := encF_length h d s bits.toNat hs h5
  unfold holdsV
  rw [decide_eq_false]
  rintro ⟨_, _, he⟩
  rw [salt_set h _ k y (by rw [hl]; exact hk), salt_enc h d s _ hs hsl h5] at he
  apply hy
  have hk2 : k < (encF h d s bits.toNat).length := by rw [hl]; omega
  conv => lhs; rw [he]
  rw [List.getD_eq_getElem?_getD, List.getElem?_set_self hk2, Option.getD_some]

theorem Owb.blP {w : World} {base : Nat} {v : Value} {l : List UInt8} (h : Owb w base v l) (hl : 0 < l.length) : ∃ g cap r, v = .slice (some ⟨g, 0, none⟩) l.length cap ∧ base ≤ g ∧ Bl 5 w g (l.map B ++ r) ∧ l.length + r.length = cap ∧ cap ≤ maxLen := by
  rcases h.2 with ⟨_, h0⟩ | ⟨g, cap, cur, e, hg, hh, hn, hc, hsz, ht⟩
  · omega
  · refine ⟨g, cap, cur.toList.drop (l.length * 1), e, hg, ?_, ?_, hc⟩
    · unfold Bl
      rw [hh, ← ht, List.take_append_drop]
    · have e4 : cur.toList.length = cap := by rw [Array.length_toList, hsz, Nat.mul_one]
      rw [List.length_drop, e4]
      omega
theorem Bl.rdP {w : World} {g : Nat} {l : List UInt8} {r : List Value} (h : Bl 5 w g (l.map B ++ r)) : Rd w (some ⟨g, 0, none⟩) l := by
  refine .inr ⟨g, 0, rfl, h.lt, fun j hj => ?_⟩
  rw [Nat.zero_add, h.cell j (by rw [List.length_append, List.length_map]; omega), List.getElem_append_left (by rw [List.length_map]; exact hj), List.getElem_map, List.getD_eq_getElem?_getD, List.getElem?_eq_getElem hj]
  rfl
theorem lit_rd (w : World) (x y z : UInt8) : Rd (w.alloc (.cells #[.int .u8 (x.toNat : Int), .int .u8 (y.toNat : Int), .int .u8 (z.toNat : Int)] 5 (3, 4))) (some ⟨w.heap.size, 0, none⟩) [x, y, z] := by
  have a1 := Sha.alloc_last w (.cells #[.int .u8 (x.toNat : Int), .int .u8 (y.toNat : Int), .int .u8 (z.toNat : Int)] 5 (3, 4))
  generalize w.alloc (.cells #[.int .u8 (x.toNat : Int), .int .u8 (y.toNat : Int), .int .u8 (z.toNat : Int)] 5 (3, 4)) = W at *
  refine .inr ⟨w.heap.size, 0, rfl, (Array.getElem?_eq_some_iff.1 a1).1, fun j hj => ?_⟩
  have hj2 : j = 0 ∨ j = 1 ∨ j = 2 := by have : j < 3 := by simpa using hj
                                         omega
  unfold World.cell?
  rcases hj2 with rfl | rfl | rfl <;> simp [a1, B]

set_option maxRecDepth 100000 in
set_option maxHeartbeats 2000000 in
theorem awake10 (w : World) (T : Sha.Tb w) : Calls Tryd.prog 11 #[] w fun e w' => e = .returned (.bool true) ∧ Below w.heap.size w w' := by
  have HT : Hid (Sha.Tb w) := T
  have kc := fun (w : World) (C : Array Value) (n c : Nat) => Lib.run_convert_bytes_const (P := Tryd.prog) w 23 5 C n c Tryd.underlying23 Tryd.underlying5
  clear T
  go_enter Tryd.func11, Tryd.ntmps11
  go_wp2_with fail
  obtain ⟨x1, hx1⟩ : ∃ W, W = (w.alloc (.cells #[.int .u8 97, .int .u8 98, .int .u8 99] 5 (3, 4))).alloc (.cells #[.slice (some ⟨w.heap.size, 0, none⟩) 3 3] 23) := ⟨_, rfl⟩
  obtain ⟨hb1, hp1⟩ := Sha.abc_pts w 5 23 x1 hx1
  rw [← hx1]
  have C1 := Sha.ssum_any 1 (some ⟨w.heap.size + 1, 0, none⟩) 1 _ x1 (HT.out.below hb1) hp1 (by simp) (by simp [Sha.cat])
  refine C1.mono ?_
  rintro e w1 ⟨a1, rfl, ho1, hq1⟩
  generalize Sha.cat [⟨some ⟨w.heap.size, 0, none⟩, 3, [97, 98, 99]⟩] = abc at *
  have hz1 : Sha.siz 1 = 32 := rfl
  have hDl := Sha.sumF_length 1 abc
  generalize Sha.sumF 1 abc = D at *
  rw [hz1] at hDl ⊢
  obtain ⟨g1, rfl, hg1, hbl1⟩ := Sha.own_bl ho1 (by rw [hDl]; omega)
  have HB1 : Hid (Below w.heap.size w w1) := hb1.trans (hq1.mono hb1.size)
  have HD1 : Hid (Rd w1 (some ⟨g1, 0, none⟩) D) := Sha.Own.rd ho1
  have hpc : pcode 1 D.length D.length 600 = 0 := by rw [hDl]; decide
  have CE := pencode_any 1 (some ⟨g1, 0, none⟩) (some ⟨g1, 0, none⟩) 32 32 D D 600 w1 (HT.out.below HB1.out) HD1.out HD1.out (by omega) (by omega) (by omega) (by omega) (by omega) (by omega)
  have hev : pencV 1 D D 600 = encF 1 D D 600 := by unfold pencV; rw [hpc, if_pos rfl]; rfl
  rw [hpc, hev, hDl] at CE
  have HDl : Hid (D.length = 32) := hDl
  have HPC : Hid (pcode 1 D.length D.length 600 = 0) := hpc
  clear C1 ho1 hp1 hb1 hq1 hx1 hpc hev hDl hbl1
  go_wp2_with fail
  refine CE.mono ?_
  rintro e w2 ⟨rE, rfl, hE2⟩
  clear CE
  have heml : (encF 1 D D 600).length = 75 := encF_length 1 D D 600 (by decide) (by rw [HDl.out]; decide)
  obtain ⟨gE, cE, tE, erE, hgE, hblE, hcE, hcE2⟩ := hE2.own.blP (by rw [heml]; omega)
  have HB2 : Hid (Below w.heap.size w w2) := HB1.out.trans (hE2.bel.mono HB1.out.size)
  have HD2 : Hid (Rd w2 (some ⟨g1, 0, none⟩) D) := HD1.out.below hE2.bel (Nat.le_refl _)
  have hD1lt : g1 < w1.heap.size := by
    obtain ⟨g', o', e', hg', _⟩ := HD1.out.resolve_left (fun e => by have := HDl.out; rw [e] at this; simp at this)
    cases e'; exact hg'
  have hne1 : g1 ≠ gE := by omega
  have hgE0 : w.heap.size ≤ gE := Nat.le_trans HB1.out.size hgE
  rw [heml] at erE hcE
  subst erE
  have HblE : Hid (Bl 5 w2 gE ((encF 1 D D 600).map B ++ tE)) := hblE
  unfold maxLen at hcE2
  have hcE3 : 75 ≤ cE := by omega
  have Heml : Hid ((encF 1 D D 600).length = 75) := heml
  clear hE2 hblE HB1 HD1 heml hcE
  have b3 := alloc_below w2 (.cells #[.int .u8 102, .int .u8 111, .int .u8 111] 5 (3, 4))
  have CM := pmask_any 1 (some ⟨w2.heap.size, 0, none⟩) 3 [102, 111, 111] 3 (w2.alloc (.cells #[.int .u8 102, .int .u8 111, .int .u8 111] 5 (3, 4))) ((HT.out.below HB2.out).below b3) (lit_rd w2 102 111 111) (by simp) (by omega) (by simp)
  have hmc : mcode 1 3 = 0 := by decide
  have hmv : maskV 1 [102, 111, 111] 3 = [59, 218, 186] := by unfold maskV; rw [hmc, if_pos rfl]; exact mask_foo
  rw [hmc, hmv] at CM
  clear hmc hmv
  go_wp2_with fail
  refine CM.mono ?_
  rintro e w4 ⟨rM, rfl, hM4⟩
  clear CM kc
  obtain ⟨gm, cm, erm, hgm, hcm1, hcm2, hRm⟩ := hM4.sliceP (by simp)
  subst erm
  have b24 : Below w2.heap.size w2 w4 := b3.trans (hM4.bel.mono b3.size)
  have HB4 : Hid (Below w.heap.size w w4) := HB2.out.trans (b24.mono HB2.out.size)
  have HE4 : Hid (Bl 5 w4 gE ((encF 1 D D 600).map B ++ tE)) := HblE.out.below b24 HblE.out.lt
  have HD4 : Hid (Rd w4 (some ⟨g1, 0, none⟩) D) := HD2.out.below b24 (Nat.le_refl _)
  obtain ⟨gm', om', e', _, hcell⟩ := hRm.resolve_left (fun e => by cases e)
  cases e'
  have m0 : w4.cell? ⟨gm, 0, none⟩ = some (.int .u8 59) := hcell 0 (by simp)
  have m1 : w4.cell? ⟨gm, 1, none⟩ = some (.int .u8 218) := hcell 1 (by simp)
  have m2 : w4.cell? ⟨gm, 2, none⟩ = some (.int .u8 186) := hcell 2 (by simp)
  have c74 : w4.cell? ⟨gE, 74, none⟩ = some (.int .u8 188) := by
    obtain ⟨g'', o'', e'', _, hc⟩ := (HE4.out.rdP).resolve_left (fun e => by have := Heml.out; rw [e] at this; simp at this)
    cases e''
    have h1 := hc 74 (by rw [Heml.out]; omega)
    have h2 := encF_tail 1 D D 600 (by decide) (by rw [HDl.out]; decide)
    have h3 : (encF 1 D D 600).getD 74 0 = 188 := by
      have h4 := congrArg (fun l => l.getD 32 0) h2
      simp only [List.getD_eq_getElem?_getD, List.getElem?_drop] at h4
      rw [List.getD_eq_getElem?_getD]
      rw [show wid 600 - Sha.siz 1 - 1 + 32 = 74 by decide] at h4
      rw [h4, List.getElem?_append_right (by rw [secF_length]; exact Nat.le_refl _), secF_length]
      rfl
    rw [h3, Nat.zero_add] at h1
    exact h1
  have CH := pholds_any 1 (some ⟨g1, 0, none⟩) (some ⟨gE, 0, none⟩) 32 cE D (encF 1 D D 600) 600 w4 (HT.out.below HB4.out) HD4.out HE4.out.rdP (by rw [HDl.out]; omega) (by omega) (by rw [Heml.out]; omega) (by omega) (by rw [HDl.out]; omega) (by rw [Heml.out]; omega)
  have hh1 : holdsV 1 D (encF 1 D D 600) 600 = true := holds_enc 1 D D 600 HPC.out HDl.out
  rw [hh1, HDl.out, Heml.out] at CH
  clear hh1 hcell b24 b3 hM4 hRm HblE HD2 HB2
  go_wp2_with fail
  refine CH.mono ?_
  rintro e w5 ⟨rfl, hb5⟩
  clear CH m0 m1 m2 c74
  have HB5 : Below w.heap.size w w5 := HB4.out.trans (hb5.mono HB4.out.size)
  have hE5 := HE4.out.below hb5 HE4.out.lt
  have hD5 := HD4.out.below hb5 (Nat.le_refl _)
  have f3 := hE5.frozen 3
  have c3 := hE5.cell 3 (by rw [List.length_append, List.length_map, Heml.out]; omega)
  have h3l : 3 < (encF 1 D D 600).length := by rw [Heml.out]; omega
  rw [List.getElem_append_left (by rw [List.length_map]; exact h3l), List.getElem_map] at c3
  obtain ⟨x, hx⟩ : ∃ x, (encF 1 D D 600)[3] = x := ⟨_, rfl⟩
  rw [hx] at c3
  unfold B at c3
  obtain ⟨y, hy⟩ : ∃ y : UInt8, y = x + 1 := ⟨_, rfl⟩
  have hw : IntKind.u8.wrap ((x.toNat : Int) + 1) = (y.toNat : Int) := by
    rw [hy, IntKind.wrap_u8, UInt8.toNat_add]
    show _ = (((x.toNat + 1) % 256 : Nat) : Int)
    omega
  have hxy : (encF 1 D D 600).getD 3 0 ≠ y := by
    rw [List.getD_eq_getElem?_getD, List.getElem?_eq_getElem h3l, Option.getD_some, hx, hy]
    intro e
    have := congrArg UInt8.toNat e
    rw [UInt8.toNat_add] at this
    have h2 := x.toNat_lt
    have h3 : (1 : UInt8).toNat = 1 := rfl
    rw [h3] at this
    omega
  have hE6 := hE5.set 3 (B y)
  rw [List.set_append_left _ _ (by rw [List.length_map]; exact h3l), ← List.map_set] at hE6
  have hbut : But w5 (w5.setCell ⟨gE, 3, none⟩ (B y)) gE := (But.refl _ _).set _ _
  have HB6 : Below w.heap.size w (w5.setCell ⟨gE, 3, none⟩ (B y)) := HB5.trans (hbut.below HB5.size hgE0)
  have hD6 : Rd (w5.setCell ⟨gE, 3, none⟩ (B y)) (some ⟨g1, 0, none⟩) D := Sha.Rd.but hD5 ⟨hbut.os, hbut.tape, hbut.output, hbut.size, hbut.block⟩ (fun a _ e => by cases e; exact hne1)
  have CH2 := pholds_any 1 (some ⟨g1, 0, none⟩) (some ⟨gE, 0, none⟩) 32 cE D ((encF 1 D D 600).set 3 y) 600 (w5.setCell ⟨gE, 3, none⟩ (B y)) (HT.out.below HB6) hD6 hE6.rdP (by rw [HDl.out]; omega) (by omega) (by rw [List.length_set, Heml.out]; omega) (by omega) (by rw [HDl.out]; omega) (by rw [List.length_set, Heml.out]; omega)
  have hh2 : holdsV 1 D ((encF 1 D D 600).set 3 y) 600 = false := holds_bad 1 D D 600 3 y HPC.out HDl.out (by decide) hxy
  rw [hh2, HDl.out, List.length_set, Heml.out] at CH2
  have HB6' : Hid (Below w.heap.size w (w5.setCell ⟨gE, 3, none⟩ (.int .u8 (y.toNat : Int)))) := HB6
  unfold B at CH2
  clear hh2 hE5 hD5 hE6 hbut HB6 hD6 hxy hy hx h3l HB5 hb5 HE4 HD4 HB4
  go_wp2_with fail
  refine CH2.mono ?_
  rintro e w7 ⟨rfl, hb7⟩
  clear CH2
  have HB7 : Hid (Below w.heap.size w w7) := HB6'.out.trans (hb7.mono HB6'.out.size)
  clear hb7 hw
  go_wp2
  go_ret
  exact ⟨rfl, HB7.out⟩

end Go.Proofs.YthnogdkkdekgpaaDoor
