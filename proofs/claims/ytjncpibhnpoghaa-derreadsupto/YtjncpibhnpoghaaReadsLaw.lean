import Derived.Test.YtjncpibhnpoghaaSp
import Derived.Test.YtjncpibhnpoghaaRf8
namespace Go.Proofs.Ytjncpibhnpoghaa
open Go.RowKit

theorem Lst.fr {base : Nat} {w w' : World} {lv : Value} {xs ys : List X} (h : Lst base w lv ys) (hf : Fr xs w w') (hx : ∀ x ∈ xs, ∀ g, (xD x).ownBlock = some g → g < base) : Lst base w' lv ys := by
  have keep : ∀ {e : TypeId} {size n : Nat} {v : Value} {l : List Value}, w.ownsRow base e size v n l → w'.ownsRow base e size v n l := fun {e size n v l} ho =>
    own_keep ho fun g hg => hf.block g (ho.lt g hg).2 (fun x hxx e => by have := hx x hxx g e; have := (ho.lt g hg).1; omega)
  exact ⟨keep h.own, fun y hy => keep (h.dat y hy), h.sep, h.num⟩
theorem Fr.below {xs : List X} {w w' : World} {n : Nat} (hf : Fr xs w w') (hn : n ≤ w.heap.size) (hx : ∀ x ∈ xs, ∀ g, (xD x).ownBlock = some g → n ≤ g) : Below n w w' :=
  ⟨hf.os, hf.tape, hf.output, hf.size, fun k hk => hf.block k (by omega) (fun x hxx e => by have := hx x hxx k e; omega)⟩
theorem own_rd0 {w : World} {base g c n : Nat} {l : List UInt8} {k : Nat} (h : w.ownsRow base 5 1 (.slice (some ⟨g, 0, none⟩) n c) n (l.map B)) : Rd w (some ⟨g, 0, none⟩) (l.take k) := by
  have hl : n = l.length := by have := h.1; simp at this; omega
  subst hl
  exact (own_rd h).1.take k
theorem xor_one (x : UInt8) : ∃ y : UInt8, bits .xor .u8 (x.toNat : Int) 1 = (y.toNat : Int) := ⟨x ^^^ 1, by
  have h := u8_xor_nat x.toNat 1 x.toNat_lt (by decide)
  rw [UInt8.toNat_xor]
  exact h⟩

set_option maxRecDepth 100000 in
set_option maxHeartbeats 16000000 in
theorem reads_core (a1 : Option Addr) (c1 : Nat) (l : List UInt8) (W : World) (r1 : Rd W a1 l) (k1 : l.length ≤ c1) (k1' : c1 ≤ 9223372036854775807) (l1 : l.length ≤ 1900000) :
    Calls Try.prog 3 #[.slice a1 l.length c1] W fun x w' => x = .returned (.bool true) ∧ Below W.heap.size W w' := by
  have H1 : Hid (Rd W a1 l) := r1
  have C1 := marked_any a1 c1 l W r1 (by omega)
  obtain ⟨n, hn⟩ : ∃ n, l.length = n := ⟨_, rfl⟩
  have Hn : Hid (l.length = n) := hn
  have hml : (l ++ mks 90).length = n + 90 := by rw [List.length_append, mks_length, hn]
  have Hml : Hid ((l ++ mks 90).length = n + 90) := hml
  obtain ⟨P, HP⟩ : ∃ P, Hid (parse l = P) := ⟨_, rfl⟩
  rw [hn] at C1 k1 l1 ⊢
  clear r1 hn hml
  go_enter Try.func3, Try.ntmps3
  go_wp2_with fail
  refine C1.mono ?_
  rintro x w1 ⟨vf, rfl, hob⟩
  clear C1
  have ho := hob.own
  rw [Hml.out] at ho
  obtain ⟨gf, cf, ef, hcf1, hcf2⟩ := own_some ho (by omega)
  subst ef
  have hgf : W.heap.size ≤ gf ∧ gf < w1.heap.size := ho.lt gf rfl
  have HF1 : Hid (w1.ownsRow W.heap.size 5 1 (.slice (some ⟨gf, 0, none⟩) (n + 90) cf) (n + 90) ((l ++ mks 90).map B)) := ho
  have B1 : Hid (Below W.heap.size W w1) := hob.bel
  have HRd : Hid (∀ (w : World) (l' : List UInt8), w.ownsRow W.heap.size 5 1 (.slice (some ⟨gf, 0, none⟩) (n + 90) cf) (n + 90) ((l' ++ mks 90).map B) → l'.length = n → Rd w (some ⟨gf, 0, none⟩) l' ∧ Rd w (some ⟨gf, 0, none⟩) (l' ++ mks 90)) := fun w l' h hl => by
    have h1 := own_rd0 (k := n) h
    have h2 := own_rd0 (k := n + 90) h
    rw [List.take_left' hl] at h1
    rw [List.take_of_length_le (by rw [List.length_append, mks_length]; omega)] at h2
    exact ⟨h1, h2⟩
  have hcf3 : cf ≤ 9223372036854775807 := hcf2
  have hcfn : n ≤ cf := by omega
  have C2 := parse_any (some ⟨gf, 0, none⟩) cf l w1 (HRd.out w1 l HF1.out Hn.out).1 (by rw [Hn.out]; omega) hcf3 (fun e => by cases e)
  rw [Hn.out, HP.out] at C2
  clear ho hob hcf2
  go_wp2_with fail
  refine C2.mono ?_
  rintro x w2 ⟨lv1, xs1, ⟨rfl, hb2⟩, hL2, he2⟩
  clear C2
  have B2 : Hid (Below W.heap.size W w2) := B1.out.trans (hb2.mono B1.out.size)
  have HF2 : Hid (w2.ownsRow W.heap.size 5 1 (.slice (some ⟨gf, 0, none⟩) (n + 90) cf) (n + 90) ((l ++ mks 90).map B)) := own_below HF1.out hb2 (Nat.le_refl _)
  have HX1 : Hid (Lst w1.heap.size w2 lv1 xs1) := hL2
  have HE1 : Hid (es xs1 = P.1) := he2
  have hw12 : w1.heap.size ≤ w2.heap.size := hb2.size
  have C3 := parse_any (some ⟨gf, 0, none⟩) cf l w2 (HRd.out w2 l HF2.out Hn.out).1 (by rw [Hn.out]; omega) hcf3 (fun e => by cases e)
  rw [Hn.out, HP.out] at C3
  clear hb2 hL2 he2 HF1 B1
  go_wp2_with fail
  refine C3.mono ?_
  rintro x w3 ⟨lv2, xs2, ⟨rfl, hb3⟩, hL3, he3⟩
  clear C3
  have B3 : Hid (Below W.heap.size W w3) := B2.out.trans (hb3.mono B2.out.size)
  have HF3 : Hid (w3.ownsRow W.heap.size 5 1 (.slice (some ⟨gf, 0, none⟩) (n + 90) cf) (n + 90) ((l ++ mks 90).map B)) := own_below HF2.out hb3 (Nat.le_refl _)
  have HX1b : Hid (Lst w1.heap.size w3 lv1 xs1) := HX1.out.below hb3 (Nat.le_refl _)
  have HX2 : Hid (Lst w2.heap.size w3 lv2 xs2) := hL3
  have HE2 : Hid (es xs2 = P.1) := he3
  have Hin : Hid (∀ x ∈ xs1, ∀ g, (xD x).ownBlock = some g → w1.heap.size ≤ g ∧ g < w2.heap.size) := fun x hx g hg => (HX1.out.dat x hx).lt g hg
  have hw23 : w2.heap.size ≤ w3.heap.size := hb3.size
  have C4 := rparse_any a1 c1 l w3 (H1.out.below B3.out (Nat.le_refl _)) (by rw [Hn.out]; omega) k1'
  rw [Hn.out, HP.out] at C4
  clear hb3 hL3 he3 HF2 B2 HX1
  go_wp2_with fail
  refine C4.mono ?_
  rintro x w4 ⟨lv3, xs3, ⟨rfl, hb4⟩, hL4, he4⟩
  clear C4
  have HS4 : Hid (w2.heap.size ≤ w4.heap.size) := Nat.le_trans hw23 hb4.size
  have B4 : Hid (Below W.heap.size W w4) := B3.out.trans (hb4.mono B3.out.size)
  have HF4 : Hid (w4.ownsRow W.heap.size 5 1 (.slice (some ⟨gf, 0, none⟩) (n + 90) cf) (n + 90) ((l ++ mks 90).map B)) := own_below HF3.out hb4 (Nat.le_refl _)
  have HX1c : Hid (Lst w1.heap.size w4 lv1 xs1) := HX1b.out.below hb4 (Nat.le_refl _)
  have HX2c : Hid (Lst w2.heap.size w4 lv2 xs2) := HX2.out.below hb4 (Nat.le_refl _)
  have HX3c : Hid (Lst w2.heap.size w4 lv3 xs3) := ⟨own_base hL4.own hw23, fun x hx => own_base (hL4.dat x hx) hw23, hL4.sep, hL4.num⟩
  have HE3 : Hid (es xs3 = P.1) := he4
  clear hb4 hL4 he4 HF3 B3 HX1b HX2 hw23
  obtain ⟨b1, d1, e1, hr1, _⟩ := HX1c.out.row
  obtain ⟨b2, d2, e2, hr2, _⟩ := HX2c.out.row
  obtain ⟨b3, d3, e3, hr3, _⟩ := HX3c.out.row
  have bd1 := lst_bound (HE1.out.trans (by rw [← HP.out]))
  have bd2 := lst_bound (HE2.out.trans (by rw [← HP.out]))
  have C5 := same_any b1 b3 d1 d3 xs1 xs3 w4 hr1 hr3 (by omega)
  rw [HE1.out, HE3.out, decide_eq_true rfl, ← e1, ← e3] at C5
  have Hbd : Hid (xs1.length ≤ 65536 ∧ (∀ x ∈ xs1, x.e.data.length ≤ 65536) ∧ xs2.length ≤ 65536) := ⟨bd1.1, bd1.2, bd2.1⟩
  clear e1 e2 e3 hr1 hr2 hr3 bd1 bd2
  have dc : (P.2.1 != P.2.1) = false := by simp
  have dp : ((P.2.2 : Int) != (P.2.2 : Int)) = false := by simp
  generalize P.2.1 = pc at *
  generalize P.2.2 = pp at *
  go_wp2_with fail
  refine C5.mono ?_
  rintro x w5 ⟨rfl, hb5⟩
  clear C5
  have HS5 : Hid (w2.heap.size ≤ w5.heap.size) := Nat.le_trans HS4.out hb5.size
  have B5 : Hid (Below W.heap.size W w5) := B4.out.trans (hb5.mono B4.out.size)
  have HF5 : Hid (w5.ownsRow W.heap.size 5 1 (.slice (some ⟨gf, 0, none⟩) (n + 90) cf) (n + 90) ((l ++ mks 90).map B)) := own_below HF4.out hb5 (Nat.le_refl _)
  have HX1d : Hid (Lst w1.heap.size w5 lv1 xs1) := HX1c.out.below hb5 (Nat.le_refl _)
  have HX2d : Hid (Lst w2.heap.size w5 lv2 xs2) := HX2c.out.below hb5 (Nat.le_refl _)
  have HX3d : Hid (Lst w2.heap.size w5 lv3 xs3) := HX3c.out.below hb5 (Nat.le_refl _)
  clear hb5 HF4 B4 HX1c HX2c HX3c
  have C6 := whole_any gf 0 cf a1 c1 l w5 (HRd.out w5 l HF5.out Hn.out).2 (H1.out.below B5.out (Nat.le_refl _)) (by rw [Hn.out]; omega) (by rw [Hn.out]; omega) hcf3
  rw [Hn.out] at C6
  go_wp2_with fail
  refine C6.mono ?_
  rintro x w6 ⟨rfl, q6, hw6⟩
  clear C6
  have HS6 : Hid (w2.heap.size ≤ w6.heap.size) := by rw [hw6]; exact HS5.out
  have B6 : Hid (Below W.heap.size W w6) := by rw [hw6]; exact below_drewN B5.out q6
  have HF6 : Hid (w6.ownsRow W.heap.size 5 1 (.slice (some ⟨gf, 0, none⟩) (n + 90) cf) (n + 90) ((l ++ mks 90).map B)) := by rw [hw6]; exact HF5.out
  have HX1e : Hid (Lst w1.heap.size w6 lv1 xs1) := by rw [hw6]; exact HX1d.out.drewN q6
  have HX2e : Hid (Lst w2.heap.size w6 lv2 xs2) := by rw [hw6]; exact HX2d.out.drewN q6
  have HX3e : Hid (Lst w2.heap.size w6 lv3 xs3) := by rw [hw6]; exact HX3d.out.drewN q6
  clear hw6 HF5 B5 HX1d HX2d HX3d
  have C7 := spoil_any w1.heap.size w6 lv1 xs1 HX1e.out Hbd.out.1 Hbd.out.2.1
  go_wp2_with fail
  refine C7.mono ?_
  rintro x w7 ⟨rfl, hfr⟩
  clear C7
  have hb7 : Below w1.heap.size w6 w7 := hfr.below (by have := HS6.out; omega) (fun x hx g hg => (Hin.out x hx g hg).1)
  have HF7 : Hid (w7.ownsRow W.heap.size 5 1 (.slice (some ⟨gf, 0, none⟩) (n + 90) cf) (n + 90) ((l ++ mks 90).map B)) := by
    refine own_keep HF6.out fun g hg => hb7.block g ?_
    have hg2 : gf = g := by simpa [Value.ownBlock] using hg
    omega
  have B7 : Hid (Below W.heap.size W w7) := B6.out.trans (hb7.mono (by omega))
  have HX2f : Hid (Lst w2.heap.size w7 lv2 xs2) := HX2e.out.fr hfr (fun x hx g hg => (Hin.out x hx g hg).2)
  have HX3f : Hid (Lst w2.heap.size w7 lv3 xs3) := HX3e.out.fr hfr (fun x hx g hg => (Hin.out x hx g hg).2)
  clear hfr hb7 HF6 B6 HX1e HX2e HX3e HS4 HS5 HS6
  obtain ⟨b2, d2, e2, hr2, _⟩ := HX2f.out.row
  obtain ⟨b3, d3, e3, hr3, _⟩ := HX3f.out.row
  have C8 := same_any b2 b3 d2 d3 xs2 xs3 w7 hr2 hr3 (by have := Hbd.out.2.2; omega)
  rw [HE2.out, HE3.out, decide_eq_true rfl, ← e2, ← e3] at C8
  clear e2 e3 hr2 hr3
  go_wp2_with fail
  refine C8.mono ?_
  rintro x w8 ⟨rfl, hb8⟩
  clear C8
  have B8 : Hid (Below W.heap.size W w8) := B7.out.trans (hb8.mono B7.out.size)
  have HF8 : Hid (w8.ownsRow W.heap.size 5 1 (.slice (some ⟨gf, 0, none⟩) (n + 90) cf) (n + 90) ((l ++ mks 90).map B)) := own_below HF7.out hb8 (Nat.le_refl _)
  clear hb8 HF7 B7 HX2f HX3f
  have C9 := whole_any gf 0 cf a1 c1 l w8 (HRd.out w8 l HF8.out Hn.out).2 (H1.out.below B8.out (Nat.le_refl _)) (by rw [Hn.out]; omega) (by rw [Hn.out]; omega) hcf3
  rw [Hn.out] at C9
  go_wp2_with fail
  refine C9.mono ?_
  rintro x w9 ⟨rfl, q9, hw9⟩
  clear C9
  have B9 : Hid (Below W.heap.size W w9) := by rw [hw9]; exact below_drewN B8.out q9
  have HF9 : Hid (w9.ownsRow W.heap.size 5 1 (.slice (some ⟨gf, 0, none⟩) (n + 90) cf) (n + 90) ((l ++ mks 90).map B)) := by rw [hw9]; exact HF8.out
  clear hw9 HF8 B8 dc dp
  -- the rest, of whatever bytes stand there then
  have HCop : Hid (∀ (w : World) (l' : List UInt8), w.ownsRow W.heap.size 5 1 (.slice (some ⟨gf, 0, none⟩) (n + 90) cf) (n + 90) ((l' ++ mks 90).map B) → l'.length = n → Calls Try.prog 11 #[.slice (some ⟨gf, 0, none⟩) n cf] w fun e w' => ∃ v, e = .returned v ∧ Ob w.heap.size w w' v l') := fun w l' h hl => by
    have := copied_any (some ⟨gf, 0, none⟩) cf l' w (HRd.out w l' h hl).1 (by omega)
    rwa [hl] at this
  have HPar : Hid (∀ (w : World) (l' : List UInt8), w.ownsRow W.heap.size 5 1 (.slice (some ⟨gf, 0, none⟩) (n + 90) cf) (n + 90) ((l' ++ mks 90).map B) → l'.length = n → Calls Try.prog 6 #[.slice (some ⟨gf, 0, none⟩) n cf] w fun e w' => ∃ lv xs, (e = .returned (.tuple #[lv, .int .i64 (parse l').2.1, .int .i64 ((parse l').2.2 : Nat)]) ∧ Below w.heap.size w w') ∧ Lst w.heap.size w' lv xs ∧ es xs = (parse l').1) := fun w l' h hl => by
    have := parse_any (some ⟨gf, 0, none⟩) cf l' w (HRd.out w l' h hl).1 (by omega) hcf3 (fun e => by cases e)
    rwa [hl] at this
  clear HE1 HE2 HE3 Hin Hbd H1
  by_cases hn0 : n = 0
  · have d0 : decide ((n : Int) > 0) = false := decide_eq_false (by omega)
    have d0' : decide (0 < n) = false := decide_eq_false (by omega)
    clear hn0
    have CA := HCop.out w9 l HF9.out Hn.out
    go_wp2_with fail
    refine CA.mono ?_
    rintro x wA ⟨vA, rfl, hA⟩
    clear CA
    have BA : Hid (Below W.heap.size W wA) := B9.out.trans (hA.bel.mono B9.out.size)
    have HFA : Hid (wA.ownsRow W.heap.size 5 1 (.slice (some ⟨gf, 0, none⟩) (n + 90) cf) (n + 90) ((l ++ mks 90).map B)) := own_below HF9.out hA.bel (Nat.le_refl _)
    have hoA := hA.own
    obtain ⟨aA, cA, eA⟩ := own_slice hoA
    subst eA
    obtain ⟨rA, rA2, rA3⟩ := own_rd hoA
    have CB := rparse_any aA cA l wA rA rA2 rA3
    obtain ⟨Q, HQ⟩ : ∃ Q, Hid (parse l = Q) := ⟨_, rfl⟩
    rw [HQ.out] at CB
    clear hA hoA rA rA2 rA3
    go_wp2_with fail
    refine CB.mono ?_
    rintro x wB ⟨lvB, xsB, ⟨rfl, hbB⟩, hLB, heB⟩
    clear CB
    have BB : Hid (Below W.heap.size W wB) := BA.out.trans (hbB.mono BA.out.size)
    have HFB : Hid (wB.ownsRow W.heap.size 5 1 (.slice (some ⟨gf, 0, none⟩) (n + 90) cf) (n + 90) ((l ++ mks 90).map B)) := own_below HFA.out hbB (Nat.le_refl _)
    have HXB : Hid (Lst wA.heap.size wB lvB xsB ∧ es xsB = Q.1) := ⟨hLB, heB⟩
    have CC := HPar.out wB l HFB.out Hn.out
    rw [HQ.out] at CC
    clear hbB hLB heB BA HFA
    go_wp2_with fail
    refine CC.mono ?_
    rintro x wC ⟨lvC, xsC, ⟨rfl, hbC⟩, hLC, heC⟩
    clear CC
    have BC : Hid (Below W.heap.size W wC) := BB.out.trans (hbC.mono BB.out.size)
    have hXB := HXB.out.1.below hbC (Nat.le_refl _)
    obtain ⟨b2, d2, e2, hr2, _⟩ := hLC.row
    obtain ⟨b3, d3, e3, hr3, _⟩ := hXB.row
    have bd := lst_bound (heC.trans (by rw [← HQ.out]))
    have CD := same_any b2 b3 d2 d3 xsC xsB wC hr2 hr3 (by omega)
    rw [heC, HXB.out.2, decide_eq_true rfl, ← e2, ← e3] at CD
    have dc2 : (Q.2.1 == Q.2.1) = true := by simp
    have dp2 : ((Q.2.2 : Int) == (Q.2.2 : Int)) = true := by simp
    clear hbC hLC heC hXB e2 e3 hr2 hr3 bd BB HFB HXB HQ
    generalize Q.2.1 = qc at *
    generalize Q.2.2 = qp at *
    go_wp2_with fail
    refine CD.mono ?_
    rintro x wD ⟨rfl, hbD⟩
    clear CD
    have HZ : Hid (Below W.heap.size W wD) := BC.out.trans (hbD.mono BC.out.size)
    clear hbD BC
    go_wp2
    go_ret
    exact ⟨rfl, HZ.out⟩
  · have d0 : decide ((n : Int) > 0) = true := decide_eq_true (by omega)
    have d0' : decide (0 < n) = true := decide_eq_true (by omega)
    obtain ⟨k, hk⟩ : ∃ k, k = n - 1 := ⟨_, rfl⟩
    have ik : (n : Int) - 1 = (k : Int) := by omega
    have hkn : k < n := by omega
    have gk := HF9.out.cellAt k (by omega)
    have fk := HF9.out.frozenAt k
    have hkl : k < l.length := by rw [Hn.out]; exact hkn
    rw [List.getElem?_map, List.getElem?_append_left hkl, List.getElem?_eq_getElem hkl] at gk
    obtain ⟨x0, hx0⟩ : ∃ x0, l[k] = x0 := ⟨_, rfl⟩
    rw [hx0] at gk
    have gk2 : w9.cell? ⟨gf, k, none⟩ = some (.int .u8 (x0.toNat : Int)) := gk
    obtain ⟨y0, hy0⟩ := xor_one x0
    have hst := (HF9.out.stored k (B y0)).1
    rw [← List.map_set, List.set_append_left _ _ hkl] at hst
    obtain ⟨l', hl'⟩ : ∃ l', l.set k y0 = l' := ⟨_, rfl⟩
    rw [hl'] at hst
    have Hl' : Hid (l'.length = n) := by show _ = _; rw [← hl', List.length_set]; exact Hn.out
    have HFx : Hid ((w9.setCell ⟨gf, k, none⟩ (.int .u8 (y0.toNat : Int))).ownsRow W.heap.size 5 1 (.slice (some ⟨gf, 0, none⟩) (n + 90) cf) (n + 90) ((l' ++ mks 90).map B)) := hst
    have Bx : Hid (Below W.heap.size W (w9.setCell ⟨gf, k, none⟩ (.int .u8 (y0.toNat : Int)))) := B9.out.setCell hgf.1 _
    have hkn2 : k < n + 90 := by omega
    clear hn0 hk gk hx0 hst hl' HF9 B9 hkl
    have CA := HCop.out _ l' HFx.out Hl'.out
    go_wp2_with fail
    refine CA.mono ?_
    rintro x wA ⟨vA, rfl, hA⟩
    clear CA
    have BA : Hid (Below W.heap.size W wA) := Bx.out.trans (hA.bel.mono Bx.out.size)
    have HFA : Hid (wA.ownsRow W.heap.size 5 1 (.slice (some ⟨gf, 0, none⟩) (n + 90) cf) (n + 90) ((l' ++ mks 90).map B)) := own_below HFx.out hA.bel (Nat.le_refl _)
    have hoA := hA.own
    obtain ⟨aA, cA, eA⟩ := own_slice hoA
    subst eA
    obtain ⟨rA, rA2, rA3⟩ := own_rd hoA
    have CB := rparse_any aA cA l' wA rA rA2 rA3
    obtain ⟨Q, HQ⟩ : ∃ Q, Hid (parse l' = Q) := ⟨_, rfl⟩
    rw [HQ.out] at CB
    clear hA hoA rA rA2 rA3
    go_wp2_with fail
    refine CB.mono ?_
    rintro x wB ⟨lvB, xsB, ⟨rfl, hbB⟩, hLB, heB⟩
    clear CB
    have BB : Hid (Below W.heap.size W wB) := BA.out.trans (hbB.mono BA.out.size)
    have HFB : Hid (wB.ownsRow W.heap.size 5 1 (.slice (some ⟨gf, 0, none⟩) (n + 90) cf) (n + 90) ((l' ++ mks 90).map B)) := own_below HFA.out hbB (Nat.le_refl _)
    have HXB : Hid (Lst wA.heap.size wB lvB xsB ∧ es xsB = Q.1) := ⟨hLB, heB⟩
    have CC := HPar.out wB l' HFB.out Hl'.out
    rw [HQ.out] at CC
    clear hbB hLB heB BA HFA
    go_wp2_with fail
    refine CC.mono ?_
    rintro x wC ⟨lvC, xsC, ⟨rfl, hbC⟩, hLC, heC⟩
    clear CC
    have BC : Hid (Below W.heap.size W wC) := BB.out.trans (hbC.mono BB.out.size)
    have hXB := HXB.out.1.below hbC (Nat.le_refl _)
    obtain ⟨b2, d2, e2, hr2, _⟩ := hLC.row
    obtain ⟨b3, d3, e3, hr3, _⟩ := hXB.row
    have bd := lst_bound (heC.trans (by rw [← HQ.out]))
    have CD := same_any b2 b3 d2 d3 xsC xsB wC hr2 hr3 (by omega)
    rw [heC, HXB.out.2, decide_eq_true rfl, ← e2, ← e3] at CD
    have dc2 : (Q.2.1 == Q.2.1) = true := by simp
    have dp2 : ((Q.2.2 : Int) == (Q.2.2 : Int)) = true := by simp
    clear hbC hLC heC hXB e2 e3 hr2 hr3 bd BB HFB HXB HQ
    generalize Q.2.1 = qc at *
    generalize Q.2.2 = qp at *
    go_wp2_with fail
    refine CD.mono ?_
    rintro x wD ⟨rfl, hbD⟩
    clear CD
    have HZ : Hid (Below W.heap.size W wD) := BC.out.trans (hbD.mono BC.out.size)
    clear hbD BC
    go_wp2
    go_ret
    exact ⟨rfl, HZ.out⟩

end Go.Proofs.Ytjncpibhnpoghaa
