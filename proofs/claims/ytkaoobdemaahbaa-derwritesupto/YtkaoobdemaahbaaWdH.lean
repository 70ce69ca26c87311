import Derived.Test.YtkaoobdemaahbaaWdG
import Derived.Test.YtkaoobdemaahbaaSm
import Derived.Test.YtkaoobdemaahbaaKeep
namespace Go.Proofs.Ytkaoobdemaahbaa
open Go.RowKit

theorem own_cell {w : World} {base n size : Nat} {e : TypeId} {g c : Nat} {xs : List Value} (h : w.ownsRow base e size (.slice (some ⟨g, 0, none⟩) n c) n xs) (j : Nat) (u : Value) (hj : xs[j]? = some u) : w.cell? ⟨g, j, none⟩ = some u ∧ w.frozen? ⟨g, j, none⟩ = false := by
  rcases h.2 with ⟨hv, _⟩ | ⟨g', cap, cur, hv, _, hg, hc1, hc2, hs, ht⟩
  · cases hv
  · cases hv
    have hj2 : j < xs.length := (List.getElem?_eq_some_iff.1 hj).1
    refine ⟨?_, by unfold World.frozen?; simp [hg]⟩
    unfold World.cell?
    simp only [hg]
    rw [← ht, List.getElem?_take] at hj
    split at hj
    · simpa using hj
    · cases hj

theorem xor_two : ∀ n : Fin 256, bits .xor .u8 (n.val : Int) 2 = ((UInt8.ofNat n.val ^^^ 2).toNat : Int) := by decide +kernel
theorem xor2 (x : UInt8) : bits .xor .u8 (x.toNat : Int) 2 = ((x ^^^ 2).toNat : Int) := by
  have := xor_two ⟨x.toNat, x.toNat_lt⟩
  simpa using this
theorem add1 (x : UInt8) : IntKind.u8.wrap ((x.toNat : Int) + 1) = ((x + 1).toNat : Int) := by
  rw [IntKind.wrap_u8', UInt8.toNat_add]
  have : (1 : UInt8).toNat = 1 := rfl
  omega
theorem own_baseQ {w : World} {b0 b1 n size : Nat} {e : TypeId} {v : Value} {xs : List Value} (h : w.ownsRow b1 e size v n xs) (hb : b0 ≤ b1) : w.ownsRow b0 e size v n xs :=
  ⟨h.1, h.2.elim .inl fun ⟨g, cap, cur, e, hg, r⟩ => .inr ⟨g, cap, cur, e, Nat.le_trans hb hg, r⟩⟩
theorem own_belowW {w w' : World} {base n size k : Nat} {e : TypeId} {v : Value} {xs : List Value} (h : w.ownsRow base e size v n xs) (hb : Below k w w') (hk : w.heap.size ≤ k) : w'.ownsRow base e size v n xs :=
  own_keep h fun g hg => hb.block g (Nat.lt_of_lt_of_le (h.lt g hg).2 hk)
theorem own_bl {w : World} {base n size : Nat} {e : TypeId} {g c : Nat} {xs : List Value} (h : w.ownsRow base e size (.slice (some ⟨g, 0, none⟩) n c) n xs) : ∃ vs, Bl e w g vs ∧ n * size ≤ vs.length ∧ n ≤ c ∧ c ≤ 9223372036854775807 := by
  rcases h.2 with ⟨hv, _⟩ | ⟨g', cap, cur, hv, _, hg, hc1, hc2, hs, ht⟩
  · cases hv
  · cases hv
    refine ⟨cur.toList, ?_, ?_, hc1, ?_⟩
    · unfold Bl
      simpa using hg
    · have h1 := congrArg List.length ht
      have h2 := h.1
      rw [List.length_take] at h1
      omega
    · unfold maxLen at hc2; omega
/-- A twin's elements have bytes of their own. -/
theorem Tm.nl {base : Nat} {w : World} {v : Value} {ys : List X} {j : Nat} (h : Tm base w v ys j) : ∀ y ∈ ys, y.a = none → y.c = 0 := fun y hy e => by
  obtain ⟨g, hg, _⟩ := h.full y hy
  rw [e] at hg
  cases hg
theorem like_len {ys zs : List X} (h : es ys = es zs) : ys.length = zs.length := (Like.of_es h).len

set_option maxRecDepth 100000 in
set_option maxHeartbeats 64000000 in
/-- The law. -/
theorem dwrites_any (ao : Option Addr) (cap N : Nat) (xs : List X) (w : World) (hxN : xs.length = N) (hR : Row w ao xs) (hnl : ∀ x ∈ xs, x.a = none → x.c = 0) (hlen : N ≤ 1100000) (hdl : ∀ x ∈ xs, x.e.data.length ≤ 1100000) (htot : tot (es xs) < 16777216) :
    Calls Try.prog 3 #[.slice ao N cap] w fun e w' => e = .returned (.bool true) ∧ Below w.heap.size w w' := by
  have HR : Hid (∀ wq, Below w.heap.size w wq → Row wq ao xs) := fun wq hq => hR.below hq (Nat.le_refl _)
  have HBe : Hid (∀ wq, Row wq ao xs → Calls Try.prog 4 #[.slice ao N cap] wq fun e w' => ∃ b, e = .returned (.bool b) ∧ Below wq.heap.size wq w') := fun wq hq => by rw [← hxN]; exact beyond_any ao cap xs wq hq (by omega)
  have HTw : Hid (∀ (a : Option Addr) (cp : Nat) (zs : List X) wq, zs.length = N → (∀ z ∈ zs, z.e.data.length ≤ 1100000) → Row wq a zs → Calls Try.prog 5 #[.slice a N cp] wq fun e w' => ∃ g c ys, e = .returned (.slice (some ⟨g, 0, none⟩) N c) ∧ es ys = es zs ∧ Tm wq.heap.size w' (.slice (some ⟨g, 0, none⟩) (N + 20) c) ys 20 ∧ Below wq.heap.size wq w') := fun a cp zs wq hz hd hq => by rw [← hz]; exact twin_any a cp zs wq hq (by omega) (fun z hm => Nat.le_trans (hd z hm) (by omega))
  have HSh : Hid (∀ (a : Option Addr) (cp : Nat) (zs : List X) wq, zs.length = N → Row wq a zs → Calls Try.prog 6 #[.slice a N cp] wq fun e w' => e = .returned (.bool (shaped (es zs))) ∧ Below wq.heap.size wq w') := fun a cp zs wq hz hq => by rw [← hz]; exact shaped_any a cp zs wq hq (by omega)
  have HRS : Hid (∀ (a : Option Addr) (cp : Nat) (zs : List X) wq, zs.length = N → Row wq a zs → Calls Try.prog 9 #[.slice a N cp] wq fun e w' => e = .returned (.bool (shaped (es zs))) ∧ Below wq.heap.size wq w') := fun a cp zs wq hz hq => by rw [← hz]; exact rshaped_any a cp zs wq hq (by omega)
  have HPr : Hid (∀ (a : Option Addr) (cp : Nat) (zs : List X) wq, zs.length = N → (∀ z ∈ zs, z.a = none → z.c = 0) → tot (es zs) < 16777216 → Row wq a zs → Calls Try.prog 7 #[.slice a N cp] wq fun e w' => PrA wq (es zs) e w') := fun a cp zs wq hz hn ht hq => by rw [← hz]; exact print_any a cp zs wq hq hn (by omega) ht
  have HRP : Hid (∀ (a : Option Addr) (cp : Nat) (zs : List X) wq, zs.length = N → (∀ z ∈ zs, z.a = none → z.c = 0) → (∀ z ∈ zs, z.e.data.length ≤ 1100000) → Row wq a zs → Calls Try.prog 8 #[.slice a N cp] wq fun e w' => PrA wq (es zs) e w') := fun a cp zs wq hz hn hd hq => by rw [← hz]; exact rprint_any a cp zs wq hq hn (by omega) (fun z hm => Nat.le_trans (hd z hm) (by omega))
  have HSt : Hid (∀ base g c (ys : List X) wq, Tm base wq (.slice (some ⟨g, 0, none⟩) (N + 20) c) ys 20 → Row wq ao xs → es ys = es xs → Calls Try.prog 11 #[.slice (some ⟨g, 0, none⟩) N c, .slice ao N cap] wq fun e w' => e = .returned (.bool true) ∧ Below wq.heap.size wq w') := fun base g c ys wq h1 h2 h3 => still_any base g 0 c N ao cap ys xs wq rfl h1 h2 h3 hxN (by omega) (fun x hx => Nat.le_trans (hdl x hx) (by omega))
  have HTX : Hid (tot (es xs) < 16777216) := htot
  have HDL : Hid (∀ x ∈ xs, x.e.data.length ≤ 1100000) := hdl
  have HNL : Hid (∀ x ∈ xs, x.a = none → x.c = 0) := hnl
  have HXN : Hid (xs.length = N) := hxN
  have C := HBe.out w hR
  clear hR hnl hdl htot hxN HBe
  go_enter Try.func3, Try.ntmps3
  go_wp2_with fail
  refine C.mono ?_
  clear C
  rintro e w1 ⟨b, rfl, hb1⟩
  have HB1 : Hid (Below w.heap.size w w1) := hb1
  cases b with
  | true =>
    clear hb1 HR HTw HSh HRS HPr HRP HSt HTX HDL HNL HXN
    go_wp2
    go_ret
    exact ⟨rfl, HB1.out⟩
  | false =>
    have C := HTw.out ao cap xs w1 HXN.out HDL.out (HR.out w1 hb1)
    clear hb1
    go_wp2_with fail
    refine C.mono ?_
    clear C
    rintro e w2 ⟨g, c, ys, rfl, hes, hT2, hb2⟩
    have HSZ : Hid (w.heap.size ≤ w1.heap.size) := HB1.out.size
    have B2 : Hid (Below w.heap.size w w2) := HB1.out.trans (hb2.mono HB1.out.size)
    have HBq : Hid (∀ wx, Below w2.heap.size w2 wx → Below w.heap.size w wx) := fun wx hx => B2.out.trans (hx.mono B2.out.size)
    have HTm : Hid (∀ wx, Below w2.heap.size w2 wx → Tm w1.heap.size wx (.slice (some ⟨g, 0, none⟩) (N + 20) c) ys 20) := fun wx hx => hT2.below hx (Nat.le_refl _)
    have HYN : Hid (ys.length = N) := by show _ = _; rw [like_len hes]; exact HXN.out
    have HYR : Hid (∀ wx, Below w2.heap.size w2 wx → Row wx (some ⟨g, 0, none⟩) ys) := fun wx hx => (HTm.out wx hx).row (by rw [List.length_append, fil_length, HYN.out]) (HR.out wx (HBq.out wx hx)) hes
    have HYL : Hid (∀ y ∈ ys, y.a = none → y.c = 0) := hT2.nl
    have HYT : Hid (tot (es ys) < 16777216) := by show _ < _; rw [hes]; exact HTX.out
    have HES : Hid (es ys = es xs) := hes
    have HTB : Hid (∀ k, ((Value.slice (some ⟨g, 0, none⟩) (N + 20) c).ownBlock = some k → k < w2.heap.size) ∧ ∀ y ∈ ys, (xD y).ownBlock = some k → k < w2.heap.size) := fun k => ⟨fun e => (hT2.own.lt k e).2, fun y hy e => ((hT2.dat y hy).lt k (by rw [own_blk]; exact e)).2⟩
    have C := HSh.out (some ⟨g, 0, none⟩) c ys w2 HYN.out (HYR.out w2 (Below.refl _ _))
    obtain ⟨sh, hsh⟩ : ∃ s, shaped (es ys) = s := ⟨_, rfl⟩
    rw [hsh] at C
    have HSE : Hid (shaped (es ys) = sh) := hsh
    clear hT2 hb2 hes hsh
    go_wp2_with fail
    refine C.mono ?_
    clear C
    rintro e w3 ⟨rfl, hx⟩
    have B3 : Hid (Below w2.heap.size w2 w3) := hx
    have C := HPr.out (some ⟨g, 0, none⟩) c ys w3 HYN.out HYL.out HYT.out (HYR.out w3 hx)
    unfold PrA at C
    obtain ⟨⟨P, ec⟩, hpe⟩ : ∃ q, prints (es ys) = q := ⟨_, rfl⟩
    rw [hpe] at C
    dsimp only at C
    have HPE : Hid (prints (es ys) = (P, ec)) := hpe
    clear hx hpe
    go_wp2_with fail
    refine C.mono ?_
    clear C
    rintro e w4 ⟨bv, ⟨rfl, hx⟩, hob⟩
    have B4 : Hid (Below w2.heap.size w2 w4) := B3.out.trans (hx.mono B3.out.size)
    obtain ⟨ab, cb, eb⟩ := own_slice hob
    subst eb
    have HOb : Hid (∀ wx, Below w4.heap.size w4 wx → wx.ownsRow w3.heap.size 5 1 (.slice ab P.length cb) P.length (P.map B)) := fun wx hy => own_belowW hob hy (Nat.le_refl _)
    have HFb : Hid (∀ k, (Value.slice ab P.length cb).ownBlock = some k → w3.heap.size ≤ k ∧ k < w4.heap.size) := fun k hk => hob.lt k hk
    have C := HPr.out (some ⟨g, 0, none⟩) c ys w4 HYN.out HYL.out HYT.out (HYR.out w4 B4.out)
    unfold PrA at C
    rw [HPE.out] at C
    dsimp only at C
    have S23 : Hid (w2.heap.size ≤ w3.heap.size) := B3.out.size
    clear hx hob B3
    go_wp2_with fail
    refine C.mono ?_
    clear C
    rintro e w5 ⟨cv, ⟨rfl, hx⟩, hoc⟩
    have B45 : Hid (Below w4.heap.size w4 w5) := hx
    have B5 : Hid (Below w2.heap.size w2 w5) := B4.out.trans (hx.mono B4.out.size)
    obtain ⟨ac, cc, ecv⟩ := own_slice hoc
    subst ecv
    have HOc : Hid (∀ wx, Below w5.heap.size w5 wx → wx.ownsRow w4.heap.size 5 1 (.slice ac P.length cc) P.length (P.map B)) := fun wx hy => own_belowW hoc hy (Nat.le_refl _)
    have C := HRP.out ao cap xs w5 HXN.out HNL.out HDL.out (HR.out w5 (HBq.out w5 B5.out))
    unfold PrA at C
    rw [← HES.out, HPE.out] at C
    dsimp only at C
    clear hx hoc
    go_wp2_with fail
    refine C.mono ?_
    clear C
    rintro e w6 ⟨dv, ⟨rfl, hx⟩, hod⟩
    have B46 : Hid (Below w4.heap.size w4 w6) := B45.out.trans (hx.mono B45.out.size)
    have B56 : Hid (Below w5.heap.size w5 w6) := hx
    have B6 : Hid (Below w2.heap.size w2 w6) := B5.out.trans (hx.mono B5.out.size)
    obtain ⟨ad, cd, edv⟩ := own_slice hod
    subst edv
    have S45 : Hid (w4.heap.size ≤ w5.heap.size) := B45.out.size
    have HOd : Hid (∀ wx, Below w6.heap.size w6 wx → wx.ownsRow w5.heap.size 5 1 (.slice ad P.length cd) P.length (P.map B)) := fun wx hy => own_belowW hod hy (Nat.le_refl _)
    have HPl : Hid (P.length ≤ 9223372036854775807) := by
      show _ ≤ _
      obtain ⟨_, h8, h9⟩ := own_rd hod
      omega
    have C := HRS.out ao cap xs w6 HXN.out (HR.out w6 (HBq.out w6 B6.out))
    rw [← HES.out, HSE.out] at C
    clear hx hod B45
    go_wp2_with fail
    refine C.mono ?_
    clear C
    rintro e w7 ⟨rfl, hx⟩
    have B67 : Hid (Below w6.heap.size w6 w7) := hx
    have B7 : Hid (Below w2.heap.size w2 w7) := B6.out.trans (hx.mono B6.out.size)
    have C := sameBytes_any ab ad cb cd P P w7 (own_rd (HOb.out w7 (B46.out.trans (hx.mono B46.out.size)))).1 (own_rd (HOd.out w7 hx)).1 HPl.out HPl.out
    rw [decide_eq_true rfl] at C
    have qs : (sh != sh) = false := by simp
    have qs1 : (sh == sh) = true := by simp
    clear hx
    go_wp2_with fail
    refine C.mono ?_
    clear C
    rintro e w8 ⟨rfl, q8, rfl⟩
    have B8 : Hid (Below w2.heap.size w2 (w7.drewN q8)) := below_drewN B7.out q8
    have B68 : Hid (Below w6.heap.size w6 (w7.drewN q8)) := below_drewN B67.out q8
    have C := HSt.out _ g c ys (w7.drewN q8) (HTm.out _ B8.out) (HR.out _ (HBq.out _ B8.out)) HES.out
    have qe : ((ec : Int) != (ec : Int)) = false := by simp
    have qe1 : ((ec : Int) == (ec : Int)) = true := by simp
    clear B7 B67
    go_wp2_with fail
    refine C.mono ?_
    clear C
    rintro e w9 ⟨rfl, hx⟩
    have B9 : Hid (Below w2.heap.size w2 w9) := B8.out.trans (hx.mono B8.out.size)
    have B69 : Hid (Below w6.heap.size w6 w9) := B68.out.trans (hx.mono B68.out.size)
    have B49 : Hid (Below w4.heap.size w4 w9) := B46.out.trans (B69.out.mono B46.out.size)
    have B59 : Hid (Below w5.heap.size w5 w9) := B56.out.trans (B69.out.mono B56.out.size)
    have HOb9 := HOb.out w9 B49.out
    have HOc9 : Hid (w9.ownsRow w4.heap.size 5 1 (.slice ac P.length cc) P.length (P.map B)) := HOc.out w9 B59.out
    have HOd9 : Hid (w9.ownsRow w5.heap.size 5 1 (.slice ad P.length cd) P.length (P.map B)) := HOd.out w9 B69.out
    have HB9o : Hid (∃ l : List UInt8, l.length = P.length ∧ w9.ownsRow w3.heap.size 5 1 (.slice ab P.length cb) P.length (l.map B)) := ⟨P, rfl, HOb9⟩
    have HS9 : Hid (w4.heap.size ≤ w9.heap.size) := B49.out.size
    obtain ⟨f, hf⟩ : ∃ f : Nat → Prop, (fun k => (Value.slice ab P.length cb).ownBlock = some k) = f := ⟨_, rfl⟩
    have HF : Hid (∀ k, f k ↔ (Value.slice ab P.length cb).ownBlock = some k) := fun k => by rw [← hf]
    clear hx B8 B68 B69 B59 B56 HOb9 HOb HOc HOd hf qs qs1
    have HPn : Hid (P.length ≤ 20000000) := by
      show _ ≤ _
      have h8 := prints_len (es ys)
      rw [HPE.out] at h8
      exact h8
    generalize hPn : P.length = n at *
    go_wp2
    clear qe qe1
    go_loopw [11] (fun s wx => ∃ i : Nat, s = .int .i64 i ∧ i ≤ n ∧ (∃ l : List UInt8, l.length = n ∧ wx.ownsRow w3.heap.size 5 1 (.slice ab n cb) n (l.map B)) ∧ Chf f w9 wx) (fun s _ => n - (intOf s).toNat)
    case atStart => exact ⟨0, rfl, Nat.zero_le _, HB9o.out, Chf.refl _ _⟩
    case round =>
      obtain ⟨i, rfl, hi, ⟨l, hll, hol⟩, hch⟩ := hrel
      by_cases hlt : i < n
      · have q0 : decide ((i : Int) < (n : Int)) = true := decide_eq_true (by omega)
        have q1 : (i : Int) < (n : Int) := by omega
        obtain ⟨gb, cb', e, _, _⟩ := own_some hol (by omega)
        cases e
        obtain ⟨k1, k2⟩ := own_cell hol i (B (l.getD i 0)) (by rw [List.getElem?_map, List.getElem?_eq_getElem (by omega), List.getD_eq_getElem?_getD, List.getElem?_eq_getElem (by omega)]; rfl)
        generalize l.getD i 0 = x at *
        unfold B at k1
        have hw := add1 x
        obtain ⟨y, hy⟩ : ∃ y : UInt8, x + 1 = y := ⟨_, rfl⟩
        rw [hy] at hw
        have hw2 : ((x.toNat : Int) + 1) % 256 = (y.toNat : Int) := by rw [← hw, IntKind.wrap_u8']
        have hst := hol.stored i (B y)
        rw [← List.map_set] at hst
        have hch2 := hch.setCell (.inl ((HF.out gb).2 rfl)) i (B y)
        unfold B at hst hch2
        obtain ⟨wy, hwy⟩ : ∃ w0, wr.setCell ⟨gb, i, none⟩ (.int .u8 (y.toNat : Int)) = w0 := ⟨_, rfl⟩
        rw [hwy] at hst hch2
        have HN : Hid (∃ l : List UInt8, l.length = n ∧ wy.ownsRow w3.heap.size 5 1 (.slice (some ⟨gb, 0, none⟩) n cb) n (l.map B)) := ⟨l.set i y, by rw [List.length_set]; exact hll, hst.1⟩
        have HC2 : Hid (Chf f w9 wy) := hch2
        clear hol hch hst hch2 hll HB9o hy hw
        go_wp2
        go_roundw
        case rel => exact ⟨i + 1, by go_num, by omega, HN.out, HC2.out⟩
        case measure => simp [intOf]; omega
      · have q0 : decide ((i : Int) < (n : Int)) = false := decide_eq_false (by omega)
        have HL0 : Hid (∃ vs, wr.ownsRow 0 5 1 (.slice ab n cb) n vs) := ⟨_, own_baseQ hol (Nat.zero_le _)⟩
        have HCh : Hid (Chf f w9 wr) := hch
        clear hol hch hll HB9o
        go_wp2
        go_loopw [13, 12] (fun s13 s12 wx => ∃ j : Nat, s13 = .int .i64 j ∧ j ≤ 90 ∧ (∃ vs, wx.ownsRow 0 5 1 s12 (n + j) vs) ∧ (∀ k, s12.ownBlock = some k → f k ∨ w9.heap.size ≤ k) ∧ Chf f w9 wx) (fun s _ _ => 90 - (intOf s).toNat)
        case atStart => exact ⟨0, rfl, Nat.zero_le _, HL0.out, fun k hk => .inl ((HF.out k).2 hk), HCh.out⟩
        case round =>
          obtain ⟨j, rfl, hj, ⟨vs, hov⟩, hobk, hch⟩ := hrel
          obtain ⟨va, vc, ev⟩ := own_slice hov
          subst ev
          by_cases hj9 : j < 90
          · have q1 : decide ((j : Int) < 90) = true := decide_eq_true (by omega)
            obtain ⟨X, hX⟩ : ∃ X, wr.alloc (.cells #[.int .u8 7] 5) = X := ⟨_, rfl⟩
            have hA : Below wr.heap.size wr X := by rw [← hX]; exact alloc_below _ _
            have hXo := own_belowW hov hA (Nat.le_refl _)
            have hu : X.cell? ⟨wr.heap.size, 0, none⟩ = some (.int .u8 7) := by
              have hbl : Bl 5 X wr.heap.size [.int .u8 7] := by rw [← hX]; exact alloc_bl _ _ _
              exact hbl.cell 0 (by simp)
            have hnl2 : n ≤ 20000000 := HPn.out
            obtain ⟨i0, hi0, hz, hsize, hby⟩ := info_parts infoB
            obtain ⟨v', w', hrun, h1, h2, h3, _⟩ := append_keep X 25 5 25 i0 _ 1 Try.underlying25 hi0 hz hsize hby rfl (.slice va (n + j) vc) (n + j) _ hXo ⟨wr.heap.size, 0, none⟩ _ hu rfl (by omega) (by unfold maxLen; omega)
            have hcX : Chf f w9 X := by rw [← hX]; exact hch.alloc _
            have HR1 : Hid (∃ vs, w'.ownsRow 0 5 1 v' (n + (j + 1)) vs) := ⟨_, h1⟩
            have HR2 : Hid (∀ k, v'.ownBlock = some k → f k ∨ w9.heap.size ≤ k) := fun k hk => by
              rcases h3 with e | ⟨g9, e, hge⟩
              · rw [e] at hk; exact hobk k hk
              · rw [e] at hk
                injection hk with hk
                subst hk
                exact .inr (Nat.le_trans hcX.size hge)
            have HR3 : Hid (Chf f w9 w') := hcX.grown h2 hobk
            have HX : Hid (wr.alloc (.cells #[.int .u8 7] 5) = X) := hX
            clear h1 h2 h3 hXo hu hA hov hobk hch hX hcX hnl2
            go_wp2_with (at_builtin; rw [HX.out]; refine wpList_append_run rfl (.tmp 81) (.tmp 82) 25 rfl _ _ v' w' rfl rfl hrun ?_)
            go_roundw
            case rel => exact ⟨j + 1, by go_num, by omega, HR1.out, HR2.out, HR3.out⟩
            case measure => simp [intOf]; omega
          · have q1 : decide ((j : Int) < 90) = false := decide_eq_false (by omega)
            obtain rfl : j = 90 := by omega
            obtain ⟨n90, hn90⟩ : ∃ m, n + 90 = m := ⟨_, rfl⟩
            rw [hn90] at hov ⊢
            have q9 : ((n90 : Int) != (n : Int) + 90) = false := by rw [bne_eq_false_iff_eq]; omega
            clear hn90
            have hoc2 := own_chf HOc9.out hch (fun k hk hf2 => by
              have h8 := (HFb.out k ((HF.out k).1 hf2)).2
              have h9 := (HOc9.out.lt k hk).1
              omega)
            have hod2 := own_chf HOd9.out hch (fun k hk hf2 => by
              have h8 := (HFb.out k ((HF.out k).1 hf2)).2
              have h9 := (HOd9.out.lt k hk).1
              have h10 := S45.out
              omega)
            have hnf : ∀ k, k < w2.heap.size → ¬ f k := fun k hk hf2 => by
              have h8 := (HFb.out k ((HF.out k).1 hf2)).1
              have h9 := S23.out
              omega
            have HTr : Hid (Tm w1.heap.size wr (.slice (some ⟨g, 0, none⟩) (N + 20) c) ys 20) := (HTm.out w9 B9.out).chf hch (fun k hk => hnf k ((HTB.out k).1 hk)) (fun y hy k hk => hnf k ((HTB.out k).2 y hy hk))
            have HBr : Hid (Below w.heap.size w wr) := hch.below (HBq.out w9 B9.out) (fun k hk => hnf k (by have := B2.out.size; omega))
            subst hPn
            have hpb : P.length ≤ 20000000 := HPn.out
            have hwr : IntKind.i64.wrap ((P.length : Int) + 90) = (P.length : Int) + 90 := IntWalk.i64_in _ (by omega)
            have hwr2 : wrap64 ((P.length : Int) + 90) = (P.length : Int) + 90 := by rw [← IntWalk.i64_left]; exact hwr
            have C := sameBytes_any ac ad cc cd P P wr (own_rd hoc2).1 (own_rd hod2).1 HPl.out HPl.out
            rw [decide_eq_true rfl] at C
            have HCS : Hid (∀ q, Calls Try.prog 11 #[.slice (some ⟨g, 0, none⟩) N c, .slice ao N cap] (wr.drewN q) fun e w' => e = .returned (.bool true) ∧ Below (wr.drewN q).heap.size (wr.drewN q) w') := fun q => HSt.out _ g c ys (wr.drewN q) (HTr.out.drewN q) (HR.out _ (below_drewN HBr.out q)) HES.out
            clear hoc2 hod2 hnf hov hobk hch HOc9 HOd9 HTB HTm HYR HFb HF HB1 B9 HBq q1 hj hj9 hi hlt q0 HL0
            go_wp2_with fail
            refine C.mono ?_
            clear C
            rintro e wa ⟨rfl, q, rfl⟩
            have C := HCS.out q
            clear HCS
            go_wp2_with fail
            refine C.mono ?_
            clear C
            rintro e wb ⟨rfl, hxb⟩
            have HTb : Hid (Tm w1.heap.size wb (.slice (some ⟨g, 0, none⟩) (N + 20) c) ys 20) := (HTr.out.drewN q).below hxb (Nat.le_refl _)
            have HBb : Hid (Below w.heap.size w wb) := (below_drewN HBr.out q).trans (hxb.mono (below_drewN HBr.out q).size)
            have HS1 : Hid (w.heap.size ≤ w1.heap.size) := HSZ.out
            clear hxb HTr HBr
            try clear hwr hwr2 hpb q9
            go_wp2
            go_loopw [14] (fun s wx => ∃ (i : Nat) (zs : List X), s = .int .i64 i ∧ i ≤ N ∧ Like zs xs ∧ Tm w1.heap.size wx (.slice (some ⟨g, 0, none⟩) (N + 20) c) zs 20 ∧ Below w.heap.size w wx) (fun s _ => N - (intOf s).toNat)
            case atStart => exact ⟨0, ys, rfl, Nat.zero_le _, Like.of_es HES.out, HTb.out, HBb.out⟩
            case round =>
              obtain ⟨i, zs, rfl, hi, hlk, htm, hbx⟩ := hrel
              have HLk : Hid (Like zs xs) := hlk
              have HTz : Hid (Tm w1.heap.size wr (.slice (some ⟨g, 0, none⟩) (N + 20) c) zs 20) := htm
              have HBz : Hid (Below w.heap.size w wr) := hbx
              have hzN : zs.length = N := by rw [hlk.len]; exact HXN.out
              clear HTb HBb
              by_cases hlt : i < N
              · have q0 : decide ((i : Int) < (N : Int)) = true := decide_eq_true (by omega)
                have q1 : (i : Int) < (N : Int) := by omega
                have hiz : i < zs.length := by omega
                have hzl : (zs ++ fil 20).length = N + 20 := by rw [List.length_append, fil_length, hzN]
                have hcz := (htm.cells hzl i (by omega)).2.1
                rw [show (zs ++ fil 20)[i]'(by omega) = zs[i] from List.getElem_append_left hiz, Nat.zero_add] at hcz
                have hcut := cut_at zs hiz
                obtain ⟨y, hy⟩ : ∃ y, zs[i] = y := ⟨_, rfl⟩
                rw [hy] at hcz hcut
                have hym : y ∈ zs := by rw [← hy]; exact List.getElem_mem _
                have hyd := hlk.max HDL.out y hym
                obtain ⟨gy, hya, hyr, hyc, hyc2⟩ := htm.full y hym
                unfold xD at hcz
                rw [hya] at hcz
                by_cases hdn : 0 < y.e.data.length
                · have qd : decide ((y.e.data.length : Int) > 0) = true := decide_eq_true (by omega)
                  have qd2 : decide (0 < y.e.data.length) = true := decide_eq_true hdn
                  obtain ⟨m, hm⟩ : ∃ m, y.e.data.length = m + 1 := ⟨y.e.data.length - 1, by omega⟩
                  have hdat := htm.dat y hym
                  rw [hya] at hdat
                  obtain ⟨k1, k2⟩ := own_cell hdat m (B (y.e.data.getD m 0)) (by rw [List.getElem?_map, List.getElem?_append_left (by omega), List.getElem?_eq_getElem (by omega), List.getD_eq_getElem?_getD, List.getElem?_eq_getElem (by omega)]; rfl)
                  have hgb : (xD y).ownBlock = some gy := by unfold xD; rw [hya]; rfl
                  have hgb1 : w1.heap.size ≤ gy := (hdat.lt gy rfl).1
                  rw [hcut] at htm hlk
                  have htw := htm.write m (y.e.data.getD m 0 ^^^ 2) (by omega) hgb
                  have hlw := hlk.set m (y.e.data.getD m 0 ^^^ 2)
                  have hxr := xor2 (y.e.data.getD m 0)
                  generalize y.e.data.getD m 0 = z at *
                  generalize z ^^^ 2 = z2 at *
                  generalize zs.take i ++ xSet y m z2 :: zs.drop (i + 1) = zs2 at *
                  have hbw : Below w.heap.size w (wr.setCell ⟨gy, m, none⟩ (B z2)) := HBz.out.setCell (show w.heap.size ≤ gy by have := HS1.out; omega) _
                  unfold B at k1 htw hbw
                  have k1' : (wr.drewN 1).cell? ⟨gy, m, none⟩ = some (.int .u8 (z.toNat : Int)) := k1
                  have k2' : (wr.drewN 1).frozen? ⟨gy, m, none⟩ = false := k2
                  have hcz1 : (wr.drewN 1).cell? ⟨g, i * 3 + 1, none⟩ = some (.slice (some ⟨gy, 0, none⟩) y.e.data.length y.c) := hcz
                  obtain ⟨wy, hwy⟩ : ∃ x, (wr.drewN 1).setCell ⟨gy, m, none⟩ (.int .u8 (z2.toNat : Int)) = x := ⟨_, rfl⟩
                  have HT2 : Hid (Tm w1.heap.size wy (.slice (some ⟨g, 0, none⟩) (N + 20) c) zs2 20) := by
                    rw [← hwy]
                    exact htw.drewN 1
                  have HB2 : Hid (Below w.heap.size w wy) := by
                    rw [← hwy]
                    exact below_drewN hbw 1
                  have HL2 : Hid (Like zs2 xs) := hlw
                  rw [hm] at hcz hcz1 qd qd2
                  have hsub : ((m + 1 : Nat) : Int) - 1 = (m : Int) := by omega
                  have hsub2 : ((m : Int) + 1) - 1 = (m : Int) := by omega
                  have hmb : m ≤ 1100000 := by omega
                  have hs0 : IntKind.i64.wrap (m : Int) = (m : Int) := IntWalk.i64_in _ (by omega)
                  have hsw : IntKind.i64.wrap ((m : Int) + 1 - 1) = (m : Int) := by rw [show (m : Int) + 1 - 1 = (m : Int) by omega]; exact hs0
                  have hsw3 : IntKind.i64.wrap (((m + 1 : Nat) : Int) - 1) = (m : Int) := by rw [show ((m + 1 : Nat) : Int) - 1 = (m : Int) by omega]; exact hs0
                  have hs1 : wrap64 (m : Int) = (m : Int) := by rw [← IntWalk.i64_left]; exact hs0
                  have hs2 : wrap64 ((m : Int) + 1 - 1) = (m : Int) := by rw [← IntWalk.i64_left]; exact hsw
                  have hmlt : (m : Int) < ((m + 1 : Nat) : Int) := by omega
                  have hmlt2 : (m : Int) < (m : Int) + 1 := by omega
                  clear hdat hyr hlk htm htw hlw hbw hbx hcut hy hym hgb hdn hm k1 k2 hyd
                  go_wp2
                  refine wp_region_tail 28 (by kernel_rfl) (by kernel_rfl) ?_
                  simp only [List.take_succ_cons, List.take_zero, List.drop_succ_cons, List.drop_zero]
                  repeat (first | go_big_quiet_skip | (go_big_quiet_want; go_big_quiet_op; go_big_quiet_on))
                  refine wpQuiet_nil ?_
                  go_wp2
                  go_roundw
                  case rel => exact ⟨i + 1, zs2, by go_num, by omega, HL2.out, HT2.out, HB2.out⟩
                  case measure => simp [intOf]; omega
                · have hd0 : y.e.data.length = 0 := by omega
                  rw [hd0] at hcz
                  clear hlk htm hbx hcut hy hym hyd hyr hdn hd0
                  go_wp2
                  go_roundw
                  case rel => exact ⟨i + 1, zs, by go_num, by omega, HLk.out, HTz.out, HBz.out⟩
                  case measure => simp [intOf]; omega
              · have q0 : decide ((i : Int) < (N : Int)) = false := decide_eq_false (by omega)
                have HZN : Hid (zs.length = N) := hzN
                have HZD : Hid (∀ z ∈ zs, z.e.data.length ≤ 1100000) := hlk.max HDL.out
                have HZT : Hid (tot (es zs) < 16777216) := by show _ < _; rw [like_tot hlk]; exact HTX.out
                have HZL : Hid (∀ z ∈ zs, z.a = none → z.c = 0) := htm.nl
                have HZm : Hid (∀ wx, Below wr.heap.size wr wx → Tm w1.heap.size wx (.slice (some ⟨g, 0, none⟩) (N + 20) c) zs 20) := fun wx hx => htm.below hx (Nat.le_refl _)
                have HZR : Hid (∀ wx, Below wr.heap.size wr wx → Row wx (some ⟨g, 0, none⟩) zs) := fun wx hx => (HZm.out wx hx).rowS (by rw [List.length_append, fil_length, HZN.out]) HLk.out (HR.out wx (HBz.out.trans (hx.mono HBz.out.size)))
                have C := HTw.out (some ⟨g, 0, none⟩) c zs wr hzN HZD.out (HZR.out wr (Below.refl _ _))
                clear hlk htm hbx hzN HTz HLk
                go_wp2_with fail
                refine C.mono ?_
                clear C
                rintro e wc ⟨g2, c2, us, rfl, heu, hTu, hxc⟩
                have Bc : Hid (Below wr.heap.size wr wc) := hxc
                have HUN : Hid (us.length = N) := by show _ = _; rw [like_len heu]; exact HZN.out
                have HUR : Hid (∀ wx, Below wc.heap.size wc wx → Row wx (some ⟨g2, 0, none⟩) us) := fun wx hx => ((hTu.below hx (Nat.le_refl _)).row (by rw [List.length_append, fil_length, HUN.out]) (HZR.out wx (Bc.out.trans (hx.mono Bc.out.size))) heu)
                have HUL : Hid (∀ z ∈ us, z.a = none → z.c = 0) := hTu.nl
                have HUE : Hid (es us = es zs) := heu
                have HUD : Hid (∀ z ∈ us, z.e.data.length ≤ 1100000) := (Like.of_es heu).max HZD.out
                have C := HPr.out (some ⟨g, 0, none⟩) c zs wc HZN.out HZL.out HZT.out (HZR.out wc hxc)
                unfold PrA at C
                obtain ⟨⟨P2, ec2⟩, hpe⟩ : ∃ q, prints (es zs) = q := ⟨_, rfl⟩
                rw [hpe] at C
                dsimp only at C
                have HPE2 : Hid (prints (es zs) = (P2, ec2)) := hpe
                clear hTu heu hxc hpe
                go_wp2_with fail
                refine C.mono ?_
                clear C
                rintro e wd ⟨bv2, ⟨rfl, hx⟩, hob2⟩
                have Bcd : Hid (Below wc.heap.size wc wd) := hx
                obtain ⟨a5, c5, e5⟩ := own_slice hob2
                subst e5
                have HO5 : Hid (∀ wx, Below wd.heap.size wd wx → wx.ownsRow wc.heap.size 5 1 (.slice a5 P2.length c5) P2.length (P2.map B)) := fun wx hy => own_belowW hob2 hy (Nat.le_refl _)
                have C := HRP.out (some ⟨g2, 0, none⟩) c2 us wd HUN.out HUL.out HUD.out (HUR.out wd hx)
                unfold PrA at C
                rw [HUE.out, HPE2.out] at C
                dsimp only at C
                clear hx hob2
                go_wp2_with fail
                refine C.mono ?_
                clear C
                rintro e we ⟨bv3, ⟨rfl, hx⟩, hob3⟩
                have Bde : Hid (Below wd.heap.size wd we) := hx
                have Bce : Hid (Below wc.heap.size wc we) := Bcd.out.trans (hx.mono Bcd.out.size)
                have Be : Hid (Below wr.heap.size wr we) := Bc.out.trans (Bce.out.mono Bc.out.size)
                obtain ⟨a6, c6, e6⟩ := own_slice hob3
                subst e6
                have HO6 : Hid (∀ wx, Below we.heap.size we wx → wx.ownsRow wd.heap.size 5 1 (.slice a6 P2.length c6) P2.length (P2.map B)) := fun wx hy => own_belowW hob3 hy (Nat.le_refl _)
                have HP2l : P2.length ≤ 9223372036854775807 := by
                  obtain ⟨_, h8, h9⟩ := own_rd hob3
                  omega
                have C := HSh.out (some ⟨g, 0, none⟩) c zs we HZN.out (HZR.out we Be.out)
                obtain ⟨s2, hs2⟩ : ∃ s, shaped (es zs) = s := ⟨_, rfl⟩
                rw [hs2] at C
                have HS2 : Hid (shaped (es zs) = s2) := hs2
                clear hx hob3 hs2
                go_wp2_with fail
                refine C.mono ?_
                clear C
                rintro e wf ⟨rfl, hx⟩
                have Bef : Hid (Below we.heap.size we wf) := hx
                have C := HRS.out (some ⟨g2, 0, none⟩) c2 us wf HUN.out (HUR.out wf (Bce.out.trans (hx.mono Bce.out.size)))
                rw [HUE.out, HS2.out] at C
                clear hx
                go_wp2_with fail
                refine C.mono ?_
                clear C
                rintro e wg ⟨rfl, hx⟩
                have Beg : Hid (Below we.heap.size we wg) := Bef.out.trans (hx.mono Bef.out.size)
                have C := sameBytes_any a5 a6 c5 c6 P2 P2 wg (own_rd (HO5.out wg (Bde.out.trans (Beg.out.mono Bde.out.size)))).1 (own_rd (HO6.out wg Beg.out)).1 HP2l HP2l
                rw [decide_eq_true rfl] at C
                have qs : (s2 == s2) = true := by simp
                have qe : ((ec2 : Int) == (ec2 : Int)) = true := by simp
                clear hx
                go_wp2_with fail
                refine C.mono ?_
                clear C
                rintro e wh ⟨rfl, q3, rfl⟩
                have Bh : Hid (Below wr.heap.size wr (wg.drewN q3)) := below_drewN (Be.out.trans (Beg.out.mono Be.out.size)) q3
                have HBy : Hid (Below w.heap.size w (wg.drewN q3)) := HBz.out.trans (Bh.out.mono HBz.out.size)
                by_cases hN0 : 0 < N
                · obtain ⟨vs, hbl, hvl, hc1, hc2⟩ := own_bl ((by have h9 := (HZm.out _ Bh.out).own; rw [show (zs ++ fil 20).length = N + 20 by rw [List.length_append, fil_length, HZN.out]] at h9; exact h9) : (wg.drewN q3).ownsRow w1.heap.size 32 3 (.slice (some ⟨g, 0, none⟩) (N + 20) c) (N + 20) (xCs (zs ++ fil 20)))
                  have CS := HSh.out (some ⟨g, 0, none⟩) c zs (wg.drewN q3) HZN.out (HZR.out _ Bh.out)
                  have C := reshaped_any w.heap.size g 0 c N vs.length (wg.drewN q3) vs rfl hN0 (by omega) (by omega) hc2 _ hbl rfl (by omega) CS (by have h8 := ((HZm.out _ Bh.out).own.lt g rfl).1; have := HS1.out; omega) HBy.out.size
                  clear CS hbl hvl
                  go_wp2_with fail
                  refine C.mono ?_
                  clear C
                  rintro e wi ⟨rfl, hxi⟩
                  have HBi : Hid (Below w.heap.size w wi) := HBy.out.trans hxi
                  clear hxi
                  go_wp2
                  go_ret
                  exact ⟨rfl, HBi.out⟩
                · have qN : ((N : Int) == 0) = true := beq_iff_eq.2 (by omega)
                  have C : Calls Try.prog 12 #[.slice (some ⟨g, 0, none⟩) N c] (wg.drewN q3) fun e w' => e = .returned (.bool true) ∧ w' = wg.drewN q3 := by
                    clear HSh HRS HPr HRP HSt HTw
                    go_enter Try.func12, Try.ntmps12
                    go_wp2
                    go_ret
                    exact ⟨rfl, rfl⟩
                  go_wp2_with fail
                  refine C.mono ?_
                  clear C
                  rintro e wi ⟨rfl, rfl⟩
                  go_wp2
                  go_ret
                  exact ⟨rfl, HBy.out⟩

end Go.Proofs.Ytkaoobdemaahbaa
