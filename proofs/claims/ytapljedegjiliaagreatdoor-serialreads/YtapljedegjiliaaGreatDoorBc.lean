import Derived.Test.YtapljedegjiliaaGreatDoorBb
namespace Go.Proofs.YtapljedegjiliaaGreatDoor
open Go.RowKit Go.Shelf

theorem sapp4 (a b : List UInt8) : (⟨a.toArray⟩ : ByteArray) ++ ⟨b.toArray⟩ = ⟨(a ++ b).toArray⟩ := by
  apply ByteArray.ext
  simp

set_option maxRecDepth 100000 in
set_option maxHeartbeats 8000000 in
theorem tokensOf_any (l : List Nd) (ao : Option Addr) (cap : Nat) (w : World) (h : NR w (.slice ao l.length cap) l ao cap) (hl : l.length ≤ 100000000) (h0 : 0 < l.length) (hT : TB l) :
    Calls Tryz.prog 9 #[.slice ao l.length cap] w fun e w' => (∃ v, e = .returned (.tuple #[v, .bool (toksF l).2]) ∧ OT w.heap.size w' v (toksF l).1) ∧ Below w.heap.size w w' := by
  have CP := part_any l ao cap 0 kPay w h (by omega)
  have HF : Hid (toksF l = if (partF l 0 kPay).2 = true ∧ (signF l).all (hasF2 l) = true ∧ signF l ≠ [] then ((signF l).map (tokF l (partF l 0 kPay).1), true) else ([], false)) := rfl
  have HNq : Hid (∀ wx, Below w.heap.size w wx → NR wx (.slice ao l.length cap) l ao cap) := fun wx hx => h.below hx (Nat.le_refl _)
  have HP : Hid (∀ (a : Int) (k : List UInt8) wx, Below w.heap.size w wx → Calls Tryz.prog 15 #[.slice ao l.length cap, .int .i64 a, .string ⟨k.toArray⟩] wx fun e w' => e = .returned (.tuple #[.string ⟨(partF l a k).1.toArray⟩, .bool (partF l a k).2]) ∧ Below wx.heap.size wx w') := fun a k wx hx => part_any l ao cap a k wx (HNq.out wx hx) (by omega)
  have HS : Hid (∀ wx, Below w.heap.size w wx → Calls Tryz.prog 16 #[.slice ao l.length cap] wx fun e w' => ∃ r, e = .returned r ∧ OI wx.heap.size wx w' r (signF l)) := fun wx hx => signers_any l ao cap wx (HNq.out wx hx) (by omega) h0
  have hpl := part_len hT 0 kPay
  have HPL : Hid (∀ (a : Int) (k : List UInt8), (partF l a k).1.length ≤ 1073741824) := fun a k => part_len hT a k
  have hsl := sign_len l
  obtain ⟨⟨P, b⟩, hPb⟩ : ∃ p, partF l 0 kPay = p := ⟨_, rfl⟩
  rw [hPb] at CP HF hpl
  dsimp only at CP HF hpl
  clear h hPb hT
  cases b with
  | false =>
    have HF2 : Hid (toksF l = ([], false)) := by show _ = _; rw [HF.out]; exact if_neg (by rintro ⟨h, _⟩; cases h)
    clear HF HP HS HNq HPL
    go_enter Tryz.func9, Tryz.ntmps9
    go_wp2_with fail
    refine CP.mono ?_
    clear CP
    rintro e w1 ⟨rfl, hB⟩
    have HB : Hid (Below w.heap.size w w1) := hB
    clear hB
    go_wp2
    go_ret2
    rw [HF2.out]
    exact ⟨⟨_, rfl, World.ownsRow_nil _ _ _ _⟩, HB.out⟩
  | true =>
    have HF1 : Hid (toksF l = if (signF l).all (hasF2 l) = true ∧ signF l ≠ [] then ((signF l).map (tokF l P), true) else ([], false)) := by
      show _ = _
      rw [HF.out]
      simp only [true_and]
    have HHF : Hid (∀ m : Nat, hasF2 l m = ((partF l (m : Int) kPro).2 && (partF l (m : Int) kSig).2)) := fun m => rfl
    have HTF : Hid (∀ m : Nat, tokF l P m = (partF l (m : Int) kPro).1 ++ 46 :: (P ++ 46 :: (partF l (m : Int) kSig).1)) := fun m => rfl
    have HAD : Hid (∀ j, j < (signF l).length → ((signF l).drop j).all (hasF2 l) = (hasF2 l ((signF l).getD j 0) && ((signF l).drop (j + 1)).all (hasF2 l))) := fun j hj => all_dropN hj
    have HTM0 : Hid (∀ j, j < (signF l).length → ((signF l).take (j + 1)).map (tokF l P) = ((signF l).take j).map (tokF l P) ++ [tokF l P ((signF l).getD j 0)]) := fun j hj => take_mapG hj
    clear HF
    go_enter Tryz.func9, Tryz.ntmps9
    go_wp2_with fail
    refine CP.mono ?_
    clear CP
    rintro e w1 ⟨rfl, hB⟩
    have HB : Hid (Below w.heap.size w w1) := hB
    have CS := HS.out w1 hB
    generalize signF l = L at *
    clear hB HS HNq
    go_wp2_with fail
    refine CS.mono ?_
    clear CS
    rintro e w2 ⟨r, rfl, hoi⟩
    obtain ⟨ka, kc, rfl, hkc, hkat⟩ := hoi.at
    have HAT : Hid (∀ wx, Below w2.heap.size w2 wx → ∀ j, j < L.length → ∃ g, ka = some ⟨g, 0, none⟩ ∧ wx.cell? ⟨g, j, none⟩ = some (iV (L.getD j 0))) := fun wx hx j hj => by
      obtain ⟨g', e, hc⟩ := hkat j hj
      exact ⟨g', e, cell_but hc fun _ => hx.block g' (World.block_lt_of_cell? _ _ hc)⟩
    have HB2 : Hid (Below w.heap.size w w2) := HB.out.trans (hoi.bel.mono HB.out.size)
    clear hoi hkat HB
    go_wp2
    go_loopw [23, 6] (fun s23 s6 wx => ∃ j : Nat, s23 = .int .i64 j ∧ j ≤ L.length ∧ OT w2.heap.size wx s6 ((L.take j).map (tokF l P)) ∧ Below w2.heap.size w2 wx ∧ (L.drop j).all (hasF2 l) = L.all (hasF2 l)) (fun x _ _ => L.length - (intOf x).toNat)
    case atStart => exact ⟨0, rfl, Nat.zero_le _, World.ownsRow_nil _ _ _ _, Below.refl _ _, rfl⟩
    case round =>
      obtain ⟨j, rfl, hj, ho, hb, hd⟩ := hrel
      have HO : Hid (OT w2.heap.size wr _ ((L.take j).map (tokF l P))) := ho
      have HBr : Hid (Below w2.heap.size w2 wr) := hb
      obtain ⟨va, vc, rfl, _, _⟩ := own_slice ho
      rw [List.length_map, List.length_take_of_le hj] at HO ⊢
      have HBq : Hid (∀ wx, Below w2.heap.size w2 wx → Below w.heap.size w wx) := fun wx hx => HB2.out.trans (hx.mono HB2.out.size)
      by_cases hjl : j < L.length
      · have q1 : decide ((j : Int) < (L.length : Int)) = true := by simp; omega
        obtain ⟨kg, rfl, ckj⟩ := HAT.out wr hb j hjl
        have htm := HTM0.out j hjl
        have had := HAD.out j hjl
        rw [had] at hd
        generalize L.getD j 0 = m at *
        have hh := HHF.out m
        have ht := HTF.out m
        have C1 := HP.out (m : Int) kPro wr (HBq.out wr hb)
        have HC2 : Hid (∀ wx, Below w2.heap.size w2 wx → Calls Tryz.prog 15 #[.slice ao l.length cap, .int .i64 (m : Int), .string ⟨kSig.toArray⟩] wx fun e w' => e = .returned (.tuple #[.string ⟨(partF l m kSig).1.toArray⟩, .bool (partF l m kSig).2]) ∧ Below wx.heap.size wx w') := fun wx hx => HP.out (m : Int) kSig wx (HBq.out wx hx)
        have l1 := HPL.out (m : Int) kPro
        have l2 := HPL.out (m : Int) kSig
        obtain ⟨⟨x1, b1⟩, e1⟩ : ∃ p, partF l (m : Int) kPro = p := ⟨_, rfl⟩
        obtain ⟨⟨x2, b2⟩, e2⟩ : ∃ p, partF l (m : Int) kSig = p := ⟨_, rfl⟩
        rw [e1] at C1 hh ht l1
        rw [e2] at HC2 hh ht l2
        dsimp only at C1 HC2 hh ht l1 l2
        unfold iV at ckj
        rw [hh] at hd
        rw [ht] at htm
        have HD : Hid ((b1 && b2 && (L.drop (j + 1)).all (hasF2 l)) = L.all (hasF2 l)) := hd
        generalize hT : (L.take j).map (tokF l P) = T at *
        have hTl : T.length = j := by rw [← hT]; simp; omega
        have HTl : Hid (T.length = j) := hTl
        have HTM : Hid ((L.take (j + 1)).map (tokF l P) = T ++ [x1 ++ 46 :: (P ++ 46 :: x2)]) := htm
        clear hd had ho hb hh ht e1 e2 htm hT hTl
        go_wp2_with fail
        refine C1.mono ?_
        clear C1 ckj
        rintro e w3 ⟨rfl, hB3⟩
        have hb3 : Below w2.heap.size w2 w3 := HBr.out.trans (hB3.mono HBr.out.size)
        have HO3 : Hid (OT w2.heap.size w3 (.slice va j vc) T) := own_below HO.out hB3 (Nat.le_refl _)
        have HB3 : Hid (Below w2.heap.size w2 w3) := hb3
        have C2 := HC2.out w3 hb3
        clear hb3 hB3 HO HC2
        go_wp2_with fail
        refine C2.mono ?_
        clear C2
        rintro e w4 ⟨rfl, hB4⟩
        have hb4 : Below w2.heap.size w2 w4 := HB3.out.trans (hB4.mono HB3.out.size)
        have HO4 : Hid (OT w2.heap.size w4 (.slice va j vc) T) := own_below HO3.out hB4 (Nat.le_refl _)
        have HB4 : Hid (Below w2.heap.size w2 w4) := hb4
        clear hB4 HO3 HB3
        cases b1 with
        | false =>
          have HA0 : Hid (L.all (hasF2 l) = false) := HD.out.symm
          have HX : Hid (toksF l = ([], false)) := by show _ = _; rw [HF1.out]; exact if_neg (by rw [HA0.out]; rintro ⟨h, _⟩; cases h)
          have HBz : Hid (Below w.heap.size w w4) := HBq.out w4 hb4
          clear HD hb4 HF1
          go_wp2
          go_ret2
          rw [HX.out]
          exact ⟨⟨_, rfl, World.ownsRow_nil _ _ _ _⟩, HBz.out⟩
        | true =>
          cases b2 with
          | false =>
            have HA0 : Hid (L.all (hasF2 l) = false) := HD.out.symm
            have HX : Hid (toksF l = ([], false)) := by show _ = _; rw [HF1.out]; exact if_neg (by rw [HA0.out]; rintro ⟨h, _⟩; cases h)
            have HBz : Hid (Below w.heap.size w w4) := HBq.out w4 hb4
            clear HD hb4 HF1
            go_wp2
            go_ret2
            rw [HX.out]
            exact ⟨⟨_, rfl, World.ownsRow_nil _ _ _ _⟩, HBz.out⟩
          | true =>
            have HD2 : Hid ((L.drop (j + 1)).all (hasF2 l) = L.all (hasF2 l)) := HD.out
            have HA : Hid ((⟨x1.toArray⟩ : ByteArray) ++ ⟨#[46]⟩ ++ ⟨P.toArray⟩ ++ ⟨#[46]⟩ ++ ⟨x2.toArray⟩ = ⟨(x1 ++ 46 :: (P ++ 46 :: x2)).toArray⟩) := by
              show (⟨x1.toArray⟩ : ByteArray) ++ ⟨([46] : List UInt8).toArray⟩ ++ ⟨P.toArray⟩ ++ ⟨([46] : List UInt8).toArray⟩ ++ ⟨x2.toArray⟩ = _
              rw [sapp4, sapp4, sapp4, sapp4]
              simp
            obtain ⟨tk, htk⟩ : ∃ t, x1 ++ 46 :: (P ++ 46 :: x2) = t := ⟨_, rfl⟩
            rw [htk] at HA HTM
            have ho1 : OT w2.heap.size (w4.alloc (.cells #[.string ⟨tk.toArray⟩] 9)) (.slice va j vc) T := World.ownsRow.alloc HO4.out _
            have hsz : w2.heap.size ≤ (w4.alloc (.cells #[.string ⟨tk.toArray⟩] 9)).heap.size := by rw [alloc_size]; have := hb4.size; omega
            have hBa : Below w2.heap.size w2 (w4.alloc (.cells #[.string ⟨tk.toArray⟩] 9)) := hb4.trans ((alloc_below _ _).mono hb4.size)
            clear HD hb4 htk
            go_wp2_with (at_builtin; rw [HA.out]; refine append_txt (wr := w4.alloc (.cells #[.string ⟨tk.toArray⟩] 9)) rfl (.tmp 45) (.tmp 53) rfl w2.heap.size (.slice va j vc) T rfl ho1 (some ⟨w4.heap.size, 0, none⟩) 1 [tk] rfl (one_txt w4 tk) (fun h => by cases h) (by rw [HTl.out]; simp only [List.length_cons, List.length_nil]; omega) hsz ?_; intro v1 w5 ho5 hg5; have HO5 : Hid (OT w2.heap.size w5 v1 (T ++ [tk])) := ho5; have HB5 : Hid (Below w2.heap.size w2 w5) := hBa.grown hg5 hsz (own_block ho1); clear ho5 hg5 ho1 hBa hsz)
            go_roundw
            case rel => exact ⟨j + 1, by go_num, by omega, by rw [HTM.out]; exact HO5.out, HB5.out, HD2.out⟩
            case measure => simp [intOf]; omega
      · have q1 : decide ((j : Int) < (L.length : Int)) = false := by simp; omega
        have HA2 : Hid (L.all (hasF2 l) = true) := by show _ = _; rw [← hd, List.drop_eq_nil_of_le (by omega)]; rfl
        have HX : Hid (OT w2.heap.size wr (.slice va j vc) (L.map (tokF l P))) := by
          have := HO.out
          rwa [List.take_of_length_le (by omega)] at this
        have hjL : j = L.length := by omega
        have HSz : Hid (w.heap.size ≤ w2.heap.size) := HB2.out.size
        have HBz : Hid (Below w.heap.size w wr) := HB2.out.trans (hb.mono HB2.out.size)
        by_cases hL : L = []
        · have hj0 : j = 0 := by rw [hjL, hL]; rfl
          subst hj0
          have HY : Hid (toksF l = ([], false)) := by show _ = _; rw [HF1.out]; exact if_neg (fun h => h.2 hL)
          have HX0 : Hid (OT w2.heap.size wr (.slice va 0 vc) []) := by
            have := HX.out
            rwa [hL] at this
          clear ho hb HO hd HX HF1 hjL hL
          go_wp2
          go_ret2
          rw [HY.out]
          exact ⟨⟨_, rfl, own_mono HX0.out HSz.out⟩, HBz.out⟩
        · have hpos : 0 < j := by rw [hjL]; exact List.length_pos_iff.2 hL
          have q2 : decide ((j : Int) > 0) = true := decide_eq_true (by omega)
          have q3 : decide (0 < j) = true := decide_eq_true hpos
          have HY : Hid (toksF l = (L.map (tokF l P), true)) := by show _ = _; rw [HF1.out]; exact if_pos ⟨HA2.out, hL⟩
          clear ho hb HO hd HF1 hL hjL
          go_wp2
          go_ret2
          rw [HY.out]
          exact ⟨⟨_, rfl, own_mono HX.out HSz.out⟩, HBz.out⟩

set_option maxRecDepth 100000 in
set_option maxHeartbeats 8000000 in
/-- Tokens, at any text. -/
theorem tokens_any (t : List UInt8) (w : World) (hG : GL w.heap.size w) :
    Calls Tryz.prog 4 #[.string ⟨t.toArray⟩] w fun e w' => (∃ v, e = .returned (.tuple #[v, .int .i64 ((tokensF t).2 : Int)]) ∧ OT w.heap.size w' v (tokensF t).1) ∧ Below w.heap.size w w' := by
  have CJ := parse_all t w hG
  obtain ⟨hbd, htb⟩ := parse_bd t
  have HF : Hid (tokensF t = if (parseF t).2.1 ≠ 0 then ([], (parseF t).2.1) else if (toksF (parseF t).1).2 = true then ((toksF (parseF t).1).1, 0) else ([], 140)) := rfl
  have HV : Hid ((parseF t).2.1 = 0 → 0 < (parseF t).1.length) := fun h => (all_of (parse_val h) hbd).1
  generalize parseF t = pf at *
  obtain ⟨X, c, p⟩ := pf
  dsimp only at *
  clear hG
  by_cases hc : c = 0
  · subst hc
    have h0 := HV.out rfl
    have HC : Hid (∀ ao cap wx, NR wx (.slice ao X.length cap) X ao cap → Calls Tryz.prog 9 #[.slice ao X.length cap] wx fun e w' => (∃ v, e = .returned (.tuple #[v, .bool (toksF X).2]) ∧ OT wx.heap.size w' v (toksF X).1) ∧ Below wx.heap.size wx w') := fun ao cap wx hn => tokensOf_any X ao cap wx hn (by omega) h0 htb
    have HF1 : Hid (tokensF t = if (toksF X).2 = true then ((toksF X).1, 0) else ([], 140)) := by show _ = _; rw [HF.out]; exact if_neg (by simp)
    generalize toksF X = tf at *
    obtain ⟨TL, b⟩ := tf
    dsimp only at *
    clear HF HV htb
    go_enter Tryz.func4, Tryz.ntmps4
    go_wp2_with fail
    refine CJ.mono ?_
    clear CJ
    rintro e w1 ⟨hB1, v1, rfl, hO1⟩
    obtain ⟨a1, c1, hN1⟩ := hO1.nr
    obtain ⟨rfl, _, _⟩ := id hN1
    have HB1 : Hid (Below w.heap.size w w1) := hB1
    have C2 := HC.out a1 c1 w1 hN1
    clear hO1 hN1 hB1 HC
    go_wp2_with fail
    refine C2.mono ?_
    clear C2
    rintro e w2 ⟨⟨v2, rfl, hot⟩, hB2⟩
    have HS : Hid (w.heap.size ≤ w1.heap.size) := HB1.out.size
    have HB2 : Hid (Below w.heap.size w w2) := HB1.out.trans (hB2.mono HB1.out.size)
    have HO : Hid (OT w1.heap.size w2 v2 TL) := hot
    clear hot hB2
    cases b with
    | false =>
      have HX : Hid (tokensF t = ([], 140)) := HF1.out
      clear HF1
      go_wp2
      go_ret2
      rw [HX.out]
      exact ⟨⟨_, rfl, World.ownsRow_nil _ _ _ _⟩, HB2.out⟩
    | true =>
      have HX : Hid (tokensF t = (TL, 0)) := HF1.out
      clear HF1
      go_wp2
      go_ret2
      rw [HX.out]
      exact ⟨⟨_, rfl, own_mono HO.out HS.out⟩, HB2.out⟩
  · have HX : Hid (tokensF t = ([], c)) := by show _ = _; rw [HF.out]; exact if_pos hc
    have qc : ((c : Int) != 0) = true := by simp; omega
    clear HF HV htb
    go_enter Tryz.func4, Tryz.ntmps4
    go_wp2_with fail
    refine CJ.mono ?_
    clear CJ
    rintro e w1 ⟨hB1, v1, rfl, hO1⟩
    have HB1 : Hid (Below w.heap.size w w1) := hB1
    clear hO1 hB1
    go_wp2
    go_ret2
    rw [HX.out]
    exact ⟨⟨_, rfl, World.ownsRow_nil _ _ _ _⟩, HB1.out⟩

end Go.Proofs.YtapljedegjiliaaGreatDoor
