import Derived.Test.YtapljedegjiliaaGreatDoorBc
import Derived.Test.YtapljedegjiliaaGreatDoorDy
import Derived.Test.YtapljedegjiliaaGreatDoorDT
namespace Go.Proofs.YtapljedegjiliaaGreatDoor
open Go.RowKit Go.Shelf

theorem count_take {t : List UInt8} {k : Nat} (h : k < t.length) : (t.take (k + 1)).count 46 = (t.take k).count 46 + if t[k] = 46 then 1 else 0 := by
  rw [List.take_succ_eq_append_getElem h, List.count_append, List.count_singleton]
  congr 1
  by_cases hx : t[k] = 46
  · rw [if_pos hx, if_pos (by simpa using hx)]
  · rw [if_neg hx, if_neg (by simpa using hx)]
set_option maxRecDepth 100000 in
set_option maxHeartbeats 8000000 in
theorem rdots_any (t : List UInt8) (w : World) (hl : t.length ≤ 1000000000000) : Calls Tryz.prog 19 #[.string ⟨t.toArray⟩] w fun e w' => e = .returned (.int .i64 (t.count 46 : Nat)) ∧ w' = w := by
  have HS : Hid (∀ k (h : k < t.length), (t.take (k + 1)).count 46 = (t.take k).count 46 + if t[k] = 46 then 1 else 0) := fun k h => count_take h
  have HL : Hid (∀ k, (t.take k).count 46 ≤ t.length) := fun k => by
    have h1 := List.count_le_length (a := (46 : UInt8)) (l := t.take k)
    rw [List.length_take] at h1
    omega
  go_enter Tryz.func19, Tryz.ntmps19
  go_wp2
  go_loopw [4, 3] (fun s4 s3 wx => ∃ k : Nat, s4 = .int .i64 k ∧ k ≤ t.length ∧ s3 = .int .i64 ((t.take k).count 46 : Nat) ∧ wx = w) (fun x _ _ => t.length - (intOf x).toNat)
  case atStart => exact ⟨0, rfl, Nat.zero_le _, rfl, rfl⟩
  case round =>
    obtain ⟨k, rfl, hk, rfl, rfl⟩ := hrel
    have hln := HL.out k
    by_cases hlt : k < t.length
    · have d1 : decide ((k : Int) < (t.length : Int)) = true := decide_eq_true (by omega)
      have hs := HS.out k hlt
      obtain ⟨x, Hx⟩ : ∃ x, Hid (t[k] = x) := ⟨t[k], rfl⟩
      have gx : (⟨t.toArray⟩ : ByteArray)[k]'(by show k < t.toArray.size; simpa using hlt) = x := by rw [← Hx.out]; simp [ByteArray.getElem_eq_getElem_data]
      rw [Hx.out] at hs
      generalize (t.take k).count 46 = n at *
      by_cases hx : x = 46
      · subst hx
        rw [if_pos rfl] at hs
        have HN : Hid ((t.take (k + 1)).count 46 = n + 1) := hs
        clear hs Hx
        go_wp2
        go_roundw
        case rel => exact ⟨k + 1, by go_num, by omega, by rw [HN.out]; go_num, trivial⟩
        case measure => simp [intOf]; omega
      · have hx2 : ((x.toNat : Int) == 46) = false := by
          rw [beq_eq_false_iff_ne]
          intro e
          exact hx (UInt8.toNat_inj.1 (by have : (46 : UInt8).toNat = 46 := rfl; omega))
        rw [if_neg hx] at hs
        have HN : Hid ((t.take (k + 1)).count 46 = n) := hs
        clear hs Hx hx
        go_wp2
        go_roundw
        case rel => exact ⟨k + 1, by go_num, by omega, by rw [HN.out], trivial⟩
        case measure => simp [intOf]; omega
    · have d1 : decide ((k : Int) < (t.length : Int)) = false := decide_eq_false (by omega)
      have hkt : t.take k = t := List.take_of_length_le (by omega)
      rw [hkt]
      clear HS HL hln hkt
      go_wp2
      go_ret
      exact ⟨rfl, rfl⟩

set_option maxRecDepth 100000 in
set_option maxHeartbeats 8000000 in
theorem rstr_any (l : List Nd) (ao : Option Addr) (cap a : Nat) (k : List UInt8) (w : World) (h : NR w (.slice ao l.length cap) l ao cap) (hl : l.length ≤ 262144) (hA : ∀ i, i < l.length → At l i) (ha : a < l.length) (hT : TB l) :
    Calls Tryz.prog 11 #[.slice ao l.length cap, .int .i64 (a : Int), .string ⟨k.toArray⟩] w fun e w' => e = .returned (.tuple #[.string ⟨(partF l (a : Int) k).1.toArray⟩, .bool (partF l (a : Int) k).2]) ∧ Below w.heap.size w w' := by
  have CM := rmember_any l ao cap a k w h hl hA ha
  have HN : Hid (NR w (.slice ao l.length cap) l ao cap) := h
  rcases mem_lt l (a : Int) k with e | ⟨i, hil, e⟩
  · have HF : Hid (partF l (a : Int) k = ([], false)) := by show _ = _; unfold partF; rw [e]; exact if_pos (by decide)
    rw [e] at CM
    clear h e hA
    go_enter Tryz.func11, Tryz.ntmps11
    go_wp2_with fail
    refine CM.mono ?_
    clear CM
    rintro e w1 ⟨rfl, hB⟩
    have HB : Hid (Below w.heap.size w w1) := hB
    clear hB HN
    go_wp2
    go_ret2
    rw [HF.out]
    exact ⟨rfl, HB.out⟩
  · obtain ⟨n, hn⟩ : ∃ n, l.getD i (nd0 0) = n := ⟨_, rfl⟩
    have hnl := (hT.at hil).1
    rw [hn] at hnl
    have HF : Hid (partF l (a : Int) k = if n.kind ≠ 5 then ([], false) else if 0 < n.text.count 46 then ([], false) else (n.text, true)) := by show _ = _; unfold partF; rw [e, Int.toNat_natCast, hn]; exact if_neg (by omega)
    have q0 : decide ((i : Int) < 0) = false := decide_eq_false (by omega)
    rw [e] at CM
    clear h e hA
    go_enter Tryz.func11, Tryz.ntmps11
    go_wp2_with fail
    refine CM.mono ?_
    clear CM
    rintro e w1 ⟨rfl, hB⟩
    have HB : Hid (Below w.heap.size w w1) := hB
    obtain ⟨g, off, rfl, hc2⟩ := (HN.out.below hB (Nat.le_refl _)).at hil
    rw [hn] at hc2
    have ck0 := hc2 0 (.int .i64 n.kind) (by omega) rfl
    have ck2 := hc2 2 (.string ⟨n.text.toArray⟩) (by omega) rfl
    rw [Nat.add_zero] at ck0
    clear hB HN hc2 hn
    by_cases h5 : n.kind = 5
    · have q5 : (n.kind != 5) = false := by simpa using h5
      have CD := rdots_any n.text w1 (by omega)
      by_cases hd : 0 < n.text.count 46
      · have HF2 : Hid (partF l (a : Int) k = ([], false)) := by show _ = _; rw [HF.out, if_neg (by simpa using h5)]; exact if_pos hd
        have qd : decide ((n.text.count 46 : Int) > 0) = true := decide_eq_true (by omega)
        have qd2 : decide (0 < n.text.count 46) = true := decide_eq_true hd
        generalize n.text.count 46 = dn at *
        clear HF h5 hd
        go_wp2_with fail
        refine CD.mono ?_
        clear CD
        rintro e w2 ⟨rfl, rfl⟩
        go_wp2
        go_ret2
        rw [HF2.out]
        exact ⟨rfl, HB.out⟩
      · have HF2 : Hid (partF l (a : Int) k = (n.text, true)) := by show _ = _; rw [HF.out, if_neg (by simpa using h5)]; exact if_neg hd
        have qd : decide ((n.text.count 46 : Int) > 0) = false := decide_eq_false (by omega)
        have qd2 : decide (0 < n.text.count 46) = false := decide_eq_false hd
        generalize n.text.count 46 = dn at *
        clear HF h5 hd
        go_wp2_with fail
        refine CD.mono ?_
        clear CD
        rintro e w2 ⟨rfl, rfl⟩
        go_wp2
        go_ret2
        rw [HF2.out]
        exact ⟨rfl, HB.out⟩
    · have q5 : (n.kind != 5) = true := by simpa using h5
      have HF2 : Hid (partF l (a : Int) k = ([], false)) := by show _ = _; rw [HF.out]; exact if_pos h5
      clear HF h5
      go_wp2
      go_ret2
      rw [HF2.out]
      exact ⟨rfl, HB.out⟩


/-- Is it one that signs? -/
def okG (l : List Nd) (i : Nat) : Bool := hasF2 l i && decide ((l.getD i (nd0 0)).kids = 2)
theorem all_and (l : List Nd) : ∀ L : List Nat, L.all (okG l) = (L.all (hasF2 l) && L.all (fun i => decide ((l.getD i (nd0 0)).kids = 2)))
  | [] => rfl
  | x :: r => by
    simp only [List.all_cons, all_and l r, okG]
    cases hasF2 l x <;> cases decide ((l.getD x (nd0 0)).kids = 2) <;> cases r.all (hasF2 l) <;> rfl
theorem toks_flat {l : List Nd} {P x1 x2 : List UInt8} {b1 b2 : Bool} (hp : partF l 0 kPay = (P, true)) (h1 : partF l 0 kPro = (x1, b1)) (h2 : partF l 0 kSig = (x2, b2)) (h3 : (l.getD 0 (nd0 0)).kids = 3) :
    toksF l = if (b1 && b2) = true then ([x1 ++ 46 :: (P ++ 46 :: x2)], true) else ([], false) := by
  have hs : signF l = [0] := by unfold signF; exact if_pos h3
  have hh : hasF2 l 0 = (b1 && b2) := by
    unfold hasF2
    rw [show ((0 : Nat) : Int) = 0 from rfl, h1, h2]
  have ht : tokF l P 0 = x1 ++ 46 :: (P ++ 46 :: x2) := by
    unfold tokF
    rw [show ((0 : Nat) : Int) = 0 from rfl, h1, h2]
  unfold toksF
  rw [hp, hs]
  simp only [List.all_cons, List.all_nil, Bool.and_true, hh, ht, List.map_cons, List.map_nil, true_and, ne_eq, List.cons_ne_self, not_false_iff, and_true]
  try (cases b1 <;> cases b2 <;> rfl)
theorem toks_bad {l : List Nd} {s : Int} (hs : memF l 0 kSgs = s) (hA : ∀ i : Nat, s = (i : Int) → At l i)
    (h3 : (l.getD 0 (nd0 0)).kids = 3 → (toksF l) = ([], false)) (hb : s < 0 ∨ (l.getD s.toNat (nd0 0)).kind ≠ 6 ∨ (l.getD 0 (nd0 0)).kids ≠ 2 ∨ (l.getD s.toNat (nd0 0)).kids = 0 ∨ 16 < (l.getD s.toNat (nd0 0)).kids) : toksF l = ([], false) := by
  by_cases hk : (l.getD 0 (nd0 0)).kids = 3
  · exact h3 hk
  · have he : signF l = [] := by
      unfold signF
      rw [if_neg hk, hs]
      split
      · rfl
      · rename_i hn
        have hnn : 0 ≤ s := by
          by_cases h : s < 0
          · exact absurd (Or.inl h) hn
          · omega
        obtain ⟨i, rfl⟩ : ∃ i : Nat, s = (i : Int) := ⟨s.toNat, by omega⟩
        rw [Int.toNat_natCast] at hn hb
        have hk0 : (l.getD i (nd0 0)).kids = 0 := by
          rcases hb with h | h | h | h | h
          · omega
          · exact absurd (Or.inr (Or.inr (Or.inl h))) hn
          · exact absurd (Or.inr (Or.inl h)) hn
          · exact h
          · exact absurd (Or.inr (Or.inr (Or.inr h))) hn
        have hln := (hA i rfl).ln
        rw [hk0] at hln
        have hL : kidsF l (i : Int) = [] := List.eq_nil_of_length_eq_zero (by omega)
        rw [hL]
        split <;> rfl
    unfold toksF
    rw [he]
    exact if_neg (fun h => h.2.2 rfl)
theorem toks_loop {l : List Nd} {P : List UInt8} {i : Nat} (hp : partF l 0 kPay = (P, true)) (hs : memF l 0 kSgs = (i : Int)) (hA : At l i)
    (h2 : (l.getD 0 (nd0 0)).kids = 2) (h6 : (l.getD i (nd0 0)).kind = 6) (h0 : (l.getD i (nd0 0)).kids ≠ 0) (h16 : ¬ 16 < (l.getD i (nd0 0)).kids) :
    toksF l = if (kidsF l (i : Int)).all (okG l) = true then ((kidsF l (i : Int)).map (tokF l P), true) else ([], false) := by
  have hne : kidsF l (i : Int) ≠ [] := fun e => by
    have := hA.ln
    rw [e] at this
    exact h0 this.symm
  have he : signF l = if (kidsF l (i : Int)).all (fun i => decide ((l.getD i (nd0 0)).kids = 2)) = true then kidsF l (i : Int) else [] := by
    unfold signF
    rw [if_neg (by omega), hs, Int.toNat_natCast]
    exact if_neg (by rintro (h | h | h | h); omega; exact h h2; exact h h6; exact h16 h)
  unfold toksF
  rw [hp, he, all_and]
  dsimp only
  cases hk : (kidsF l (i : Int)).all (fun i => decide ((l.getD i (nd0 0)).kids = 2)) with
  | false => simp
  | true => simp [hne]

set_option maxRecDepth 100000 in
set_option maxHeartbeats 16000000 in
/-- The document's Tokens, at any text. -/
theorem rtokens_any (t : List UInt8) (w : World) :
    Calls Tryz.prog 5 #[.string ⟨t.toArray⟩] w fun e w' => (∃ v, e = .returned (.tuple #[v, .int .i64 ((tokensF t).2 : Int)]) ∧ OT w.heap.size w' v (tokensF t).1) ∧ Below w.heap.size w w' := by
  have CJ : Calls Tryz.prog 10 #[.string ⟨t.toArray⟩] w fun e w' => Below w.heap.size w w' ∧ ∃ v, e = .returned (.tuple #[v, .int .i64 ((parseF t).2.1 : Int), .int .i64 ((parseF t).2.2 : Int)]) ∧ NO w.heap.size w' v (parseF t).1 := by
    rw [← dparse_eq t]
    exact rparse_any t w
  obtain ⟨hbd, htb⟩ := parse_bd t
  have HF : Hid (tokensF t = if (parseF t).2.1 ≠ 0 then ([], (parseF t).2.1) else if (toksF (parseF t).1).2 = true then ((toksF (parseF t).1).1, 0) else ([], 140)) := rfl
  have HV : Hid ((parseF t).2.1 = 0 → Sq 0 [[]] (parseF t).1) := fun h => parse_val h
  generalize parseF t = pf at *
  obtain ⟨l, c, p⟩ := pf
  dsimp only at *
  by_cases hc : c = 0
  · subst hc
    have hsq := HV.out rfl
    have h0 := (all_of hsq hbd).1
    have hA : ∀ i, i < l.length → At l i := fun i hi => at_of hsq hbd hi
    have HF1 : Hid (tokensF t = if (toksF l).2 = true then ((toksF l).1, 0) else ([], 140)) := by show _ = _; rw [HF.out]; exact if_neg (by simp)
    have HP : Hid (∀ (a : Nat) (k : List UInt8) ao cap wx, a < l.length → NR wx (.slice ao l.length cap) l ao cap → Calls Tryz.prog 11 #[.slice ao l.length cap, .int .i64 (a : Int), .string ⟨k.toArray⟩] wx fun e w' => e = .returned (.tuple #[.string ⟨(partF l (a : Int) k).1.toArray⟩, .bool (partF l (a : Int) k).2]) ∧ Below wx.heap.size wx w') := fun a k ao cap wx ha hn => rstr_any l ao cap a k wx hn hbd hA ha htb
    have HM : Hid (∀ ao cap wx, NR wx (.slice ao l.length cap) l ao cap → Calls Tryz.prog 12 #[.slice ao l.length cap, .int .i64 0, .string ⟨kSgs.toArray⟩] wx fun e w' => e = .returned (.int .i64 (memF l 0 kSgs)) ∧ Below wx.heap.size wx w') := fun ao cap wx hn => rmember_any l ao cap 0 kSgs wx hn hbd hA h0
    have HK : Hid (∀ (i : Nat) ao cap wx, i < l.length → NR wx (.slice ao l.length cap) l ao cap → Calls Tryz.prog 13 #[.slice ao l.length cap, .int .i64 (i : Int)] wx fun e w' => ∃ r, e = .returned r ∧ OI wx.heap.size wx w' r (kidsF l (i : Int))) := fun i ao cap wx hi hn => rkids_any l ao cap i wx hn hbd hA hi
    have HPL : Hid (∀ (a : Int) (k : List UInt8), (partF l a k).1.length ≤ 1073741824) := fun a k => part_len htb a k
    have HAt : Hid (∀ i, i < l.length → At l i) := hA
    have hl0 : (0 : Int) < (l.length : Int) := by omega
    clear HF HV hsq hA htb
    go_enter Tryz.func5, Tryz.ntmps5
    go_wp2_with fail
    refine CJ.mono ?_
    clear CJ
    rintro e w1 ⟨hB1, v1, rfl, hO1⟩
    obtain ⟨a1, cap, hN1⟩ := hO1.nr
    obtain ⟨rfl, _, _⟩ := id hN1
    obtain ⟨g, off, rfl, _⟩ := hN1.at h0
    have HN : Hid (∀ wx, Below w1.heap.size w1 wx → NR wx (.slice (some ⟨g, off, none⟩) l.length cap) l (some ⟨g, off, none⟩) cap) := fun wx hx => hN1.below hx (Nat.le_refl _)
    have HB1 : Hid (Below w.heap.size w w1) := hB1
    have HBq : Hid (∀ wx, Below w1.heap.size w1 wx → Below w.heap.size w wx) := fun wx hx => hB1.trans (hx.mono hB1.size)
    have HSz : Hid (w.heap.size ≤ w1.heap.size) := hB1.size
    have CP := HP.out 0 kPay _ cap w1 h0 hN1
    rw [Int.natCast_zero] at CP
    have lP := HPL.out 0 kPay
    obtain ⟨⟨P, b⟩, hPb⟩ : ∃ p, partF l 0 kPay = p := ⟨_, rfl⟩
    rw [hPb] at CP lP
    dsimp only at CP lP
    have HPb : Hid (partF l 0 kPay = (P, b)) := hPb
    clear hO1 hN1 hB1 hPb
    go_wp2_with fail
    refine CP.mono ?_
    clear CP
    rintro e w2 ⟨rfl, hB2⟩
    have HB2 : Hid (Below w1.heap.size w1 w2) := hB2
    cases b with
    | false =>
      have HX : Hid (tokensF t = ([], 140)) := by
        show _ = _
        rw [HF1.out]
        have : toksF l = ([], false) := by
          unfold toksF
          rw [HPb.out]
          exact if_neg (by rintro ⟨h, _⟩; cases h)
        rw [this]; rfl
      have HBz : Hid (Below w.heap.size w w2) := HBq.out w2 hB2
      clear hB2 HF1 HP HM HK HPL HAt HN HBq
      go_wp2
      go_ret2
      rw [HX.out]
      exact ⟨⟨_, rfl, World.ownsRow_nil _ _ _ _⟩, HBz.out⟩
    | true =>
      have C1 := HP.out 0 kPro _ cap w2 h0 (HN.out w2 hB2)
      rw [Int.natCast_zero] at C1
      have l1 := HPL.out 0 kPro
      obtain ⟨⟨x1, b1⟩, e1⟩ : ∃ p, partF l 0 kPro = p := ⟨_, rfl⟩
      rw [e1] at C1 l1
      dsimp only at C1 l1
      have E1 : Hid (partF l 0 kPro = (x1, b1)) := e1
      clear hB2 e1
      go_wp2_with fail
      refine C1.mono ?_
      clear C1
      rintro e w3 ⟨rfl, hB3⟩
      have hb3 : Below w1.heap.size w1 w3 := HB2.out.trans (hB3.mono HB2.out.size)
      have HB3 : Hid (Below w1.heap.size w1 w3) := hb3
      have C2 := HP.out 0 kSig _ cap w3 h0 (HN.out w3 hb3)
      rw [Int.natCast_zero] at C2
      have l2 := HPL.out 0 kSig
      obtain ⟨⟨x2, b2⟩, e2⟩ : ∃ p, partF l 0 kSig = p := ⟨_, rfl⟩
      rw [e2] at C2 l2
      dsimp only at C2 l2
      have E2 : Hid (partF l 0 kSig = (x2, b2)) := e2
      clear hB3 hb3 e2 HB2
      go_wp2_with fail
      refine C2.mono ?_
      clear C2
      rintro e w4 ⟨rfl, hB4⟩
      have hb4 : Below w1.heap.size w1 w4 := HB3.out.trans (hB4.mono HB3.out.size)
      have HB4 : Hid (Below w1.heap.size w1 w4) := hb4
      obtain ⟨n0, hn0⟩ : ∃ n, l.getD 0 (nd0 0) = n := ⟨_, rfl⟩
      have HN0 : Hid (l.getD 0 (nd0 0) = n0) := hn0
      have HC5 : Hid (∀ wx, Below w1.heap.size w1 wx → wx.cell? ⟨g, off + 5, none⟩ = some (.int .i64 n0.kids)) := fun wx hx => by
        obtain ⟨g', off', e, hc'⟩ := (HN.out wx hx).at h0
        cases e
        rw [hn0, Nat.zero_mul, Nat.add_zero] at hc'
        exact hc' 5 (.int .i64 n0.kids) (by omega) rfl
      have c5 := HC5.out w4 hb4
      obtain ⟨fl, hfl⟩ : ∃ f : Bool, (b1 && b2 && (n0.kids == 3)) = f := ⟨_, rfl⟩
      have HFL : Hid ((b1 && b2 && (n0.kids == 3)) = fl) := hfl
      have CM := HM.out _ cap w4 (HN.out w4 hb4)
      obtain ⟨k3, hk3⟩ : ∃ f : Bool, (n0.kids == 3) = f := ⟨_, rfl⟩
      have HK3 : Hid ((n0.kids == 3) = k3) := hk3
      have HFL2 : Hid ((b1 && b2 && k3) = fl) := by show _ = _; rw [← hk3]; exact hfl
      clear hB4 hb4 hn0 HB3 hfl HM
      go_upto_region 9 with fail
      go_cut [57] from 47 to 57 (fun s wx => s = .bool fl ∧ wx = w4)
      case first =>
        cases b1
        · have HX : Hid (fl = false) := HFL2.out.symm
          clear HFL HFL2
          go_wp2
          go_meet
          exact ⟨by rw [HX.out], rfl⟩
        · cases b2
          · have HX : Hid (fl = false) := HFL2.out.symm
            clear HFL HFL2
            go_wp2
            go_meet
            exact ⟨by rw [HX.out], rfl⟩
          · have HX : Hid (k3 = fl) := HFL2.out
            clear HFL HFL2
            go_wp2
            go_meet
            exact ⟨by rw [← HX.out], rfl⟩
      case rest =>
      obtain ⟨rfl, hcw⟩ := hcut
      have hcw2 := hcw.symm
      subst hcw2
      clear hk3 HK3 HFL2
      cases fl with
      | true =>
        have HX : Hid (tokensF t = ([x1 ++ 46 :: (P ++ 46 :: x2)], 0)) := by
          show _ = _
          have h := HFL.out
          simp only [Bool.and_eq_true, beq_iff_eq] at h
          have hh : toksF l = ([x1 ++ 46 :: (P ++ 46 :: x2)], true) := by
            rw [toks_flat HPb.out E1.out E2.out (by rw [HN0.out]; exact h.2)]
            exact if_pos (by rw [h.1.1, h.1.2]; rfl)
          rw [HF1.out, hh]
          rfl
        have HA : Hid ((⟨x1.toArray⟩ : ByteArray) ++ ⟨#[46]⟩ ++ ⟨P.toArray⟩ ++ ⟨#[46]⟩ ++ ⟨x2.toArray⟩ = ⟨(x1 ++ 46 :: (P ++ 46 :: x2)).toArray⟩) := by
          show (⟨x1.toArray⟩ : ByteArray) ++ ⟨([46] : List UInt8).toArray⟩ ++ ⟨P.toArray⟩ ++ ⟨([46] : List UInt8).toArray⟩ ++ ⟨x2.toArray⟩ = _
          rw [sapp4, sapp4, sapp4, sapp4]
          simp
        obtain ⟨tk, htk⟩ : ∃ t, x1 ++ 46 :: (P ++ 46 :: x2) = t := ⟨_, rfl⟩
        rw [htk] at HA HX
        have HO : Hid (OT w.heap.size (w4.alloc (.cells #[.string ⟨tk.toArray⟩] 9)) (.slice (some ⟨w4.heap.size, 0, none⟩) 1 1) [tk]) := World.ownsRow_lit w4 #[.string ⟨tk.toArray⟩] 1 (Nat.le_trans HSz.out HB4.out.size) (by decide) rfl
        have HBz : Hid (Below w.heap.size w (w4.alloc (.cells #[.string ⟨tk.toArray⟩] 9))) := HBq.out _ (HB4.out.trans ((alloc_below _ _).mono HB4.out.size))
        clear HFL HF1 HP HK HPL HAt HN HBq HC5 c5 CM htk
        go_wp2
        go_ret2
        rw [HX.out, HA.out]
        exact ⟨⟨_, rfl, HO.out⟩, HBz.out⟩
      | false =>
        have H3 : Hid (n0.kids = 3 → toksF l = ([], false)) := fun h3 => by
          have h := HFL.out
          rw [show (n0.kids == 3) = true from by simpa using h3, Bool.and_true] at h
          rw [toks_flat HPb.out E1.out E2.out (by rw [HN0.out]; exact h3), if_neg (by rw [h]; decide)]
        have HBAD : Hid (∀ s : Int, memF l 0 kSgs = s → (s < 0 ∨ (l.getD s.toNat (nd0 0)).kind ≠ 6 ∨ n0.kids ≠ 2 ∨ (l.getD s.toNat (nd0 0)).kids = 0 ∨ 16 < (l.getD s.toNat (nd0 0)).kids) → tokensF t = ([], 140)) := fun s hs hb => by
          have : toksF l = ([], false) := toks_bad hs (fun i hi => by
            rcases mem_lt l 0 kSgs with e | ⟨k, hk, e⟩
            · omega
            · have : i = k := by omega
              subst this
              exact HAt.out i hk) (by rw [HN0.out]; exact H3.out) (by rw [HN0.out]; exact hb)
          rw [HF1.out, this]
          rfl
        have hml := mem_lt l 0 kSgs
        obtain ⟨s, hs⟩ : ∃ s, memF l 0 kSgs = s := ⟨_, rfl⟩
        rw [hs] at CM hml
        have HMs : Hid (memF l 0 kSgs = s) := hs
        clear HFL H3 hs E1 E2
        go_wp2_with fail
        refine CM.mono ?_
        clear CM c5
        rintro e w5 ⟨rfl, hB5⟩
        have hb5 : Below w1.heap.size w1 w5 := HB4.out.trans (hB5.mono HB4.out.size)
        have HB5 : Hid (Below w1.heap.size w1 w5) := hb5
        have c5 := HC5.out w5 hb5
        have HBz : Hid (Below w.heap.size w w5) := HBq.out w5 hb5
        clear hB5 HB4
        rcases hml with rfl | ⟨i, hil, rfl⟩
        · have HX : Hid (tokensF t = ([], 140)) := HBAD.out _ HMs.out (Or.inl (by decide))
          clear HBAD HF1 HP HK HPL HAt HN HBq HC5 hb5 HB5 HMs
          go_wp2
          go_ret2
          rw [HX.out]
          exact ⟨⟨_, rfl, World.ownsRow_nil _ _ _ _⟩, HBz.out⟩
        · have qs : decide ((i : Int) < 0) = false := decide_eq_false (by omega)
          obtain ⟨n, hn⟩ : ∃ n, l.getD i (nd0 0) = n := ⟨_, rfl⟩
          obtain ⟨g', off', e, hc2⟩ := (HN.out w5 hb5).at hil
          cases e
          have hbad := HBAD.out _ HMs.out
          rw [Int.toNat_natCast, hn] at hbad
          rw [hn] at hc2
          have HBD : Hid (((i : Int) < 0 ∨ n.kind ≠ 6 ∨ n0.kids ≠ 2 ∨ n.kids = 0 ∨ 16 < n.kids) → tokensF t = ([], 140)) := hbad
          have HNn : Hid (l.getD i (nd0 0) = n) := hn
          have ck0 := hc2 0 (.int .i64 n.kind) (by omega) rfl
          have ck5 := hc2 5 (.int .i64 n.kids) (by omega) rfl
          rw [Nat.add_zero] at ck0
          clear hc2 hn HBAD hbad
          by_cases h6 : n.kind = 6
          case neg =>
            have q6 : (n.kind != 6) = true := by simpa using h6
            have HX : Hid (tokensF t = ([], 140)) := HBD.out (Or.inr (Or.inl h6))
            clear HBD HF1 HP HK HPL HAt HN HBq HC5 hb5 HB5 HMs h6
            go_wp2
            go_ret2
            rw [HX.out]
            exact ⟨⟨_, rfl, World.ownsRow_nil _ _ _ _⟩, HBz.out⟩
          have q6 : (n.kind != 6) = false := by simpa using h6
          by_cases h2 : n0.kids = 2
          case neg =>
            have q2 : (n0.kids != 2) = true := by simpa using h2
            have HX : Hid (tokensF t = ([], 140)) := HBD.out (Or.inr (Or.inr (Or.inl h2)))
            clear HBD HF1 HP HK HPL HAt HN HBq HC5 hb5 HB5 HMs h6 h2
            go_wp2
            go_ret2
            rw [HX.out]
            exact ⟨⟨_, rfl, World.ownsRow_nil _ _ _ _⟩, HBz.out⟩
          have q2 : (n0.kids != 2) = false := by simpa using h2
          by_cases hk0 : n.kids = 0
          case pos =>
            have qk : (n.kids == 0) = true := by simpa using hk0
            have HX : Hid (tokensF t = ([], 140)) := HBD.out (Or.inr (Or.inr (Or.inr (Or.inl hk0))))
            clear HBD HF1 HP HK HPL HAt HN HBq HC5 hb5 HB5 HMs h6 h2 hk0
            go_wp2
            go_ret2
            rw [HX.out]
            exact ⟨⟨_, rfl, World.ownsRow_nil _ _ _ _⟩, HBz.out⟩
          have qk : (n.kids == 0) = false := by simpa using hk0
          by_cases h16 : 16 < n.kids
          case pos =>
            have q16 : decide (n.kids > 16) = true := decide_eq_true h16
            have HX : Hid (tokensF t = ([], 140)) := HBD.out (Or.inr (Or.inr (Or.inr (Or.inr h16))))
            clear HBD HF1 HP HK HPL HAt HN HBq HC5 hb5 HB5 HMs h6 h2 hk0 h16
            go_wp2
            go_ret2
            rw [HX.out]
            exact ⟨⟨_, rfl, World.ownsRow_nil _ _ _ _⟩, HBz.out⟩
          have q16 : decide (n.kids > 16) = false := decide_eq_false h16
          have HTL : Hid (tokensF t = if (kidsF l (i : Int)).all (okG l) = true then ((kidsF l (i : Int)).map (tokF l P), 0) else ([], 140)) := by
            show _ = _
            rw [HF1.out, toks_loop HPb.out HMs.out (HAt.out i hil) (by rw [HN0.out]; exact h2) (by rw [HNn.out]; exact h6) (by rw [HNn.out]; exact hk0) (by rw [HNn.out]; exact h16)]
            cases (kidsF l (i : Int)).all (okG l) <;> rfl
          have CK := HK.out i _ cap w5 hil (HN.out w5 hb5)
          have HLT : Hid (∀ x ∈ kidsF l (i : Int), x < l.length) := kidsF_lt
          have hkl := @kids_len l (i : Int)
          have HAD : Hid (∀ j, j < (kidsF l (i : Int)).length → ((kidsF l (i : Int)).drop j).all (okG l) = (okG l ((kidsF l (i : Int)).getD j 0) && ((kidsF l (i : Int)).drop (j + 1)).all (okG l))) := fun j hj => all_dropN hj
          have HTM0 : Hid (∀ j, j < (kidsF l (i : Int)).length → ((kidsF l (i : Int)).take (j + 1)).map (tokF l P) = ((kidsF l (i : Int)).take j).map (tokF l P) ++ [tokF l P ((kidsF l (i : Int)).getD j 0)]) := fun j hj => take_mapG hj
          have HHF : Hid (∀ m : Nat, okG l m = ((partF l (m : Int) kPro).2 && (partF l (m : Int) kSig).2 && decide ((l.getD m (nd0 0)).kids = 2))) := fun m => rfl
          have HTF : Hid (∀ m : Nat, tokF l P m = (partF l (m : Int) kPro).1 ++ 46 :: (P ++ 46 :: (partF l (m : Int) kSig).1)) := fun m => rfl
          generalize kidsF l (i : Int) = L at *
          clear HBD HF1 HK HAt HC5 hb5 HMs h6 h2 hk0 h16 HNn HN0 HPb
          go_wp2_with fail
          refine CK.mono ?_
          clear CK c5 ck0 ck5 HBz
          rintro e w6 ⟨r, rfl, hoi⟩
          obtain ⟨ka, kc, rfl, hkc, hkat⟩ := hoi.at
          have HAT : Hid (∀ wx, Below w6.heap.size w6 wx → ∀ j, j < L.length → ∃ g, ka = some ⟨g, 0, none⟩ ∧ wx.cell? ⟨g, j, none⟩ = some (iV (L.getD j 0))) := fun wx hx j hj => by
            obtain ⟨g', e, hc⟩ := hkat j hj
            exact ⟨g', e, cell_but hc fun _ => hx.block g' (World.block_lt_of_cell? _ _ hc)⟩
          have HB6 : Hid (Below w1.heap.size w1 w6) := HB5.out.trans (hoi.bel.mono HB5.out.size)
          have HN6 : Hid (∀ wx, Below w6.heap.size w6 wx → NR wx (.slice (some ⟨g, off, none⟩) l.length cap) l (some ⟨g, off, none⟩) cap) := fun wx hx => HN.out wx (HB6.out.trans (hx.mono HB6.out.size))
          have HBy : Hid (∀ wx, Below w6.heap.size w6 wx → Below w.heap.size w wx) := fun wx hx => HBq.out wx (HB6.out.trans (hx.mono HB6.out.size))
          have HS6 : Hid (w.heap.size ≤ w6.heap.size) := (HBq.out w6 HB6.out).size
          clear hoi hkat HB5 HN HBq
          go_wp2
          go_loopw [16, 14] (fun s16 s14 wx => ∃ j : Nat, s16 = .int .i64 j ∧ j ≤ L.length ∧ OT w6.heap.size wx s14 ((L.take j).map (tokF l P)) ∧ Below w6.heap.size w6 wx ∧ (L.drop j).all (okG l) = L.all (okG l)) (fun x _ _ => L.length - (intOf x).toNat)
          case atStart => exact ⟨0, rfl, Nat.zero_le _, World.ownsRow_nil _ _ _ _, Below.refl _ _, rfl⟩
          case round =>
            obtain ⟨j, rfl, hj, ho, hb, hd⟩ := hrel
            have HO : Hid (OT w6.heap.size wr _ ((L.take j).map (tokF l P))) := ho
            have HBr : Hid (Below w6.heap.size w6 wr) := hb
            obtain ⟨va, vc, rfl, _, _⟩ := own_slice ho
            rw [List.length_map, List.length_take_of_le hj] at HO ⊢
            by_cases hjl : j < L.length
            · have q1 : decide ((j : Int) < (L.length : Int)) = true := by simp; omega
              obtain ⟨kg, rfl, ckj⟩ := HAT.out wr hb j hjl
              have htm := HTM0.out j hjl
              rw [HAD.out j hjl] at hd
              have hmL : L.getD j 0 < l.length := HLT.out _ (by rw [List.getD_eq_getElem?_getD, List.getElem?_eq_getElem hjl]; exact List.getElem_mem hjl)
              have HCJ : Hid (∀ wx, Below w6.heap.size w6 wx → wx.cell? ⟨kg, j, none⟩ = some (iV (L.getD j 0))) := fun wx hxx => by
                obtain ⟨g', e, hc⟩ := HAT.out wx hxx j hjl
                cases e
                exact hc
              generalize L.getD j 0 = m at *
              have hh := HHF.out m
              have ht := HTF.out m
              have C1 := HP.out m kPro _ cap wr hmL (HN6.out wr hb)
              have HC2 : Hid (∀ wx, Below w6.heap.size w6 wx → Calls Tryz.prog 11 #[.slice (some ⟨g, off, none⟩) l.length cap, .int .i64 (m : Int), .string ⟨kSig.toArray⟩] wx fun e w' => e = .returned (.tuple #[.string ⟨(partF l m kSig).1.toArray⟩, .bool (partF l m kSig).2]) ∧ Below wx.heap.size wx w') := fun wx hx => HP.out m kSig _ cap wx hmL (HN6.out wx hx)
              have l1 := HPL.out (m : Int) kPro
              have l2 := HPL.out (m : Int) kSig
              obtain ⟨⟨x1, b1⟩, e1⟩ : ∃ p, partF l (m : Int) kPro = p := ⟨_, rfl⟩
              obtain ⟨⟨x2, b2⟩, e2⟩ : ∃ p, partF l (m : Int) kSig = p := ⟨_, rfl⟩
              obtain ⟨x, hx⟩ : ∃ n, l.getD m (nd0 0) = n := ⟨_, rfl⟩
              rw [e1] at C1 hh ht l1
              rw [e2] at HC2 hh ht l2
              rw [hx] at hh
              dsimp only at C1 HC2 hh ht l1 l2
              have HCX : Hid (∀ wx, Below w6.heap.size w6 wx → wx.cell? ⟨g, off + m * 6 + 5, none⟩ = some (.int .i64 x.kids)) := fun wx hxx => by
                obtain ⟨g', off', e, hc'⟩ := (HN6.out wx hxx).at hmL
                cases e
                rw [hx] at hc'
                exact hc' 5 (.int .i64 x.kids) (by omega) rfl
              unfold iV at ckj HCJ
              rw [hh] at hd
              rw [ht] at htm
              have HD : Hid ((b1 && b2 && decide (x.kids = 2) && (L.drop (j + 1)).all (okG l)) = L.all (okG l)) := hd
              generalize hT : (L.take j).map (tokF l P) = T at *
              have hTl : T.length = j := by rw [← hT]; simp; omega
              have HTl : Hid (T.length = j) := hTl
              have HTM : Hid ((L.take (j + 1)).map (tokF l P) = T ++ [x1 ++ 46 :: (P ++ 46 :: x2)]) := htm
              clear hd ho hb hh ht e1 e2 htm hT hTl hx
              go_wp2_with fail
              refine C1.mono ?_
              clear C1 ckj
              rintro e w7 ⟨rfl, hB7⟩
              have hb7 : Below w6.heap.size w6 w7 := HBr.out.trans (hB7.mono HBr.out.size)
              have HO7 : Hid (OT w6.heap.size w7 (.slice va j vc) T) := own_below HO.out hB7 (Nat.le_refl _)
              have HB7 : Hid (Below w6.heap.size w6 w7) := hb7
              have C2 := HC2.out w7 hb7
              have ckj := HCJ.out w7 hb7
              clear hb7 hB7 HO HC2
              go_wp2_with fail
              refine C2.mono ?_
              clear C2 ckj
              rintro e w8 ⟨rfl, hB8⟩
              have hb8 : Below w6.heap.size w6 w8 := HB7.out.trans (hB8.mono HB7.out.size)
              have HO8 : Hid (OT w6.heap.size w8 (.slice va j vc) T) := own_below HO7.out hB8 (Nat.le_refl _)
              have ckj := HCJ.out w8 hb8
              have ckx := HCX.out w8 hb8
              have HBz : Hid (Below w.heap.size w w8) := HBy.out w8 hb8
              clear hB8 HO7 HB7 HCJ HCX
              cases b1
              case false =>
                have HX : Hid (tokensF t = ([], 140)) := by show _ = _; rw [HTL.out, ← HD.out]; rfl
                clear HD HTL
                go_wp2
                go_ret2
                rw [HX.out]
                exact ⟨⟨_, rfl, World.ownsRow_nil _ _ _ _⟩, HBz.out⟩
              cases b2
              case false =>
                have HX : Hid (tokensF t = ([], 140)) := by show _ = _; rw [HTL.out, ← HD.out]; rfl
                clear HD HTL
                go_wp2
                go_ret2
                rw [HX.out]
                exact ⟨⟨_, rfl, World.ownsRow_nil _ _ _ _⟩, HBz.out⟩
              by_cases hx2 : x.kids = 2
              case neg =>
                have qx : (x.kids != 2) = true := by simpa using hx2
                have HX : Hid (tokensF t = ([], 140)) := by show _ = _; rw [HTL.out, ← HD.out, decide_eq_false hx2]; rfl
                clear HD HTL
                go_wp2
                go_ret2
                rw [HX.out]
                exact ⟨⟨_, rfl, World.ownsRow_nil _ _ _ _⟩, HBz.out⟩
              have qx : (x.kids != 2) = false := by simpa using hx2
              have HD2 : Hid ((L.drop (j + 1)).all (okG l) = L.all (okG l)) := by show _ = _; rw [← HD.out, decide_eq_true hx2]; rfl
              have HA : Hid ((⟨x1.toArray⟩ : ByteArray) ++ ⟨#[46]⟩ ++ ⟨P.toArray⟩ ++ ⟨#[46]⟩ ++ ⟨x2.toArray⟩ = ⟨(x1 ++ 46 :: (P ++ 46 :: x2)).toArray⟩) := by
                show (⟨x1.toArray⟩ : ByteArray) ++ ⟨([46] : List UInt8).toArray⟩ ++ ⟨P.toArray⟩ ++ ⟨([46] : List UInt8).toArray⟩ ++ ⟨x2.toArray⟩ = _
                rw [sapp4, sapp4, sapp4, sapp4]
                simp
              obtain ⟨tk, htk⟩ : ∃ t, x1 ++ 46 :: (P ++ 46 :: x2) = t := ⟨_, rfl⟩
              rw [htk] at HA HTM
              have ho1 : OT w6.heap.size (w8.alloc (.cells #[.string ⟨tk.toArray⟩] 9)) (.slice va j vc) T := World.ownsRow.alloc HO8.out _
              have hsz : w6.heap.size ≤ (w8.alloc (.cells #[.string ⟨tk.toArray⟩] 9)).heap.size := by rw [alloc_size]; have := hb8.size; omega
              have hBa : Below w6.heap.size w6 (w8.alloc (.cells #[.string ⟨tk.toArray⟩] 9)) := hb8.trans ((alloc_below _ _).mono hb8.size)
              clear HD hb8 htk hx2
              go_wp2_with (at_builtin; rw [HA.out]; refine append_txt (wr := w8.alloc (.cells #[.string ⟨tk.toArray⟩] 9)) rfl (.tmp 145) (.tmp 153) rfl w6.heap.size (.slice va j vc) T rfl ho1 (some ⟨w8.heap.size, 0, none⟩) 1 [tk] rfl (one_txt w8 tk) (fun h => by cases h) (by rw [HTl.out]; simp only [List.length_cons, List.length_nil]; omega) hsz ?_; intro v1 w9 ho9 hg9; have HO9 : Hid (OT w6.heap.size w9 v1 (T ++ [tk])) := ho9; have HB9 : Hid (Below w6.heap.size w6 w9) := hBa.grown hg9 hsz (own_block ho1); clear ho9 hg9 ho1 hBa hsz)
              go_roundw
              case rel => exact ⟨j + 1, by go_num, by omega, by rw [HTM.out]; exact HO9.out, HB9.out, HD2.out⟩
              case measure => simp [intOf]; omega
            · have q1 : decide ((j : Int) < (L.length : Int)) = false := by simp; omega
              have HX : Hid (tokensF t = (L.map (tokF l P), 0)) := by
                show _ = _
                rw [HTL.out, ← hd, List.drop_eq_nil_of_le (by omega)]
                rfl
              have HY : Hid (OT w6.heap.size wr (.slice va j vc) (L.map (tokF l P))) := by
                have := HO.out
                rwa [List.take_of_length_le (by omega)] at this
              have HBz : Hid (Below w.heap.size w wr) := HBy.out wr hb
              clear ho hb HO hd HTL
              go_wp2
              go_ret2
              rw [HX.out]
              exact ⟨⟨_, rfl, own_mono HY.out HS6.out⟩, HBz.out⟩
  · have HX : Hid (tokensF t = ([], c)) := by show _ = _; rw [HF.out]; exact if_pos hc
    have qc : ((c : Int) != 0) = true := by simp; omega
    clear HF HV htb
    go_enter Tryz.func5, Tryz.ntmps5
    go_wp2_with fail
    refine CJ.mono ?_
    clear CJ
    rintro e w1 ⟨hB1, v1, rfl, hO1⟩
    have HBz : Hid (Below w.heap.size w w1) := hB1
    clear hO1 hB1
    go_wp2
    go_ret2
    rw [HX.out]
    exact ⟨⟨_, rfl, World.ownsRow_nil _ _ _ _⟩, HBz.out⟩

end Go.Proofs.YtapljedegjiliaaGreatDoor
