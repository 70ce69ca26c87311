import Derived.Test.YtjehkpndchadbaaGreatDoorCx
namespace Go.Proofs.YtjehkpndchadbaaGreatDoor
open Go.RowKit

def lackG (l : List Nd) (need : List (List UInt8)) : Bool := need.any fun x => !hasF l x
theorem lack_drop {l : List Nd} {L : List (List UInt8)} {j : Nat} (hj : j < L.length) : lackG l (L.drop j) = (!hasF l (L.getD j []) || lackG l (L.drop (j + 1))) := by
  have e : L.getD j [] = L[j] := by rw [List.getD_eq_getElem?_getD, List.getElem?_eq_getElem hj]; rfl
  rw [e, List.drop_eq_getElem_cons hj]
  rfl

set_option maxRecDepth 100000 in
set_option maxHeartbeats 8000000 in
theorem lacks_any (l : List Nd) (ao : Option Addr) (cap : Nat) (nl : List (List UInt8)) (na : Option Addr) (nc : Nat) (w : World) (h : NR w (.slice ao l.length cap) l ao cap) (hN : TR w (.slice na nl.length nc) nl na nc) (hG : GL w.heap.size w) (ht : TB l) (hl : l.length ≤ 1000000000) (hnl : nl.length ≤ 9223372036854775807) :
    Calls Tryz.prog 20 #[.slice ao l.length cap, .slice na nl.length nc] w fun e w' => e = .returned (.bool (lackG l nl)) ∧ Below w.heap.size w w' := by
  by_cases h0 : nl = []
  · subst h0
    clear h hN hG ht
    go_enter Tryz.func20, Tryz.ntmps20
    go_wp2
    go_ret
    exact ⟨rfl, Below.refl _ _⟩
  · have hpos : 0 < nl.length := List.length_pos_iff.2 h0
    have q0 : ((nl.length : Int) == 0) = false := by simp; exact h0
    have CN := names_any l ao cap w h hG ht hl
    have HTR : Hid (TR w (.slice na nl.length nc) nl na nc) := hN
    clear h hN hG ht h0
    go_enter Tryz.func20, Tryz.ntmps20
    go_wp2_with fail
    refine CN.mono ?_
    clear CN
    rintro e w1 ⟨mb, rfl, hM, hB⟩
    have HM : Hid (NmM w1 mb l) := hM
    have HB : Hid (Below w.heap.size w w1) := hB
    have HT1 : Hid (TR w1 (.slice na nl.length nc) nl na nc) := HTR.out.below hB (Nat.le_refl _)
    clear hM hB HTR
    go_wp2
    go_loopw [17] (fun s17 wx => ∃ j : Nat, s17 = .int .i64 j ∧ j ≤ nl.length ∧ wx = w1 ∧ lackG l (nl.drop j) = lackG l nl) (fun x _ => nl.length - (intOf x).toNat)
    case atStart => exact ⟨0, rfl, Nat.zero_le _, rfl, rfl⟩
    case round =>
      obtain ⟨j, rfl, hj, rfl, hd⟩ := hrel
      have HD : Hid (lackG l (nl.drop j) = lackG l nl) := hd
      clear hd
      by_cases hjl : j < nl.length
      · have q1 : decide ((j : Int) < (nl.length : Int)) = true := by simp; omega
        obtain ⟨g, off, rfl, ckj⟩ := HT1.out.at hjl
        have hr2 := HD.out
        rw [lack_drop hjl] at hr2
        generalize nl.getD j [] = x at *
        obtain ⟨es, clk, hm, hf⟩ := HM.out
        rcases hf x with ⟨h1, h2⟩ | ⟨h1, i, m, h2⟩
        · have lk := look_int0 wr mb es clk ⟨x.toArray⟩ hm h2
          have HF : Hid (lackG l nl = true) := by show _ = _; rw [← hr2, h1]; rfl
          clear hf hm h2 hr2 HD h1
          go_wp2
          go_ret
          rw [HF.out]
          exact ⟨rfl, HB.out⟩
        · have lk := look_int wr mb es clk ⟨x.toArray⟩ i _ hm h2
          have HD2 : Hid (lackG l (nl.drop (j + 1)) = lackG l nl) := by show _ = _; rw [← hr2, h1]; rfl
          clear hf hm h2 hr2 HD h1
          go_wp2
          go_roundw
          case rel => exact ⟨j + 1, by go_num, by omega, trivial, HD2.out⟩
          case measure => simp [intOf]; omega
      · have q1 : decide ((j : Int) < (nl.length : Int)) = false := by simp; omega
        have HF : Hid (lackG l nl = false) := by show _ = _; rw [← HD.out, List.drop_eq_nil_of_le (by omega)]; rfl
        clear HD
        go_wp2
        go_ret
        rw [HF.out]
        exact ⟨rfl, HB.out⟩

/-- What Check answers. -/
def checkB (lk : Bool) (iss : List UInt8) (hIss : Bool) (aud : List (List UInt8)) (hAud : Bool) (pi : List UInt8) (pHi : Bool) (pa : List UInt8) (pHa : Bool) : Nat :=
  if lk = true then 137
  else if pHi = true ∧ (hIss = false ∨ iss ≠ pi) then 132
  else if pHa ≠ hAud then 133
  else if pHa = true ∧ pa ∉ aud then 133 else 0

set_option maxRecDepth 100000 in
set_option maxHeartbeats 8000000 in
theorem check_any (l : List Nd) (ao : Option Addr) (cap : Nat) (aud : List (List UInt8)) (aa : Option Addr) (ac : Nat) (c : Cm) (al : Value) (pi : List UInt8) (pHi : Bool) (pa : List UInt8) (pHa : Bool) (ty : List UInt8) (wt : Bool) (lee : Int) (nl : List (List UInt8)) (na : Option Addr) (nc : Nat) (w : World)
    (h : NR w (.slice ao l.length cap) l ao cap) (hA : TR w (.slice aa aud.length ac) aud aa ac) (hN : TR w (.slice na nl.length nc) nl na nc) (hG : GL w.heap.size w) (ht : TB l) (hl : l.length ≤ 1000000000) (hnl : nl.length ≤ 9223372036854775807) (hal : aud.length ≤ 9223372036854775807) :
    Calls Tryz.prog 9 #[clV (.slice ao l.length cap) (.slice aa aud.length ac) c, plV al ⟨pi.toArray⟩ pHi ⟨pa.toArray⟩ pHa ty wt lee (.slice na nl.length nc)] w fun e w' => e = .returned (.int .i64 (checkB (lackG l nl) c.iss c.hIss aud c.hAud pi pHi pa pHa : Nat)) ∧ Below w.heap.size w w' := by
  unfold plV clV
  obtain ⟨cval, iss, hIss, sub, hSub, caud, hAud, jti, hJti, ex, nb, it⟩ := c
  dsimp only
  obtain ⟨W, hW⟩ : ∃ W : World, (w.alloc (.cells (clC (.slice ao l.length cap) (.slice aa aud.length ac) ⟨cval, iss, hIss, sub, hSub, caud, hAud, jti, hJti, ex, nb, it⟩).toArray 28)).alloc (.cells #[al, .string ⟨pi.toArray⟩, .bool pHi, .string ⟨pa.toArray⟩, .bool pHa, .string ⟨ty.toArray⟩, .bool wt, .int .i64 lee, .slice na nl.length nc] 46) = W := ⟨_, rfl⟩
  have h1 := alloc_below w (.cells (clC (.slice ao l.length cap) (.slice aa aud.length ac) ⟨cval, iss, hIss, sub, hSub, caud, hAud, jti, hJti, ex, nb, it⟩).toArray 28)
  have h2 := alloc_below (w.alloc (.cells (clC (.slice ao l.length cap) (.slice aa aud.length ac) ⟨cval, iss, hIss, sub, hSub, caud, hAud, jti, hJti, ex, nb, it⟩).toArray 28)) (.cells #[al, .string ⟨pi.toArray⟩, .bool pHi, .string ⟨pa.toArray⟩, .bool pHa, .string ⟨ty.toArray⟩, .bool wt, .int .i64 lee, .slice na nl.length nc] 46)
  have h3 := alloc_bl w (clC (.slice ao l.length cap) (.slice aa aud.length ac) ⟨cval, iss, hIss, sub, hSub, caud, hAud, jti, hJti, ex, nb, it⟩) 28
  have h4 := alloc_bl (w.alloc (.cells (clC (.slice ao l.length cap) (.slice aa aud.length ac) ⟨cval, iss, hIss, sub, hSub, caud, hAud, jti, hJti, ex, nb, it⟩).toArray 28)) [al, .string ⟨pi.toArray⟩, .bool pHi, .string ⟨pa.toArray⟩, .bool pHa, .string ⟨ty.toArray⟩, .bool wt, .int .i64 lee, .slice na nl.length nc] 46
  have h5 : Bl 28 W w.heap.size (clC (.slice ao l.length cap) (.slice aa aud.length ac) ⟨cval, iss, hIss, sub, hSub, caud, hAud, jti, hJti, ex, nb, it⟩) := by rw [← hW]; exact h3.below h2 h3.lt
  have h6 : Bl 46 W (w.heap.size + 1) [al, .string ⟨pi.toArray⟩, .bool pHi, .string ⟨pa.toArray⟩, .bool pHa, .string ⟨ty.toArray⟩, .bool wt, .int .i64 lee, .slice na nl.length nc] := by rw [alloc_size] at h4; rw [← hW]; exact h4
  have hB : Below w.heap.size w W := by rw [← hW]; exact h1.trans (h2.mono h1.size)
  have HW : Hid ((w.alloc (.cells #[.slice ao l.length cap, .string ⟨iss.toArray⟩, .bool hIss, .string ⟨sub.toArray⟩, .bool hSub, .slice aa aud.length ac, .bool hAud, .string ⟨jti.toArray⟩, .bool hJti, .bool ex.has, .int .i64 ex.at_, .bool nb.has, .int .i64 nb.at_, .bool it.has, .int .i64 it.at_] 28)).alloc (.cells #[al, .string ⟨pi.toArray⟩, .bool pHi, .string ⟨pa.toArray⟩, .bool pHa, .string ⟨ty.toArray⟩, .bool wt, .int .i64 lee, .slice na nl.length nc] 46) = W) := hW
  have HK : Hid (∀ wq, Below W.heap.size W wq → (wq.cell? ⟨w.heap.size, 0, none⟩ = some (.slice ao l.length cap) ∧ wq.cell? ⟨w.heap.size, 1, none⟩ = some (.string ⟨iss.toArray⟩) ∧ wq.cell? ⟨w.heap.size, 2, none⟩ = some (.bool hIss) ∧ wq.cell? ⟨w.heap.size, 5, none⟩ = some (.slice aa aud.length ac) ∧ wq.cell? ⟨w.heap.size, 6, none⟩ = some (.bool hAud)) ∧ (wq.cell? ⟨w.heap.size + 1, 1, none⟩ = some (.string ⟨pi.toArray⟩) ∧ wq.cell? ⟨w.heap.size + 1, 2, none⟩ = some (.bool pHi) ∧ wq.cell? ⟨w.heap.size + 1, 3, none⟩ = some (.string ⟨pa.toArray⟩) ∧ wq.cell? ⟨w.heap.size + 1, 4, none⟩ = some (.bool pHa) ∧ wq.cell? ⟨w.heap.size + 1, 8, none⟩ = some (.slice na nl.length nc))) := fun wq hq => by
    have a := h5.below hq h5.lt
    have b := h6.below hq h6.lt
    exact ⟨⟨a.cell 0 (by simp [clC]), a.cell 1 (by simp [clC]), a.cell 2 (by simp [clC]), a.cell 5 (by simp [clC]), a.cell 6 (by simp [clC])⟩, b.cell 1 (by simp), b.cell 2 (by simp), b.cell 3 (by simp), b.cell 4 (by simp), b.cell 8 (by simp)⟩
  have CL := lacks_any l ao cap nl na nc W (h.below hB (Nat.le_refl _)) (hN.below hB (Nat.le_refl _)) ((hG.below hB).up hB.size) ht hl hnl
  have HCC : Hid (∀ wq, Below W.heap.size W wq → Calls Tryz.prog 21 #[.slice aa aud.length ac, .string ⟨pa.toArray⟩] wq fun e w' => e = .returned (.bool (decide (pa ∈ aud))) ∧ w' = wq) := fun wq hq => contains_any aa ac aud pa wq ((hA.below hB (Nat.le_refl _)).below hq (Nat.le_refl _)) hal
  have HB : Hid (Below w.heap.size w W) := hB
  have HCB : Hid (∀ lk, checkB lk iss hIss aud hAud pi pHi pa pHa = if lk = true then 137
    else if pHi = true ∧ (hIss = false ∨ iss ≠ pi) then 132
    else if pHa ≠ hAud then 133
    else if pHa = true ∧ pa ∉ aud then 133 else 0) := fun _ => rfl
  generalize lackG l nl = lk at *
  obtain ⟨R, hR⟩ : ∃ R, checkB lk iss hIss aud hAud pi pHi pa pHa = R := ⟨_, rfl⟩
  rw [hR]
  have HR : Hid (_ = R) := (HCB.out lk).symm.trans hR
  clear h hA hN hG ht h1 h2 h3 h4 h5 h6 hB hW HCB hR
  obtain ⟨⟨k0, k1, k2, k5, k6⟩, p1, p2, p3, p4, p8⟩ := HK.out W (Below.refl _ _)
  go_enter Tryz.func9, Tryz.ntmps9
  go_wp2_with fail
  rw [HW.out]
  clear HW
  refine CL.mono ?_
  clear CL k0 k1 k2 k5 k6 p1 p2 p3 p4 p8
  rintro e w1 ⟨rfl, hB1⟩
  have HB1 : Hid (Below w.heap.size w w1) := HB.out.trans (hB1.mono HB.out.size)
  obtain ⟨⟨k0, k1, k2, k5, k6⟩, p1, p2, p3, p4, p8⟩ := HK.out w1 hB1
  have CC := HCC.out w1 hB1
  clear hB1 HB HK HCC
  cases lk
  · rw [if_neg Bool.false_ne_true] at HR
    have H3 : ∀ (hi : ¬ (pHi = true ∧ (hIss = false ∨ iss ≠ pi))), (if pHa ≠ hAud then 133 else if pHa = true ∧ pa ∉ aud then 133 else 0) = R := fun hi => by have := HR.out; rwa [if_neg hi] at this
    have H3b : ∀ (hi : pHi = true ∧ (hIss = false ∨ iss ≠ pi)), 132 = R := fun hi => by have := HR.out; rwa [if_pos hi] at this
    have HH3 : Hid _ := H3
    have HH3b : Hid _ := H3b
    clear H3 H3b HR
    cases pHi
    · skip
      have H4 := HH3.out (fun h => by cases h.1)
      by_cases hh : pHa = hAud
      · subst hh
        cases pHa
        · have HZ : Hid (0 = R) := by show _ = _; rw [← H4, if_neg (fun h => h rfl), if_neg (fun h => by cases h.1)]
          clear HH3 HH3b CC H4
          go_wp2
          go_ret
          rw [← HZ.out]
          exact ⟨rfl, HB1.out⟩
        · by_cases hm : pa ∈ aud
          · have HZ : Hid (0 = R) := by show _ = _; rw [← H4, if_neg (fun h => h rfl), if_neg (fun h => h.2 hm)]
            rw [decide_eq_true hm] at CC
            clear HH3 HH3b H4 hm
            go_wp2_with fail
            refine CC.mono ?_
            clear CC
            rintro e w2 ⟨rfl, rfl⟩
            go_wp2
            go_ret
            rw [← HZ.out]
            exact ⟨rfl, HB1.out⟩
          · have HZ : Hid (133 = R) := by show _ = _; rw [← H4, if_neg (fun h => h rfl), if_pos ⟨rfl, hm⟩]
            rw [decide_eq_false hm] at CC
            clear HH3 HH3b H4 hm
            go_wp2_with fail
            refine CC.mono ?_
            clear CC
            rintro e w2 ⟨rfl, rfl⟩
            go_wp2
            go_ret
            rw [← HZ.out]
            exact ⟨rfl, HB1.out⟩
      · have HZ : Hid (133 = R) := by show _ = _; rw [← H4, if_pos hh]
        have qh : (pHa == hAud) = false := by simpa using hh
        have qh2 : (pHa != hAud) = true := by simpa using hh
        clear HH3 HH3b CC H4 hh
        go_wp2
        go_ret
        rw [← HZ.out]
        exact ⟨rfl, HB1.out⟩
    · cases hIss
      · skip
        have HZ : Hid (132 = R) := HH3b.out ⟨rfl, Or.inl rfl⟩
        clear HH3 HH3b CC
        go_wp2
        go_ret
        rw [← HZ.out]
        exact ⟨rfl, HB1.out⟩
      · by_cases hi : iss = pi
        · subst hi
          have qi : (iss == iss) = true := by simp
          have H4 := HH3.out (fun h => h.2.elim (fun h => by cases h) (fun h => h rfl))
          by_cases hh : pHa = hAud
          · subst hh
            cases pHa
            · have HZ : Hid (0 = R) := by show _ = _; rw [← H4, if_neg (fun h => h rfl), if_neg (fun h => by cases h.1)]
              clear HH3 HH3b CC H4
              go_wp2
              go_ret
              rw [← HZ.out]
              exact ⟨rfl, HB1.out⟩
            · by_cases hm : pa ∈ aud
              · have HZ : Hid (0 = R) := by show _ = _; rw [← H4, if_neg (fun h => h rfl), if_neg (fun h => h.2 hm)]
                rw [decide_eq_true hm] at CC
                clear HH3 HH3b H4 hm
                go_wp2_with fail
                refine CC.mono ?_
                clear CC
                rintro e w2 ⟨rfl, rfl⟩
                go_wp2
                go_ret
                rw [← HZ.out]
                exact ⟨rfl, HB1.out⟩
              · have HZ : Hid (133 = R) := by show _ = _; rw [← H4, if_neg (fun h => h rfl), if_pos ⟨rfl, hm⟩]
                rw [decide_eq_false hm] at CC
                clear HH3 HH3b H4 hm
                go_wp2_with fail
                refine CC.mono ?_
                clear CC
                rintro e w2 ⟨rfl, rfl⟩
                go_wp2
                go_ret
                rw [← HZ.out]
                exact ⟨rfl, HB1.out⟩
          · have HZ : Hid (133 = R) := by show _ = _; rw [← H4, if_pos hh]
            have qh : (pHa == hAud) = false := by simpa using hh
            have qh2 : (pHa != hAud) = true := by simpa using hh
            clear HH3 HH3b CC H4 hh
            go_wp2
            go_ret
            rw [← HZ.out]
            exact ⟨rfl, HB1.out⟩
        · have qi : (iss == pi) = false := by simpa using hi
          have qi2 : (iss != pi) = true := by simpa using hi
          have HZ : Hid (132 = R) := HH3b.out ⟨rfl, Or.inr hi⟩
          clear HH3 HH3b CC hi
          go_wp2
          go_ret
          rw [← HZ.out]
          exact ⟨rfl, HB1.out⟩
  · rw [if_pos rfl] at HR
    clear CC
    go_wp2
    go_ret
    rw [← HR.out]
    exact ⟨rfl, HB1.out⟩

end Go.Proofs.YtjehkpndchadbaaGreatDoor
