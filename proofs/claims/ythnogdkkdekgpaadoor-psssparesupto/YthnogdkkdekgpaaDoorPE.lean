import Derived.Test.YthnogdkkdekgpaaDoorPD
namespace Go.Proofs.YthnogdkkdekgpaaDoor
open Go.RowKit

/-- What Encode answers. -/
def pencV (h : Int) (d s : List UInt8) (bits : Int) : List UInt8 := if pcode h d.length s.length bits = 0 then encF h d s bits.toNat else []

theorem parts_three (w : World) (p1 p2 p3 : Sha.Prt) (h1 : Sha.prOk w p1) (h2 : Sha.prOk w p2) (h3 : Sha.prOk w p3) :
    Sha.Pts (w.alloc (.cells #[Sha.prV p1, Sha.prV p2, Sha.prV p3] 23)) (some ⟨w.heap.size, 0, none⟩) [p1, p2, p3] := by
  have hb := alloc_below w (.cells #[Sha.prV p1, Sha.prV p2, Sha.prV p3] 23)
  have hk : ∀ p, Sha.prOk w p → Sha.prOk (w.alloc (.cells #[Sha.prV p1, Sha.prV p2, Sha.prV p3] 23)) p := fun p h => ⟨Sha.Rd.below h.1 hb (Nat.le_refl _), h.2⟩
  refine ⟨.inr ⟨w.heap.size, 0, rfl, fun j hj => ?_⟩, ?_⟩
  · have hbl := alloc_bl w [Sha.prV p1, Sha.prV p2, Sha.prV p3] 23
    have := hbl.cell j (by simpa using hj)
    rw [Nat.zero_add]
    refine this.trans ?_
    have e : [Sha.prV p1, Sha.prV p2, Sha.prV p3] = [p1, p2, p3].map Sha.prV := rfl
    simp only [e, List.getElem_map]
  · intro p hp
    simp only [List.mem_cons, List.not_mem_nil, or_false] at hp
    rcases hp with rfl | rfl | rfl <;> (apply hk; assumption)

theorem em_s2 (Z S W : Nat) (s : List UInt8) (hW : Z + 1 + s.length + (S + 1) = W) : spl (((List.replicate W (0 : UInt8)).map B).set Z (B 1)) (Z + 1) (s.map B) = (blkF Z s ++ List.replicate (S + 1) 0).map B := by
  have e1 : ((List.replicate W (0 : UInt8)).map B).set Z (B 1) = ((List.replicate Z (0 : UInt8) ++ [1]) ++ List.replicate (s.length + (S + 1)) 0).map B := by
    rw [← List.map_set]
    congr 1
    rw [show W = Z + (s.length + (S + 1) + 1) by omega, ← List.replicate_append_replicate, List.set_append_right _ _ (by simp), List.length_replicate, Nat.sub_self, List.replicate_succ, List.set_cons_zero, List.append_assoc]
    rfl
  rw [e1]
  unfold spl blkF
  rw [List.length_map, ← List.map_take, ← List.map_drop, ← List.map_append, ← List.map_append]
  congr 1
  have e2 : (List.replicate Z (0 : UInt8) ++ [1] ++ List.replicate (s.length + (S + 1)) 0).take (Z + 1) = List.replicate Z 0 ++ [1] := by
    rw [List.take_append_of_le_length (by simp), List.take_of_length_le (by simp)]
  have e3 : (List.replicate Z (0 : UInt8) ++ [1] ++ List.replicate (s.length + (S + 1)) 0).drop (Z + 1 + s.length) = List.replicate (S + 1) 0 := by
    rw [List.drop_append, List.drop_of_length_le (by simp), List.nil_append, List.drop_replicate]
    congr 1
    simp
  rw [e2, e3]
  simp
theorem em_s4 (X R : List UInt8) (v : UInt8) (h : 0 < X.length) : ((X ++ R).map B).set 0 (B v) = (X.set 0 v ++ R).map B := by
  rw [← List.map_set, List.set_append_left _ _ h]
theorem em_s5 (Y sum : List UInt8) (L S : Nat) (hY : Y.length = L) (hs : sum.length = S) : spl ((Y ++ List.replicate (S + 1) 0).map B) L ((sum.take (S + 1)).map B) = (Y ++ (sum ++ [0])).map B := by
  subst hY hs
  rw [List.take_of_length_le (by omega)]
  unfold spl
  rw [List.length_map, ← List.map_take, ← List.map_drop, ← List.map_append, ← List.map_append]
  congr 1
  rw [List.take_append_of_le_length (Nat.le_refl _), List.take_length, List.drop_append, List.drop_of_length_le (by omega), List.nil_append, List.drop_replicate, List.append_assoc]
  congr 2
  rw [show sum.length + 1 - (Y.length + sum.length - Y.length) = 1 by omega]
  rfl
theorem em_s6 (Y sum : List UInt8) (M : Nat) (hM : M = Y.length + sum.length) : ((Y ++ (sum ++ [0])).map B).set M (B 188) = (Y ++ (sum ++ [188])).map B := by
  subst hM
  rw [← List.map_set]
  congr 1
  rw [List.set_append_right _ _ (by omega), Nat.add_sub_cancel_left, List.set_append_right _ _ (Nat.le_refl _), Nat.sub_self]
  rfl

theorem andB_all : ∀ a b : Fin 256, bits .and .u8 (a.val : Int) (b.val : Int) = ((a.val &&& b.val : Nat) : Int) := fun a b => by
  have h := u8_and_nat a.val b.val a.isLt b.isLt
  exact h
theorem and_b (x y : UInt8) : bits .and .u8 (x.toNat : Int) (y.toNat : Int) = ((x &&& y).toNat : Int) := by
  have := andB_all ⟨x.toNat, x.toNat_lt⟩ ⟨y.toNat, y.toNat_lt⟩
  simp only at this
  rw [this, UInt8.toNat_and]
theorem topM_nat (q : Nat) : ((topM q).toNat : Int) = 255 / 2 ^ q := by
  unfold topM
  rw [UInt8.toNat_ofNat', Nat.mod_eq_of_lt (Nat.lt_of_le_of_lt (Nat.div_le_self _ _) (by decide))]
  rw [Int.natCast_ediv, Int.natCast_pow]
  rfl

set_option maxRecDepth 100000 in
set_option maxHeartbeats 8000000 in
theorem pencode_any (h : Int) (a1 a2 : Option Addr) (c1 c2 : Nat) (d s : List UInt8) (bits : Int) (w : World) (T : Sha.Tb w) (r1 : Rd w a1 d) (r2 : Rd w a2 s) (k1 : d.length ≤ c1) (k1' : c1 ≤ 9223372036854775807) (k2 : s.length ≤ c2) (k2' : c2 ≤ 9223372036854775807) (l1 : d.length ≤ 100000000) (l2 : s.length ≤ 100000000) :
    Calls Tryd.prog 16 #[.int .i64 h, .slice a1 d.length c1, .slice a2 s.length c2, .int .i64 bits] w fun e w' => ∃ r, e = .returned (.tuple #[r, .int .i64 (pcode h d.length s.length bits)]) ∧ OBb w.heap.size w w' r (pencV h d s bits) := by
  have CR := refusal_any h d.length s.length bits w (by omega) (by omega)
  by_cases hp : pcode h d.length s.length bits = 0
  · obtain ⟨hh, hb0, hb1, hdl, hwd⟩ := pcode_ok hp
    obtain ⟨b, rfl⟩ : ∃ b : Nat, bits = (b : Int) := ⟨bits.toNat, by omega⟩
    have Hv : Hid (pencV h d s (b : Int) = encF h d s b) := by show _ = _; unfold pencV; rw [hp, if_pos rfl, Int.toNat_natCast]
    rw [hp] at CR
    rw [hp]
    rw [Int.toNat_natCast] at hwd
    have CW := width_any b w (by omega)
    have hs0 := isHB_pos hh
    have hs64 := siz_le64 h
    have HT : Hid (Sha.Tb w) := T
    have H1 : Hid (Rd w a1 d) := r1
    have H2 : Hid (Rd w a2 s) := r2
    have HH : Hid (isHB h = true) := hh
    have HD : Hid (d.length = Sha.siz h) := hdl
    obtain ⟨S, HS⟩ : ∃ S, Hid (Sha.siz h = S) := ⟨_, rfl⟩
    obtain ⟨W, HW⟩ : ∃ W, Hid (wid b = W) := ⟨_, rfl⟩
    rw [HS.out] at hs0 hs64 hwd
    rw [HW.out] at hwd CW
    have hW1 : 8 * W ≤ b + 7 ∧ b ≤ 8 * W := by rw [← HW.out]; unfold wid; omega
    obtain ⟨q, eq1⟩ : ∃ q : Nat, 8 * (W : Int) - (b : Int) = (q : Int) := ⟨8 * W - b, by omega⟩
    have hq7 : q ≤ 7 := by omega
    have Hq : Hid (8 * W - b = q) := by show _ = _; omega
    obtain ⟨L, eL⟩ : ∃ L : Nat, (W : Int) - (S : Int) - 1 = (L : Int) := ⟨W - S - 1, by omega⟩
    obtain ⟨A, eA⟩ : ∃ A : Nat, (L : Int) - (s.length : Int) = (A : Int) := ⟨L - s.length, by omega⟩
    obtain ⟨Z, eZ⟩ : ∃ Z : Nat, (A : Int) - 1 = (Z : Int) := ⟨A - 1, by omega⟩
    obtain ⟨M, eM⟩ : ∃ M : Nat, (W : Int) - 1 = (M : Int) := ⟨W - 1, by omega⟩
    have HX : Hid (Z + 1 = A ∧ A + s.length = L ∧ L + S + 1 = W ∧ M + 1 = W) := ⟨by omega, by omega, by omega, by omega⟩
    have hWb : W ≤ 8192 := by omega
    have oA : A ≤ L := by omega
    have oL : L < W := by omega
    have oZ : Z < L := by omega
    have oM : M < W := by omega
    have oWA : ¬ W = A := by omega
    have oWL : ¬ W = L := by omega
    obtain ⟨wm, hmk, hbm, hbelm⟩ := madeB w W (by omega)
    obtain ⟨wn, hmk8, hbn, hbeln⟩ := madeB wm 8 (by omega)
    have hmk8' : (Instr.makeSlice 23 (.int .i64 8) (.int .i64 8)).run Tryd.prog wm = .ok (.slice (some ⟨wm.heap.size, 0, none⟩) 8 8) wn := hmk8
    have hgm : w.heap.size < wm.heap.size := hbm.lt
    have hgn : wm.heap.size < wn.heap.size := hbn.lt
    have hbwn : Below w.heap.size w wn := hbelm.trans (hbeln.mono hbelm.size)
    have P1 : Sha.prOk wn ⟨some ⟨wm.heap.size, 0, none⟩, 8, List.replicate 8 0⟩ := ⟨Bl.rdb hbn, by simp, by simp⟩
    have P2 : Sha.prOk wn ⟨a1, c1, d⟩ := ⟨r1.below hbwn (Nat.le_refl _), k1, k1'⟩
    have P3 : Sha.prOk wn ⟨a2, c2, s⟩ := ⟨r2.below hbwn (Nat.le_refl _), k2, k2'⟩
    have CQ := Sha.ssum_any h (some ⟨wn.heap.size, 0, none⟩) 3 _ _ ((HT.out.below hbwn).below (alloc_below wn _)) (parts_three wn _ _ _ P1 P2 P3) (by simp) (by simp [Sha.cat]; omega)
    rw [show Sha.cat [⟨some ⟨wm.heap.size, 0, none⟩, 8, List.replicate 8 0⟩, ⟨a1, c1, d⟩, ⟨a2, c2, s⟩] = List.replicate 8 0 ++ d ++ s by simp [Sha.cat], HS.out] at CQ
    unfold Sha.prV at CQ
    simp only [List.length_replicate, List.length_cons, List.length_nil] at CQ
    have HE0 : Hid (Bl 5 wn w.heap.size ((List.replicate W (0 : UInt8)).map B)) := hbm.below hbeln hgm
    have HBn : Hid (Below w.heap.size w wn) := hbwn
    have HSec : Hid ((secF h d s).length = S) := by show _ = _; rw [secF_length]; exact HS.out
    clear T r1 r2 hp hh hb0 hb1 hdl P1 P2 P3 hmk8 hbm hbn hbelm hbeln hbwn hW1 hwd
    go_enter Tryd.func16, Tryd.ntmps16
    go_wp2_with fail
    refine CR.mono ?_
    rintro e w' ⟨rfl, rfl⟩
    clear CR
    go_wp2_with fail
    refine CW.mono ?_
    rintro e w' ⟨rfl, rfl⟩
    clear CW
    go_wp2_with fail
    refine CQ.mono ?_
    rintro e w3 ⟨aS, rfl, hOS, hb3⟩
    clear CQ hmk hmk8'
    have bA := alloc_below wn (.cells #[.slice (some ⟨wm.heap.size, 0, none⟩) 8 8, .slice a1 d.length c1, .slice a2 s.length c2] 23)
    have b3 : Below wn.heap.size wn w3 := bA.trans (hb3.mono bA.size)
    obtain ⟨gS, rfl, hgS, hblS⟩ : ∃ g, aS = some ⟨g, 0, none⟩ ∧ wn.heap.size ≤ g ∧ Bl 5 w3 g ((secF h d s).map B) := by
      rcases hOS with ⟨_, h0⟩ | ⟨g, e, hg, hbl⟩
      · exfalso
        have := HSec.out
        unfold secF at this
        rw [h0] at this
        simp at this
        omega
      · exact ⟨g, e, by rw [World.size_alloc] at hg; omega, hbl⟩
    obtain ⟨gE, hgE⟩ : ∃ g, w'.heap.size = g := ⟨_, rfl⟩
    have hgES : gE ≠ gS := by omega
    have hE3 : Bl 5 w3 gE ((List.replicate W (0 : UInt8)).map B) := by rw [← hgE]; exact HE0.out.below b3 (by have := HE0.out.lt; omega)
    have HB3 : Below gE w' w3 := by rw [← hgE]; exact HBn.out.trans (b3.mono HBn.out.size)
    have hE4 := hE3.set Z (B 1)
    have f3 := hE3.frozen Z
    obtain ⟨o3, c3⟩ : ∃ v, w3.cell? ⟨gE, Z, none⟩ = some v := ⟨_, hE3.cell Z (by simp; omega)⟩
    have hb34 : But w3 (w3.setCell ⟨gE, Z, none⟩ (B 1)) gE := (But.refl _ _).set _ _
    have HT3 : Sha.Tb w3 := HT.out.below (by rw [hgE]; exact HB3)
    have hgE3 : gE ≤ w3.heap.size := by have := HB3.size; omega
    have h23 : Rd w3 a2 s := H2.out.below (n := w'.heap.size) (by rw [hgE]; exact HB3) (Nat.le_refl _)
    have hne2 : ∀ a, s ≠ [] → a2 = some a → a.block ≠ gE := by rw [← hgE]; exact Sha.Rd.off H2.out _ (Nat.le_refl _)
    have h24 : Rd (w3.setCell ⟨gE, Z, none⟩ (B 1)) a2 s := Sha.Rd.but h23 ⟨hb34.os, hb34.tape, hb34.output, hb34.size, hb34.block⟩ hne2
    have hxx := HX.out
    obtain ⟨w5, hcp5, hE5, hb45⟩ := copyB (w3.setCell ⟨gE, Z, none⟩ (B 1)) gE A (L - A) (W - A) c2 a2 s _ hE4 h24 (by simp; omega)
    rw [List.take_of_length_le (by omega : s.length ≤ L - A), ← hxx.1, em_s2 Z S W s (by omega)] at hE5
    have hcp5' : (Builtin.copy_ #[23, 23] 3 #[.slice (some ⟨gE, A, none⟩) (L - A) (W - A), .slice a2 s.length c2]).run Tryd.prog (w3.setCell ⟨gE, Z, none⟩ (.int .u8 1)) = .ok (.int .i64 ((Nat.min s.length (L - A) : Nat) : Int)) w5 := hcp5 0
    have hb35 : But w3 w5 gE := hb34.trans hb45
    have HB5 : Below gE w' w5 := HB3.trans (hb35.below hgE3 (Nat.le_refl _))
    have hS5 : Bl 5 w5 gS ((secF h d s).map B) := hblS.but hb35 (fun e => hgES e.symm)
    have hlL : (blkF Z s).length = L := by rw [blkF_length]; omega
    have CM := pmask_any h (some ⟨gS, 0, none⟩) S (secF h d s) (L : Int) w5 (HT.out.below (by rw [hgE]; exact HB5)) (Bl.rdb hS5) (by rw [HSec.out]; exact Nat.le_refl _) (by omega) (by rw [HSec.out]; omega)
    have hmc : mcode h (L : Int) = 0 := by unfold mcode; rw [if_neg (by rw [HH.out]; simp), if_neg (by omega)]
    have hmv : maskV h (secF h d s) (L : Int) = maskF h (secF h d s) L := by unfold maskV; rw [hmc, if_pos rfl, Int.toNat_natCast]
    rw [hmc, hmv, HSec.out] at CM
    have HE5 : Hid (Bl 5 w5 gE ((blkF Z s ++ List.replicate (S + 1) 0).map B)) := hE5
    have HS5 : Hid (Bl 5 w5 gS ((secF h d s).map B)) := hS5
    have HBB5 : Hid (Below gE w' w5) := HB5
    have Hg : Hid (w'.heap.size = gE) := hgE
    have HlL : Hid ((blkF Z s).length = L) := hlL
    have hg5 : gE < w5.heap.size := hE5.lt
    clear hE3 hE4 hE5 hb34 HT3 h23 hne2 h24 hcp5 hb45 hb35 HB5 hS5 hlL hmc hmv hxx hgE3 HB3 hblS hOS hb3 bA b3 HE0 HBn
    rw [hgE]
    clear hgE
    go_wp2_with fail
    refine CM.mono ?_
    rintro e w6 ⟨rM, rfl, hM6⟩
    clear CM hcp5' f3 c3
    obtain ⟨am, cm, erm, _, hRm⟩ := hM6.own.nb
    have hml : (maskF h (secF h d s) L).length = L := maskF_length _ _ _ (by rw [HS.out]; exact hs0)
    have hamg : ∀ a, am = some a → a.block ≠ gE := fun a ea => by
      rcases hM6.own.2 with ⟨e0, _⟩ | ⟨g, cap, cur, e0, hg, _⟩
      · rw [erm] at e0; injection e0 with e1; rw [e1] at ea; cases ea
      · rw [erm] at e0; injection e0 with e1; rw [e1] at ea; cases ea; show g ≠ gE; omega
    subst erm
    have hE6 := HE5.out.below hM6.bel hg5
    have HB6 : Hid (Below gE w' w6) := HBB5.out.trans (hM6.bel.mono (by omega))
    have HS6 : Hid (Bl 5 w6 gS ((secF h d s).map B)) := HS5.out.below hM6.bel HS5.out.lt
    have CX := mix_any gE W cm am (blkF Z s) (List.replicate (S + 1) 0) (maskF h (secF h d s) L) w6 hE6 hRm hamg (by rw [hml, HlL.out]) (by rw [HlL.out]; omega)
    rw [HlL.out] at CX
    have hg6 : gE < w6.heap.size := hE6.lt
    obtain ⟨X, hX⟩ : ∃ X, xorL (blkF Z s) (maskF h (secF h d s) L) = X := ⟨_, rfl⟩
    have hXl : X.length = L := by rw [← hX, xorL_length, HlL.out, hml, Nat.min_self]
    have HEnc : Hid (encF h d s b = topF q X ++ (secF h d s ++ [188])) := by
      show _ = _
      unfold encF
      rw [HW.out, HS.out, Hq.out, show W - S - s.length - 2 = Z by have := HX.out; omega, show W - S - 1 = L by have := HX.out; omega, hX]
    rw [hX, hml] at CX
    have HXl : Hid (X.length = L) := hXl
    rw [hml]
    clear hE6 hRm hamg hM6 HE5 HS5 HBB5 hml hX hXl HlL
    go_wp2_with fail
    refine CX.mono ?_
    rintro e w7 ⟨rfl, hE7, hb7⟩
    clear CX
    have HS7 : Bl 5 w7 gS ((secF h d s).map B) := HS6.out.but hb7 (fun e => hgES e.symm)
    have HB7 : Below gE w' w7 := HB6.out.trans (hb7.below (by omega) (Nat.le_refl _))
    have hL0 : 0 < X.length := by rw [HXl.out]; omega
    have f7 := hE7.frozen 0
    have c7 := hE7.cell 0 (by simp; omega)
    rw [List.getElem_map, List.getElem_append_left hL0] at c7
    obtain ⟨x, hx⟩ : ∃ x, X[0] = x := ⟨_, rfl⟩
    rw [hx] at c7
    unfold B at c7
    have hand : Go.bits .and .u8 (x.toNat : Int) (255 / 2 ^ q) = ((x &&& topM q).toNat : Int) := by rw [← topM_nat]; exact and_b x (topM q)
    obtain ⟨z, Hz⟩ : ∃ z, Hid (x &&& topM q = z) := ⟨_, rfl⟩
    rw [Hz.out] at hand
    have hE8 : Bl 5 (w7.setCell ⟨gE, 0, none⟩ (B z)) gE ((topF q X ++ List.replicate (S + 1) 0).map B) := by
      have := hE7.set 0 (B z)
      rw [em_s4 X _ _ hL0] at this
      have e : X.set 0 z = topF q X := by unfold topF; rw [← Hz.out, List.getD_eq_getElem?_getD, List.getElem?_eq_getElem hL0, Option.getD_some, hx]
      rw [e] at this
      exact this
    have hb8 : But w7 (w7.setCell ⟨gE, 0, none⟩ (B z)) gE := (But.refl _ _).set _ _
    have hS8 : Bl 5 (w7.setCell ⟨gE, 0, none⟩ (B z)) gS ((secF h d s).map B) := HS7.but hb8 (fun e => hgES e.symm)
    obtain ⟨w8, hw8⟩ : ∃ w8, w7.setCell ⟨gE, 0, none⟩ (B z) = w8 := ⟨_, rfl⟩
    rw [hw8] at hE8 hS8 hb8
    obtain ⟨w9, hcp9, hE9, hb9⟩ := copyB w8 gE L (W - L) (W - L) S (some ⟨gS, 0, none⟩) (secF h d s) _ hE8 (Bl.rdb hS8) (by rw [List.length_map, List.length_append, topF_length, HXl.out, List.length_replicate]; have := HX.out; omega)
    rw [HSec.out] at hcp9
    rw [show W - L = S + 1 by have := HX.out; omega, em_s5 (topF q X) (secF h d s) L S (by rw [topF_length]; exact HXl.out) HSec.out] at hE9
    have hE10 := hE9.set M (B 188)
    rw [em_s6 (topF q X) (secF h d s) M (by rw [topF_length, HXl.out, HSec.out]; have := HX.out; omega)] at hE10
    have f9 := hE9.frozen M
    obtain ⟨o9, c9⟩ : ∃ v, w9.cell? ⟨gE, M, none⟩ = some v := ⟨_, hE9.cell M (by rw [List.length_map, List.length_append, topF_length, HXl.out, List.length_append, HSec.out, List.length_singleton]; have := HX.out; omega)⟩
    have HF : Hid (OBb gE w' (w9.setCell ⟨gE, M, none⟩ (.int .u8 188)) (.slice (some ⟨gE, 0, none⟩) W W) (encF h d s b)) := by
      have hb10 : But w7 (w9.setCell ⟨gE, M, none⟩ (B 188)) gE := (hb8.trans hb9).set _ _
      refine ⟨?_, HB7.trans (hb10.below (by have := hE7.lt; omega) (Nat.le_refl _))⟩
      rw [HEnc.out]
      have hl : (topF q X ++ (secF h d s ++ [188])).length = W := by rw [List.length_append, topF_length, HXl.out, List.length_append, HSec.out, List.length_singleton]; have := HX.out; omega
      have := hE10.owb (base := gE) (Nat.le_refl _) (by rw [hl]; omega)
      rw [hl] at this
      exact this
    have Hcp9 : Hid (∀ z, (Builtin.copy_ #[23, 23] 3 #[.slice (some ⟨gE, L, none⟩) (W - L) (W - L), .slice (some ⟨gS, 0, none⟩) S S]).run Tryd.prog (w8.drewN z) = .ok (.int .i64 ((Nat.min S (W - L) : Nat) : Int)) (w9.drewN z)) := hcp9
    have Hw8 : Hid (w7.setCell ⟨gE, 0, none⟩ (B z) = w8) := hw8
    clear hE7 hb7 HS7 HB7 hL0 hx hE8 hb8 hS8 hw8 hcp9 hE9 hb9 hE10 HS6 HB6 HEnc
    go_wp2
    refine wp_region_tail 11 (by kernel_rfl) (by kernel_rfl) ?_
    simp only [List.take_succ_cons, List.take_zero, List.drop_succ_cons, List.drop_zero]
    repeat (first | go_big_quiet_skip | (go_big_quiet_want; go_big_quiet_op; go_big_quiet_on))
    refine wpQuiet_nil ?_
    have hcp9' : (Builtin.copy_ #[23, 23] 3 #[.slice (some ⟨gE, L, none⟩) (W - L) (W - L), .slice (some ⟨gS, 0, none⟩) S S]).run Tryd.prog ((w7.drewN 1).setCell ⟨gE, 0, none⟩ (.int .u8 (z.toNat : Int))) = .ok (.int .i64 ((Nat.min S (W - L) : Nat) : Int)) (w9.drewN 1) := by
      have := Hcp9.out 1
      rw [← Hw8.out] at this
      exact this
    have f9' : (w9.drewN 1).frozen? ⟨gE, M, none⟩ = false := f9
    have c9' : (w9.drewN 1).cell? ⟨gE, M, none⟩ = some o9 := c9
    clear f9 c9 Hcp9 Hw8
    go_wp2
    go_ret2
    rw [Hv.out, Hg.out]
    exact ⟨_, rfl, HF.out.own, below_drewN HF.out.bel 1⟩
  · have Hv : Hid (pencV h d s bits = []) := by show _ = _; unfold pencV; rw [if_neg hp]
    have dp : (pcode h d.length s.length bits != 0) = true := by simpa using hp
    clear T r1 r2 hp
    generalize pcode h d.length s.length bits = pc at *
    go_enter Tryd.func16, Tryd.ntmps16
    go_wp2_with fail
    refine CR.mono ?_
    rintro e w' ⟨rfl, rfl⟩
    clear CR
    go_wp2
    go_ret2
    rw [Hv.out]
    exact ⟨_, rfl, OBb.nil _⟩

end Go.Proofs.YthnogdkkdekgpaaDoor
