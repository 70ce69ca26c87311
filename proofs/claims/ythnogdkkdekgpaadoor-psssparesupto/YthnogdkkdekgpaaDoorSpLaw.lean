import Derived.Test.YthnogdkkdekgpaaDoorSpM
namespace Go.Proofs.YthnogdkkdekgpaaDoor
open Go.RowKit

theorem pencV_lenS (h : Int) (d s : List UInt8) (bits : Int) : (pencV h d s bits).length ≤ 65536 := by
  unfold pencV
  split
  · rename_i hp
    obtain ⟨h1, _, h3, _, h5⟩ := pcode_ok hp
    rw [encF_length h d s _ (isHB_pos h1) h5]
    unfold wid
    omega
  · simp
theorem maskV_lenS (h : Int) (seed : List UInt8) (n : Int) : (maskV h seed n).length ≤ 65536 := by
  unfold maskV
  split
  · rename_i h0
    unfold mcode at h0
    split at h0
    · cases h0
    · rename_i hb
      split at h0
      · cases h0
      · rw [maskF_length h seed _ (isHB_pos (by simpa using hb))]
        omega
  · simp
/-- Where an answer lies. -/
theorem OBb.place {B0 : Nat} {w ws : World} {v : Value} {l : List UInt8} (h : OBb B0 w ws v l) : ∃ a c, v = .slice a l.length c ∧ Rd ws a l ∧ (∀ x, a = some x → B0 ≤ x.block ∧ x.block < ws.heap.size) ∧ ws.ownsRow 0 5 1 v l.length (l.map B) ∧ (∀ g, v.ownBlock = some g → B0 ≤ g ∧ g < ws.heap.size) := by
  obtain ⟨a, c, e, _, hr⟩ := h.own.nb
  have hz : ws.ownsRow 0 5 1 v l.length (l.map B) := Owb.base h.own (Nat.zero_le _)
  have hb : ∀ g, v.ownBlock = some g → B0 ≤ g ∧ g < ws.heap.size := fun g hg => ⟨own_block h.own g hg, (World.ownsRow.lt h.own g hg).2⟩
  refine ⟨a, c, e, hr, fun x hx => ?_, hz, hb⟩
  rcases h.own.2 with ⟨e0, _⟩ | ⟨g, cap, cur, e0, hg, hh, _⟩
  · rw [e] at e0; injection e0 with e1; rw [hx] at e1; cases e1
  · rw [e] at e0; injection e0 with e1; rw [hx] at e1; injection e1 with e1; subst e1
    exact ⟨hg, (Array.getElem?_eq_some_iff.1 hh).1⟩

set_option maxRecDepth 100000 in
set_option maxHeartbeats 16000000 in
theorem sp_core (h : Int) (a1 a2 : Option Addr) (c1 c2 : Nat) (dg st : List UInt8) (bits n : Int) (W : World) (T : Sha.Tb W) (r1 : Rd W a1 dg) (r2 : Rd W a2 st)
    (k1 : dg.length ≤ c1) (k1' : c1 ≤ 9223372036854775807) (k2 : st.length ≤ c2) (k2' : c2 ≤ 9223372036854775807) (z1 : dg.length ≤ 3000000) (z2 : st.length ≤ 3000000) :
    Calls Tryd.prog 4 #[.int .i64 h, .slice a1 dg.length c1, .slice a2 st.length c2, .int .i64 bits, .int .i64 n] W fun x w' => x = .returned (.bool true) ∧ Below W.heap.size W w' := by
  have HT : Hid (Sha.Tb W) := T
  have H1 : Hid (Rd W a1 dg) := r1
  have H2 : Hid (Rd W a2 st) := r2
  have CA := awake10 W T
  obtain ⟨EA, HEA⟩ : ∃ E, Hid (pencV h dg st bits = E) := ⟨_, rfl⟩
  obtain ⟨EC, HEC⟩ : ∃ E, Hid (maskV h st n = E) := ⟨_, rfl⟩
  obtain ⟨na, Hna⟩ : ∃ k, Hid (EA.length = k) := ⟨_, rfl⟩
  obtain ⟨nc, Hnc⟩ : ∃ k, Hid (EC.length = k) := ⟨_, rfl⟩
  have hna : na ≤ 65536 := by rw [← Hna.out, ← HEA.out]; exact pencV_lenS h dg st bits
  have hnc : nc ≤ 65536 := by rw [← Hnc.out, ← HEC.out]; exact maskV_lenS h st n
  obtain ⟨ea, Hea⟩ : ∃ e, Hid (pcode h dg.length st.length bits = e) := ⟨_, rfl⟩
  obtain ⟨ec, Hec⟩ : ∃ e, Hid (mcode h n = e) := ⟨_, rfl⟩
  have HE : Hid (∀ w, Below W.heap.size W w → Calls Tryd.prog 16 #[.int .i64 h, .slice a1 dg.length c1, .slice a2 st.length c2, .int .i64 bits] w fun x w' => ∃ r, x = .returned (.tuple #[r, .int .i64 ea]) ∧ OBb w.heap.size w w' r EA) := fun w hb => by
    have := pencode_any h a1 a2 c1 c2 dg st bits w (HT.out.below hb) (H1.out.below hb (Nat.le_refl _)) (H2.out.below hb (Nat.le_refl _)) k1 k1' k2 k2' (by omega) (by omega)
    rwa [HEA.out, Hea.out] at this
  have HM : Hid (∀ w, Below W.heap.size W w → Calls Tryd.prog 12 #[.int .i64 h, .slice a2 st.length c2, .int .i64 n] w fun x w' => ∃ r, x = .returned (.tuple #[r, .int .i64 ec]) ∧ OBb w.heap.size w w' r EC) := fun w hb => by
    have := pmask_any h a2 c2 st n w (HT.out.below hb) (H2.out.below hb (Nat.le_refl _)) k2 k2' (by omega)
    rwa [HEC.out, Hec.out] at this
  have dea : (ea != ea) = false := by simp
  have dec : (ec != ec) = false := by simp
  clear T r1 r2
  go_enter Tryd.func4, Tryd.ntmps4
  go_wp2_with fail
  refine CA.mono ?_
  rintro x w1 ⟨rfl, hb1⟩
  clear CA
  have B1 : Hid (Below W.heap.size W w1) := hb1
  have C1 := HE.out w1 hb1
  clear hb1
  go_wp2_with fail
  refine C1.mono ?_
  rintro x w2 ⟨va, rfl, hA⟩
  clear C1
  have B2 : Hid (Below W.heap.size W w2) := B1.out.trans (hA.bel.mono B1.out.size)
  obtain ⟨aa, ca, eva, hAr, hAp, hAo, hAb⟩ := hA.place
  have C2 := HE.out w2 B2.out
  rw [Hna.out] at eva
  subst eva
  have HA2 : Hid (Rd w2 aa EA ∧ w2.ownsRow 0 5 1 (.slice aa na ca) na (EA.map B)) := ⟨hAr, by rw [Hna.out] at hAo; exact hAo⟩
  have HAb : Hid (∀ g, (Value.slice aa na ca).ownBlock = some g → w1.heap.size ≤ g ∧ g < w2.heap.size) := hAb
  have h12 : w1.heap.size ≤ w2.heap.size := hA.bel.size
  have hW1 : W.heap.size ≤ w1.heap.size := B1.out.size
  clear hA hAr hAp hAo hAb B1
  go_wp2_with fail
  refine C2.mono ?_
  rintro x w3 ⟨vb, rfl, hB⟩
  clear C2
  have B3 : Hid (Below W.heap.size W w3) := B2.out.trans (hB.bel.mono B2.out.size)
  obtain ⟨ab, cb, evb, hBr, hBp, hBo, hBb⟩ := hB.place
  have C3 := HM.out w3 B3.out
  rw [Hna.out] at evb
  subst evb
  have K3 : Hid (Below w2.heap.size w2 w3) := hB.bel
  have HB3 : Hid (Rd w3 ab EA) := hBr
  have HBp : Hid (∀ x, ab = some x → w2.heap.size ≤ x.block ∧ x.block < w3.heap.size) := hBp
  have h23 : w2.heap.size ≤ w3.heap.size := hB.bel.size
  clear hB hBr hBp hBo hBb B2
  go_wp2_with fail
  refine C3.mono ?_
  rintro x w4 ⟨vc, rfl, hC⟩
  clear C3
  have B4 : Hid (Below W.heap.size W w4) := B3.out.trans (hC.bel.mono B3.out.size)
  obtain ⟨ac, cc, evc, hCr, hCp, hCo, hCb⟩ := hC.place
  have C4 := HM.out w4 B4.out
  rw [Hnc.out] at evc
  subst evc
  have K4 : Hid (Below w3.heap.size w3 w4) := hC.bel
  have HC4 : Hid (Rd w4 ac EC ∧ w4.ownsRow 0 5 1 (.slice ac nc cc) nc (EC.map B)) := ⟨hCr, by rw [Hnc.out] at hCo; exact hCo⟩
  have HCb : Hid (∀ g, (Value.slice ac nc cc).ownBlock = some g → w3.heap.size ≤ g ∧ g < w4.heap.size) := hCb
  have h34 : w3.heap.size ≤ w4.heap.size := hC.bel.size
  clear hC hCr hCp hCo hCb B3
  go_wp2_with fail
  refine C4.mono ?_
  rintro x w5 ⟨vd, rfl, hD⟩
  clear C4
  have B5 : Hid (Below W.heap.size W w5) := B4.out.trans (hD.bel.mono B4.out.size)
  obtain ⟨ad, cd, evd, hDr, hDp, hDo, hDb⟩ := hD.place
  rw [Hnc.out] at evd
  subst evd
  have h45 : w4.heap.size ≤ w5.heap.size := hD.bel.size
  have b35 : Below w3.heap.size w3 w5 := K4.out.trans (hD.bel.mono h34)
  have b25 : Below w2.heap.size w2 w5 := K3.out.trans (b35.mono h23)
  have HDp : Hid (∀ x, ad = some x → w4.heap.size ≤ x.block ∧ x.block < w5.heap.size) := hDp
  have keepOwn : ∀ (w w' : World) (v : Value) (k : Nat) (xs : List Value), Below w.heap.size w w' → w.ownsRow 0 5 1 v k xs → w'.ownsRow 0 5 1 v k xs := fun w w' v k xs hb ho => by
    rcases ho.2 with h0 | ⟨g, cap, cur, e, hg, hh, r⟩
    · exact ⟨ho.1, .inl h0⟩
    · exact ⟨ho.1, .inr ⟨g, cap, cur, e, hg, by rw [hb.block g (Array.getElem?_eq_some_iff.1 hh).1]; exact hh, r⟩⟩
  have S5 : Hid (Rd w5 aa EA ∧ Rd w5 ab EA ∧ Rd w5 ac EC ∧ Rd w5 ad EC ∧ w5.ownsRow 0 5 1 (.slice aa na ca) na (EA.map B) ∧ w5.ownsRow 0 5 1 (.slice ac nc cc) nc (EC.map B)) :=
    ⟨HA2.out.1.below b25 (Nat.le_refl _), HB3.out.below b35 (Nat.le_refl _), HC4.out.1.below hD.bel (Nat.le_refl _), hDr, keepOwn _ _ _ _ _ b25 HA2.out.2, keepOwn _ _ _ _ _ hD.bel HC4.out.2⟩
  have HKO : Hid (∀ (w w' : World) (v : Value) (k : Nat) (xs : List Value), Below w.heap.size w w' → w.ownsRow 0 5 1 v k xs → w'.ownsRow 0 5 1 v k xs) := keepOwn
  have C5 := psame_any aa ab ca cb EA EA w5 S5.out.1 S5.out.2.1 (by rw [Hna.out]; omega)
  rw [Hna.out, decide_eq_true rfl] at C5
  clear hD hDr hDp hDo hDb b35 b25 keepOwn HA2 HB3 HC4 K3 K4 B4
  go_wp2_with fail
  refine C5.mono ?_
  rintro x w6 ⟨rfl, q6, hw6⟩
  clear C5
  have C6 := psame_any ac ad cc cd EC EC w6 (by rw [hw6]; exact S5.out.2.2.1) (by rw [hw6]; exact S5.out.2.2.2.1) (by rw [Hnc.out]; omega)
  rw [Hnc.out, decide_eq_true rfl] at C6
  have S6 : Hid (Rd w6 ab EA ∧ Rd w6 ad EC ∧ w6.ownsRow 0 5 1 (.slice aa na ca) na (EA.map B) ∧ w6.ownsRow 0 5 1 (.slice ac nc cc) nc (EC.map B) ∧ Below W.heap.size W w6 ∧ w6.heap.size = w5.heap.size) := by
    rw [hw6]; exact ⟨S5.out.2.1, S5.out.2.2.2.1, S5.out.2.2.2.2.1, S5.out.2.2.2.2.2, below_drewN B5.out q6, rfl⟩
  clear hw6 S5 B5
  go_wp2_with fail
  refine C6.mono ?_
  rintro x w7 ⟨rfl, q7, hw7⟩
  clear C6 dea dec
  have S7 : Hid (Rd w7 ab EA ∧ Rd w7 ad EC ∧ w7.ownsRow 0 5 1 (.slice aa na ca) na (EA.map B) ∧ w7.ownsRow 0 5 1 (.slice ac nc cc) nc (EC.map B) ∧ Below W.heap.size W w7 ∧ w7.heap.size = w5.heap.size) := by
    rw [hw7]; exact ⟨S6.out.1, S6.out.2.1, S6.out.2.2.1, S6.out.2.2.2.1, below_drewN S6.out.2.2.2.2.1 q7, S6.out.2.2.2.2.2⟩
  have C7 := proomy_any ab cb EA w7 S7.out.1 (by rw [Hna.out]; omega)
  rw [Hna.out] at C7
  clear hw7 S6
  go_wp2_with fail
  refine C7.mono ?_
  rintro x w8 ⟨rfl, hR8, hb8⟩
  clear C7
  obtain ⟨gw, hgw⟩ : ∃ g, w7.heap.size = g := ⟨_, rfl⟩
  have hgw5 : w5.heap.size ≤ gw := by have := S7.out.2.2.2.2.2; omega
  rw [hgw] at hR8
  have S8 : Hid (Rd w8 ab EA ∧ Rd w8 ad EC ∧ w8.ownsRow 0 5 1 (.slice aa na ca) na (EA.map B) ∧ w8.ownsRow 0 5 1 (.slice ac nc cc) nc (EC.map B) ∧ Below W.heap.size W w8 ∧ Rm w8 gw EA) :=
    ⟨S7.out.1.below hb8 (Nat.le_refl _), S7.out.2.1.below hb8 (Nat.le_refl _), HKO.out _ _ _ _ _ hb8 S7.out.2.2.1, HKO.out _ _ _ _ _ hb8 S7.out.2.2.2.1, S7.out.2.2.2.2.1.trans (hb8.mono S7.out.2.2.2.2.1.size), hR8⟩
  have C8 := proomy_any ad cd EC w8 S8.out.2.1 (by rw [Hnc.out]; omega)
  rw [Hnc.out] at C8
  have h78 : gw < w8.heap.size := Bl.lt hR8
  rw [hgw]
  clear hR8 hb8 S7 hgw
  go_wp2_with fail
  refine C8.mono ?_
  rintro x w9 ⟨rfl, hR9, hb9⟩
  clear C8
  obtain ⟨go, hgo⟩ : ∃ g, w8.heap.size = g := ⟨_, rfl⟩
  rw [hgo] at hR9
  have hgo5 : w5.heap.size ≤ go := by omega
  have S9 : Hid (Rd w9 ab EA ∧ Rd w9 ad EC ∧ w9.ownsRow 0 5 1 (.slice aa na ca) na (EA.map B) ∧ w9.ownsRow 0 5 1 (.slice ac nc cc) nc (EC.map B) ∧ Below W.heap.size W w9 ∧ Rm w9 gw EA ∧ Rm w9 go EC) :=
    ⟨S8.out.1.below hb9 (Nat.le_refl _), S8.out.2.1.below hb9 (Nat.le_refl _), HKO.out _ _ _ _ _ hb9 S8.out.2.2.1, HKO.out _ _ _ _ _ hb9 S8.out.2.2.2.1, S8.out.2.2.2.2.1.trans (hb9.mono S8.out.2.2.2.2.1.size), S8.out.2.2.2.2.2.below hb9 (Nat.le_refl _), hR9⟩
  have h59 : w4.heap.size ≤ w9.heap.size := by have := Bl.lt hR9; omega
  rw [hgo]
  clear hR9 hb9 S8 hgo HKO HE HM
  obtain ⟨f, hf⟩ : ∃ f : Nat → Prop, f = (fun k => (w1.heap.size ≤ k ∧ k < w2.heap.size) ∨ (w3.heap.size ≤ k ∧ k < w4.heap.size)) := ⟨_, rfl⟩
  have Hf : Hid (f = (fun k => (w1.heap.size ≤ k ∧ k < w2.heap.size) ∨ (w3.heap.size ≤ k ∧ k < w4.heap.size))) := hf
  have HF0 : Hid (w9.ownsRow 0 5 1 (.slice aa na ca) na ((List.replicate 0 (77 : UInt8) ++ EA.drop 0).map B) ∧ w9.ownsRow 0 5 1 (.slice ac nc cc) nc (EC.map B) ∧ Chf f w9 w9) := ⟨S9.out.2.2.1, S9.out.2.2.2.1, Chf.refl _ _⟩
  clear hf
  go_wp2
  go_loopw [21] (fun s21 wr => ∃ i : Nat, s21 = .int .i64 (i : Int) ∧ i ≤ na ∧ Hid (wr.ownsRow 0 5 1 (.slice aa na ca) na ((List.replicate i (77 : UInt8) ++ EA.drop i).map B) ∧ wr.ownsRow 0 5 1 (.slice ac nc cc) nc (EC.map B) ∧ Chf f w9 wr)) (fun s21 _ => na - (intOf s21).toNat)
  case atStart => exact ⟨0, rfl, Nat.zero_le _, HF0⟩
  case round =>
    clear HF0
    obtain ⟨i, rfl, hi, HF⟩ := hrel
    by_cases hlt : i < na
    · obtain ⟨ga, ega⟩ : ∃ ga, aa = some ⟨ga, 0, none⟩ := by
        rcases HF.out.1.2 with ⟨_, h0⟩ | ⟨g, cap, cur, e, _⟩
        · omega
        · injection e with e1
          exact ⟨g, e1⟩
      subst ega
      have hin := HAb.out ga rfl
      have gc := HF.out.1.cellAt i (by omega)
      have gf := HF.out.1.frozenAt i
      obtain ⟨old, hold⟩ : ∃ v, wr.cell? ⟨ga, i, none⟩ = some v := by
        rw [gc, List.getElem?_eq_getElem (by rw [List.length_map]; simp [Hna.out]; omega)]
        exact ⟨_, rfl⟩
      have hst := HF.out.1.stored i (B 77)
      have HF2 : Hid ((wr.setCell ⟨ga, i, none⟩ (.int .u8 77)).ownsRow 0 5 1 (.slice (some ⟨ga, 0, none⟩) na ca) na ((List.replicate (i + 1) (77 : UInt8) ++ EA.drop (i + 1)).map B) ∧ (wr.setCell ⟨ga, i, none⟩ (.int .u8 77)).ownsRow 0 5 1 (.slice ac nc cc) nc (EC.map B) ∧ Chf f w9 (wr.setCell ⟨ga, i, none⟩ (.int .u8 77))) := by
        refine ⟨?_, HF.out.2.1.kept hst.2 ?_, HF.out.2.2.grown hst.2 (fun g e => .inl ?_)⟩
        · have := hst.1
          rw [fill_setP 77 na i EA Hna.out hlt] at this
          exact this
        · cases hb : (Value.slice ac nc cc).ownBlock with
          | none => exact .inl rfl
          | some g => exact .inr (fun e => by injection e with e; subst e; have := HCb.out g hb; omega)
        · injection e with e; subst e; rw [Hf.out]; exact .inl hin
      clear gc hst
      go_wp2
      exact ⟨⟨i + 1, by go_num, by omega, HF2⟩, by simp [intOf]; omega⟩
    · obtain rfl : i = na := by omega
      have HG0 : Hid (wr.ownsRow 0 5 1 (.slice aa i ca) i ((List.replicate i (77 : UInt8)).map B) ∧ wr.ownsRow 0 5 1 (.slice ac nc cc) nc ((List.replicate 0 (78 : UInt8) ++ EC.drop 0).map B) ∧ Chf f w9 wr) := by
        refine ⟨?_, HF.out.2.1, HF.out.2.2⟩
        have := HF.out.1
        rw [List.drop_of_length_le (by rw [Hna.out]; exact Nat.le_refl _), List.append_nil] at this
        exact this
      clear HF hlt hi
      go_wp2
      go_loopw [22] (fun s22 wr => ∃ k : Nat, s22 = .int .i64 (k : Int) ∧ k ≤ nc ∧ Hid (wr.ownsRow 0 5 1 (.slice aa i ca) i ((List.replicate i (77 : UInt8)).map B) ∧ wr.ownsRow 0 5 1 (.slice ac nc cc) nc ((List.replicate k (78 : UInt8) ++ EC.drop k).map B) ∧ Chf f w9 wr)) (fun s22 _ => nc - (intOf s22).toNat)
      case atStart => exact ⟨0, rfl, Nat.zero_le _, HG0⟩
      case round =>
        clear HG0
        obtain ⟨k, rfl, hk, HG⟩ := hrel
        by_cases hlt : k < nc
        · obtain ⟨gC, egC⟩ : ∃ ga, ac = some ⟨ga, 0, none⟩ := by
            rcases HG.out.2.1.2 with ⟨_, h0⟩ | ⟨g, cap, cur, e, _⟩
            · omega
            · injection e with e1
              exact ⟨g, e1⟩
          subst egC
          have hin := HCb.out gC rfl
          have gc := HG.out.2.1.cellAt k (by omega)
          have gf := HG.out.2.1.frozenAt k
          obtain ⟨old, hold⟩ : ∃ v, wr.cell? ⟨gC, k, none⟩ = some v := by
            rw [gc, List.getElem?_eq_getElem (by rw [List.length_map]; simp [Hnc.out]; omega)]
            exact ⟨_, rfl⟩
          have hst := HG.out.2.1.stored k (B 78)
          have HG2 : Hid ((wr.setCell ⟨gC, k, none⟩ (.int .u8 78)).ownsRow 0 5 1 (.slice aa i ca) i ((List.replicate i (77 : UInt8)).map B) ∧ (wr.setCell ⟨gC, k, none⟩ (.int .u8 78)).ownsRow 0 5 1 (.slice (some ⟨gC, 0, none⟩) nc cc) nc ((List.replicate (k + 1) (78 : UInt8) ++ EC.drop (k + 1)).map B) ∧ Chf f w9 (wr.setCell ⟨gC, k, none⟩ (.int .u8 78))) := by
            refine ⟨HG.out.1.kept hst.2 ?_, ?_, HG.out.2.2.grown hst.2 (fun g e => .inl ?_)⟩
            · cases hb : (Value.slice aa i ca).ownBlock with
              | none => exact .inl rfl
              | some g => exact .inr (fun e => by injection e with e; subst e; have := HAb.out g hb; omega)
            · have := hst.1
              rw [fill_setP 78 nc k EC Hnc.out hlt] at this
              exact this
            · injection e with e; subst e; rw [Hf.out]; exact .inr hin
          clear gc hst
          go_wp2
          exact ⟨⟨k + 1, by go_num, by omega, HG2⟩, by simp [intOf]; omega⟩
        · obtain rfl : k = nc := by omega
          have HS0 : Hid (S2 w9 wr w1.heap.size w2.heap.size w3.heap.size w4.heap.size (.slice aa i ca) (.slice aa i ca) (.slice ac k cc) (.slice ac k cc) i k 0 0) := by
            have h1 := HG.out.1
            have h2 := HG.out.2.1
            rw [List.drop_of_length_le (by rw [Hnc.out]; exact Nat.le_refl _), List.append_nil] at h2
            have h3 := HG.out.2.2
            rw [Hf.out] at h3
            refine ⟨⟨by rw [List.replicate_zero, List.append_nil]; exact h1, h1, .inl rfl, HAb.out⟩, ⟨by rw [List.replicate_zero, List.append_nil]; exact h2, h2, .inl rfl, HCb.out⟩, fun g e1 e2 => ?_, h23, h59, h3⟩
            have := HAb.out g e1
            have := HCb.out g e2
            omega
          clear HG hlt hk
          have hoo : w1.heap.size ≤ w2.heap.size ∧ w3.heap.size ≤ w4.heap.size := ⟨h12, h34⟩
          go_wp2
          go_loopw [23, 24, 25] (fun s23 s24 s25 wr => ∃ (j : Nat) (ax ay : Option Addr) (cx cy : Nat), s25 = .int .i64 (j : Int) ∧ j ≤ 70 ∧ s23 = .slice ax (i + j) cx ∧ s24 = .slice ay (k + j) cy ∧ Hid (S2 w9 wr w1.heap.size w2.heap.size w3.heap.size w4.heap.size (.slice aa i ca) s23 (.slice ac k cc) s24 i k j j)) (fun _ _ s25 _ => 70 - (intOf s25).toNat)
          case atStart => exact ⟨0, _, _, _, _, rfl, by omega, rfl, rfl, HS0⟩
          case round =>
            clear HS0
            obtain ⟨j, ax, ay, cx, cy, rfl, hj, rfl, rfl, HS⟩ := hrel
            by_cases hlt : j < 70
            · obtain ⟨v', w', hrun, hS'⟩ := HS.out.stepX (by omega) hoo
              obtain ⟨am', cm', ev⟩ : ∃ a c, v' = .slice a (i + (j + 1)) c := by
                rcases hS'.A.own.2 with ⟨_, h0⟩ | ⟨g, cap, cur, e, _⟩
                · omega
                · exact ⟨_, _, e⟩
              subst ev
              obtain ⟨v2, w2', hrun2, hS2⟩ := hS'.stepY (by omega) hoo
              obtain ⟨an', cn', ev2⟩ : ∃ a c, v2 = .slice a (k + (j + 1)) c := by
                rcases hS2.C.own.2 with ⟨_, h0⟩ | ⟨g, cap, cur, e, _⟩
                · omega
                · exact ⟨_, _, e⟩
              subst ev2
              have HS2 : Hid (S2 w9 w2' w1.heap.size w2.heap.size w3.heap.size w4.heap.size (.slice aa i ca) (.slice am' (i + (j + 1)) cm') (.slice ac k cc) (.slice an' (k + (j + 1)) cn') i k (j + 1) (j + 1)) := hS2
              clear hS' hS2 HS
              go_wp2_with (first | (at_builtin; refine Lib.wpList_append_run _ rfl _ _ 23 23 rfl _ _ rfl rfl _ _ hrun ?_) | (at_builtin; refine Lib.wpList_append_run _ rfl _ _ 23 23 rfl _ _ rfl rfl _ _ hrun2 ?_) | fail)
              go_roundw
              case rel => exact ⟨j + 1, am', an', cm', cn', by go_num, by omega, rfl, rfl, HS2⟩
              case measure => simp [intOf]; omega
            · obtain rfl : j = 70 := by omega
              clear hlt hj
              obtain ⟨gx, egx⟩ : ∃ g, ax = some ⟨g, 0, none⟩ := by
                rcases HS.out.A.own.2 with ⟨_, h0⟩ | ⟨g, cap, cur, e, _⟩
                · omega
                · injection e with e1; exact ⟨g, e1⟩
              obtain ⟨gy, egy⟩ : ∃ g, ay = some ⟨g, 0, none⟩ := by
                rcases HS.out.C.own.2 with ⟨_, h0⟩ | ⟨g, cap, cur, e, _⟩
                · omega
                · injection e with e1; exact ⟨g, e1⟩
              subst egx
              subst egy
              have HcX : Hid (∀ m, (m < i → wr.cell? ⟨gx, m, none⟩ = some (.int .u8 77)) ∧ (i ≤ m → m < i + 70 → wr.cell? ⟨gx, m, none⟩ = some (.int .u8 79))) := fun m => HS.out.A.cellX m
              have HcY : Hid (∀ m, (m < k → wr.cell? ⟨gy, m, none⟩ = some (.int .u8 78)) ∧ (k ≤ m → m < k + 70 → wr.cell? ⟨gy, m, none⟩ = some (.int .u8 80))) := fun m => HS.out.C.cellX m
              have HcA : Hid (∀ m, m < i → ∃ g, aa = some ⟨g, 0, none⟩ ∧ wr.cell? ⟨g, m, none⟩ = some (.int .u8 77)) := fun m hm => by
                obtain ⟨ga, ega⟩ : ∃ g, aa = some ⟨g, 0, none⟩ := by
                  rcases HS.out.A.ownA.2 with ⟨_, h0⟩ | ⟨g, cap, cur, e, _⟩
                  · omega
                  · injection e with e1; exact ⟨g, e1⟩
                subst ega
                exact ⟨ga, rfl, HS.out.A.cellA m hm⟩
              have HcC : Hid (∀ m, m < k → ∃ g, ac = some ⟨g, 0, none⟩ ∧ wr.cell? ⟨g, m, none⟩ = some (.int .u8 78)) := fun m hm => by
                obtain ⟨ga, ega⟩ : ∃ g, ac = some ⟨g, 0, none⟩ := by
                  rcases HS.out.C.ownA.2 with ⟨_, h0⟩ | ⟨g, cap, cur, e, _⟩
                  · omega
                  · injection e with e1; exact ⟨g, e1⟩
                subst ega
                exact ⟨ga, rfl, HS.out.C.cellA m hm⟩
              go_wp2
              go_loop [26] (fun s => ∃ m : Nat, s = .int .i64 (m : Int) ∧ m ≤ i + 70) (fun s => i + 70 - (intOf s).toNat)
              case atStart => exact ⟨0, rfl, by omega⟩
              case round =>
                obtain ⟨m, rfl, hm⟩ := hrel
                by_cases hlt : m < i
                · obtain ⟨ga, rfl, y1⟩ := HcA.out m hlt
                  have y2 := (HcX.out m).1 hlt
                  have d1 : decide ((m : Int) < (i : Int)) = true := decide_eq_true (by omega)
                  have d2 : decide ((i : Int) ≤ (m : Int)) = false := decide_eq_false (by omega)
                  have d2' : decide (i ≤ m) = false := decide_eq_false (by omega)
                  have d3 : decide ((m : Int) < (i : Int) + 70) = true := decide_eq_true (by omega)
                  go_wp2
                  go_round
                  case rel => exact ⟨m + 1, by go_num, by omega⟩
                  case measure => simp [intOf]; omega
                · by_cases hlt2 : m < i + 70
                  · have y2 := (HcX.out m).2 (by omega) hlt2
                    have d1 : decide ((m : Int) < (i : Int)) = false := decide_eq_false (by omega)
                    have d2 : decide ((i : Int) ≤ (m : Int)) = true := decide_eq_true (by omega)
                    have d2' : decide (i ≤ m) = true := decide_eq_true (by omega)
                    have d3 : decide ((m : Int) < (i : Int) + 70) = true := decide_eq_true (by omega)
                    have hge : (i : Int) ≤ (m : Int) := by omega
                    have hge2 : i ≤ m := by omega
                    clear hlt
                    go_wp2
                    go_round
                    case rel => exact ⟨m + 1, by go_num, by omega⟩
                    case measure => simp [intOf]; omega
                  · obtain rfl : m = i + 70 := by omega
                    clear hlt hlt2 hm
                    have d3 : decide (((i + 70 : Nat) : Int) < (i : Int) + 70) = false := decide_eq_false (by omega)
                    go_wp2
                    go_loop [27] (fun s => ∃ m : Nat, s = .int .i64 (m : Int) ∧ m ≤ k + 70) (fun s => k + 70 - (intOf s).toNat)
                    case atStart => exact ⟨0, rfl, by omega⟩
                    case round =>
                      obtain ⟨m, rfl, hm⟩ := hrel
                      by_cases hlt : m < k
                      · obtain ⟨ga, rfl, y1⟩ := HcC.out m hlt
                        have y2 := (HcY.out m).1 hlt
                        have d1 : decide ((m : Int) < (k : Int)) = true := decide_eq_true (by omega)
                        have d2 : decide ((k : Int) ≤ (m : Int)) = false := decide_eq_false (by omega)
                        have d2' : decide (k ≤ m) = false := decide_eq_false (by omega)
                        have d3 : decide ((m : Int) < (k : Int) + 70) = true := decide_eq_true (by omega)
                        go_wp2
                        go_round
                        case rel => exact ⟨m + 1, by go_num, by omega⟩
                        case measure => simp [intOf]; omega
                      · by_cases hlt2 : m < k + 70
                        · have y2 := (HcY.out m).2 (by omega) hlt2
                          have d1 : decide ((m : Int) < (k : Int)) = false := decide_eq_false (by omega)
                          have d2 : decide ((k : Int) ≤ (m : Int)) = true := decide_eq_true (by omega)
                          have d2' : decide (k ≤ m) = true := decide_eq_true (by omega)
                          have d3 : decide ((m : Int) < (k : Int) + 70) = true := decide_eq_true (by omega)
                          have hge : (k : Int) ≤ (m : Int) := by omega
                          have hge2 : k ≤ m := by omega
                          clear hlt
                          go_wp2
                          go_round
                          case rel => exact ⟨m + 1, by go_num, by omega⟩
                          case measure => simp [intOf]; omega
                        · obtain rfl : m = k + 70 := by omega
                          clear hlt hlt2 hm
                          have hch := HS.out.chg
                          have hWf : ∀ z, z < W.heap.size → ¬ ((w1.heap.size ≤ z ∧ z < w2.heap.size) ∨ (w3.heap.size ≤ z ∧ z < w4.heap.size)) := fun z hz => by omega
                          have HBW : Hid (Below W.heap.size W wr) := hch.below S9.out.2.2.2.2.1 hWf
                          have hb' : Rd wr ab EA := S9.out.1.chf hch (fun a e => by have := HBp.out a e; omega)
                          have hw' : Rd wr (some ⟨gw, 0, none⟩) EA := S9.out.2.2.2.2.2.1.rd.chf hch (fun a e => by cases e; show ¬ ((w1.heap.size ≤ gw ∧ gw < w2.heap.size) ∨ (w3.heap.size ≤ gw ∧ gw < w4.heap.size)); omega)
                          have hd' : Rd wr ad EC := S9.out.2.1.chf hch (fun a e => by have := HDp.out a e; omega)
                          have ho' : Rd wr (some ⟨go, 0, none⟩) EC := S9.out.2.2.2.2.2.2.rd.chf hch (fun a e => by cases e; show ¬ ((w1.heap.size ≤ go ∧ go < w2.heap.size) ∨ (w3.heap.size ≤ go ∧ go < w4.heap.size)); omega)
                          have CX := psame_any ab (some ⟨gw, 0, none⟩) cb (i + 9) EA EA wr hb' hw' (by rw [Hna.out]; omega)
                          rw [Hna.out, decide_eq_true rfl] at CX
                          have HDO : Hid (Rd wr ad EC ∧ Rd wr (some ⟨go, 0, none⟩) EC) := ⟨hd', ho'⟩
                          have d3 : decide (((k + 70 : Nat) : Int) < (k : Int) + 70) = false := decide_eq_false (by omega)
                          clear hch hWf hb' hw' hd' ho' HcX HcY HcA HcC HS
                          go_wp2_with fail
                          refine CX.mono ?_
                          rintro x w10 ⟨rfl, q10, hw10⟩
                          clear CX
                          have CY := psame_any ad (some ⟨go, 0, none⟩) cd (k + 9) EC EC w10 (by rw [hw10]; exact HDO.out.1) (by rw [hw10]; exact HDO.out.2) (by rw [Hnc.out]; omega)
                          rw [Hnc.out, decide_eq_true rfl] at CY
                          have HB10 : Hid (Below W.heap.size W w10) := by rw [hw10]; exact below_drewN HBW.out q10
                          clear hw10
                          go_wp2_with fail
                          refine CY.mono ?_
                          rintro x w11 ⟨rfl, q11, hw11⟩
                          clear CY
                          have HB11 : Hid (Below W.heap.size W w11) := by rw [hw11]; exact below_drewN HB10.out q11
                          clear hw11
                          go_wp2
                          go_ret
                          exact ⟨rfl, HB11.out⟩

end Go.Proofs.YthnogdkkdekgpaaDoor
