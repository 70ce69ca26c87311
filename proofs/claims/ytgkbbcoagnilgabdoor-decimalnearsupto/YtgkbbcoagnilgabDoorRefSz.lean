import Derived.Test.YtgkbbcoagnilgabDoorRefAp
import Derived.Test.YtgkbbcoagnilgabDoorCompS
namespace Go.Proofs.YtgkbbcoagnilgabDoor
open Go.RowKit

/-- What Size answers, where the powers say ap. -/
def sizeV (za zb : List UInt8) (ap : Int) : Int :=
  if za = [] then (if zb = [] then 0 else -1) else if zb = [] then 1 else if ap < 0 then -1 else if 0 < ap then 1 else Lib.compareBytes za zb

theorem cmpB_step (za zb : List UInt8) (i : Nat) (ha : i < za.length) (hb : i < zb.length) : Lib.compareBytes (za.drop i) (zb.drop i) = if za[i].toNat < zb[i].toNat then -1 else if zb[i].toNat < za[i].toNat then 1 else Lib.compareBytes (za.drop (i + 1)) (zb.drop (i + 1)) := by
  rw [List.drop_eq_getElem_cons ha, List.drop_eq_getElem_cons hb]
  rw [Lib.compareBytes]
  rfl

theorem cmpB_left (za zb : List UInt8) (i : Nat) (ha : za.length ≤ i) (hb : i < zb.length) : Lib.compareBytes (za.drop i) (zb.drop i) = -1 := by
  rw [List.drop_eq_nil_of_le ha, List.drop_eq_getElem_cons hb]
  rfl
theorem cmpB_right (za zb : List UInt8) (i : Nat) (ha : i < za.length) (hb : zb.length ≤ i) : Lib.compareBytes (za.drop i) (zb.drop i) = 1 := by
  rw [List.drop_eq_nil_of_le hb, List.drop_eq_getElem_cons ha]
  rfl
theorem cmpB_none (za zb : List UInt8) (i : Nat) (ha : za.length ≤ i) (hb : zb.length ≤ i) : Lib.compareBytes (za.drop i) (zb.drop i) = 0 := by
  rw [List.drop_eq_nil_of_le hb, List.drop_eq_nil_of_le ha]
  rfl

set_option maxHeartbeats 4000000 in
set_option maxRecDepth 4000 in
theorem size_any (ma pa pla mb pb plb : Bool) (da db ea eb : Option Addr) (ca1 cb1 ca cb : Nat) (oa ob : Int) (za zb xa xb ta tb : List UInt8) (w : World) (hxa : allD xa) (hxb : allD xb) (hra : RdD w ea xa) (hrb : RdD w eb xb) (hda : RdD w da za) (hdb : RdD w db zb)
    (hla : xa.length ≤ 281474976710656) (hlb : xb.length ≤ 281474976710656) (hza : za.length ≤ 281474976710656) (hzb : zb.length ≤ 281474976710656) (hoa1 : -281474976710656 ≤ oa) (hoa2 : oa ≤ 281474976710656) (hob1 : -281474976710656 ≤ ob) (hob2 : ob ≤ 281474976710656) :
    Calls Tryd.prog 24 #[.agg #[.bool ma, .slice da za.length ca1, .int .i64 oa, .bool pa, .slice ea xa.length ca, .bool pla, .string ⟨ta.toArray⟩], .agg #[.bool mb, .slice db zb.length cb1, .int .i64 ob, .bool pb, .slice eb xb.length cb, .bool plb, .string ⟨tb.toArray⟩]] w fun e w' =>
      e = .returned (.int .i64 (sizeV za zb (apL (sd pa xa) (sd pb xb) (oa - ob) (max xa.length xb.length) 0))) ∧ Below w.heap.size w w' := by
  by_cases h1 : za = []
  · have hq1 : ((za.length : Int) == 0) = true := by subst h1; rfl
    by_cases h2 : zb = []
    · have hq2 : ((zb.length : Int) == 0) = true := by subst h2; rfl
      have Hr : Hid (sizeV za zb (apL (sd pa xa) (sd pb xb) (oa - ob) (max xa.length xb.length) 0) = 0) := by show _ = _; unfold sizeV; rw [if_pos h1, if_pos h2]
      clear h1 h2 hra hrb hda hdb hxa hxb
      go_enter Tryd.func24, Tryd.ntmps24
      go_wp2
      go_ret
      rw [Hr.out]
      refine ⟨rfl, ?_⟩
      (repeat' (first | with_reducible assumption | with_reducible exact Below.refl _ _ | with_reducible exact Nat.le_refl _ | with_reducible refine Below.setCell ?_ ?_ _ | with_reducible refine Below.alloc ?_ ?_ _ | with_reducible apply Below.drew | with_reducible apply below_drewN | omega | (simp; done) | (simp; omega)))
    · have hq2 : ((zb.length : Int) == 0) = false := by have := List.length_pos_iff.2 h2; simp; omega
      have Hr : Hid (sizeV za zb (apL (sd pa xa) (sd pb xb) (oa - ob) (max xa.length xb.length) 0) = -1) := by show _ = _; unfold sizeV; rw [if_pos h1, if_neg h2]
      clear h1 h2 hra hrb hda hdb hxa hxb
      go_enter Tryd.func24, Tryd.ntmps24
      go_wp2
      go_ret
      rw [Hr.out]
      refine ⟨rfl, ?_⟩
      (repeat' (first | with_reducible assumption | with_reducible exact Below.refl _ _ | with_reducible exact Nat.le_refl _ | with_reducible refine Below.setCell ?_ ?_ _ | with_reducible refine Below.alloc ?_ ?_ _ | with_reducible apply Below.drew | with_reducible apply below_drewN | omega | (simp; done) | (simp; omega)))
  · have hq1 : ((za.length : Int) == 0) = false := by have := List.length_pos_iff.2 h1; simp; omega
    by_cases h2 : zb = []
    · have hq2 : ((zb.length : Int) == 0) = true := by subst h2; rfl
      have Hr : Hid (sizeV za zb (apL (sd pa xa) (sd pb xb) (oa - ob) (max xa.length xb.length) 0) = 1) := by show _ = _; unfold sizeV; rw [if_neg h1, if_pos h2]
      clear h1 h2 hra hrb hda hdb hxa hxb
      go_enter Tryd.func24, Tryd.ntmps24
      go_wp2
      go_ret
      rw [Hr.out]
      refine ⟨rfl, ?_⟩
      (repeat' (first | with_reducible assumption | with_reducible exact Below.refl _ _ | with_reducible exact Nat.le_refl _ | with_reducible refine Below.setCell ?_ ?_ _ | with_reducible refine Below.alloc ?_ ?_ _ | with_reducible apply Below.drew | with_reducible apply below_drewN | omega | (simp; done) | (simp; omega)))
    · have hq2 : ((zb.length : Int) == 0) = false := by have := List.length_pos_iff.2 h2; simp; omega
      have HapC : Hid (∀ W : World, RdD W ea xa → RdD W eb xb → Calls Tryd.prog 44 #[.agg #[.bool ma, .slice da za.length ca1, .int .i64 oa, .bool pa, .slice ea xa.length ca, .bool pla, .string ⟨ta.toArray⟩], .agg #[.bool mb, .slice db zb.length cb1, .int .i64 ob, .bool pb, .slice eb xb.length cb, .bool plb, .string ⟨tb.toArray⟩]] W fun e w' =>
          e = .returned (.int .i64 (apL (sd pa xa) (sd pb xb) (oa - ob) (max xa.length xb.length) 0)) ∧ Below W.heap.size W w') := fun W h h' => apart_any ma pa pla mb pb plb da db ea eb za.length ca1 zb.length cb1 ca cb oa ob xa xb ta tb W hxa hxb h h' hla hlb hoa1 hoa2 hob1 hob2
      generalize apL (sd pa xa) (sd pb xb) (oa - ob) (max xa.length xb.length) 0 = ap at HapC ⊢
      have Hs : Hid (sizeV za zb ap = if ap < 0 then -1 else if 0 < ap then 1 else Lib.compareBytes za zb) := by show _ = _; unfold sizeV; rw [if_neg h1, if_neg h2]
      have HRa : Hid (RdD w ea xa) := hra
      have HRb : Hid (RdD w eb xb) := hrb
      have HDa : Hid (RdD w da za) := hda
      have HDb : Hid (RdD w db zb) := hdb
      clear h1 h2 hra hrb hda hdb hxa hxb
      go_enter Tryd.func24, Tryd.ntmps24
      go_wp2_with fail
      have hB2 : Below w.heap.size w ((w.alloc (boxR ma da za.length ca1 oa pa ea xa.length ca pla ta)).alloc (boxR mb db zb.length cb1 ob pb eb xb.length cb plb tb)) := by
        (repeat' (first | with_reducible assumption | with_reducible exact Below.refl _ _ | with_reducible exact Nat.le_refl _ | with_reducible refine Below.setCell ?_ ?_ _ | with_reducible refine Below.alloc ?_ ?_ _ | with_reducible apply Below.drew | with_reducible apply below_drewN | omega | (simp; done) | (simp; omega)))
      refine (HapC.out _ (HRa.out.below hB2) (HRb.out.below hB2)).mono ?_
      rintro e w4 ⟨rfl, hB4⟩
      have ka : w4.cell? ⟨w.heap.size, 1, none⟩ = some (.slice da za.length ca1) := (hB4.cell (by go_simp)).trans (by go_simp)
      have kb : w4.cell? ⟨w.heap.size + 1, 1, none⟩ = some (.slice db zb.length cb1) := (hB4.cell (by go_simp)).trans (by go_simp)
      have Hda4 : Hid (RdD w4 da za) := (HDa.out.below hB2).below hB4
      have Hdb4 : Hid (RdD w4 db zb) := (HDb.out.below hB2).below hB4
      have hL : Below w.heap.size w w4 := Below.trans hB2 (Below.mono hB4 (by simp; omega))
      clear hB2 hB4 HapC HRa HRb HDa HDb
      by_cases hn : ap < 0
      · have Hr : Hid (sizeV za zb ap = -1) := by show _ = _; rw [Hs.out, if_pos hn]
        go_wp2
        go_ret
        rw [Hr.out]
        exact ⟨rfl, hL⟩
      · by_cases hp : 0 < ap
        · have Hr : Hid (sizeV za zb ap = 1) := by show _ = _; rw [Hs.out, if_neg hn, if_pos hp]
          go_wp2
          go_ret
          rw [Hr.out]
          exact ⟨rfl, hL⟩
        · have Hr : Hid (sizeV za zb ap = Lib.compareBytes za zb) := by show _ = _; rw [Hs.out, if_neg hn, if_neg hp]
          have hd1 : decide (ap < 0) = false := by simpa using hn
          have hd2 : decide (0 < ap) = false := by simpa using hp
          clear Hs
          go_wp2
          go_loopw [6] (fun s6 wr => ∃ (i q : Nat), s6 = .int .i64 (i : Int) ∧ i ≤ za.length ∧ i ≤ zb.length ∧ Hid (Lib.compareBytes za zb = Lib.compareBytes (za.drop i) (zb.drop i)) ∧ wr = w4.drewN q) (fun s _ => za.length + zb.length - (intOf s).toNat)
          case atStart => exact ⟨0, 0, rfl, Nat.zero_le _, Nat.zero_le _, rfl, rfl⟩
          case round =>
            obtain ⟨i, q, rfl, hia, hib, Hc, rfl⟩ := hrel
            by_cases hla2 : i < za.length
            · by_cases hlb2 : i < zb.length
              · rcases Hda4.out with h0 | ⟨ba, rfl, hba, hca⟩
                · rw [h0] at hla2; simp at hla2
                rcases Hdb4.out with h0 | ⟨bb, rfl, hbb, hcb⟩
                · rw [h0] at hlb2; simp at hlb2
                have Hst : Hid _ := cmpB_step za zb i hla2 hlb2
                have gA := hca i za[i] (List.getElem?_eq_getElem hla2)
                have gB := hcb i zb[i] (List.getElem?_eq_getElem hlb2)
                unfold DW at gA gB
                generalize za[i] = x at gA Hst
                generalize zb[i] = y at gB Hst
                have hx := x.toNat_lt
                have hy := y.toNat_lt
                clear hca hcb
                by_cases hxy : x.toNat < y.toNat
                · have Hf : Hid (Lib.compareBytes za zb = -1) := by show _ = _; rw [Hc.out, Hst.out, if_pos hxy]
                  have hd : decide ((x.toNat : Int) - 48 < (y.toNat : Int) - 48) = true := by simp; omega
                  clear Hc Hst
                  go_wp2
                  go_quiet (fail)
                  go_wp2
                  go_ret
                  rw [Hr.out, Hf.out]
                  refine ⟨rfl, ?_⟩
                  (repeat' (first | with_reducible assumption | with_reducible exact Below.refl _ _ | with_reducible exact Nat.le_refl _ | with_reducible refine Below.setCell ?_ ?_ _ | with_reducible refine Below.alloc ?_ ?_ _ | with_reducible apply Below.drew | with_reducible apply below_drewN | omega | (simp; done) | (simp; omega)))
                · have hd : decide ((x.toNat : Int) - 48 < (y.toNat : Int) - 48) = false := by simp; omega
                  by_cases hyx : y.toNat < x.toNat
                  · have Hf : Hid (Lib.compareBytes za zb = 1) := by show _ = _; rw [Hc.out, Hst.out, if_neg hxy, if_pos hyx]
                    have hd2 : decide ((y.toNat : Int) - 48 < (x.toNat : Int) - 48) = true := by simp; omega
                    clear Hc Hst
                    go_wp2
                    go_quiet (fail)
                    go_wp2
                    go_quiet (fail)
                    go_wp2
                    go_ret
                    rw [Hr.out, Hf.out]
                    refine ⟨rfl, ?_⟩
                    (repeat' (first | with_reducible assumption | with_reducible exact Below.refl _ _ | with_reducible exact Nat.le_refl _ | with_reducible refine Below.setCell ?_ ?_ _ | with_reducible refine Below.alloc ?_ ?_ _ | with_reducible apply Below.drew | with_reducible apply below_drewN | omega | (simp; done) | (simp; omega)))
                  · have Hf : Hid (Lib.compareBytes za zb = Lib.compareBytes (za.drop (i + 1)) (zb.drop (i + 1))) := by show _ = _; rw [Hc.out, Hst.out, if_neg hxy, if_neg hyx]
                    have hd2 : decide ((y.toNat : Int) - 48 < (x.toNat : Int) - 48) = false := by simp; omega
                    clear Hc Hst
                    go_wp2
                    go_quiet (fail)
                    go_wp2
                    go_quiet (fail)
                    go_wp2
                    go_roundw
                    case rel => exact ⟨i + 1, _, by go_num, by omega, by omega, Hf, rfl⟩
                    case measure => simp [intOf]; omega
              · have Hf : Hid (Lib.compareBytes za zb = 1) := by show _ = _; rw [Hc.out, cmpB_right za zb i hla2 (by omega)]
                clear Hc
                go_wp2
                go_ret
                rw [Hr.out, Hf.out]
                exact ⟨rfl, below_drewN hL _⟩
            · by_cases hlb2 : i < zb.length
              · have Hf : Hid (Lib.compareBytes za zb = -1) := by show _ = _; rw [Hc.out, cmpB_left za zb i (by omega) hlb2]
                clear Hc
                go_wp2
                go_ret
                rw [Hr.out, Hf.out]
                exact ⟨rfl, below_drewN hL _⟩
              · have Hf : Hid (Lib.compareBytes za zb = 0) := by show _ = _; rw [Hc.out, cmpB_none za zb i (by omega) (by omega)]
                clear Hc
                go_wp2
                go_ret
                rw [Hr.out, Hf.out]
                exact ⟨rfl, below_drewN hL _⟩

end Go.Proofs.YtgkbbcoagnilgabDoor
