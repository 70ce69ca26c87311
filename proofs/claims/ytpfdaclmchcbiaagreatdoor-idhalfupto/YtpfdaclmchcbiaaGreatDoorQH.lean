import Derived.Test.YtpfdaclmchcbiaaGreatDoorQC
import Derived.Test.YtpfdaclmchcbiaaGreatDoorB6Back1
namespace Go.Proofs.YtpfdaclmchcbiaaGreatDoor
open Go.RowKit
set_option maxRecDepth 100000

theorem lhash_any (a : Int) (w : World) : Calls Tryz.prog 17 #[.int .i64 a] w fun e w' => e = .returned (.int .i64 (hhF a)) ∧ w' = w := by
  rcases hh_cases a with h | ⟨h0, h⟩
  · rcases h with rfl | rfl | rfl | rfl | rfl | rfl | rfl | rfl | rfl | rfl | rfl | rfl <;>
    · go_enter Tryz.func17, Tryz.ntmps17
      go_wp2
      go_ret
      exact ⟨rfl, rfl⟩
  · rw [h0]
    have d1 := h 1 (by omega) (by omega)
    have d2 := h 2 (by omega) (by omega)
    have d3 := h 3 (by omega) (by omega)
    have d4 := h 4 (by omega) (by omega)
    have d5 := h 5 (by omega) (by omega)
    have d6 := h 6 (by omega) (by omega)
    have d7 := h 7 (by omega) (by omega)
    have d8 := h 8 (by omega) (by omega)
    have d9 := h 9 (by omega) (by omega)
    have da := h 10 (by omega) (by omega)
    have db := h 11 (by omega) (by omega)
    have dc := h 12 (by omega) (by omega)
    clear h h0
    go_enter Tryz.func17, Tryz.ntmps17
    go_wp2
    go_ret
    exact ⟨rfl, rfl⟩


set_option maxRecDepth 100000 in
set_option maxHeartbeats 8000000 in
theorem ihalf_1 (a : Int) (t o : List UInt8) (w : World) (hG : GL w.heap.size w) (hX : Sha.Tb w) (ht : t.length ≤ 1000000000) (ho : o.length ≤ 1000000000) (hh : hhF a = 1) :
    Calls Tryz.prog 4 #[.int .i64 a, .string ⟨t.toArray⟩, .string ⟨o.toArray⟩] w fun e w' => e = .returned (.bool true) ∧ Below w.heap.size w w' := by
  have HXq : Hid (∀ wq, Below w.heap.size w wq → Sha.Tb wq) := fun wq hq => hX.below hq
  have CA := awake22_any w hG hX
  obtain ⟨Bt, hBt⟩ : ∃ x, (Sha.sumF 1 t).take 16 = x := ⟨_, rfl⟩
  have hlen := Sha.sumF_length 1 t
  rw [show Sha.siz 1 = 32 from rfl] at hlen
  have hbl : Bt.length = 16 := by rw [← hBt, List.length_take, hlen]; rfl
  have hsl : (B64.enc B64.urlRow Bt).length = 22 := by rw [B64.enc_length, hbl]
  have eH : halfF a t = (B64.enc B64.urlRow Bt, 0) := by unfold halfF; rw [hh, if_neg (by decide), ← hBt]; rfl
  have eO : halfF a o = (B64.enc B64.urlRow ((Sha.sumF 1 o).take 16), 0) := by unfold halfF; rw [hh, if_neg (by decide)]; rfl
  obtain ⟨So, hSo⟩ : ∃ x, B64.enc B64.urlRow ((Sha.sumF 1 o).take 16) = x := ⟨_, rfl⟩
  have hol : So.length = 22 := by
    have h2 := Sha.sumF_length 1 o
    rw [show Sha.siz 1 = 32 from rfl] at h2
    rw [← hSo, B64.enc_length, List.length_take, h2]
    rfl
  rw [hSo] at eO
  obtain ⟨S, hS⟩ : ∃ x, B64.enc B64.urlRow Bt = x := ⟨_, rfl⟩
  have hDec : B64.decU S = (some Bt, 0, 0) := by rw [← hS]; exact B64.decU_enc Bt
  rw [hS] at eH hsl
  have HD : Hid (B64.decU S = (some Bt, 0, 0) ∧ S.length = 22 ∧ So.length = 22 ∧ Bt.length = 16) := ⟨hDec, hsl, hol, hbl⟩
  have HEl : Hid (∀ j, j < 16 → ∃ X : UInt8, Bt[j]? = some X ∧ (Sha.sumF 1 t)[j]? = some X) := fun j hj => by
    have h1 : j < (Sha.sumF 1 t).length := by omega
    refine ⟨(Sha.sumF 1 t)[j], ?_, List.getElem?_eq_getElem h1⟩
    rw [← hBt, List.getElem?_take, if_pos hj, List.getElem?_eq_getElem h1]
  have Hlen : Hid ((Sha.sumF 1 t).length = 32) := hlen
  have HEH : Hid (halfF a t = (S, 0) ∧ halfF a o = (So, 0)) := ⟨eH, eO⟩
  have Hht : Hid (t.length ≤ 1000000000 ∧ o.length ≤ 1000000000) := ⟨ht, ho⟩
  have Hhh : Hid (hhF a = 1) := hh
  clear hG hX hlen hbl hsl eH eO hol hDec hBt hSo hS ht ho hh
  go_enter Tryz.func4, Tryz.ntmps4
  go_wp2_with fail
  refine CA.mono ?_
  clear CA
  rintro e w1 ⟨rfl, hB1⟩
  have HB1 : Hid (Below w.heap.size w w1) := hB1
  have CH := half_any a t w1 (HXq.out w1 hB1) Hht.out.1
  rw [HEH.out.1] at CH
  have CH : Calls Tryz.prog 16 #[.int .i64 a, .string ⟨t.toArray⟩] w1 fun e w' => e = .returned (.tuple #[.string ⟨S.toArray⟩, .int .i64 0]) ∧ Below w1.heap.size w1 w' := CH
  clear hB1
  go_wp2_with fail
  refine CH.mono ?_
  clear CH
  rintro e w2 ⟨rfl, hB2⟩
  have HB2 : Hid (Below w.heap.size w w2) := HB1.out.trans (hB2.mono HB1.out.size)
  have CL := lhash_any a w2
  rw [Hhh.out] at CL
  clear hB2 HB1
  go_wp2_with fail
  refine CL.mono ?_
  clear CL
  rintro e w2' ⟨rfl, rfl⟩
  have CD := B64.decode_any S w2' (by have := HD.out.2.1; omega)
  rw [HD.out.1] at CD
  go_wp2_with fail
  refine CD.mono ?_
  clear CD
  rintro e w3 ⟨v, rfl, hans, hB3⟩
  obtain ⟨gb, cb, hgb, rfl, hown⟩ := hans
  have HB3 : Hid (Below w.heap.size w w3) := HB2.out.trans (hB3.mono HB2.out.size)
  have HCb : Hid (∀ wq, Below w3.heap.size w3 wq → ∀ (j : Nat) (X : UInt8), Bt[j]? = some X → wq.cell? ⟨gb, j, none⟩ = some (.int .u8 (X.toNat : Int))) := fun wq hq j X hj => by
    have h1 := (own_cell hown j (B64.B X) (by rw [List.getElem?_map, hj]; rfl)).1
    exact cell_but h1 fun h => hq.block _ h
  have hbt := HD.out.2.2.2
  rw [hbt]
  obtain ⟨c, W1, hcv, hr, hc1, hc2, hb⟩ := conv_bytes t w3 Hht.out.1
  have b5 := alloc_below9 W1 (.cells #[.slice (some ⟨w3.heap.size, 0, none⟩) t.length c] 46)
  have CQ := Sha.ssum_any 1 (some ⟨W1.heap.size, 0, none⟩) 1 [⟨some ⟨w3.heap.size, 0, none⟩, c, t⟩] (W1.alloc (.cells #[.slice (some ⟨w3.heap.size, 0, none⟩) t.length c] 46)) (((HXq.out w3 HB3.out).below hb).below b5) (parts_one W1 ⟨some ⟨w3.heap.size, 0, none⟩, c, t⟩ ⟨hr, hc1, hc2⟩) (by simp) (by simp [Sha.cat]; have := Hht.out.1; omega)
  rw [show Sha.cat [⟨some ⟨w3.heap.size, 0, none⟩, c, t⟩] = t by simp [Sha.cat], show Sha.siz 1 = 32 from rfl] at CQ
  have HB4 : Hid (Below w3.heap.size w3 (W1.alloc (.cells #[.slice (some ⟨w3.heap.size, 0, none⟩) t.length c] 46))) := hb.trans (b5.mono hb.size)
  clear hb b5 hr hc1 hc2 hB3 hown hgb hbt
  go_wp2_with fail
  refine CQ.mono ?_
  clear CQ
  rintro e w5 ⟨a2, rfl, hos, hB5⟩
  obtain ⟨g, rfl⟩ := own_some hos (by have := Hlen.out; omega)
  have hr5 : Rd w5 (some ⟨g, 0, none⟩) (Sha.sumF 1 t) := Sha.Own.rd hos
  have HB35 : Hid (Below w3.heap.size w3 w5) := HB4.out.trans (hB5.mono HB4.out.size)
  have HB5 : Hid (Below w.heap.size w w5) := HB3.out.trans (HB35.out.mono HB3.out.size)
  have HCC : Hid (∀ wq, Below w5.heap.size w5 wq → ∀ j, j < 16 → ∃ X : UInt8, wq.cell? ⟨gb, j, none⟩ = some (.int .u8 (X.toNat : Int)) ∧ wq.cell? ⟨g, j, none⟩ = some (.int .u8 (X.toNat : Int))) := fun wq hq j hj => by
    obtain ⟨X, h1, h2⟩ := HEl.out j hj
    refine ⟨X, HCb.out wq (HB35.out.trans (hq.mono HB35.out.size)) j X h1, ?_⟩
    have hl := Hlen.out
    rcases hr5 with h | ⟨g', off, e, hg, hc⟩
    · rw [h] at hl; cases hl
    · obtain ⟨rfl, rfl⟩ : g = g' ∧ 0 = off := by injection e with e; injection e with e1 e2; exact ⟨e1, e2⟩
      have h3 := hc j (by omega)
      rw [Nat.zero_add, List.getD_eq_getElem?_getD, h2, Option.getD_some] at h3
      exact cell_but h3 fun h => hq.block _ h
  have CZ := Sha.size_any 1 w5
  rw [show Sha.siz 1 = 32 from rfl] at CZ
  clear hr5 hos hB5 HB4 HB3 HB35 HCb HEl Hlen
  go_wp2_with fail
  refine CZ.mono ?_
  rintro e w5' ⟨rfl, e5⟩
  subst e5
  go_wp2_with fail
  refine CZ.mono ?_
  rintro e w5'' ⟨rfl, e5⟩
  subst e5
  clear CZ
  go_wp2
  go_loopw [14] (fun s wx => ∃ i : Nat, s = .int .i64 i ∧ i ≤ 16 ∧ Hid (Below w5''.heap.size w5'' wx)) (fun x _ => 16 - (intOf x).toNat)
  case atStart => exact ⟨0, rfl, by omega, Below.refl _ _⟩
  case round =>
    obtain ⟨i, rfl, hi, HBi⟩ := hrel
    by_cases hlt : i < 16
    · have q0 : decide ((i : Int) < 16) = true := decide_eq_true (by omega)
      obtain ⟨X, c1, c2⟩ := HCC.out wr HBi.out i hlt
      have hi2 : (i : Int) < 32 := by omega
      go_wp2
      go_quiet (fail)
      go_wp2
      go_roundw
      case rel => exact ⟨i + 1, by go_num, by omega, (by apply below_drewN; exact HBi.out)⟩
      case measure => simp [intOf]; omega
    · have q0 : decide ((i : Int) < 16) = false := decide_eq_false (by omega)
      have HB6 : Hid (Below w.heap.size w wr) := HB5.out.trans (HBi.out.mono HB5.out.size)
      have CO := half_any a o wr (HXq.out wr HB6.out) Hht.out.2
      rw [HEH.out.2] at CO
      have CO : Calls Tryz.prog 16 #[.int .i64 a, .string ⟨o.toArray⟩] wr fun e w' => e = .returned (.tuple #[.string ⟨So.toArray⟩, .int .i64 0]) ∧ Below wr.heap.size wr w' := CO
      have HL2 : Hid (So.length = 22 ∧ S.length = 22) := ⟨HD.out.2.2.1, HD.out.2.1⟩
      clear HBi HCC HD hi hlt
      go_wp2_with fail
      refine CO.mono ?_
      clear CO
      rintro e w7 ⟨rfl, hB7⟩
      have HB7 : Hid (Below w.heap.size w w7) := HB6.out.trans (hB7.mono HB6.out.size)
      have hso := HL2.out.1
      have hss := HL2.out.2
      clear hB7 HL2
      go_wp2
      go_ret
      exact ⟨by first | rfl | (simp [hso, hss]; done), HB7.out⟩

set_option maxRecDepth 100000 in
set_option maxHeartbeats 8000000 in
theorem ihalf_2 (a : Int) (t o : List UInt8) (w : World) (hG : GL w.heap.size w) (hX : Sha.Tb w) (ht : t.length ≤ 1000000000) (ho : o.length ≤ 1000000000) (hh : hhF a = 2) :
    Calls Tryz.prog 4 #[.int .i64 a, .string ⟨t.toArray⟩, .string ⟨o.toArray⟩] w fun e w' => e = .returned (.bool true) ∧ Below w.heap.size w w' := by
  have HXq : Hid (∀ wq, Below w.heap.size w wq → Sha.Tb wq) := fun wq hq => hX.below hq
  have CA := awake22_any w hG hX
  obtain ⟨Bt, hBt⟩ : ∃ x, (Sha.sumF 2 t).take 24 = x := ⟨_, rfl⟩
  have hlen := Sha.sumF_length 2 t
  rw [show Sha.siz 2 = 48 from rfl] at hlen
  have hbl : Bt.length = 24 := by rw [← hBt, List.length_take, hlen]; rfl
  have hsl : (B64.enc B64.urlRow Bt).length = 32 := by rw [B64.enc_length, hbl]
  have eH : halfF a t = (B64.enc B64.urlRow Bt, 0) := by unfold halfF; rw [hh, if_neg (by decide), ← hBt]; rfl
  have eO : halfF a o = (B64.enc B64.urlRow ((Sha.sumF 2 o).take 24), 0) := by unfold halfF; rw [hh, if_neg (by decide)]; rfl
  obtain ⟨So, hSo⟩ : ∃ x, B64.enc B64.urlRow ((Sha.sumF 2 o).take 24) = x := ⟨_, rfl⟩
  have hol : So.length = 32 := by
    have h2 := Sha.sumF_length 2 o
    rw [show Sha.siz 2 = 48 from rfl] at h2
    rw [← hSo, B64.enc_length, List.length_take, h2]
    rfl
  rw [hSo] at eO
  obtain ⟨S, hS⟩ : ∃ x, B64.enc B64.urlRow Bt = x := ⟨_, rfl⟩
  have hDec : B64.decU S = (some Bt, 0, 0) := by rw [← hS]; exact B64.decU_enc Bt
  rw [hS] at eH hsl
  have HD : Hid (B64.decU S = (some Bt, 0, 0) ∧ S.length = 32 ∧ So.length = 32 ∧ Bt.length = 24) := ⟨hDec, hsl, hol, hbl⟩
  have HEl : Hid (∀ j, j < 24 → ∃ X : UInt8, Bt[j]? = some X ∧ (Sha.sumF 2 t)[j]? = some X) := fun j hj => by
    have h1 : j < (Sha.sumF 2 t).length := by omega
    refine ⟨(Sha.sumF 2 t)[j], ?_, List.getElem?_eq_getElem h1⟩
    rw [← hBt, List.getElem?_take, if_pos hj, List.getElem?_eq_getElem h1]
  have Hlen : Hid ((Sha.sumF 2 t).length = 48) := hlen
  have HEH : Hid (halfF a t = (S, 0) ∧ halfF a o = (So, 0)) := ⟨eH, eO⟩
  have Hht : Hid (t.length ≤ 1000000000 ∧ o.length ≤ 1000000000) := ⟨ht, ho⟩
  have Hhh : Hid (hhF a = 2) := hh
  clear hG hX hlen hbl hsl eH eO hol hDec hBt hSo hS ht ho hh
  go_enter Tryz.func4, Tryz.ntmps4
  go_wp2_with fail
  refine CA.mono ?_
  clear CA
  rintro e w1 ⟨rfl, hB1⟩
  have HB1 : Hid (Below w.heap.size w w1) := hB1
  have CH := half_any a t w1 (HXq.out w1 hB1) Hht.out.1
  rw [HEH.out.1] at CH
  have CH : Calls Tryz.prog 16 #[.int .i64 a, .string ⟨t.toArray⟩] w1 fun e w' => e = .returned (.tuple #[.string ⟨S.toArray⟩, .int .i64 0]) ∧ Below w1.heap.size w1 w' := CH
  clear hB1
  go_wp2_with fail
  refine CH.mono ?_
  clear CH
  rintro e w2 ⟨rfl, hB2⟩
  have HB2 : Hid (Below w.heap.size w w2) := HB1.out.trans (hB2.mono HB1.out.size)
  have CL := lhash_any a w2
  rw [Hhh.out] at CL
  clear hB2 HB1
  go_wp2_with fail
  refine CL.mono ?_
  clear CL
  rintro e w2' ⟨rfl, rfl⟩
  have CD := B64.decode_any S w2' (by have := HD.out.2.1; omega)
  rw [HD.out.1] at CD
  go_wp2_with fail
  refine CD.mono ?_
  clear CD
  rintro e w3 ⟨v, rfl, hans, hB3⟩
  obtain ⟨gb, cb, hgb, rfl, hown⟩ := hans
  have HB3 : Hid (Below w.heap.size w w3) := HB2.out.trans (hB3.mono HB2.out.size)
  have HCb : Hid (∀ wq, Below w3.heap.size w3 wq → ∀ (j : Nat) (X : UInt8), Bt[j]? = some X → wq.cell? ⟨gb, j, none⟩ = some (.int .u8 (X.toNat : Int))) := fun wq hq j X hj => by
    have h1 := (own_cell hown j (B64.B X) (by rw [List.getElem?_map, hj]; rfl)).1
    exact cell_but h1 fun h => hq.block _ h
  have hbt := HD.out.2.2.2
  rw [hbt]
  obtain ⟨c, W1, hcv, hr, hc1, hc2, hb⟩ := conv_bytes t w3 Hht.out.1
  have b5 := alloc_below9 W1 (.cells #[.slice (some ⟨w3.heap.size, 0, none⟩) t.length c] 46)
  have CQ := Sha.ssum_any 2 (some ⟨W1.heap.size, 0, none⟩) 1 [⟨some ⟨w3.heap.size, 0, none⟩, c, t⟩] (W1.alloc (.cells #[.slice (some ⟨w3.heap.size, 0, none⟩) t.length c] 46)) (((HXq.out w3 HB3.out).below hb).below b5) (parts_one W1 ⟨some ⟨w3.heap.size, 0, none⟩, c, t⟩ ⟨hr, hc1, hc2⟩) (by simp) (by simp [Sha.cat]; have := Hht.out.1; omega)
  rw [show Sha.cat [⟨some ⟨w3.heap.size, 0, none⟩, c, t⟩] = t by simp [Sha.cat], show Sha.siz 2 = 48 from rfl] at CQ
  have HB4 : Hid (Below w3.heap.size w3 (W1.alloc (.cells #[.slice (some ⟨w3.heap.size, 0, none⟩) t.length c] 46))) := hb.trans (b5.mono hb.size)
  clear hb b5 hr hc1 hc2 hB3 hown hgb hbt
  go_wp2_with fail
  refine CQ.mono ?_
  clear CQ
  rintro e w5 ⟨a2, rfl, hos, hB5⟩
  obtain ⟨g, rfl⟩ := own_some hos (by have := Hlen.out; omega)
  have hr5 : Rd w5 (some ⟨g, 0, none⟩) (Sha.sumF 2 t) := Sha.Own.rd hos
  have HB35 : Hid (Below w3.heap.size w3 w5) := HB4.out.trans (hB5.mono HB4.out.size)
  have HB5 : Hid (Below w.heap.size w w5) := HB3.out.trans (HB35.out.mono HB3.out.size)
  have HCC : Hid (∀ wq, Below w5.heap.size w5 wq → ∀ j, j < 24 → ∃ X : UInt8, wq.cell? ⟨gb, j, none⟩ = some (.int .u8 (X.toNat : Int)) ∧ wq.cell? ⟨g, j, none⟩ = some (.int .u8 (X.toNat : Int))) := fun wq hq j hj => by
    obtain ⟨X, h1, h2⟩ := HEl.out j hj
    refine ⟨X, HCb.out wq (HB35.out.trans (hq.mono HB35.out.size)) j X h1, ?_⟩
    have hl := Hlen.out
    rcases hr5 with h | ⟨g', off, e, hg, hc⟩
    · rw [h] at hl; cases hl
    · obtain ⟨rfl, rfl⟩ : g = g' ∧ 0 = off := by injection e with e; injection e with e1 e2; exact ⟨e1, e2⟩
      have h3 := hc j (by omega)
      rw [Nat.zero_add, List.getD_eq_getElem?_getD, h2, Option.getD_some] at h3
      exact cell_but h3 fun h => hq.block _ h
  have CZ := Sha.size_any 2 w5
  rw [show Sha.siz 2 = 48 from rfl] at CZ
  clear hr5 hos hB5 HB4 HB3 HB35 HCb HEl Hlen
  go_wp2_with fail
  refine CZ.mono ?_
  rintro e w5' ⟨rfl, e5⟩
  subst e5
  go_wp2_with fail
  refine CZ.mono ?_
  rintro e w5'' ⟨rfl, e5⟩
  subst e5
  clear CZ
  go_wp2
  go_loopw [14] (fun s wx => ∃ i : Nat, s = .int .i64 i ∧ i ≤ 24 ∧ Hid (Below w5''.heap.size w5'' wx)) (fun x _ => 24 - (intOf x).toNat)
  case atStart => exact ⟨0, rfl, by omega, Below.refl _ _⟩
  case round =>
    obtain ⟨i, rfl, hi, HBi⟩ := hrel
    by_cases hlt : i < 24
    · have q0 : decide ((i : Int) < 24) = true := decide_eq_true (by omega)
      obtain ⟨X, c1, c2⟩ := HCC.out wr HBi.out i hlt
      have hi2 : (i : Int) < 48 := by omega
      go_wp2
      go_quiet (fail)
      go_wp2
      go_roundw
      case rel => exact ⟨i + 1, by go_num, by omega, (by apply below_drewN; exact HBi.out)⟩
      case measure => simp [intOf]; omega
    · have q0 : decide ((i : Int) < 24) = false := decide_eq_false (by omega)
      have HB6 : Hid (Below w.heap.size w wr) := HB5.out.trans (HBi.out.mono HB5.out.size)
      have CO := half_any a o wr (HXq.out wr HB6.out) Hht.out.2
      rw [HEH.out.2] at CO
      have CO : Calls Tryz.prog 16 #[.int .i64 a, .string ⟨o.toArray⟩] wr fun e w' => e = .returned (.tuple #[.string ⟨So.toArray⟩, .int .i64 0]) ∧ Below wr.heap.size wr w' := CO
      have HL2 : Hid (So.length = 32 ∧ S.length = 32) := ⟨HD.out.2.2.1, HD.out.2.1⟩
      clear HBi HCC HD hi hlt
      go_wp2_with fail
      refine CO.mono ?_
      clear CO
      rintro e w7 ⟨rfl, hB7⟩
      have HB7 : Hid (Below w.heap.size w w7) := HB6.out.trans (hB7.mono HB6.out.size)
      have hso := HL2.out.1
      have hss := HL2.out.2
      clear hB7 HL2
      go_wp2
      go_ret
      exact ⟨by first | rfl | (simp [hso, hss]; done), HB7.out⟩

set_option maxRecDepth 100000 in
set_option maxHeartbeats 8000000 in
theorem ihalf_3 (a : Int) (t o : List UInt8) (w : World) (hG : GL w.heap.size w) (hX : Sha.Tb w) (ht : t.length ≤ 1000000000) (ho : o.length ≤ 1000000000) (hh : hhF a = 3) :
    Calls Tryz.prog 4 #[.int .i64 a, .string ⟨t.toArray⟩, .string ⟨o.toArray⟩] w fun e w' => e = .returned (.bool true) ∧ Below w.heap.size w w' := by
  have HXq : Hid (∀ wq, Below w.heap.size w wq → Sha.Tb wq) := fun wq hq => hX.below hq
  have CA := awake22_any w hG hX
  obtain ⟨Bt, hBt⟩ : ∃ x, (Sha.sumF 3 t).take 32 = x := ⟨_, rfl⟩
  have hlen := Sha.sumF_length 3 t
  rw [show Sha.siz 3 = 64 from rfl] at hlen
  have hbl : Bt.length = 32 := by rw [← hBt, List.length_take, hlen]; rfl
  have hsl : (B64.enc B64.urlRow Bt).length = 43 := by rw [B64.enc_length, hbl]
  have eH : halfF a t = (B64.enc B64.urlRow Bt, 0) := by unfold halfF; rw [hh, if_neg (by decide), ← hBt]; rfl
  have eO : halfF a o = (B64.enc B64.urlRow ((Sha.sumF 3 o).take 32), 0) := by unfold halfF; rw [hh, if_neg (by decide)]; rfl
  obtain ⟨So, hSo⟩ : ∃ x, B64.enc B64.urlRow ((Sha.sumF 3 o).take 32) = x := ⟨_, rfl⟩
  have hol : So.length = 43 := by
    have h2 := Sha.sumF_length 3 o
    rw [show Sha.siz 3 = 64 from rfl] at h2
    rw [← hSo, B64.enc_length, List.length_take, h2]
    rfl
  rw [hSo] at eO
  obtain ⟨S, hS⟩ : ∃ x, B64.enc B64.urlRow Bt = x := ⟨_, rfl⟩
  have hDec : B64.decU S = (some Bt, 0, 0) := by rw [← hS]; exact B64.decU_enc Bt
  rw [hS] at eH hsl
  have HD : Hid (B64.decU S = (some Bt, 0, 0) ∧ S.length = 43 ∧ So.length = 43 ∧ Bt.length = 32) := ⟨hDec, hsl, hol, hbl⟩
  have HEl : Hid (∀ j, j < 32 → ∃ X : UInt8, Bt[j]? = some X ∧ (Sha.sumF 3 t)[j]? = some X) := fun j hj => by
    have h1 : j < (Sha.sumF 3 t).length := by omega
    refine ⟨(Sha.sumF 3 t)[j], ?_, List.getElem?_eq_getElem h1⟩
    rw [← hBt, List.getElem?_take, if_pos hj, List.getElem?_eq_getElem h1]
  have Hlen : Hid ((Sha.sumF 3 t).length = 64) := hlen
  have HEH : Hid (halfF a t = (S, 0) ∧ halfF a o = (So, 0)) := ⟨eH, eO⟩
  have Hht : Hid (t.length ≤ 1000000000 ∧ o.length ≤ 1000000000) := ⟨ht, ho⟩
  have Hhh : Hid (hhF a = 3) := hh
  clear hG hX hlen hbl hsl eH eO hol hDec hBt hSo hS ht ho hh
  go_enter Tryz.func4, Tryz.ntmps4
  go_wp2_with fail
  refine CA.mono ?_
  clear CA
  rintro e w1 ⟨rfl, hB1⟩
  have HB1 : Hid (Below w.heap.size w w1) := hB1
  have CH := half_any a t w1 (HXq.out w1 hB1) Hht.out.1
  rw [HEH.out.1] at CH
  have CH : Calls Tryz.prog 16 #[.int .i64 a, .string ⟨t.toArray⟩] w1 fun e w' => e = .returned (.tuple #[.string ⟨S.toArray⟩, .int .i64 0]) ∧ Below w1.heap.size w1 w' := CH
  clear hB1
  go_wp2_with fail
  refine CH.mono ?_
  clear CH
  rintro e w2 ⟨rfl, hB2⟩
  have HB2 : Hid (Below w.heap.size w w2) := HB1.out.trans (hB2.mono HB1.out.size)
  have CL := lhash_any a w2
  rw [Hhh.out] at CL
  clear hB2 HB1
  go_wp2_with fail
  refine CL.mono ?_
  clear CL
  rintro e w2' ⟨rfl, rfl⟩
  have CD := B64.decode_any S w2' (by have := HD.out.2.1; omega)
  rw [HD.out.1] at CD
  go_wp2_with fail
  refine CD.mono ?_
  clear CD
  rintro e w3 ⟨v, rfl, hans, hB3⟩
  obtain ⟨gb, cb, hgb, rfl, hown⟩ := hans
  have HB3 : Hid (Below w.heap.size w w3) := HB2.out.trans (hB3.mono HB2.out.size)
  have HCb : Hid (∀ wq, Below w3.heap.size w3 wq → ∀ (j : Nat) (X : UInt8), Bt[j]? = some X → wq.cell? ⟨gb, j, none⟩ = some (.int .u8 (X.toNat : Int))) := fun wq hq j X hj => by
    have h1 := (own_cell hown j (B64.B X) (by rw [List.getElem?_map, hj]; rfl)).1
    exact cell_but h1 fun h => hq.block _ h
  have hbt := HD.out.2.2.2
  rw [hbt]
  obtain ⟨c, W1, hcv, hr, hc1, hc2, hb⟩ := conv_bytes t w3 Hht.out.1
  have b5 := alloc_below9 W1 (.cells #[.slice (some ⟨w3.heap.size, 0, none⟩) t.length c] 46)
  have CQ := Sha.ssum_any 3 (some ⟨W1.heap.size, 0, none⟩) 1 [⟨some ⟨w3.heap.size, 0, none⟩, c, t⟩] (W1.alloc (.cells #[.slice (some ⟨w3.heap.size, 0, none⟩) t.length c] 46)) (((HXq.out w3 HB3.out).below hb).below b5) (parts_one W1 ⟨some ⟨w3.heap.size, 0, none⟩, c, t⟩ ⟨hr, hc1, hc2⟩) (by simp) (by simp [Sha.cat]; have := Hht.out.1; omega)
  rw [show Sha.cat [⟨some ⟨w3.heap.size, 0, none⟩, c, t⟩] = t by simp [Sha.cat], show Sha.siz 3 = 64 from rfl] at CQ
  have HB4 : Hid (Below w3.heap.size w3 (W1.alloc (.cells #[.slice (some ⟨w3.heap.size, 0, none⟩) t.length c] 46))) := hb.trans (b5.mono hb.size)
  clear hb b5 hr hc1 hc2 hB3 hown hgb hbt
  go_wp2_with fail
  refine CQ.mono ?_
  clear CQ
  rintro e w5 ⟨a2, rfl, hos, hB5⟩
  obtain ⟨g, rfl⟩ := own_some hos (by have := Hlen.out; omega)
  have hr5 : Rd w5 (some ⟨g, 0, none⟩) (Sha.sumF 3 t) := Sha.Own.rd hos
  have HB35 : Hid (Below w3.heap.size w3 w5) := HB4.out.trans (hB5.mono HB4.out.size)
  have HB5 : Hid (Below w.heap.size w w5) := HB3.out.trans (HB35.out.mono HB3.out.size)
  have HCC : Hid (∀ wq, Below w5.heap.size w5 wq → ∀ j, j < 32 → ∃ X : UInt8, wq.cell? ⟨gb, j, none⟩ = some (.int .u8 (X.toNat : Int)) ∧ wq.cell? ⟨g, j, none⟩ = some (.int .u8 (X.toNat : Int))) := fun wq hq j hj => by
    obtain ⟨X, h1, h2⟩ := HEl.out j hj
    refine ⟨X, HCb.out wq (HB35.out.trans (hq.mono HB35.out.size)) j X h1, ?_⟩
    have hl := Hlen.out
    rcases hr5 with h | ⟨g', off, e, hg, hc⟩
    · rw [h] at hl; cases hl
    · obtain ⟨rfl, rfl⟩ : g = g' ∧ 0 = off := by injection e with e; injection e with e1 e2; exact ⟨e1, e2⟩
      have h3 := hc j (by omega)
      rw [Nat.zero_add, List.getD_eq_getElem?_getD, h2, Option.getD_some] at h3
      exact cell_but h3 fun h => hq.block _ h
  have CZ := Sha.size_any 3 w5
  rw [show Sha.siz 3 = 64 from rfl] at CZ
  clear hr5 hos hB5 HB4 HB3 HB35 HCb HEl Hlen
  go_wp2_with fail
  refine CZ.mono ?_
  rintro e w5' ⟨rfl, e5⟩
  subst e5
  go_wp2_with fail
  refine CZ.mono ?_
  rintro e w5'' ⟨rfl, e5⟩
  subst e5
  clear CZ
  go_wp2
  go_loopw [14] (fun s wx => ∃ i : Nat, s = .int .i64 i ∧ i ≤ 32 ∧ Hid (Below w5''.heap.size w5'' wx)) (fun x _ => 32 - (intOf x).toNat)
  case atStart => exact ⟨0, rfl, by omega, Below.refl _ _⟩
  case round =>
    obtain ⟨i, rfl, hi, HBi⟩ := hrel
    by_cases hlt : i < 32
    · have q0 : decide ((i : Int) < 32) = true := decide_eq_true (by omega)
      obtain ⟨X, c1, c2⟩ := HCC.out wr HBi.out i hlt
      have hi2 : (i : Int) < 64 := by omega
      go_wp2
      go_quiet (fail)
      go_wp2
      go_roundw
      case rel => exact ⟨i + 1, by go_num, by omega, (by apply below_drewN; exact HBi.out)⟩
      case measure => simp [intOf]; omega
    · have q0 : decide ((i : Int) < 32) = false := decide_eq_false (by omega)
      have HB6 : Hid (Below w.heap.size w wr) := HB5.out.trans (HBi.out.mono HB5.out.size)
      have CO := half_any a o wr (HXq.out wr HB6.out) Hht.out.2
      rw [HEH.out.2] at CO
      have CO : Calls Tryz.prog 16 #[.int .i64 a, .string ⟨o.toArray⟩] wr fun e w' => e = .returned (.tuple #[.string ⟨So.toArray⟩, .int .i64 0]) ∧ Below wr.heap.size wr w' := CO
      have HL2 : Hid (So.length = 43 ∧ S.length = 43) := ⟨HD.out.2.2.1, HD.out.2.1⟩
      clear HBi HCC HD hi hlt
      go_wp2_with fail
      refine CO.mono ?_
      clear CO
      rintro e w7 ⟨rfl, hB7⟩
      have HB7 : Hid (Below w.heap.size w w7) := HB6.out.trans (hB7.mono HB6.out.size)
      have hso := HL2.out.1
      have hss := HL2.out.2
      clear hB7 HL2
      go_wp2
      go_ret
      exact ⟨by first | rfl | (simp [hso, hss]; done), HB7.out⟩

set_option maxRecDepth 100000 in
set_option maxHeartbeats 8000000 in
theorem ihalf_0 (a : Int) (t o : List UInt8) (w : World) (hG : GL w.heap.size w) (hX : Sha.Tb w) (ht : t.length ≤ 1000000000) (hh : hhF a = 0) :
    Calls Tryz.prog 4 #[.int .i64 a, .string ⟨t.toArray⟩, .string ⟨o.toArray⟩] w fun e w' => e = .returned (.bool true) ∧ Below w.heap.size w w' := by
  have HXq : Hid (∀ wq, Below w.heap.size w wq → Sha.Tb wq) := fun wq hq => hX.below hq
  have CA := awake22_any w hG hX
  have eH : halfF a t = ([], 111) := by unfold halfF; rw [hh, if_pos rfl]
  have HEH : Hid (halfF a t = ([], 111)) := eH
  have Hhh : Hid (hhF a = 0) := hh
  clear hG hX eH hh
  go_enter Tryz.func4, Tryz.ntmps4
  go_wp2_with fail
  refine CA.mono ?_
  clear CA
  rintro e w1 ⟨rfl, hB1⟩
  have HB1 : Hid (Below w.heap.size w w1) := hB1
  have CH := half_any a t w1 (HXq.out w1 hB1) ht
  rw [HEH.out] at CH
  have CH : Calls Tryz.prog 16 #[.int .i64 a, .string ⟨t.toArray⟩] w1 fun e w' => e = .returned (.tuple #[.string ⟨#[]⟩, .int .i64 111]) ∧ Below w1.heap.size w1 w' := CH
  clear hB1
  go_wp2_with fail
  refine CH.mono ?_
  clear CH
  rintro e w2 ⟨rfl, hB2⟩
  have HB2 : Hid (Below w.heap.size w w2) := HB1.out.trans (hB2.mono HB1.out.size)
  have CL := lhash_any a w2
  rw [Hhh.out] at CL
  clear hB2 HB1
  go_wp2_with fail
  refine CL.mono ?_
  clear CL
  rintro e w2' ⟨rfl, rfl⟩
  go_wp2
  go_ret
  exact ⟨rfl, HB2.out⟩

theorem ihalf_any (a : Int) (t o : List UInt8) (w : World) (hL : GL w.heap.size w ∧ Sha.Tb w) (ht : t.length ≤ 1000000000) (ho : o.length ≤ 1000000000) :
    Calls Tryz.prog 4 #[.int .i64 a, .string ⟨t.toArray⟩, .string ⟨o.toArray⟩] w fun e w' => e = .returned (.bool true) ∧ Below w.heap.size w w' := by
  rcases hh_is a with h | h | h | h
  · exact ihalf_0 a t o w hL.1 hL.2 ht h
  · exact ihalf_1 a t o w hL.1 hL.2 ht ho h
  · exact ihalf_2 a t o w hL.1 hL.2 ht ho h
  · exact ihalf_3 a t o w hL.1 hL.2 ht ho h

end Go.Proofs.YtpfdaclmchcbiaaGreatDoor
