import Derived.Test.YtnccalbeidkeiaaJoin1
import Derived.Deep.RegionWith
namespace Go.Proofs.Ytnccalbeidkeiaa
open Go.RowKit

/-- A call of Encode or EncodeStd in whatever world lies behind w: its text. -/
def CallSaid (f : Nat) (w : World) (ao : Option Addr) (n c : Nat) (S : List UInt8) : Prop :=
  ∀ W : World, Below w.heap.size w W → Calls Try.prog f #[.slice ao n c] W fun e W' => e = .returned (.string ⟨S.toArray⟩) ∧ Below w.heap.size w W'

theorem encSaid (w : World) (ao : Option Addr) (c : Nat) (l : List UInt8) (hr : Rd w ao l) (hc : l.length ≤ c) (hl : l.length ≤ 140737488355328) : CallSaid 10 w ao l.length c (enc urlRow l) :=
  fun W hW => (encode_any ao c l W (hr.below hW (Nat.le_refl _)) hc hl).mono fun _ _ ⟨h1, h2⟩ => ⟨h1, hW.trans (h2.mono hW.size)⟩

theorem encStdSaid (w : World) (ao : Option Addr) (c : Nat) (l : List UInt8) (hr : Rd w ao l) (hc : l.length ≤ c) (hl : l.length ≤ 140737488355328) : CallSaid 11 w ao l.length c (enc stdRow l ++ fill l.length) :=
  fun W hW => (encodeStd_any ao c l W (hr.below hW (Nat.le_refl _)) hc hl).mono fun _ _ ⟨h1, h2⟩ => ⟨h1, hW.trans (h2.mono hW.size)⟩

theorem cat_eq (X Y : List UInt8) : (X ++ Y == ((⟨X.toArray⟩ : ByteArray) ++ ⟨Y.toArray⟩).toList) = true := by
  have e : ((⟨X.toArray⟩ : ByteArray) ++ ⟨Y.toArray⟩).toList = X ++ Y := by
    rw [Lib.toList_data]
    simp
  rw [e]
  simp

set_option maxHeartbeats 4000000 in
set_option maxRecDepth 100000 in
theorem joins_any (ao bo : Option Addr) (ca cb : Nat) (la lb : List UInt8) (w : World) (hra : Rd w ao la) (hrb : Rd w bo lb) (hca : la.length ≤ ca) (hcb : lb.length ≤ cb) (hna : ao = none → ca = 0) (hnb : bo = none → cb = 0) (hla : la.length ≤ 1048576) (hlb : lb.length ≤ 1048576) :
    Calls Try.prog 4 #[.slice ao la.length ca, .slice bo lb.length cb] w fun e w' => e = .returned (.bool true) ∧ Below w.heap.size w w' := by
  obtain ⟨i0, hi, hz0, hz1, hz2⟩ := info_parts Try.infoB
  obtain ⟨k, hk⟩ : ∃ k, k = la.length - la.length % 3 := ⟨_, rfl⟩
  have hkI : (la.length : Int) - (la.length : Int) % 3 = (k : Int) := by omega
  have hkl : k ≤ la.length := by omega
  have Hk3 : Hid (k % 3 = 0) := by show k % 3 = 0; omega
  have Hp : Hid (Rd w ao (la.take k)) := by
    rcases hra with h | ⟨b, off, e, hb, hc⟩
    · exact .inl (by rw [h]; simp)
    · refine .inr ⟨b, off, e, hb, fun j hj => ?_⟩
      have hj' : j < k := by simp at hj; omega
      rw [hc j (by omega)]
      simp [List.getD_eq_getElem?_getD, hj']
  have Hpl : Hid ((la.take k).length = k) := by show _ = k; simp; omega
  have HB : Hid (Rd w bo lb) := hrb
  have hna' : Hid (ao = none → k = 0 ∧ ca = 0) := fun h => ⟨by have := hna h; omega, hna h⟩
  have hnb' : Hid (bo = none → lb.length = 0 ∧ cb = 0) := fun h => ⟨by have := hnb h; omega, hnb h⟩
  generalize la.take k = P at Hp Hpl
  clear hra hrb hna hnb hk
  go_enter Try.func4, Try.ntmps4
  go_wp2_with fail
  refine (awake_any w).mono ?_
  rintro e w1 ⟨rfl, hb1⟩
  have Hp1 : Hid (Rd w1 ao P) := Hp.out.below hb1 (Nat.le_refl _)
  have HB1 : Hid (Rd w1 bo lb) := HB.out.below hb1 (Nat.le_refl _)
  go_wp2_with (first
    | (at_builtin; refine append_rd rfl (.tmp 15) (.tmp 18) rfl w1.heap.size i0 hi hz0 hz1 hz2 (.slice none 0 0) 0 [] rfl (World.ownsRow_nil _ _ _ _) ao k _ P rfl Hpl.out hna'.out Hp1.out (by omega) (Nat.le_refl _) ?_; intro v2 w2 hown2 hgrow2
       have hb2 : Below w1.heap.size w1 w2 := (Below.refl _ _).grown hgrow2 (Nat.le_refl _) (fun k hk => by cases hk)
       have Hp2 : Hid (Rd w2 ao P) := Hp1.out.below hb2 (Nat.le_refl _)
       have HB2 : Hid (Rd w2 bo lb) := HB1.out.below hb2 (Nat.le_refl _)
       have hB2 : Below w.heap.size w w2 := hb1.trans (hb2.mono hb1.size)
       clear Hp1 HB1)
    | (at_builtin; refine append_rd rfl (.tmp 20) (.tmp 21) rfl w1.heap.size i0 hi hz0 hz1 hz2 v2 (0 + k) ([] ++ P) rfl hown2 bo lb.length _ lb rfl rfl hnb'.out HB2.out (by omega) hgrow2.size ?_; intro v3 w3 hown3 hgrow3
       have hb3 : Below w1.heap.size w2 w3 := (Below.refl _ _).grown hgrow3 hgrow2.size (fun k hk => (hown2.lt k hk).1)
       have Hx : Hid (w3.ownsRow w1.heap.size 5 1 v3 (0 + k + lb.length) (([] ++ P ++ lb).map B)) := hown3
       clear hown2 hown3 hgrow3
       have tok : True := trivial))
  obtain ⟨a3, cap3, rfl, hn3, hcap3, hr3⟩ := own_rd Hx.out
  have hB3 : Below w.heap.size w w3 := hB2.trans (hb3.mono hb1.size)
  have hPl := Hpl.out
  have e3 : [] ++ P ++ lb = P ++ lb := rfl
  rw [e3] at hn3 hr3
  have hPk : P.length % 3 = 0 := by have := Hk3.out; omega
  have Ep := encSaid w3 ao ca P (Hp.out.below hB3 (Nat.le_refl _)) (by omega) (by omega)
  have Eb := encSaid w3 bo cb lb (HB.out.below hB3 (Nat.le_refl _)) (by omega) (by omega)
  have Ea := encSaid w3 a3 cap3 (P ++ lb) hr3 (by omega) (by simp; omega)
  have Sp := encStdSaid w3 ao ca P (Hp.out.below hB3 (Nat.le_refl _)) (by omega) (by omega)
  have Sb := encStdSaid w3 bo cb lb (HB.out.below hB3 (Nat.le_refl _)) (by omega) (by omega)
  have Sa := encStdSaid w3 a3 cap3 (P ++ lb) hr3 (by omega) (by simp; omega)
  rw [enc_app urlRow P.length P lb (Nat.le_refl _) hPk, ← hn3] at Ea
  rw [(fill_app P lb hPk).1, enc_app stdRow P.length P lb (Nat.le_refl _) hPk, ← hn3, List.append_assoc] at Sa
  rw [(fill_app P lb hPk).2, List.append_nil, hPl] at Sp
  rw [hPl] at Ep
  have b1 := enc_length urlRow P
  have b2 := enc_length urlRow lb
  have b3 := enc_length stdRow P
  have b4 := enc_length stdRow lb
  have b5 : (fill lb.length).length ≤ 2 := by unfold fill; rw [List.length_replicate]; omega
  have c1 : (enc urlRow P).length ≤ 4194304 := by omega
  have c2 : (enc urlRow lb).length ≤ 4194304 := by omega
  have c3 : (enc stdRow P).length ≤ 4194304 := by omega
  have c4 : (enc stdRow lb ++ fill lb.length).length ≤ 4194304 := by rw [List.length_append]; omega
  generalize 0 + k + lb.length = n3 at *
  generalize enc urlRow P = X1 at *
  generalize enc urlRow lb = X2 at *
  generalize enc stdRow P = X3 at *
  generalize enc stdRow lb ++ fill lb.length = X4 at *
  clear b1 b2 b3 b4 b5 hPk e3 hPl hr3 hn3 hB2 hb3 Hx HB2 Hp2 hb2 hgrow2 Hpl Hk3 Hp HB hcap3 hz0 hz1 hz2 hi
  have d1 := cat_eq X1 X2
  have d2 := cat_eq X3 X4
  go_region_with (first
    | (go_at_call_of 10 (a3); refine (Ea _ (by repeat (first | assumption | exact Below.refl _ _ | apply Below.drew))).mono ?_; rintro e w' ⟨rfl, hbx⟩)
    | (go_at_call_of 10 (ao); refine (Ep _ (by repeat (first | assumption | exact Below.refl _ _ | apply Below.drew))).mono ?_; rintro e w' ⟨rfl, hbx⟩)
    | (go_at_call_of 10 (bo); refine (Eb _ (by repeat (first | assumption | exact Below.refl _ _ | apply Below.drew))).mono ?_; rintro e w' ⟨rfl, hbx⟩)
    | (go_at_call_of 11 (a3); refine (Sa _ (by repeat (first | assumption | exact Below.refl _ _ | apply Below.drew))).mono ?_; rintro e w' ⟨rfl, hbx⟩)
    | (go_at_call_of 11 (ao); refine (Sp _ (by repeat (first | assumption | exact Below.refl _ _ | apply Below.drew))).mono ?_; rintro e w' ⟨rfl, hbx⟩)
    | (go_at_call_of 11 (bo); refine (Sb _ (by repeat (first | assumption | exact Below.refl _ _ | apply Below.drew))).mono ?_; rintro e w' ⟨rfl, hbx⟩))
  all_goals go_wp2
  all_goals go_ret
  all_goals exact ⟨rfl, hB3.trans (Below.mono (by repeat (first | assumption | apply Below.drew)) hB3.size)⟩

end Go.Proofs.Ytnccalbeidkeiaa
