import Derived.Test.YtccfcplhifbjlaaGreatDoorIg
import Derived.Test.YtccfcplhifbjlaaGreatDoorTal
namespace Go.Proofs.YtccfcplhifbjlaaGreatDoor
open Go.RowKit
set_option maxRecDepth 100000

theorem siz_16 {a : Int} (ha : a = 1 ∨ a = 2 ∨ a = 3) : (Sha.siz a : Int) = 16 * (a + 1) := by rcases ha with rfl | rfl | rfl <;> decide

theorem set_bl {t : TypeId} {w : World} {b : Nat} {old new : List Value} (h : Bl t w b old) : Bl t (w.setRow b new.toArray) b new := setRow_heap _ _ _ _ _ _ h
theorem setRow_below {w0 w : World} {b : Nat} (new : Array Value) (h : Below w0.heap.size w0 w) (hb : w0.heap.size ≤ b) : Below w0.heap.size w0 (w.setRow b new) := ⟨h.os, h.tape, h.output, by simpa [World.setRow] using h.size, fun k hk => (setRow_other w b k _ (by omega)).trans (h.block k hk)⟩

set_option maxHeartbeats 4000000 in
theorem tagholds_any (a : Int) (ak az : Option Addr) (ck cz : Nat) (key data other : List UInt8) (w : World) (T : Sha.Tb w) (hk : Rd w ak key) (ho : Rd w az other) (hck : key.length ≤ ck) (hck2 : ck ≤ 9223372036854775807) (hd : data.length ≤ 1000000000) (hol : other.length ≤ 1000000000) :
    Calls Tryz.prog 7 #[.int .i64 a, .slice ak key.length ck, .string ⟨data.toArray⟩, .slice az other.length cz] w fun e w' => e = .returned (.bool true) ∧ Below w.heap.size w w' := by
  have CA := alive_any w T
  have HT : Hid (Sha.Tb w) := T
  have HK : Hid (Rd w ak key) := hk
  have HZ : Hid (Rd w az other) := ho
  clear T hk ho
  go_enter Tryz.func7, Tryz.ntmps7
  go_wp2_with fail
  refine CA.mono ?_
  clear CA
  rintro e w1 ⟨rfl, B1⟩
  obtain ⟨b, hb⟩ : ∃ b, w1.heap.size = b := ⟨_, rfl⟩
  have HZ0 : Hid (Bl 32 (w1.alloc (.cells #[.int .i64 0, .int .i64 0, .slice none 0 0, .slice none 0 0, .slice none 0 0, .slice none 0 0, .slice none 0 0] 32)) b [.int .i64 0, .int .i64 0, .slice none 0 0, .slice none 0 0, .slice none 0 0, .slice none 0 0, .slice none 0 0]) := by rw [← hb]; exact alloc_bl w1 [.int .i64 0, .int .i64 0, .slice none 0 0, .slice none 0 0, .slice none 0 0, .slice none 0 0, .slice none 0 0] 32
  obtain ⟨wz, hwz⟩ : ∃ wz, (w1.alloc (.cells #[.int .i64 0, .int .i64 0, .slice none 0 0, .slice none 0 0, .slice none 0 0, .slice none 0 0, .slice none 0 0] 32)).setRow b (kC ak key.length ck).toArray = wz := ⟨_, rfl⟩
  have HBz : Hid (Bl 32 wz b (kC ak key.length ck)) := by rw [← hwz]; exact set_bl HZ0.out
  have HB2 : Hid (Below w.heap.size w wz) := by
    rw [← hwz]
    exact setRow_below _ (B1.trans ((alloc_below w1 _).mono B1.size)) (by rw [← hb]; exact B1.size)
  have HWz : Hid ((w1.alloc (.cells #[.int .i64 0, .int .i64 0, .slice none 0 0, .slice none 0 0, .slice none 0 0, .slice none 0 0, .slice none 0 0] 32)).setRow b (kC ak key.length ck).toArray = wz) := hwz
  have hgi : (Tryz.prog.info? 32).map (·.size) = some 7 := by kernel_rfl
  clear hwz B1
  go_upto_region 4 with (refine wpList_store_row rfl 32 (.tmp 9) (.tmp 16) rfl b (kC ak key.length ck).toArray (by rw [← hb]; rfl) rfl 32 #[.int .i64 0, .int .i64 0, .slice none 0 0, .slice none 0 0, .slice none 0 0, .slice none 0 0, .slice none 0 0] HZ0.out hgi rfl (by simp [kC, Value.oneCell']) ?_; rw [HWz.out])
  clear HWz hgi HZ0
  have CT := tag_any a ak ck key data wz (HT.out.below HB2.out) (HK.out.below HB2.out (Nat.le_refl _)) hck hck2 hd
  by_cases ha : a = 1 ∨ a = 2 ∨ a = 3
  · have a1 : decide (a < 1) = false := decide_eq_false (by omega)
    have a2 : decide (a > 3) = false := decide_eq_false (by omega)
    have hs := siz_16 ha
    have hal : 1 ≤ a ∧ a ≤ 3 := by omega
    obtain ⟨hal1, hal2⟩ := hal
    by_cases hq : key.length < Sha.siz a ∨ 4096 < key.length
    · have HG : tgF a key data = ([], 90) := (if_pos ha).trans (if_pos hq)
      have CN := fun (w : World) => check_no a ak az ck cz key.length other.length data w ha hq
      unfold kV at CN
      rw [HG] at CT
      simp only at CT
      go_wp2_with fail
      refine CT.mono ?_
      clear CT HG
      rintro e w3 ⟨v, rfl, ov, B3⟩
      obtain ⟨f1, k1, e1⟩ : ∃ a c, v = .slice a 0 c := by obtain ⟨a, c, e, _⟩ := ov.nb; exact ⟨a, c, e⟩
      subst e1
      have HB3 : Hid (Below w.heap.size w w3) := HB2.out.trans (B3.mono HB2.out.size)
      have HBk : Hid (Bl 32 w3 b (kC ak key.length ck)) := HBz.out.below B3 HBz.out.lt
      clear B3 ov HBz HB2
      have c0 : w3.cell? ⟨b, 0, none⟩ = some (.int .i64 1) := HBk.out.cell 0 (by simp [kC])
      have c1 : w3.cell? ⟨b, 1, none⟩ = some (.int .i64 0) := HBk.out.cell 1 (by simp [kC])
      have c2 : w3.cell? ⟨b, 2, none⟩ = some (.slice ak key.length ck) := HBk.out.cell 2 (by simp [kC])
      have c3 : w3.cell? ⟨b, 3, none⟩ = some (.slice none 0 0) := HBk.out.cell 3 (by simp [kC])
      have c4 : w3.cell? ⟨b, 4, none⟩ = some (.slice none 0 0) := HBk.out.cell 4 (by simp [kC])
      have c5 : w3.cell? ⟨b, 5, none⟩ = some (.slice none 0 0) := HBk.out.cell 5 (by simp [kC])
      have c6 : w3.cell? ⟨b, 6, none⟩ = some (.slice none 0 0) := HBk.out.cell 6 (by simp [kC])
      by_cases hq1 : key.length < Sha.siz a
      · have d1 : decide ((key.length : Int) < 16 * (a + 1)) = true := decide_eq_true (by omega)
        clear hq hs ha
        go_wp2_with fail
        refine (CN _).mono ?_
        clear CN
        rintro e w4 ⟨rfl, B4⟩
        have HB4 : Hid (Below w.heap.size w w4) := HB3.out.trans (B4.mono HB3.out.size)
        clear B4
        go_wp2
        go_ret
        exact ⟨rfl, HB4.out⟩
      · have d1 : decide ((key.length : Int) < 16 * (a + 1)) = false := decide_eq_false (by omega)
        have d2 : decide ((key.length : Int) > 4096) = true := decide_eq_true (by omega)
        clear hq hs ha hq1
        go_wp2_with fail
        refine (CN _).mono ?_
        clear CN
        rintro e w4 ⟨rfl, B4⟩
        have HB4 : Hid (Below w.heap.size w w4) := HB3.out.trans (B4.mono HB3.out.size)
        clear B4
        go_wp2
        go_ret
        exact ⟨rfl, HB4.out⟩
    · have HG : tgF a key data = (Sha.tagF a key data, 0) := (if_pos ha).trans (if_neg hq)
      have htl := Sha.tagF_length a key data
      have CH := fun (w : World) (az : Option Addr) (cs : Nat) (sig : List UInt8) (T : Sha.Tb w) (hk : Rd w ak key) (hs : Rd w az sig) (hsl : sig.length ≤ 1000000000) => check_hs a ak az ck cs key data sig w T ha hk hs hck hck2 (by omega) (by omega) hd hsl
      unfold kV at CH
      have HCH : Hid (∀ (w : World) (az : Option Addr) (cs : Nat) (sig : List UInt8), Sha.Tb w → Rd w ak key → Rd w az sig → sig.length ≤ 1000000000 → Calls Tryz.prog 13 #[.int .i64 a, .agg #[.int .i64 1, .int .i64 0, .slice ak key.length ck, .slice none 0 0, .slice none 0 0, .slice none 0 0, .slice none 0 0], .string ⟨data.toArray⟩, .slice az sig.length cs] w fun e w' => e = .returned (.int .i64 (if Sha.tagF a key data = sig then 0 else 91)) ∧ Below w.heap.size w w') := CH
      clear CH
      rw [HG] at CT
      simp only at CT
      have d1 : decide ((key.length : Int) < 16 * (a + 1)) = false := decide_eq_false (by omega)
      have d2 : decide ((key.length : Int) > 4096) = false := decide_eq_false (by omega)
      have hsl : Sha.siz a ≤ 64 := Sha.siz_le a
      generalize Sha.tagF a key data = L at *
      have hLi : (L.length : Int) = 16 * (a + 1) := by omega
      have d3 : ((L.length : Int) != 16 * (a + 1)) = false := by rw [hLi]; simp
      have hL64 : L.length ≤ 64 := by omega
      clear HG hq hs ha hsl htl hLi
      go_wp2_with fail
      refine CT.mono ?_
      clear CT
      rintro e w3 ⟨v, rfl, ov, B3⟩
      obtain ⟨f1, k1, e1⟩ : ∃ a c, v = .slice a L.length c := by obtain ⟨a, c, e, _⟩ := ov.nb; exact ⟨a, c, e⟩
      subst e1
      have HB3 : Hid (Below w.heap.size w w3) := HB2.out.trans (B3.mono HB2.out.size)
      have HBk : Hid (Bl 32 w3 b (kC ak key.length ck)) := HBz.out.below B3 HBz.out.lt
      have HO3 : Hid (Owb w3 wz.heap.size (.slice f1 L.length k1) L) := ov
      clear B3 ov HBz HB2
      have c0 : w3.cell? ⟨b, 0, none⟩ = some (.int .i64 1) := HBk.out.cell 0 (by simp [kC])
      have c1 : w3.cell? ⟨b, 1, none⟩ = some (.int .i64 0) := HBk.out.cell 1 (by simp [kC])
      have c2 : w3.cell? ⟨b, 2, none⟩ = some (.slice ak key.length ck) := HBk.out.cell 2 (by simp [kC])
      have c3 : w3.cell? ⟨b, 3, none⟩ = some (.slice none 0 0) := HBk.out.cell 3 (by simp [kC])
      have c4 : w3.cell? ⟨b, 4, none⟩ = some (.slice none 0 0) := HBk.out.cell 4 (by simp [kC])
      have c5 : w3.cell? ⟨b, 5, none⟩ = some (.slice none 0 0) := HBk.out.cell 5 (by simp [kC])
      have c6 : w3.cell? ⟨b, 6, none⟩ = some (.slice none 0 0) := HBk.out.cell 6 (by simp [kC])
      have C1 := HCH.out w3 f1 k1 L (HT.out.below HB3.out) (HK.out.below HB3.out (Nat.le_refl _)) (owb_rd HO3.out) (by omega)
      rw [if_pos rfl] at C1
      go_wp2_with fail
      refine C1.mono ?_
      clear C1 c0 c1 c2 c3 c4 c5 c6
      rintro e w4 ⟨rfl, B4⟩
      have HB4 : Hid (Below w.heap.size w w4) := HB3.out.trans (B4.mono HB3.out.size)
      have HBk4 : Hid (Bl 32 w4 b (kC ak key.length ck)) := HBk.out.below B4 HBk.out.lt
      have HO4 : Hid (Owb w4 wz.heap.size (.slice f1 L.length k1) L) := HO3.out.below B4 (Nat.le_refl _)
      clear B4 HB3 HBk HO3
      have c0 : w4.cell? ⟨b, 0, none⟩ = some (.int .i64 1) := HBk4.out.cell 0 (by simp [kC])
      have c1 : w4.cell? ⟨b, 1, none⟩ = some (.int .i64 0) := HBk4.out.cell 1 (by simp [kC])
      have c2 : w4.cell? ⟨b, 2, none⟩ = some (.slice ak key.length ck) := HBk4.out.cell 2 (by simp [kC])
      have c3 : w4.cell? ⟨b, 3, none⟩ = some (.slice none 0 0) := HBk4.out.cell 3 (by simp [kC])
      have c4 : w4.cell? ⟨b, 4, none⟩ = some (.slice none 0 0) := HBk4.out.cell 4 (by simp [kC])
      have c5 : w4.cell? ⟨b, 5, none⟩ = some (.slice none 0 0) := HBk4.out.cell 5 (by simp [kC])
      have c6 : w4.cell? ⟨b, 6, none⟩ = some (.slice none 0 0) := HBk4.out.cell 6 (by simp [kC])
      have C2 := HCH.out w4 az cz other (HT.out.below HB4.out) (HK.out.below HB4.out (Nat.le_refl _)) (HZ.out.below HB4.out (Nat.le_refl _)) hol
      clear HCH
      go_wp2_with fail
      refine C2.mono ?_
      clear C2 c0 c1 c2 c3 c4 c5 c6 HBk4
      rintro e w5 ⟨rfl, B5⟩
      have HB5 : Hid (Below w.heap.size w w5) := HB4.out.trans (B5.mono HB4.out.size)
      have S := lsame_any f1 az k1 cz L other w5 (owb_rd (HO4.out.below B5 (Nat.le_refl _))) (HZ.out.below HB5.out (Nat.le_refl _)) (by omega)
      clear B5 HB4 HO4
      by_cases he : L = other
      · rw [if_pos he]
        rw [decide_eq_true he] at S
        clear he
        go_wp2_with fail
        refine S.mono ?_
        rintro e w6 ⟨rfl, q, rfl⟩
        go_wp2
        go_ret
        exact ⟨rfl, below_drewN HB5.out _⟩
      · rw [if_neg he]
        rw [decide_eq_false he] at S
        clear he
        go_wp2_with fail
        refine S.mono ?_
        rintro e w6 ⟨rfl, q, rfl⟩
        go_wp2
        go_ret
        exact ⟨rfl, below_drewN HB5.out _⟩
  · have HG : tgF a key data = ([], 111) := if_neg ha
    rw [HG] at CT
    simp only at CT
    go_wp2_with fail
    refine CT.mono ?_
    clear CT HG
    rintro e w3 ⟨v, rfl, ov, B3⟩
    obtain ⟨f1, k1, e1⟩ : ∃ a c, v = .slice a 0 c := by obtain ⟨a, c, e, _⟩ := ov.nb; exact ⟨a, c, e⟩
    subst e1
    have HB3 : Hid (Below w.heap.size w w3) := HB2.out.trans (B3.mono HB2.out.size)
    clear B3 ov HBz HB2
    by_cases h1 : a < 1
    · have d1 : decide (a < 1) = true := decide_eq_true h1
      clear ha
      go_wp2
      go_ret
      exact ⟨rfl, HB3.out⟩
    · have d1 : decide (a < 1) = false := decide_eq_false h1
      have d2 : decide (a > 3) = true := decide_eq_true (by omega)
      clear ha
      go_wp2
      go_ret
      exact ⟨rfl, HB3.out⟩

end Go.Proofs.YtccfcplhifbjlaaGreatDoor
