import Derived.Test.YtnccalbeidkeiaaRefSpell
import Derived.Test.YtnccalbeidkeiaaRoom
namespace Go.Proofs.Ytnccalbeidkeiaa
open Go.RowKit

/-- The other byte. -/
def oth (x : UInt8) : UInt8 := 255 - x

theorem oth_B (x : UInt8) : B (oth x) = .int .u8 (255 - (x.toNat : Int)) := by
  have hx := x.toNat_lt
  unfold B oth
  have h : (255 - x).toNat = 255 - x.toNat := by
    rw [UInt8.toNat_sub_of_le]
    · rfl
    · rw [UInt8.le_iff_toNat_le]; show x.toNat ≤ 255; omega
  rw [h]
  congr 1
  omega

/-- The first k bytes are other ones. -/
def mix (l : List UInt8) (k : Nat) : List UInt8 := (l.take k).map oth ++ l.drop k

theorem mix_length (l : List UInt8) (k : Nat) : (mix l k).length = l.length := by simp [mix]; omega

theorem mix_get (l : List UInt8) (k : Nat) (h : k < l.length) (r : List UInt8) : (mix l k ++ r)[k]? = some l[k] := by
  have : k < (mix l k).length := by rw [mix_length]; exact h
  rw [List.getElem?_append_left this]
  unfold mix
  rw [List.getElem?_append_right (by simp; omega)]
  have e : k - ((l.take k).map oth).length = 0 := by simp; omega
  rw [e, List.getElem?_drop, Nat.add_zero, List.getElem?_eq_getElem h]

theorem mix_set (l : List UInt8) (k : Nat) (h : k < l.length) (r : List UInt8) : (mix l k ++ r).set k (oth l[k]) = mix l (k + 1) ++ r := by
  have hk : k < (mix l k).length := by rw [mix_length]; exact h
  rw [List.set_append_left _ _ hk]
  congr 1
  unfold mix
  have e : ((l.take k).map oth).length = k := by simp; omega
  rw [List.set_append_right _ _ (by omega), e, Nat.sub_self, List.drop_eq_getElem_cons h, List.set_cons_zero, List.take_succ_eq_append_getElem h, List.map_append, List.append_assoc]
  rfl

set_option maxHeartbeats 4000000 in
theorem encodes_any (ao : Option Addr) (c : Nat) (l : List UInt8) (w : World) (hrd : Rd w ao l) (_ : l.length ≤ c) (hl : l.length ≤ 140737488355328) :
    Calls Try.prog 3 #[.slice ao l.length c] w fun e w' => e = .returned (.bool true) ∧ Below w.heap.size w w' := by
  have HR : Hid (Rd w ao l) := hrd
  clear hrd
  go_enter Try.func3, Try.ntmps3
  go_wp2_with fail
  refine (roomy_any ao c l w HR.out (by omega)).mono ?_
  rintro e w1 ⟨rfl, hown1, hb1⟩
  have HO1 : Hid (w1.ownsRow w.heap.size 5 1 (.slice (some ⟨w.heap.size, 0, none⟩) (l.length + 9) (l.length + 9)) (l.length + 9) ((l ++ List.replicate 9 165).map B)) := hown1
  clear hown1
  go_wp2_with fail
  refine (encode_any (some ⟨w.heap.size, 0, none⟩) (l.length + 9) l w1 (own_head HO1.out) (by omega) (by omega)).mono ?_
  rintro e w2 ⟨rfl, hb2⟩
  have HO2 : Hid (w2.ownsRow w.heap.size 5 1 (.slice (some ⟨w.heap.size, 0, none⟩) (l.length + 9) (l.length + 9)) (l.length + 9) ((l ++ List.replicate 9 165).map B)) := own_below HO1.out hb2
  have hB2 : Below w.heap.size w w2 := hb1.trans (hb2.mono hb1.size)
  clear HO1 hb1 hb2
  go_wp2_with fail
  refine (encodeStd_any (some ⟨w.heap.size, 0, none⟩) (l.length + 9) l w2 (own_head HO2.out) (by omega) (by omega)).mono ?_
  rintro e w3 ⟨rfl, hb3⟩
  have HO3 : Hid (w3.ownsRow w.heap.size 5 1 (.slice (some ⟨w.heap.size, 0, none⟩) (l.length + 9) (l.length + 9)) (l.length + 9) ((l ++ List.replicate 9 165).map B)) := own_below HO2.out hb3
  have hB3 : Below w.heap.size w w3 := hB2.trans (hb3.mono hB2.size)
  clear HO2 hB2 hb3
  go_wp2_with fail
  refine (refencode_any ao c l w3 (HR.out.below hB3 (Nat.le_refl _)) hl).mono ?_
  rintro e w4 ⟨rfl, hb4⟩
  have HO4 : Hid (w4.ownsRow w.heap.size 5 1 (.slice (some ⟨w.heap.size, 0, none⟩) (l.length + 9) (l.length + 9)) (l.length + 9) ((l ++ List.replicate 9 165).map B)) := own_below HO3.out hb4
  have hB4 : Below w.heap.size w w4 := hB3.trans (hb4.mono hB3.size)
  clear HO3 hB3 hb4
  go_wp2_with fail
  refine (refencodeStd_any ao c l w4 (HR.out.below hB4 (Nat.le_refl _)) hl).mono ?_
  rintro e w5 ⟨rfl, hb5⟩
  have HO5 : Hid (w5.ownsRow w.heap.size 5 1 (.slice (some ⟨w.heap.size, 0, none⟩) (l.length + 9) (l.length + 9)) (l.length + 9) ((l ++ List.replicate 9 165).map B)) := own_below HO4.out hb5
  have hB5 : Below w.heap.size w w5 := hB4.trans (hb5.mono hB4.size)
  clear HO4 hB4 hb5
  go_wp2_with fail
  refine (spared_any w.heap.size c l.length w.heap.size ao l w5 rfl HO5.out (HR.out.below hB5 (Nat.le_refl _)) (by omega)).mono ?_
  rintro e w6 ⟨rfl, q, hq⟩
  have hown6 : w6.ownsRow w.heap.size 5 1 (.slice (some ⟨w.heap.size, 0, none⟩) (l.length + 9) (l.length + 9)) (l.length + 9) ((l ++ List.replicate 9 165).map B) := by rw [hq]; exact HO5.out
  have hB6 : Below w.heap.size w w6 := by rw [hq]; exact below_drewN hB5 q
  clear hq HO5 hB5
  go_wp2
  go_loopw [6] (fun s wr => ∃ k : Nat, k ≤ l.length ∧ s = .int .i64 k ∧ wr.ownsRow w.heap.size 5 1 (.slice (some ⟨w.heap.size, 0, none⟩) (l.length + 9) (l.length + 9)) (l.length + 9) ((mix l k ++ List.replicate 9 165).map B) ∧ Below w.heap.size w wr) (fun s _ => l.length - (intOf s).toNat)
  case atStart => exact ⟨0, Nat.zero_le _, rfl, by simpa [mix] using hown6, hB6⟩
  case round =>
    obtain ⟨k, hk, rfl, hown, hbl⟩ := hrel
    by_cases hlt : k < l.length
    · have hcell : wr.cell? ⟨w.heap.size, k, none⟩ = some (.int .u8 l[k].toNat) := by
        rw [hown.cellAt k (by omega), List.getElem?_map, mix_get l k hlt]
        rfl
      have hfrz : wr.frozen? ⟨w.heap.size, k, none⟩ = false := hown.frozenAt _
      have Hset : Hid ((mix l k ++ List.replicate 9 165).set k (oth l[k]) = mix l (k + 1) ++ List.replicate 9 165) := mix_set l k hlt _
      generalize l[k] = x at hcell Hset
      have hx := x.toNat_lt
      go_wp2
      have hst := (hown.stored k (.int .u8 (255 - (x.toNat : Int)))).1
      rw [← oth_B, ← List.map_set, Hset.out] at hst
      rw [← oth_B]
      exact ⟨⟨k + 1, by omega, by go_num, hst, hbl.setCell (Nat.le_refl _) _⟩, by simp [intOf]; omega⟩
    · have hkl : k = l.length := by omega
      obtain ⟨m, hm⟩ : ∃ m, m = mix l k := ⟨_, rfl⟩
      have hml : m.length = l.length := by rw [hm, mix_length]
      rw [← hm] at hown
      have HO : Hid (wr.ownsRow w.heap.size 5 1 (.slice (some ⟨w.heap.size, 0, none⟩) (l.length + 9) (l.length + 9)) (l.length + 9) ((m ++ List.replicate 9 165).map B)) := hown
      have Hml : Hid (m.length = l.length) := hml
      clear hown hm hkl hml
      have C1 : ∀ W, W.ownsRow w.heap.size 5 1 (.slice (some ⟨w.heap.size, 0, none⟩) (l.length + 9) (l.length + 9)) (l.length + 9) ((m ++ List.replicate 9 165).map B) → Calls Try.prog 12 #[.slice (some ⟨w.heap.size, 0, none⟩) l.length (l.length + 9)] W fun e w' => e = .returned (.string ⟨(enc urlRow m).toArray⟩) ∧ Below W.heap.size W w' := fun W h => by
        have := refencode_any (some ⟨w.heap.size, 0, none⟩) (l.length + 9) m W (own_head h) (by have := Hml.out; omega)
        rw [Hml.out] at this; exact this
      have C2 : ∀ W, W.ownsRow w.heap.size 5 1 (.slice (some ⟨w.heap.size, 0, none⟩) (l.length + 9) (l.length + 9)) (l.length + 9) ((m ++ List.replicate 9 165).map B) → Calls Try.prog 13 #[.slice (some ⟨w.heap.size, 0, none⟩) l.length (l.length + 9)] W fun e w' => e = .returned (.string ⟨(enc stdRow m ++ fill m.length).toArray⟩) ∧ Below W.heap.size W w' := fun W h => by
        have := refencodeStd_any (some ⟨w.heap.size, 0, none⟩) (l.length + 9) m W (own_head h) (by have := Hml.out; omega)
        rw [Hml.out] at this ⊢; exact this
      have C3 : ∀ W, W.ownsRow w.heap.size 5 1 (.slice (some ⟨w.heap.size, 0, none⟩) (l.length + 9) (l.length + 9)) (l.length + 9) ((m ++ List.replicate 9 165).map B) → Calls Try.prog 10 #[.slice (some ⟨w.heap.size, 0, none⟩) l.length (l.length + 9)] W fun e w' => e = .returned (.string ⟨(enc urlRow m).toArray⟩) ∧ Below W.heap.size W w' := fun W h => by
        have := encode_any (some ⟨w.heap.size, 0, none⟩) (l.length + 9) m W (own_head h) (by have := Hml.out; omega) (by have := Hml.out; omega)
        rw [Hml.out] at this; exact this
      have C4 : ∀ W, W.ownsRow w.heap.size 5 1 (.slice (some ⟨w.heap.size, 0, none⟩) (l.length + 9) (l.length + 9)) (l.length + 9) ((m ++ List.replicate 9 165).map B) → Calls Try.prog 11 #[.slice (some ⟨w.heap.size, 0, none⟩) l.length (l.length + 9)] W fun e w' => e = .returned (.string ⟨(enc stdRow m ++ fill m.length).toArray⟩) ∧ Below W.heap.size W w' := fun W h => by
        have := encodeStd_any (some ⟨w.heap.size, 0, none⟩) (l.length + 9) m W (own_head h) (by have := Hml.out; omega) (by have := Hml.out; omega)
        rw [Hml.out] at this ⊢; exact this
      have D1 : Hid _ := C1
      have D2 : Hid _ := C2
      have D3 : Hid _ := C3
      have D4 : Hid _ := C4
      clear C1 C2 C3 C4
      generalize enc urlRow m = E1 at *
      generalize enc stdRow m ++ fill m.length = E2 at *
      go_wp2_with fail
      refine (D1.out _ HO.out).mono ?_
      rintro e wa ⟨rfl, hba⟩
      have HOa : Hid _ := own_below HO.out hba
      have hBa : Below w.heap.size w wa := hbl.trans (hba.mono hbl.size)
      clear hba hbl HO
      go_wp2_with fail
      refine (D2.out _ HOa.out).mono ?_
      rintro e wb ⟨rfl, hbb⟩
      have HOb : Hid _ := own_below HOa.out hbb
      have hBb : Below w.heap.size w wb := hBa.trans (hbb.mono hBa.size)
      clear hbb hBa HOa
      go_wp2_with fail
      refine (D3.out _ HOb.out).mono ?_
      rintro e wc ⟨rfl, hbc⟩
      have HOc : Hid _ := own_below HOb.out hbc
      have hBc : Below w.heap.size w wc := hBb.trans (hbc.mono hBb.size)
      clear hbc hBb HOb
      go_wp2_with fail
      refine (D4.out _ HOc.out).mono ?_
      rintro e wd ⟨rfl, hbd⟩
      have hBd : Below w.heap.size w wd := hBc.trans (hbd.mono hBc.size)
      clear hbd hBc HOc D1 D2 D3 D4
      go_wp2
      go_ret
      exact ⟨rfl, hBd⟩

end Go.Proofs.Ytnccalbeidkeiaa
