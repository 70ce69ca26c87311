import Derived.Test.YtlapkbdjipocoaaDoorUb
namespace Go.Proofs.YtlapkbdjipocoaaDoor
open Go.RowKit Go.Shelf

theorem sgl_next {l : List UInt8} {f k : Nat} (hf : f ≤ k) (hk : k < l.length) : sgl l f (k + 1) = sgl l f k ++ [l.getD k 0] := by
  unfold sgl
  rw [show k + 1 - f = (k - f) + 1 by omega, List.take_add_one, List.getElem?_drop, show f + (k - f) = k by omega, List.getElem?_eq_getElem hk]
  simp [List.getD_eq_getElem?_getD, hk]
theorem sgl_self (l : List UInt8) (k : Nat) : sgl l k k = [] := by unfold sgl; simp
theorem sgl_end (l : List UInt8) (f : Nat) : sgl l f l.length = l.drop f := by unfold sgl; rw [List.take_of_length_le (by simp)]
theorem take_next {l : List UInt8} {k : Nat} (hk : k < l.length) : l.take (k + 1) = l.take k ++ [l.getD k 0] := by
  rw [List.take_add_one, List.getElem?_eq_getElem hk]
  simp [List.getD_eq_getElem?_getD, hk]

/-- The writer, with what it holds left open. -/
def WE (B0 : Nat) (w : World) (b : Nat) (full : List UInt8) : Prop := ∃ tv acc lg, WS B0 w b full tv acc lg
theorem put_we {B0 : Nat} {w : World} {b : Nat} {full : List UInt8} (l : List UInt8) (h : WE B0 w b full) (hl : l.length ≤ 1073741824) :
    Calls Tryd.prog 50 #[.pointer (some ⟨b, 0, none⟩), .string ⟨l.toArray⟩] w fun e w' => e = .returned (.tuple #[]) ∧ Below B0 w w' ∧ WE B0 w' b (full ++ l) := by
  obtain ⟨tv, acc, lg, h⟩ := h
  exact put_any l h hl
theorem WE.drewN {B0 : Nat} {w : World} {b : Nat} {full : List UInt8} (h : WE B0 w b full) (n : Nat) : WE B0 (w.drewN n) b full := by
  obtain ⟨tv, acc, lg, h⟩ := h
  exact ⟨tv, acc, lg, h.lo, h.blo, h.bl, h.own, h.fit, h.big, h.len⟩
theorem WE.below {B0 : Nat} {w w' : World} {b : Nat} {full : List UInt8} (h : WE B0 w b full) (hb : Below w.heap.size w w') : WE B0 w' b full := by
  obtain ⟨tv, acc, lg, h⟩ := h
  exact ⟨tv, acc, lg, h.below hb⟩

set_option maxRecDepth 100000 in
set_option maxHeartbeats 4000000 in
theorem quote_any {B0 : Nat} {w : World} {b : Nat} {full : List UInt8} (l : List UInt8) (h : WE B0 w b full) (hl : l.length ≤ 1073741824) :
    Calls Tryd.prog 51 #[.pointer (some ⟨b, 0, none⟩), .string ⟨l.toArray⟩] w fun e w' => e = .returned (.tuple #[]) ∧ Below B0 w w' ∧ WE B0 w' b (full ++ quoS l) := by
  have HP : Hid (∀ (wq : World) (F p : List UInt8), WE B0 wq b F → p.length ≤ 1073741824 → Calls Tryd.prog 50 #[.pointer (some ⟨b, 0, none⟩), .string ⟨p.toArray⟩] wq fun e w' => e = .returned (.tuple #[]) ∧ Below B0 wq w' ∧ WE B0 w' b (F ++ p)) := fun wq F p h hp => put_we p h hp
  have HEs : Hid (∀ (c : UInt8) (w : World), Calls Tryd.prog 71 #[.int .u8 c.toNat] w fun e w' => e = .returned (.string ⟨(escV c).toArray⟩) ∧ ∃ q, w' = w.drewN q) := fun c w => escaped_any c w
  have C0 : Calls Tryd.prog 50 #[.pointer (some ⟨b, 0, none⟩), .string { data := #[34] }] w fun e w' => e = .returned (.tuple #[]) ∧ Below B0 w w' ∧ WE B0 w' b (full ++ [34]) := HP.out w full [34] h (by simp)
  have Hsl : Hid (∀ a c, (⟨l.toArray⟩ : ByteArray).extract a c = ⟨(sgl l a c).toArray⟩) := fun a c => ext_sgl l a c
  clear h
  go_enter Tryd.func51, Tryd.ntmps51
  go_wp2_with fail
  refine C0.mono ?_
  clear C0
  rintro e w1 ⟨rfl, hB1, hW1⟩
  have HB1 : Hid (Below B0 w w1) := hB1
  have HW1 : Hid (WE B0 w1 b (full ++ [34])) := hW1
  clear hB1 hW1
  go_wp2
  go_loopw [4, 11] (fun s4 s11 wx => ∃ (k f : Nat) (F : List UInt8), s11 = .int .i64 k ∧ s4 = .int .i64 f ∧ k ≤ l.length ∧ f ≤ k ∧ Below B0 w wx ∧ WE B0 wx b F ∧ F ++ sgl l f k = (full ++ [34]) ++ (l.take k).flatMap escC) (fun _ s _ => l.length - (intOf s).toNat)
  case atStart => exact ⟨0, 0, full ++ [34], rfl, rfl, Nat.zero_le _, Nat.le_refl _, HB1.out, HW1.out, by rw [sgl_self]; simp⟩
  case round =>
    obtain ⟨k, f, F, rfl, rfl, hk, hf, hb, hw, he⟩ := hrel
    have HB2 : Hid (Below B0 w wr) := hb
    have HW2 : Hid (WE B0 wr b F) := hw
    have HE2 : Hid (F ++ sgl l f k = (full ++ [34]) ++ (l.take k).flatMap escC) := he
    clear hb hw he
    by_cases hlt : k < l.length
    · have q0 : decide ((k : Int) < (l.length : Int)) = true := decide_eq_true (by omega)
      obtain ⟨c, hc⟩ : ∃ c, l.getD k 0 = c := ⟨_, rfl⟩
      have gx : (⟨l.toArray⟩ : ByteArray)[k]'(by show k < l.toArray.size; simpa using hlt) = c := by
        rw [← hc]; show l.toArray[k] = _; simp [List.getD_eq_getElem?_getD, hlt]
      have CE := HEs.out c wr
      have HT : Hid ((l.take (k + 1)).flatMap escC = (l.take k).flatMap escC ++ escC c) := by show _ = _; rw [take_next hlt, hc]; simp
      have HSG : Hid (sgl l f (k + 1) = sgl l f k ++ [c]) := by show _ = _; rw [sgl_next hf hlt, hc]
      clear hc
      by_cases hesc : escV c = []
      · have HC : Hid (escC c = [c]) := by show _ = _; unfold escC; rw [if_pos hesc]
        rw [hesc] at CE
        clear hesc
        go_wp2_with fail
        refine CE.mono ?_
        clear CE
        rintro e w2 ⟨rfl, q, rfl⟩
        go_wp2
        go_roundw
        case rel => exact ⟨k + 1, f, F, by go_num, rfl, by omega, by omega, below_drewN HB2.out q, HW2.out.drewN q, by rw [HSG.out, HT.out, HC.out, ← List.append_assoc, HE2.out, List.append_assoc]⟩
        case measure => simp [intOf]; omega
      · have HC : Hid (escC c = escV c) := by show _ = _; unfold escC; rw [if_neg hesc]
        have hel : (escV c).length ≤ 6 := by
          unfold escV
          split
          · simp
          · split <;> simp
        have hneq : (escV c == []) = false := by simpa using hesc
        obtain ⟨E, hE⟩ : ∃ E, escV c = E := ⟨_, rfl⟩
        rw [hE] at CE hel hneq
        have HC2 : Hid (escC c = E) := by show _ = _; rw [HC.out, hE]
        have HSL := Hsl.out f k
        have HSL2 : Hid ((⟨l.toArray⟩ : ByteArray).extract f k = ⟨(sgl l f k).toArray⟩) := HSL
        have C2 : Hid (∀ n, Calls Tryd.prog 50 #[.pointer (some ⟨b, 0, none⟩), .string ⟨(sgl l f k).toArray⟩] (wr.drewN n) fun e w' => e = .returned (.tuple #[]) ∧ Below B0 (wr.drewN n) w' ∧ WE B0 w' b (F ++ sgl l f k)) := fun n => HP.out _ F (sgl l f k) (HW2.out.drewN n) (by have := sgl_le l f k; omega)
        clear hesc HC hE HSL
        go_wp2_with fail
        refine CE.mono ?_
        clear CE
        rintro e w2 ⟨rfl, q, rfl⟩
        go_wp2_with fail
        rw [HSL2.out]
        refine (C2.out q).mono ?_
        clear C2
        rintro e w3 ⟨rfl, hB3, hW3⟩
        have C3 := HP.out w3 _ E hW3 (by omega)
        have HB3 : Hid (Below B0 w w3) := (below_drewN HB2.out q).trans hB3
        clear hB3 hW3
        go_wp2_with fail
        refine C3.mono ?_
        clear C3
        rintro e w4 ⟨rfl, hB4, hW4⟩
        have HB4 : Hid (Below B0 w w4) := HB3.out.trans hB4
        have HW4 : Hid (WE B0 w4 b (F ++ sgl l f k ++ E)) := hW4
        clear hB4 hW4
        go_wp2
        go_roundw
        case rel => exact ⟨k + 1, k + 1, F ++ sgl l f k ++ E, by go_num, by go_num, by omega, Nat.le_refl _, HB4.out, HW4.out, by rw [sgl_self, List.append_nil, HT.out, HC2.out, HE2.out, List.append_assoc]⟩
        case measure => simp [intOf]; omega
    · have q0 : decide ((k : Int) < (l.length : Int)) = false := decide_eq_false (by omega)
      obtain rfl : k = l.length := by omega
      have HSL2 : Hid ((⟨l.toArray⟩ : ByteArray).extract f l.length = ⟨(sgl l f l.length).toArray⟩) := Hsl.out f l.length
      have C2 := HP.out wr F (sgl l f l.length) HW2.out (by have := sgl_le l f l.length; omega)
      go_wp2_with fail
      rw [HSL2.out]
      refine C2.mono ?_
      clear C2
      rintro e w3 ⟨rfl, hB3, hW3⟩
      have C3 : Calls Tryd.prog 50 #[.pointer (some ⟨b, 0, none⟩), .string { data := #[34] }] w3 fun e w' => e = .returned (.tuple #[]) ∧ Below B0 w3 w' ∧ WE B0 w' b (F ++ sgl l f l.length ++ [34]) := HP.out w3 _ [34] hW3 (by simp)
      have HB3 : Hid (Below B0 w w3) := HB2.out.trans hB3
      clear hB3 hW3
      go_wp2_with fail
      refine C3.mono ?_
      clear C3
      rintro e w4 ⟨rfl, hB4, hW4⟩
      go_wp2
      go_end0
      refine ⟨rfl, HB3.out.trans hB4, ?_⟩
      have e1 : full ++ quoS l = F ++ sgl l f l.length ++ [34] := by
        rw [HE2.out, List.take_length]
        unfold quoS
        simp
      rw [e1]
      exact hW4

end Go.Proofs.YtlapkbdjipocoaaDoor
