import Derived.Test.YtpbjamhalkahmaaGreatDoorTY
import Derived.Test.YtpbjamhalkahmaaGreatDoorJZ
import Derived.Lib.AppendStr
namespace Go.Proofs.YtpbjamhalkahmaaGreatDoor
open Go.RowKit Go.Shelf

theorem hne_uw : 5 ≠ 63 := by decide

/-- The writer: all that was put into it, as far as that has room. -/
structure WS (B0 : Nat) (w : World) (b : Nat) (full : List UInt8) (tv : Value) (acc : List UInt8) (lg : Bool) : Prop where
  lo : B0 ≤ b
  blo : B0 ≤ w.heap.size
  bl : Bl 63 w b [tv, .bool lg]
  own : w.ownsRow B0 5 1 tv acc.length (acc.map B)
  fit : full.length ≤ 262144 → acc = full ∧ lg = false
  big : 262144 < full.length → lg = true
  len : acc.length ≤ 262144

theorem strC (l : List UInt8) : Lib.strCells ⟨l.toArray⟩ = l.map B := rfl

theorem WS.below {B0 : Nat} {w w' : World} {b : Nat} {full acc : List UInt8} {tv : Value} {lg : Bool} (h : WS B0 w b full tv acc lg) (hb : Below w.heap.size w w') : WS B0 w' b full tv acc lg :=
  ⟨h.lo, Nat.le_trans h.blo hb.size, h.bl.below hb h.bl.lt, own_below h.own hb (Nat.le_refl _), h.fit, h.big, h.len⟩

set_option maxRecDepth 100000 in
set_option maxHeartbeats 4000000 in
theorem put_any {B0 : Nat} {w : World} {b : Nat} {full acc : List UInt8} {tv : Value} {lg : Bool} (l : List UInt8) (h : WS B0 w b full tv acc lg) (hl : l.length ≤ 1073741824) :
    Calls Tryz.prog 36 #[.pointer (some ⟨b, 0, none⟩), .string ⟨l.toArray⟩] w fun e w' => e = .returned (.tuple #[]) ∧ Below B0 w w' ∧ ∃ tv' acc' lg', WS B0 w' b (full ++ l) tv' acc' lg' := by
  have c0 : w.cell? ⟨b, 0, none⟩ = some tv := h.bl.cell 0 (by simp)
  have c1 : w.cell? ⟨b, 1, none⟩ = some (.bool lg) := h.bl.cell 1 (by simp)
  have f0 := h.bl.frozen 0
  have f1 := h.bl.frozen 1
  have hal := h.len
  have H : Hid (WS B0 w b full tv acc lg) := h
  obtain ⟨ta, tc, e, htc, _⟩ := own_slice h.own
  subst e
  by_cases hbig : 262144 < acc.length + l.length
  · have qb : decide ((acc.length : Int) + (l.length : Int) > 262144) = true := decide_eq_true (by omega)
    have hWS : WS B0 (w.setCell ⟨b, 1, none⟩ (.bool true)) b (full ++ l) (.slice ta acc.length tc) acc true := by
      have hbut : But w (w.setCell ⟨b, 1, none⟩ (.bool true)) b := (But.refl _ _).set _ _
      refine ⟨h.lo, Nat.le_trans h.blo hbut.size, h.bl.set 1 _, own_but h.own h.bl hne_uw hbut, fun hf => ?_, fun _ => rfl, h.len⟩
      rw [List.length_append] at hf
      have := h.fit (by omega)
      rw [this.1] at hbig
      omega
    have HW : Hid (WS B0 (w.setCell ⟨b, 1, none⟩ (.bool true)) b (full ++ l) (.slice ta acc.length tc) acc true) := hWS
    have HB : Hid (Below B0 w (w.setCell ⟨b, 1, none⟩ (.bool true))) := Below.setCell (Below.refl _ _) h.lo _
    have d1 : (w.setCell ⟨b, 1, none⟩ (.bool true)).cell? ⟨b, 1, none⟩ = some (.bool true) := hWS.bl.cell 1 (by simp)
    clear h hWS
    go_enter Tryz.func36, Tryz.ntmps36
    go_wp2
    go_end0
    exact ⟨rfl, HB.out, _, _, _, HW.out⟩
  · have qb : decide ((acc.length : Int) + (l.length : Int) > 262144) = false := decide_eq_false (by omega)
    cases lg
    · have hfull : acc = full := (h.fit (by
        rcases Nat.lt_or_ge 262144 full.length with h1 | h1
        · have := h.big h1; cases this
        · exact h1)).1
      obtain ⟨i0, hi, hz0, hz1, hz2⟩ := info_parts infoU8
      have HO : Hid (w.ownsRow B0 5 1 (.slice ta acc.length tc) acc.length (acc.map B)) := h.own
      have hblo := h.blo
      have hsz : (⟨l.toArray⟩ : ByteArray).size = l.length := by show l.toArray.size = _; simp
      have HFL : Hid (acc = full) := hfull
      have hnb : (Value.slice ta acc.length tc).ownBlock ≠ some b := block_apart h.own h.bl hne_uw
      have HNB : Hid ((Value.slice ta acc.length tc).ownBlock ≠ some b) := hnb
      have hlo := h.lo
      clear h hfull hnb
      go_enter Tryz.func36, Tryz.ntmps36
      go_wp2_with (at_builtin; refine Lib.wpList_append_own_string _ rfl (.tmp 25) (.tmp 26) 61 9 rfl B0 5 i0 Tryz.underlying61 Tryz.underlying9 hi hz0 hz1 hz2 _ acc.length (acc.map B) rfl HO.out ⟨l.toArray⟩ rfl (by rw [hsz]; unfold maxLen; omega) (by rw [hsz]; omega) hblo ?_; intro v5 w5 h5 h6 _; rw [hsz] at h5; obtain ⟨a5, k5, e5, _, _⟩ := own_slice h5; subst e5; have HB5 : Hid (Bl 63 w5 b [.slice ta acc.length tc, .bool false]) := bl_grown H.out.bl h6 HNB.out; have d0 : w5.cell? ⟨b, 0, none⟩ = some (.slice ta acc.length tc) := HB5.out.cell 0 (by simp); have g0 := HB5.out.frozen 0)
      have HB6 : Hid (Below B0 w (w5.setCell ⟨b, 0, none⟩ (.slice a5 (acc.length + l.length) k5))) := Below.setCell (Below.grown (Below.refl _ _) h6 hblo (own_block HO.out)) hlo _
      have HW6 : Hid (WS B0 (w5.setCell ⟨b, 0, none⟩ (.slice a5 (acc.length + l.length) k5)) b (full ++ l) (.slice a5 (acc.length + l.length) k5) (acc ++ l) false) := by
        have hbut : But w5 (w5.setCell ⟨b, 0, none⟩ (.slice a5 (acc.length + l.length) k5)) b := (But.refl _ _).set _ _
        have h7 : w5.ownsRow B0 5 1 (.slice a5 (acc.length + l.length) k5) (acc ++ l).length ((acc ++ l).map B) := by rw [List.length_append, List.map_append, ← strC]; exact h5
        refine ⟨hlo, Nat.le_trans hblo (Nat.le_trans h6.size hbut.size), HB5.out.set 0 _, own_but h7 HB5.out hne_uw hbut, fun _ => ⟨by rw [HFL.out], rfl⟩, fun hx => ?_, by rw [List.length_append]; omega⟩
        rw [← HFL.out, List.length_append] at hx
        omega
      clear h5 h6
      go_end0
      exact ⟨rfl, HB6.out, _, _, _, HW6.out⟩
    · have hf : 262144 < full.length := by
        rcases Nat.lt_or_ge 262144 full.length with h1 | h1
        · exact h1
        · have := (h.fit h1).2; cases this
      have HW : Hid (WS B0 w b (full ++ l) (.slice ta acc.length tc) acc true) := ⟨h.lo, h.blo, h.bl, h.own, fun hx => by rw [List.length_append] at hx; omega, fun _ => rfl, h.len⟩
      clear h
      go_enter Tryz.func36, Tryz.ntmps36
      go_wp2
      go_end0
      exact ⟨rfl, Below.refl _ _, _, _, _, HW.out⟩

end Go.Proofs.YtpbjamhalkahmaaGreatDoor

namespace Go.Proofs.YtpbjamhalkahmaaGreatDoor
open Go.RowKit Go.Shelf

theorem ext1 (l : List UInt8) (k : Nat) (hk : k < l.length) : (⟨l.toArray⟩ : ByteArray).extract k (k + 1) = ⟨#[l.getD k 0]⟩ := by
  rw [Lib.extract_eq]
  simp only [ByteArray.mk.injEq]
  have : List.take (k + 1 - k) (List.drop k l) = [l.getD k 0] := by
    rw [drop_at hk, show k + 1 - k = 1 by omega]
    rfl
  show (List.take (k + 1 - k) (List.drop k l)).toArray = _
  rw [this]
theorem and15 : ∀ X : Fin 256, bits .and .u8 ((X.val : Nat) : Int) 15 = ((X.val % 16 : Nat) : Int) := by decide +kernel

set_option maxRecDepth 100000 in
set_option maxHeartbeats 4000000 in
theorem escaped_any (c : UInt8) (w : World) : Calls Tryz.prog 49 #[.int .u8 c.toNat] w fun e w' => e = .returned (.string ⟨(escV c).toArray⟩) ∧ ∃ q, w' = w.drewN q := by
  have C : Calls Tryz.prog 41 #[.string { data := #[34, 92, 8, 12, 10, 13, 9] }, .int .u8 c.toNat] w fun e w' => e = .returned (.int .i64 (Lib.indexByte escB c)) ∧ w' = w := indexByte_any escB c w
  have hge := Lib.indexByte_ge escB c
  have hhi := ixb_hi c escB
  have hlen : escB.length = 7 := rfl
  rw [hlen] at hhi
  have hcl : c.toNat < 256 := c.toNat_lt
  have HV : Hid (escV c = if 0 ≤ Lib.indexByte escB c then [92, escS.getD (Lib.indexByte escB c).toNat 0] else if c.toNat < 32 then [92, 117, 48, 48, smallS.getD (c.toNat / 16) 0, smallS.getD (c.toNat % 16) 0] else []) := rfl
  clear hlen
  generalize Lib.indexByte escB c = ix at *
  by_cases h0 : 0 ≤ ix
  · obtain ⟨k, rfl⟩ : ∃ k : Nat, ix = (k : Int) := ⟨ix.toNat, by omega⟩
    have hk7 : k < 7 := by omega
    have HE : Hid (escV c = [92, escS.getD k 0]) := by show _ = _; rw [HV.out, if_pos h0, Int.toNat_natCast]
    have hx : ({ data := #[34, 92, 98, 102, 110, 114, 116] } : ByteArray).extract k (k + 1) = ⟨#[escS.getD k 0]⟩ := ext1 escS k hk7
    have HX : Hid (({ data := #[34, 92, 98, 102, 110, 114, 116] } : ByteArray).extract k (k + 1) = ⟨#[escS.getD k 0]⟩) := hx
    generalize escS.getD k 0 = g at *
    have q0 : decide ((k : Int) ≥ 0) = true := decide_eq_true (by omega)
    clear HV h0
    go_enter Tryz.func49, Tryz.ntmps49
    go_wp2_with fail
    refine C.mono ?_
    rintro e w1 ⟨rfl, rfl⟩
    go_wp2
    go_ret
    rw [HE.out]
    exact ⟨rfl, 0, rfl⟩
  · have q0 : decide (ix ≥ 0) = false := decide_eq_false h0
    by_cases h32 : c.toNat < 32
    · have HE : Hid (escV c = [92, 117, 48, 48, smallS.getD (c.toNat / 16) 0, smallS.getD (c.toNat % 16) 0]) := by show _ = _; rw [HV.out, if_neg h0, if_pos h32]
      have hand := and15 ⟨c.toNat, hcl⟩
      have q1 : decide ((c.toNat : Int) < 32) = true := decide_eq_true (by omega)
      obtain ⟨a, ha⟩ : ∃ a, c.toNat / 16 = a := ⟨_, rfl⟩
      obtain ⟨m, hm⟩ : ∃ m, c.toNat % 16 = m := ⟨_, rfl⟩
      have hal : a < 16 := by omega
      have hml : m < 16 := by omega
      simp only at hand
      rw [hm] at hand
      rw [ha, hm] at HE
      have hsh : (c.toNat : Int) / 16 = (a : Int) := by omega
      have hx1 : ({ data := #[48, 49, 50, 51, 52, 53, 54, 55, 56, 57, 97, 98, 99, 100, 101, 102] } : ByteArray).extract a (a + 1) = ⟨#[smallS.getD a 0]⟩ := ext1 smallS a hal
      have hx2 : ({ data := #[48, 49, 50, 51, 52, 53, 54, 55, 56, 57, 97, 98, 99, 100, 101, 102] } : ByteArray).extract m (m + 1) = ⟨#[smallS.getD m 0]⟩ := ext1 smallS m hml
      generalize smallS.getD a 0 = g1 at *
      generalize smallS.getD m 0 = g2 at *
      clear HV h0 ha hm
      go_enter Tryz.func49, Tryz.ntmps49
      go_wp2_with fail
      refine C.mono ?_
      rintro e w1 ⟨rfl, rfl⟩
      go_wp2
      go_quiet (fail)
      go_wp2
      go_ret
      rw [HE.out]
      exact ⟨rfl, _, rfl⟩
    · have HE : Hid (escV c = []) := by show _ = _; rw [HV.out, if_neg h0, if_neg h32]
      have q1 : decide ((c.toNat : Int) < 32) = false := decide_eq_false (by omega)
      clear HV h0
      go_enter Tryz.func49, Tryz.ntmps49
      go_wp2_with fail
      refine C.mono ?_
      rintro e w1 ⟨rfl, rfl⟩
      go_wp2
      go_ret
      rw [HE.out]
      exact ⟨rfl, 0, rfl⟩

end Go.Proofs.YtpbjamhalkahmaaGreatDoor

namespace Go.Proofs.YtpbjamhalkahmaaGreatDoor
open Go.RowKit Go.Shelf

theorem sgl_next {l : List UInt8} {f k : Nat} (hf : f ≤ k) (hk : k < l.length) : sgl l f (k + 1) = sgl l f k ++ [l.getD k 0] := by
  unfold sgl
  rw [show k + 1 - f = (k - f) + 1 by omega, List.take_add_one, List.getElem?_drop, show f + (k - f) = k by omega, List.getElem?_eq_getElem hk]
  simp [List.getD_eq_getElem?_getD, hk]
theorem sgl_self (l : List UInt8) (k : Nat) : sgl l k k = [] := by unfold sgl; simp
theorem take_next {l : List UInt8} {k : Nat} (hk : k < l.length) : l.take (k + 1) = l.take k ++ [l.getD k 0] := by
  rw [List.take_add_one, List.getElem?_eq_getElem hk]
  simp [List.getD_eq_getElem?_getD, hk]

/-- The writer, with what it holds left open. -/
def WE (B0 : Nat) (w : World) (b : Nat) (full : List UInt8) : Prop := ∃ tv acc lg, WS B0 w b full tv acc lg
theorem put_we {B0 : Nat} {w : World} {b : Nat} {full : List UInt8} (l : List UInt8) (h : WE B0 w b full) (hl : l.length ≤ 1073741824) :
    Calls Tryz.prog 36 #[.pointer (some ⟨b, 0, none⟩), .string ⟨l.toArray⟩] w fun e w' => e = .returned (.tuple #[]) ∧ Below B0 w w' ∧ WE B0 w' b (full ++ l) := by
  obtain ⟨tv, acc, lg, h⟩ := h
  exact put_any l h hl
theorem WE.drewN {B0 : Nat} {w : World} {b : Nat} {full : List UInt8} (h : WE B0 w b full) (n : Nat) : WE B0 (w.drewN n) b full := by
  obtain ⟨tv, acc, lg, h⟩ := h
  exact ⟨tv, acc, lg, h.lo, h.blo, h.bl, h.own, h.fit, h.big, h.len⟩
theorem WE.below {B0 : Nat} {w w' : World} {b : Nat} {full : List UInt8} (h : WE B0 w b full) (hb : Below w.heap.size w w') : WE B0 w' b full := by
  obtain ⟨tv, acc, lg, h⟩ := h
  exact ⟨tv, acc, lg, h.below hb⟩

set_option maxRecDepth 100000 in
set_option maxHeartbeats 4000000 in
theorem quote_any {B0 : Nat} {w : World} {b : Nat} {full : List UInt8} (l : List UInt8) (h : WE B0 w b full) (hl : l.length ≤ 1073741824) :
    Calls Tryz.prog 37 #[.pointer (some ⟨b, 0, none⟩), .string ⟨l.toArray⟩] w fun e w' => e = .returned (.tuple #[]) ∧ Below B0 w w' ∧ WE B0 w' b (full ++ quoS l) := by
  have HP : Hid (∀ (wq : World) (F p : List UInt8), WE B0 wq b F → p.length ≤ 1073741824 → Calls Tryz.prog 36 #[.pointer (some ⟨b, 0, none⟩), .string ⟨p.toArray⟩] wq fun e w' => e = .returned (.tuple #[]) ∧ Below B0 wq w' ∧ WE B0 w' b (F ++ p)) := fun wq F p h hp => put_we p h hp
  have HEs : Hid (∀ (c : UInt8) (w : World), Calls Tryz.prog 49 #[.int .u8 c.toNat] w fun e w' => e = .returned (.string ⟨(escV c).toArray⟩) ∧ ∃ q, w' = w.drewN q) := fun c w => escaped_any c w
  have C0 : Calls Tryz.prog 36 #[.pointer (some ⟨b, 0, none⟩), .string { data := #[34] }] w fun e w' => e = .returned (.tuple #[]) ∧ Below B0 w w' ∧ WE B0 w' b (full ++ [34]) := HP.out w full [34] h (by simp)
  have Hsl : Hid (∀ a c, (⟨l.toArray⟩ : ByteArray).extract a c = ⟨(sgl l a c).toArray⟩) := fun a c => ext_sgl l a c
  clear h
  go_enter Tryz.func37, Tryz.ntmps37
  go_wp2_with fail
  refine C0.mono ?_
  clear C0
  rintro e w1 ⟨rfl, hB1, hW1⟩
  have HB1 : Hid (Below B0 w w1) := hB1
  have HW1 : Hid (WE B0 w1 b (full ++ [34])) := hW1
  clear hB1 hW1
  go_wp2
  go_loopw [4, 11] (fun s4 s11 wx => ∃ (k f : Nat) (F : List UInt8), s11 = .int .i64 k ∧ s4 = .int .i64 f ∧ k ≤ l.length ∧ f ≤ k ∧ Below B0 w wx ∧ WE B0 wx b F ∧ F ++ sgl l f k = (full ++ [34]) ++ (l.take k).flatMap escC) (fun _ s _ => l.length - (intOf s).toNat)
  case atStart => exact ⟨0, 0, full ++ [34], rfl, rfl, Nat.zero_le _, Nat.le_refl _, HB1.out, HW1.out, by rw [sgl_self]; simp⟩
  case round =>
    obtain ⟨k, f, F, rfl, rfl, hk, hf, hb, hw, he⟩ := hrel
    have HB2 : Hid (Below B0 w wr) := hb
    have HW2 : Hid (WE B0 wr b F) := hw
    have HE2 : Hid (F ++ sgl l f k = (full ++ [34]) ++ (l.take k).flatMap escC) := he
    clear hb hw he
    by_cases hlt : k < l.length
    · have q0 : decide ((k : Int) < (l.length : Int)) = true := decide_eq_true (by omega)
      obtain ⟨c, hc⟩ : ∃ c, l.getD k 0 = c := ⟨_, rfl⟩
      have gx : (⟨l.toArray⟩ : ByteArray)[k]'(by show k < l.toArray.size; simpa using hlt) = c := by
        rw [← hc]; show l.toArray[k] = _; simp [List.getD_eq_getElem?_getD, hlt]
      have CE := HEs.out c wr
      have HT : Hid ((l.take (k + 1)).flatMap escC = (l.take k).flatMap escC ++ escC c) := by show _ = _; rw [take_next hlt, hc]; simp
      have HSG : Hid (sgl l f (k + 1) = sgl l f k ++ [c]) := by show _ = _; rw [sgl_next hf hlt, hc]
      clear hc
      by_cases hesc : escV c = []
      · have HC : Hid (escC c = [c]) := by show _ = _; unfold escC; rw [if_pos hesc]
        rw [hesc] at CE
        clear hesc
        go_wp2_with fail
        refine CE.mono ?_
        clear CE
        rintro e w2 ⟨rfl, q, rfl⟩
        go_wp2
        go_roundw
        case rel => exact ⟨k + 1, f, F, by go_num, rfl, by omega, by omega, below_drewN HB2.out q, HW2.out.drewN q, by rw [HSG.out, HT.out, HC.out, ← List.append_assoc, HE2.out, List.append_assoc]⟩
        case measure => simp [intOf]; omega
      · have HC : Hid (escC c = escV c) := by show _ = _; unfold escC; rw [if_neg hesc]
        have hel : (escV c).length ≤ 6 := by
          unfold escV
          split
          · simp
          · split <;> simp
        have hneq : (escV c == []) = false := by simpa using hesc
        obtain ⟨E, hE⟩ : ∃ E, escV c = E := ⟨_, rfl⟩
        rw [hE] at CE hel hneq
        have HC2 : Hid (escC c = E) := by show _ = _; rw [HC.out, hE]
        have HSL := Hsl.out f k
        have HSL2 : Hid ((⟨l.toArray⟩ : ByteArray).extract f k = ⟨(sgl l f k).toArray⟩) := HSL
        have C2 : Hid (∀ n, Calls Tryz.prog 36 #[.pointer (some ⟨b, 0, none⟩), .string ⟨(sgl l f k).toArray⟩] (wr.drewN n) fun e w' => e = .returned (.tuple #[]) ∧ Below B0 (wr.drewN n) w' ∧ WE B0 w' b (F ++ sgl l f k)) := fun n => HP.out _ F (sgl l f k) (HW2.out.drewN n) (by have := sgl_le l f k; omega)
        clear hesc HC hE HSL
        go_wp2_with fail
        refine CE.mono ?_
        clear CE
        rintro e w2 ⟨rfl, q, rfl⟩
        go_wp2_with fail
        rw [HSL2.out]
        refine (C2.out q).mono ?_
        clear C2
        rintro e w3 ⟨rfl, hB3, hW3⟩
        have C3 := HP.out w3 _ E hW3 (by omega)
        have HB3 : Hid (Below B0 w w3) := (below_drewN HB2.out q).trans hB3
        clear hB3 hW3
        go_wp2_with fail
        refine C3.mono ?_
        clear C3
        rintro e w4 ⟨rfl, hB4, hW4⟩
        have HB4 : Hid (Below B0 w w4) := HB3.out.trans hB4
        have HW4 : Hid (WE B0 w4 b (F ++ sgl l f k ++ E)) := hW4
        clear hB4 hW4
        go_wp2
        go_roundw
        case rel => exact ⟨k + 1, k + 1, F ++ sgl l f k ++ E, by go_num, by go_num, by omega, Nat.le_refl _, HB4.out, HW4.out, by rw [sgl_self, List.append_nil, HT.out, HC2.out, HE2.out, List.append_assoc]⟩
        case measure => simp [intOf]; omega
    · have q0 : decide ((k : Int) < (l.length : Int)) = false := decide_eq_false (by omega)
      obtain rfl : k = l.length := by omega
      have HSL2 : Hid ((⟨l.toArray⟩ : ByteArray).extract f l.length = ⟨(sgl l f l.length).toArray⟩) := Hsl.out f l.length
      have C2 := HP.out wr F (sgl l f l.length) HW2.out (by have := sgl_le l f l.length; omega)
      go_wp2_with fail
      rw [HSL2.out]
      refine C2.mono ?_
      clear C2
      rintro e w3 ⟨rfl, hB3, hW3⟩
      have C3 : Calls Tryz.prog 36 #[.pointer (some ⟨b, 0, none⟩), .string { data := #[34] }] w3 fun e w' => e = .returned (.tuple #[]) ∧ Below B0 w3 w' ∧ WE B0 w' b (F ++ sgl l f l.length ++ [34]) := HP.out w3 _ [34] hW3 (by simp)
      have HB3 : Hid (Below B0 w w3) := HB2.out.trans hB3
      clear hB3 hW3
      go_wp2_with fail
      refine C3.mono ?_
      clear C3
      rintro e w4 ⟨rfl, hB4, hW4⟩
      go_wp2
      go_end0
      refine ⟨rfl, HB3.out.trans hB4, ?_⟩
      have e1 : full ++ quoS l = F ++ sgl l f l.length ++ [34] := by
        rw [HE2.out, List.take_length]
        unfold quoS
        simp
      rw [e1]
      exact hW4

end Go.Proofs.YtpbjamhalkahmaaGreatDoor

namespace Go.Proofs.YtpbjamhalkahmaaGreatDoor
open Go.RowKit Go.Shelf

theorem pk_end {v : List Nd} {sv : Nat → List (Nat × List UInt8) → Option (Nat × List (Nat × List UInt8))} {pv : Nat → List UInt8 × Nat} (hp : ∀ i m j m', sv i m = some (j, m') → (pv i).2 = j) (obj : Bool) : ∀ (f : Nat) (n : Int) (i : Nat) (m : List (Nat × List UInt8)) (j : Nat) (m' : List (Nat × List UInt8)) (first : Bool), skF sv f n i m = some (j, m') → (pkF pv v obj f first n i).2 = j
  | 0, n, i, m, j, m', first, h => by
    unfold skF at h
    split at h
    · cases h
    · cases h; rfl
  | f + 1, n, i, m, j, m', first, h => by
    unfold skF at h
    unfold pkF
    split at h
    · rename_i hn
      rw [if_pos hn]
      split at h
      · cases h
      · rename_i j1 m1 e
        show (pkF pv v obj f false (n - 1) (pv i).2).2 = j
        rw [hp _ _ _ _ e]
        exact pk_end hp obj f (n - 1) j1 m1 j m' false h
    · rename_i hn
      rw [if_neg hn]
      cases h; rfl

theorem svF_parts {v : List Nd} {f i : Nat} {a d : Int} {m : List (Nat × List UInt8)} {j : Nat} {m' : List (Nat × List UInt8)} (h : svF v (f + 1) i a d m = some (j, m')) : i < v.length ∧ wmF (v.getD i (nd0 0)) d = true ∧ ∃ m2, skF (fun j m => svF v f j (i : Int) (d + 1) m) (v.length + 1) (v.getD i (nd0 0)).kids (i + 1) m2 = some (j, m') := by
  unfold svF at h
  split at h
  · rename_i hi
    split at h
    · cases h
    · rename_i m2 e
      exact ⟨hi.1, hi.2, m2, h⟩
  · cases h
theorem wm_kind {n : Nd} {d : Int} (h : wmF n d = true) : (1 ≤ n.kind ∧ n.kind ≤ 7) ∧ (n.kind < 6 → n.kids = 0) := by
  unfold wmF at h
  split at h
  · have h2 : n.kids = 0 := congrArg Nd.kids (of_decide_eq_true h)
    omega
  · split at h
    · simp only [Bool.and_eq_true] at h
      have h2 : n.kids = 0 := congrArg Nd.kids (of_decide_eq_true h.2)
      omega
    · split at h
      · simp only [Bool.and_eq_true] at h
        have h2 : n.kids = 0 := congrArg Nd.kids (of_decide_eq_true h.2)
        omega
      · split at h
        · omega
        · cases h
theorem sk_zero {sv : Nat → List (Nat × List UInt8) → Option (Nat × List (Nat × List UInt8))} {f i j : Nat} {m m' : List (Nat × List UInt8)} (h : skF sv f 0 i m = some (j, m')) : j = i := by
  cases f <;> (unfold skF at h; rw [if_neg (by omega)] at h; cases h; rfl)

theorem prF_end {v : List Nd} : ∀ (f i : Nat) (a d : Int) (m : List (Nat × List UInt8)) (j : Nat) (m' : List (Nat × List UInt8)), svF v f i a d m = some (j, m') → (prF v f i).2 = j
  | 0, i, a, d, m, j, m', h => by unfold svF at h; cases h
  | f + 1, i, a, d, m, j, m', h => by
    obtain ⟨hi, hw, m2, hs⟩ := svF_parts h
    have hk := wm_kind hw
    have hleaf : (v.getD i (nd0 0)).kind < 6 → j = i + 1 := fun hlt => by
      rw [hk.2 hlt] at hs
      exact sk_zero hs
    have hin : ∀ obj, (pkF (prF v f) v obj (v.length + 1) true (v.getD i (nd0 0)).kids (i + 1)).2 = j := fun obj => pk_end (fun i2 m3 j2 m4 h2 => prF_end f i2 _ _ m3 j2 m4 h2) obj _ _ _ m2 j m' true hs
    unfold prF
    simp only
    split
    · exact (hleaf (by omega)).symm
    · split
      · exact (hleaf (by omega)).symm
      · split
        · exact (hleaf (by omega)).symm
        · split
          · exact (hleaf (by omega)).symm
          · split
            · exact (hleaf (by omega)).symm
            · split
              · exact hin false
              · split
                · exact hin true
                · omega

/-- What the writer's value does, so deep at most. -/
def WvC (w0 : World) (l : List Nd) (ao : Option Addr) (cap f : Nat) : Prop := ∀ (w : World) (b : Nat) (full : List UInt8) (i : Nat) (a d : Int) (m : List (Nat × List UInt8)) (j : Nat) (m' : List (Nat × List UInt8)), Below w0.heap.size w0 w → WE w0.heap.size w b full → svF l f i a d m = some (j, m') →
    Calls Tryz.prog 19 #[.pointer (some ⟨b, 0, none⟩), .slice ao l.length cap, .int .i64 (i : Int)] w fun e w' => e = .returned (.int .i64 (j : Int)) ∧ Below w0.heap.size w0 w' ∧ WE w0.heap.size w' b (full ++ (prF l f i).1)
def WiC (w0 : World) (l : List Nd) (ao : Option Addr) (cap f : Nat) : Prop := ∀ (w : World) (b : Nat) (full : List UInt8) (i : Nat) (d : Int) (m : List (Nat × List UInt8)) (j : Nat) (m' : List (Nat × List UInt8)) (o c : UInt8), Below w0.heap.size w0 w → WE w0.heap.size w b full → i < l.length → skF (fun j m => svF l f j (i : Int) (d + 1) m) (l.length + 1) (l.getD i (nd0 0)).kids (i + 1) m = some (j, m') →
    Calls Tryz.prog 38 #[.pointer (some ⟨b, 0, none⟩), .slice ao l.length cap, .int .i64 (i : Int), .string { data := #[o] }, .string { data := #[c] }] w fun e w' => e = .returned (.int .i64 (j : Int)) ∧ Below w0.heap.size w0 w' ∧ WE w0.heap.size w' b (full ++ (o :: ((pkF (prF l f) l (decide ((l.getD i (nd0 0)).kind = 7)) (l.length + 1) true (l.getD i (nd0 0)).kids (i + 1)).1 ++ [c])))

set_option maxRecDepth 100000 in
set_option maxHeartbeats 16000000 in
theorem inner_step (w0 : World) (l : List Nd) (ao : Option Addr) (cap f : Nat) (h : NR w0 (.slice ao l.length cap) l ao cap) (ht : TB l) (hl : l.length ≤ 1000000000) (ih : WvC w0 l ao cap f) : WiC w0 l ao cap f := by
  intro w b full i d m j m' o c hb hw hi hs
  have HP : Hid (∀ (wq : World) (F p : List UInt8), WE w0.heap.size wq b F → p.length ≤ 1073741824 → Calls Tryz.prog 36 #[.pointer (some ⟨b, 0, none⟩), .string ⟨p.toArray⟩] wq fun e w' => e = .returned (.tuple #[]) ∧ Below w0.heap.size wq w' ∧ WE w0.heap.size w' b (F ++ p)) := fun wq F p h hp => put_we p h hp
  have HQ : Hid (∀ (wq : World) (F p : List UInt8), WE w0.heap.size wq b F → p.length ≤ 1073741824 → Calls Tryz.prog 37 #[.pointer (some ⟨b, 0, none⟩), .string ⟨p.toArray⟩] wq fun e w' => e = .returned (.tuple #[]) ∧ Below w0.heap.size wq w' ∧ WE w0.heap.size w' b (F ++ quoS p)) := fun wq F p h hp => quote_any p h hp
  have C0 : Calls Tryz.prog 36 #[.pointer (some ⟨b, 0, none⟩), .string { data := #[o] }] w fun e w' => e = .returned (.tuple #[]) ∧ Below w0.heap.size w w' ∧ WE w0.heap.size w' b (full ++ [o]) := HP.out w full [o] hw (by simp)
  have HB : Hid (Below w0.heap.size w0 w) := hb
  have HN : Hid (∀ wq, Below w0.heap.size w0 wq → NR wq (.slice ao l.length cap) l ao cap) := fun wq hq => h.below hq (Nat.le_refl _)
  have IH : Hid (WvC w0 l ao cap f) := ih
  obtain ⟨K, hK⟩ : ∃ K, (l.getD i (nd0 0)).kids = K := ⟨_, rfl⟩
  obtain ⟨Kd, hKd⟩ : ∃ Kd, (l.getD i (nd0 0)).kind = Kd := ⟨_, rfl⟩
  rw [hK] at hs
  rw [hK, hKd]
  obtain ⟨T, hT⟩ : ∃ T, full ++ (o :: ((pkF (prF l f) l (decide (Kd = 7)) (l.length + 1) true K (i + 1)).1 ++ [c])) = T := ⟨_, rfl⟩
  rw [hT]
  have HT : Hid ((full ++ [o]) ++ (pkF (prF l f) l (decide (Kd = 7)) (l.length + 1) true K (i + 1)).1 ++ [c] = T) := by show _ = _; rw [← hT]; simp
  have HS : Hid (skF (fun j m => svF l f j (i : Int) (d + 1) m) (l.length + 1) K (i + 1) m = some (j, m')) := hs
  have HTB : Hid (TB l) := ht
  obtain ⟨g, off, rfl, _⟩ := h.at hi
  have HC : Hid (∀ wq, Below w0.heap.size w0 wq → wq.cell? ⟨g, off + i * 6 + 5, none⟩ = some (.int .i64 K) ∧ wq.cell? ⟨g, off + i * 6, none⟩ = some (.int .i64 Kd)) := fun wq hq => by
    obtain ⟨g', off', e', hc⟩ := (h.below hq (Nat.le_refl _)).at hi
    cases e'
    refine ⟨hc 5 _ (by omega) (by rw [← hK]; rfl), ?_⟩
    have := hc 0 (.int .i64 Kd) (by omega) (by rw [← hKd]; rfl)
    rwa [Nat.add_zero] at this
  clear h ht ih hb hw hs hK hKd hT
  go_enter Tryz.func38, Tryz.ntmps38
  go_wp2_with fail
  refine C0.mono ?_
  clear C0
  rintro e w1 ⟨rfl, hB1, hW1⟩
  have HB1 : Hid (Below w0.heap.size w0 w1) := HB.out.trans hB1
  have HW1 : Hid (WE w0.heap.size w1 b (full ++ [o])) := hW1
  have k5 := (HC.out w1 HB1.out).1
  clear hB1 hW1
  go_wp2
  go_loopw [11, 23] (fun s11 s23 wx => ∃ (cn k : Nat) (m2 : List (Nat × List UInt8)) (F : List UInt8), s23 = .int .i64 cn ∧ s11 = .int .i64 k ∧ cn < k ∧ k ≤ l.length ∧ Below w0.heap.size w0 wx ∧ WE w0.heap.size wx b F ∧ skF (fun j m => svF l f j (i : Int) (d + 1) m) (l.length + 1) (K - cn) k m2 = some (j, m') ∧ F ++ (pkF (prF l f) l (decide (Kd = 7)) (l.length + 1 - cn) (decide (cn = 0)) (K - cn) k).1 ++ [c] = T) (fun s _ _ => l.length - (intOf s).toNat)
  case atStart => exact ⟨0, i + 1, m, full ++ [o], rfl, by go_num, by omega, by omega, HB1.out, HW1.out, by have := HS.out; simpa using this, by have := HT.out; simpa using this⟩
  case round =>
    obtain ⟨cn, k, m2, F, rfl, rfl, hck, hk, hb, hw, hs, htt⟩ := hrel
    obtain ⟨g2, hg2⟩ : ∃ g2, l.length + 1 - cn = g2 + 1 := ⟨l.length - cn, by omega⟩
    rw [hg2] at htt
    have HBr : Hid (Below w0.heap.size w0 wr) := hb
    have HWr : Hid (WE w0.heap.size wr b F) := hw
    by_cases hn : (cn : Int) < K
    · have q0 : decide ((cn : Int) < K) = true := decide_eq_true hn
      unfold skF at hs
      rw [if_pos (by omega)] at hs
      unfold pkF at htt
      rw [if_pos (by omega)] at htt
      split at hs
      · cases hs
      · rename_i j1 m3 e1
        have hgt := svF_gt f k _ _ m2 j1 m3 e1
        have hpe := prF_end f k _ _ m2 j1 m3 e1
        rw [hpe] at htt
        have hkl : k < l.length := by omega
        have HS2 : Hid (skF (fun j m => svF l f j (i : Int) (d + 1) m) (l.length + 1) (K - ((cn + 1 : Nat) : Int)) j1 m3 = some (j, m')) := by
          show _ = _
          rw [← hs, skF_fuel (v := l) (fun i m j m' h => svF_gt f i _ _ m j m' h) (fun i m h => svF_out f i _ _ m h) (l.length + 1) l.length _ j1 m3 (by omega) (by omega)]
          congr 1
          omega
        have hkey := (HTB.out.at hkl).2
        obtain ⟨Y, hY⟩ : ∃ Y, (l.getD k (nd0 0)).key = Y := ⟨_, rfl⟩
        rw [hY] at hkey htt
        have HV : Hid (∀ wq F2, Below w0.heap.size w0 wq → WE w0.heap.size wq b F2 → Calls Tryz.prog 19 #[.pointer (some ⟨b, 0, none⟩), .slice (some ⟨g, off, none⟩) l.length cap, .int .i64 (k : Int)] wq fun e w' => e = .returned (.int .i64 (j1 : Int)) ∧ Below w0.heap.size w0 w' ∧ WE w0.heap.size w' b (F2 ++ (prF l f k).1)) := fun wq F2 hq hw2 => IH.out wq b F2 k _ _ m2 j1 m3 hq hw2 e1
        have HKY : Hid (∀ wq, Below w0.heap.size w0 wq → wq.cell? ⟨g, off + k * 6 + 1, none⟩ = some (.string ⟨Y.toArray⟩)) := fun wq hq => by
          obtain ⟨g', off', e', hc⟩ := (HN.out wq hq).at hkl
          cases e'
          exact hc 1 _ (by omega) (by rw [← hY]; rfl)
        have hj1 := hgt.1
        have hj2 := hgt.2
        generalize (prF l f k).1 = P at *
        have hg3 : l.length + 1 - (cn + 1) = g2 := by omega
        have HG3 : Hid (l.length + 1 - (cn + 1) = g2) := hg3
        have HKc : Hid (K - cn - 1 = K - ((cn + 1 : Nat) : Int)) := by show _ = _; omega
        have HTT : Hid (F ++ ((((if decide (cn = 0) = true then [] else [44]) ++ (if decide (Kd = 7) = true then quoS Y ++ [58] else []) ++ P) ++ (pkF (prF l f) l (decide (Kd = 7)) g2 false (K - ((cn + 1 : Nat) : Int)) j1).1)) ++ [c] = T) := by show _ = _; rw [← HKc.out]; exact htt
        have HCM : Hid (∀ wq F2, WE w0.heap.size wq b F2 → Calls Tryz.prog 36 #[.pointer (some ⟨b, 0, none⟩), .string { data := #[44] }] wq fun e w' => e = .returned (.tuple #[]) ∧ Below w0.heap.size wq w' ∧ WE w0.heap.size w' b (F2 ++ [44])) := fun wq F2 h => HP.out wq F2 [44] h (by simp)
        have HCL : Hid (∀ wq F2, WE w0.heap.size wq b F2 → Calls Tryz.prog 36 #[.pointer (some ⟨b, 0, none⟩), .string { data := #[58] }] wq fun e w' => e = .returned (.tuple #[]) ∧ Below w0.heap.size wq w' ∧ WE w0.heap.size w' b (F2 ++ [58])) := fun wq F2 h => HP.out wq F2 [58] h (by simp)
        clear htt hs hb hw hgt hpe e1 hY hg3 hg2 HS HT k5
        by_cases hc0 : cn = 0
        · have qc : decide ((cn : Int) > 0) = false := decide_eq_false (by omega)
          have k0 := (HC.out wr HBr.out).2
          by_cases h7 : Kd = 7
          · have HTT2 : Hid ((F ++ quoS Y ++ [58] ++ P) ++ (pkF (prF l f) l (decide (Kd = 7)) g2 false (K - ((cn + 1 : Nat) : Int)) j1).1 ++ [c] = T) := by show _ = _; rw [← HTT.out]; simp [hc0, h7]
            have q7 : (Kd == 7) = true := by simpa using h7
            subst hc0
            subst h7
            have ky := HKY.out wr HBr.out
            have C1 := HQ.out wr F Y HWr.out hkey
            clear HTT
            go_wp2_with fail
            refine C1.mono ?_
            clear C1
            rintro e w2 ⟨rfl, hB2, hW2⟩
            have C2 := HCL.out w2 _ hW2
            have HB2 : Hid (Below w0.heap.size w0 w2) := HBr.out.trans hB2
            clear hB2 hW2
            go_wp2_with fail
            refine C2.mono ?_
            clear C2
            rintro e w3 ⟨rfl, hB3, hW3⟩
            have C3 := HV.out w3 _ (HB2.out.trans hB3) hW3
            clear hB3 hW3
            go_wp2_with fail
            refine C3.mono ?_
            clear C3
            rintro e w4 ⟨rfl, hB4, hW4⟩
            have HB4 : Hid (Below w0.heap.size w0 w4) := hB4
            have HW4 : Hid (WE w0.heap.size w4 b (F ++ quoS Y ++ [58] ++ P)) := hW4
            clear hB4 hW4 ky k0
            go_wp2
            go_roundw
            case rel => exact ⟨0 + 1, j1, m3, _, by go_num, rfl, by omega, hj2, HB4.out, HW4.out, HS2.out, by rw [HG3.out]; exact HTT2.out⟩
            case measure => simp [intOf]; omega
          · have HTT2 : Hid ((F ++ P) ++ (pkF (prF l f) l (decide (Kd = 7)) g2 false (K - ((cn + 1 : Nat) : Int)) j1).1 ++ [c] = T) := by show _ = _; rw [← HTT.out]; simp [hc0, h7]
            have q7 : (Kd == 7) = false := by simpa using h7
            subst hc0
            have C3 := HV.out wr _ HBr.out HWr.out
            clear HTT h7
            go_wp2_with fail
            refine C3.mono ?_
            clear C3
            rintro e w4 ⟨rfl, hB4, hW4⟩
            have HB4 : Hid (Below w0.heap.size w0 w4) := hB4
            have HW4 : Hid (WE w0.heap.size w4 b (F ++ P)) := hW4
            clear hB4 hW4 k0
            go_wp2
            go_roundw
            case rel => exact ⟨0 + 1, j1, m3, _, by go_num, rfl, by omega, hj2, HB4.out, HW4.out, HS2.out, by rw [HG3.out]; exact HTT2.out⟩
            case measure => simp [intOf]; omega
        · have qc : decide ((cn : Int) > 0) = true := decide_eq_true (by omega)
          have C0 := HCM.out wr F HWr.out
          by_cases h7 : Kd = 7
          · have HTT2 : Hid ((F ++ [44] ++ quoS Y ++ [58] ++ P) ++ (pkF (prF l f) l (decide (Kd = 7)) g2 false (K - ((cn + 1 : Nat) : Int)) j1).1 ++ [c] = T) := by show _ = _; rw [← HTT.out]; simp [hc0, h7]
            have q7 : (Kd == 7) = true := by simpa using h7
            clear HTT
            subst h7
            go_wp2_with fail
            refine C0.mono ?_
            clear C0
            rintro e w1 ⟨rfl, hB1, hW1⟩
            have HBx : Hid (Below w0.heap.size w0 w1) := HBr.out.trans hB1
            have k0 := (HC.out w1 HBx.out).2
            have ky := HKY.out w1 HBx.out
            have C1 := HQ.out w1 _ Y hW1 hkey
            clear hB1 hW1
            go_wp2_with fail
            refine C1.mono ?_
            clear C1
            rintro e w2 ⟨rfl, hB2, hW2⟩
            have C2 := HCL.out w2 _ hW2
            have HB2 : Hid (Below w0.heap.size w0 w2) := HBx.out.trans hB2
            clear hB2 hW2
            go_wp2_with fail
            refine C2.mono ?_
            clear C2
            rintro e w3 ⟨rfl, hB3, hW3⟩
            have C3 := HV.out w3 _ (HB2.out.trans hB3) hW3
            clear hB3 hW3
            go_wp2_with fail
            refine C3.mono ?_
            clear C3
            rintro e w4 ⟨rfl, hB4, hW4⟩
            have HB4 : Hid (Below w0.heap.size w0 w4) := hB4
            have HW4 : Hid (WE w0.heap.size w4 b (F ++ [44] ++ quoS Y ++ [58] ++ P)) := hW4
            clear hB4 hW4 ky k0
            go_wp2
            go_roundw
            case rel => exact ⟨cn + 1, j1, m3, _, by go_num, rfl, by omega, hj2, HB4.out, HW4.out, HS2.out, by rw [HG3.out, show decide (cn + 1 = 0) = false by simp]; exact HTT2.out⟩
            case measure => simp [intOf]; omega
          · have HTT2 : Hid ((F ++ [44] ++ P) ++ (pkF (prF l f) l (decide (Kd = 7)) g2 false (K - ((cn + 1 : Nat) : Int)) j1).1 ++ [c] = T) := by show _ = _; rw [← HTT.out]; simp [hc0, h7]
            have q7 : (Kd == 7) = false := by simpa using h7
            clear HTT h7
            go_wp2_with fail
            refine C0.mono ?_
            clear C0
            rintro e w1 ⟨rfl, hB1, hW1⟩
            have HBx : Hid (Below w0.heap.size w0 w1) := HBr.out.trans hB1
            have k0 := (HC.out w1 HBx.out).2
            have C3 := HV.out w1 _ HBx.out hW1
            clear hB1 hW1
            go_wp2_with fail
            refine C3.mono ?_
            clear C3
            rintro e w4 ⟨rfl, hB4, hW4⟩
            have HB4 : Hid (Below w0.heap.size w0 w4) := hB4
            have HW4 : Hid (WE w0.heap.size w4 b (F ++ [44] ++ P)) := hW4
            clear hB4 hW4 k0
            go_wp2
            go_roundw
            case rel => exact ⟨cn + 1, j1, m3, _, by go_num, rfl, by omega, hj2, HB4.out, HW4.out, HS2.out, by rw [HG3.out, show decide (cn + 1 = 0) = false by simp]; exact HTT2.out⟩
            case measure => simp [intOf]; omega
    · have q0 : decide ((cn : Int) < K) = false := decide_eq_false hn
      have HJ : Hid (j = k) := by
        show _ = _
        unfold skF at hs
        rw [if_neg (by omega)] at hs
        cases hs
        rfl
      have HTT : Hid (F ++ [c] = T) := by
        show _ = _
        rw [← htt]
        unfold pkF
        rw [if_neg (by omega), List.append_nil]
      have C9 : Calls Tryz.prog 36 #[.pointer (some ⟨b, 0, none⟩), .string { data := #[c] }] wr fun e w' => e = .returned (.tuple #[]) ∧ Below w0.heap.size wr w' ∧ WE w0.heap.size w' b (F ++ [c]) := HP.out wr F [c] hw (by simp)
      clear htt hs hb hw hg2
      go_wp2_with fail
      refine C9.mono ?_
      clear C9
      rintro e w4 ⟨rfl, hB4, hW4⟩
      go_wp2
      go_ret
      rw [HJ.out, ← HTT.out]
      exact ⟨rfl, HBr.out.trans hB4, hW4⟩

end Go.Proofs.YtpbjamhalkahmaaGreatDoor

namespace Go.Proofs.YtpbjamhalkahmaaGreatDoor
open Go.RowKit Go.Shelf

set_option maxRecDepth 100000 in
set_option maxHeartbeats 16000000 in
theorem value_step (w0 : World) (l : List Nd) (ao : Option Addr) (cap f : Nat) (h : NR w0 (.slice ao l.length cap) l ao cap) (ht : TB l) (hl : l.length ≤ 1000000000) (ih : WiC w0 l ao cap f) : WvC w0 l ao cap (f + 1) := by
  intro w b full i a d m j m' hb hw hs
  obtain ⟨hi, hwm, m2, hsk⟩ := svF_parts hs
  have hkd := wm_kind hwm
  have htx := (ht.at hi).1
  have hpe := prF_end (f + 1) i a d m j m' hs
  have IH : Hid (∀ wq o c, Below w0.heap.size w0 wq → WE w0.heap.size wq b full → Calls Tryz.prog 38 #[.pointer (some ⟨b, 0, none⟩), .slice ao l.length cap, .int .i64 (i : Int), .string { data := #[o] }, .string { data := #[c] }] wq fun e w' => e = .returned (.int .i64 (j : Int)) ∧ Below w0.heap.size w0 w' ∧ WE w0.heap.size w' b (full ++ (o :: ((pkF (prF l f) l (decide ((l.getD i (nd0 0)).kind = 7)) (l.length + 1) true (l.getD i (nd0 0)).kids (i + 1)).1 ++ [c])))) := fun wq o c hq hw2 => ih wq b full i d m2 j m' o c hq hw2 hi hsk
  obtain ⟨g, off, rfl, hcell⟩ := (h.below hb (Nat.le_refl _)).at hi
  obtain ⟨n, hn⟩ : ∃ n, l.getD i (nd0 0) = n := ⟨_, rfl⟩
  have hpr : (prF l (f + 1) i) = prF l (f + 1) i := rfl
  conv at hpr => rhs; unfold prF
  simp only [hn] at hpr
  rw [hn] at hcell hkd htx IH
  have HP : Hid (∀ (wq : World) (p : List UInt8), WE w0.heap.size wq b full → p.length ≤ 1073741824 → Calls Tryz.prog 36 #[.pointer (some ⟨b, 0, none⟩), .string ⟨p.toArray⟩] wq fun e w' => e = .returned (.tuple #[]) ∧ Below w0.heap.size wq w' ∧ WE w0.heap.size w' b (full ++ p)) := fun wq p h hp => put_we p h hp
  have HQ : Hid (∀ (wq : World) (p : List UInt8), WE w0.heap.size wq b full → p.length ≤ 1073741824 → Calls Tryz.prog 37 #[.pointer (some ⟨b, 0, none⟩), .string ⟨p.toArray⟩] wq fun e w' => e = .returned (.tuple #[]) ∧ Below w0.heap.size wq w' ∧ WE w0.heap.size w' b (full ++ quoS p)) := fun wq p h hp => quote_any p h hp
  clear hs hwm hsk ih h ht hn
  obtain ⟨kind, key, text, whole, int, kids⟩ := n
  simp only at hpr hkd htx
  have k0 := hcell 0 (.int .i64 kind) (by omega) rfl
  rw [Nat.add_zero] at k0
  have k1 := hcell 1 (.string ⟨key.toArray⟩) (by omega) rfl
  have k2 := hcell 2 (.string ⟨text.toArray⟩) (by omega) rfl
  have k3 := hcell 3 (.bool whole) (by omega) rfl
  have k4 := hcell 4 (.int .i64 int) (by omega) rfl
  have k5 := hcell 5 (.int .i64 kids) (by omega) rfl
  clear hcell
  obtain ⟨W, hW⟩ : ∃ W : World, W = w.alloc (.cells #[.int .i64 kind, .string ⟨key.toArray⟩, .string ⟨text.toArray⟩, .bool whole, .int .i64 int, .int .i64 kids] 40) := ⟨_, rfl⟩
  have hB1 : Below w.heap.size w W := by rw [hW]; exact alloc_below _ _
  have hbx : Bl 40 W w.heap.size [.int .i64 kind, .string ⟨key.toArray⟩, .string ⟨text.toArray⟩, .bool whole, .int .i64 int, .int .i64 kids] := by rw [hW]; exact alloc_bl _ _ _
  have x0 : W.cell? ⟨w.heap.size, 0, none⟩ = some (.int .i64 kind) := hbx.cell 0 (by simp)
  have x2 : W.cell? ⟨w.heap.size, 2, none⟩ = some (.string ⟨text.toArray⟩) := hbx.cell 2 (by simp)
  have hBW : Below w0.heap.size w0 W := hb.trans (hB1.mono hb.size)
  have HBW : Hid (Below w0.heap.size w0 W) := hBW
  have hWE : WE w0.heap.size W b full := hw.below hB1
  have HWE : Hid (WE w0.heap.size W b full) := hWE
  clear hb hw hbx hB1 hBW hWE
  have hcases : kind = 1 ∨ kind = 2 ∨ kind = 3 ∨ kind = 4 ∨ kind = 5 ∨ kind = 6 ∨ kind = 7 := by omega
  clear hkd
  have HJ : Hid ((prF l (f + 1) i).2 = j) := hpe
  have HR : Hid (prF l (f + 1) i = _) := hpr
  clear hpe hpr
  rcases hcases with hk | hk | hk | hk | hk | hk | hk
  · subst hk
    have HX : Hid (prF l (f + 1) i = _) := HR
    have hj : j = i + 1 := by rw [← HJ.out, HR.out]; rfl
    have C := (show Calls Tryz.prog 36 #[.pointer (some ⟨b, 0, none⟩), .string { data := #[110, 117, 108, 108] }] W fun e w' => e = .returned (.tuple #[]) ∧ Below w0.heap.size W w' ∧ WE w0.heap.size w' b (full ++ [110, 117, 108, 108]) from HP.out W [110, 117, 108, 108] HWE.out (by simp))
    have HY : Hid ((prF l (f + 1) i).1 = [110, 117, 108, 108]) := by show _ = _; rw [HR.out]; rfl
    clear HR HX HJ HP HQ IH
    subst hW
    subst hj
    go_enter Tryz.func19, Tryz.ntmps19
    go_wp2_with fail
    refine C.mono ?_
    clear C
    rintro e w2 ⟨rfl, hB2, hW2⟩
    have HB2 : Hid (Below w0.heap.size w0 w2) := HBW.out.trans hB2
    have HW2 : Hid (WE w0.heap.size w2 b _) := hW2
    clear hB2 hW2
    go_wp2
    go_ret
    rw [HY.out]
    exact ⟨by go_num, HB2.out, HW2.out⟩
  · subst hk
    have HX : Hid (prF l (f + 1) i = _) := HR
    have hj : j = i + 1 := by rw [← HJ.out, HR.out]; rfl
    have C := (show Calls Tryz.prog 36 #[.pointer (some ⟨b, 0, none⟩), .string { data := #[102, 97, 108, 115, 101] }] W fun e w' => e = .returned (.tuple #[]) ∧ Below w0.heap.size W w' ∧ WE w0.heap.size w' b (full ++ [102, 97, 108, 115, 101]) from HP.out W [102, 97, 108, 115, 101] HWE.out (by simp))
    have HY : Hid ((prF l (f + 1) i).1 = [102, 97, 108, 115, 101]) := by show _ = _; rw [HR.out]; rfl
    clear HR HX HJ HP HQ IH
    subst hW
    subst hj
    go_enter Tryz.func19, Tryz.ntmps19
    go_wp2_with fail
    refine C.mono ?_
    clear C
    rintro e w2 ⟨rfl, hB2, hW2⟩
    have HB2 : Hid (Below w0.heap.size w0 w2) := HBW.out.trans hB2
    have HW2 : Hid (WE w0.heap.size w2 b _) := hW2
    clear hB2 hW2
    go_wp2
    go_ret
    rw [HY.out]
    exact ⟨by go_num, HB2.out, HW2.out⟩
  · subst hk
    have HX : Hid (prF l (f + 1) i = _) := HR
    have hj : j = i + 1 := by rw [← HJ.out, HR.out]; rfl
    have C := (show Calls Tryz.prog 36 #[.pointer (some ⟨b, 0, none⟩), .string { data := #[116, 114, 117, 101] }] W fun e w' => e = .returned (.tuple #[]) ∧ Below w0.heap.size W w' ∧ WE w0.heap.size w' b (full ++ [116, 114, 117, 101]) from HP.out W [116, 114, 117, 101] HWE.out (by simp))
    have HY : Hid ((prF l (f + 1) i).1 = [116, 114, 117, 101]) := by show _ = _; rw [HR.out]; rfl
    clear HR HX HJ HP HQ IH
    subst hW
    subst hj
    go_enter Tryz.func19, Tryz.ntmps19
    go_wp2_with fail
    refine C.mono ?_
    clear C
    rintro e w2 ⟨rfl, hB2, hW2⟩
    have HB2 : Hid (Below w0.heap.size w0 w2) := HBW.out.trans hB2
    have HW2 : Hid (WE w0.heap.size w2 b _) := hW2
    clear hB2 hW2
    go_wp2
    go_ret
    rw [HY.out]
    exact ⟨by go_num, HB2.out, HW2.out⟩
  · subst hk
    have HX : Hid (prF l (f + 1) i = _) := HR
    have hj : j = i + 1 := by rw [← HJ.out, HR.out]; rfl
    have C := HP.out W text HWE.out htx
    have HY : Hid ((prF l (f + 1) i).1 = text) := by show _ = _; rw [HR.out]; rfl
    clear HR HX HJ HP HQ IH
    subst hW
    subst hj
    go_enter Tryz.func19, Tryz.ntmps19
    go_wp2_with fail
    refine C.mono ?_
    clear C
    rintro e w2 ⟨rfl, hB2, hW2⟩
    have HB2 : Hid (Below w0.heap.size w0 w2) := HBW.out.trans hB2
    have HW2 : Hid (WE w0.heap.size w2 b _) := hW2
    clear hB2 hW2
    go_wp2
    go_ret
    rw [HY.out]
    exact ⟨by go_num, HB2.out, HW2.out⟩
  · subst hk
    have HX : Hid (prF l (f + 1) i = _) := HR
    have hj : j = i + 1 := by rw [← HJ.out, HR.out]; rfl
    have C := HQ.out W text HWE.out htx
    have HY : Hid ((prF l (f + 1) i).1 = quoS text) := by show _ = _; rw [HR.out]; rfl
    clear HR HX HJ HP HQ IH
    subst hW
    subst hj
    go_enter Tryz.func19, Tryz.ntmps19
    go_wp2_with fail
    refine C.mono ?_
    clear C
    rintro e w2 ⟨rfl, hB2, hW2⟩
    have HB2 : Hid (Below w0.heap.size w0 w2) := HBW.out.trans hB2
    have HW2 : Hid (WE w0.heap.size w2 b _) := hW2
    clear hB2 hW2
    go_wp2
    go_ret
    rw [HY.out]
    exact ⟨by go_num, HB2.out, HW2.out⟩
  · subst hk
    have HX : Hid (prF l (f + 1) i = _) := HR
    have C := IH.out W 91 93 HBW.out HWE.out
    have HY : Hid ((prF l (f + 1) i).1 = 91 :: ((pkF (prF l f) l false (l.length + 1) true kids (i + 1)).1 ++ [93])) := by show _ = _; rw [HR.out]; rfl
    clear HR HX HJ HP HQ IH
    subst hW
    go_enter Tryz.func19, Tryz.ntmps19
    go_wp2_with fail
    refine C.mono ?_
    clear C
    rintro e w2 ⟨rfl, hB2, hW2⟩
    have HB2 : Hid (Below w0.heap.size w0 w2) := hB2
    have HW2 : Hid (WE w0.heap.size w2 b _) := hW2
    clear hB2 hW2
    go_wp2
    go_ret
    rw [HY.out]
    exact ⟨rfl, HB2.out, HW2.out⟩
  · subst hk
    have HX : Hid (prF l (f + 1) i = _) := HR
    have C := IH.out W 123 125 HBW.out HWE.out
    have HY : Hid ((prF l (f + 1) i).1 = 123 :: ((pkF (prF l f) l true (l.length + 1) true kids (i + 1)).1 ++ [125])) := by show _ = _; rw [HR.out]; rfl
    clear HR HX HJ HP HQ IH
    subst hW
    go_enter Tryz.func19, Tryz.ntmps19
    go_wp2_with fail
    refine C.mono ?_
    clear C
    rintro e w2 ⟨rfl, hB2, hW2⟩
    have HB2 : Hid (Below w0.heap.size w0 w2) := hB2
    have HW2 : Hid (WE w0.heap.size w2 b _) := hW2
    clear hB2 hW2
    go_wp2
    go_ret
    rw [HY.out]
    exact ⟨rfl, HB2.out, HW2.out⟩

theorem value_all (w0 : World) (l : List Nd) (ao : Option Addr) (cap : Nat) (h : NR w0 (.slice ao l.length cap) l ao cap) (ht : TB l) (hl : l.length ≤ 1000000000) : ∀ f, WvC w0 l ao cap f
  | 0 => by intro w b full i a d m j m' _ _ hs; unfold svF at hs; cases hs
  | f + 1 => value_step w0 l ao cap f h ht hl (inner_step w0 l ao cap f h ht hl (value_all w0 l ao cap h ht hl f))

end Go.Proofs.YtpbjamhalkahmaaGreatDoor

namespace Go.Proofs.YtpbjamhalkahmaaGreatDoor
open Go.RowKit Go.Shelf

theorem own_rd {w : World} {base : Nat} {v : Value} {l : List UInt8} (h : w.ownsRow base 5 1 v l.length (l.map B)) : ∃ a c, v = .slice a l.length c ∧ Rd w a l := by
  obtain ⟨a, c, rfl, hc, hp⟩ := own_slice h
  refine ⟨a, c, rfl, ?_⟩
  rcases Nat.eq_zero_or_pos l.length with h0 | h0
  · exact .inl (List.eq_nil_of_length_eq_zero h0)
  · obtain ⟨g, rfl⟩ := hp h0
    refine .inr ⟨g, 0, rfl, (h.lt g rfl).2, fun j hj => ?_⟩
    rw [Nat.zero_add, (own_cell h j _ (by rw [List.getElem?_map, List.getElem?_eq_getElem hj]; rfl)).1, getD_eq _ _ hj]

theorem printF_bad {v : List Nd} (h : shapedF v = false) : printF v = ([], 31) := by unfold printF; rw [if_pos h]
theorem printF_large {v : List Nd} (h : shapedF v = true) (hl : 262144 < (prF v 33 0).1.length) : printF v = ([], 10) := by unfold printF; rw [if_neg (by rw [h]; decide), if_pos hl]
theorem printF_ok {v : List Nd} (h : shapedF v = true) (hl : (prF v 33 0).1.length ≤ 262144) : printF v = ((prF v 33 0).1, 0) := by unfold printF; rw [if_neg (by rw [h]; decide), if_neg (by omega)]
theorem shaped_sv {v : List Nd} (h : shapedF v = true) : ∃ m, svF v 33 0 (-1) 0 [] = some (v.length, m) := by
  unfold shapedF at h
  split at h
  · rename_i j m e
    have := of_decide_eq_true h
    subst this
    exact ⟨m, e⟩
  · cases h

set_option maxRecDepth 100000 in
set_option maxHeartbeats 4000000 in
theorem print_any (v : Value) (l : List Nd) (ao : Option Addr) (cap : Nat) (w : World) (h : NR w v l ao cap) (hG : GL w.heap.size w) (ht : TB l) (hl : l.length ≤ 1000000000) :
    Calls Tryz.prog 7 #[v] w fun e w' => e = .returned (.tuple #[.string ⟨(printF l).1.toArray⟩, .int .i64 ((printF l).2 : Int)]) ∧ Below w.heap.size w w' := by
  have CS := shaped_any v l ao cap w h hG ht hl
  have HN : Hid (∀ wq, Below w.heap.size w wq → NR wq (.slice ao l.length cap) l ao cap) := fun wq hq => by have := h.below hq (Nat.le_refl _); obtain ⟨rfl, _, _⟩ := id h; exact this
  obtain ⟨rfl, _, _⟩ := id h
  have HT : Hid (TB l) := ht
  clear h hG ht
  cases hs : shapedF l
  · rw [hs] at CS
    have HF : Hid (printF l = ([], 31)) := printF_bad hs
    clear hs
    go_enter Tryz.func7, Tryz.ntmps7
    go_wp2_with fail
    refine CS.mono ?_
    rintro e w1 ⟨rfl, hB1⟩
    go_wp2
    go_ret2
    rw [HF.out]
    exact ⟨rfl, hB1⟩
  · rw [hs] at CS
    have HS : Hid (∃ m, svF l 33 0 (-1) 0 [] = some (l.length, m)) := shaped_sv hs
    have HL : Hid (262144 < (prF l 33 0).1.length → printF l = ([], 10)) := printF_large hs
    have HO : Hid ((prF l 33 0).1.length ≤ 262144 → printF l = ((prF l 33 0).1, 0)) := printF_ok hs
    clear hs
    go_enter Tryz.func7, Tryz.ntmps7
    go_wp2_with fail
    refine CS.mono ?_
    clear CS
    rintro e w1 ⟨rfl, hB1⟩
    have HB1 : Hid (Below w.heap.size w w1) := hB1
    have hN1 := HN.out w1 hB1
    obtain ⟨m, hm⟩ := HS.out
    have hB2 : Below w1.heap.size w1 (w1.alloc (.cells #[.slice none 0 0, .bool false] 63)) := alloc_below _ _
    have hWE : WE w1.heap.size (w1.alloc (.cells #[.slice none 0 0, .bool false] 63)) w1.heap.size [] := ⟨.slice none 0 0, [], false, Nat.le_refl _, hB2.size, alloc_bl w1 [.slice none 0 0, .bool false] _, World.ownsRow_nil _ _ _ _, fun _ => ⟨rfl, rfl⟩, fun hx => by simp at hx, by simp⟩
    have C := value_all w1 l ao cap hN1 HT.out hl 33 _ w1.heap.size [] 0 (-1) 0 [] l.length m hB2 hWE hm
    rw [List.nil_append] at C
    clear hB1 hN1 hm hB2 hWE
    go_wp2_with fail
    refine C.mono ?_
    clear C
    rintro e w2 ⟨rfl, hB2, tv, acc, lg, hWS⟩
    have HB2 : Hid (Below w.heap.size w w2) := HB1.out.trans (hB2.mono HB1.out.size)
    have c0 : w2.cell? ⟨w1.heap.size, 0, none⟩ = some tv := hWS.bl.cell 0 (by simp)
    have c1 : w2.cell? ⟨w1.heap.size, 1, none⟩ = some (.bool lg) := hWS.bl.cell 1 (by simp)
    cases lg
    · have hle : (prF l 33 0).1.length ≤ 262144 := by
        rcases Nat.lt_or_ge 262144 (prF l 33 0).1.length with h1 | h1
        · have := hWS.big h1; cases this
        · exact h1
      have hacc := (hWS.fit hle).1
      have HZ : Hid (printF l = (acc, 0)) := by show _ = _; rw [HO.out hle, hacc]
      obtain ⟨a, cp, rfl, hrd⟩ := own_rd hWS.own
      have hcv := conv_any w2 a cp acc hrd
      clear hWS hB2 hle hacc hrd
      go_wp2
      go_ret2
      rw [HZ.out]
      exact ⟨rfl, HB2.out⟩
    · have hlt : 262144 < (prF l 33 0).1.length := by
        rcases Nat.lt_or_ge 262144 (prF l 33 0).1.length with h1 | h1
        · exact h1
        · have := (hWS.fit h1).2; cases this
      have HZ : Hid (printF l = ([], 10)) := HL.out hlt
      clear hWS hB2 hlt
      go_wp2
      go_ret2
      rw [HZ.out]
      exact ⟨rfl, HB2.out⟩

end Go.Proofs.YtpbjamhalkahmaaGreatDoor
