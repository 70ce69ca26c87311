import Derived.Test.YtlapkbdjipocoaaDoorUa
namespace Go.Proofs.YtlapkbdjipocoaaDoor
open Go.RowKit Go.Shelf

theorem ext1 (l : List UInt8) (k : Nat) (hk : k < l.length) : (⟨l.toArray⟩ : ByteArray).extract k (k + 1) = ⟨#[l.getD k 0]⟩ := by
  rw [Lib.extract_eq]
  simp only [ByteArray.mk.injEq]
  have : List.take (k + 1 - k) (List.drop k l) = [l.getD k 0] := by
    rw [drop_at hk, show k + 1 - k = 1 by omega]
    rfl
  show (List.take (k + 1 - k) (List.drop k l)).toArray = _
  rw [this]
theorem and15 : ∀ X : Fin 256, bits .and .u8 ((X.val : Nat) : Int) 15 = ((X.val % 16 : Nat) : Int) := by decide +kernel

set_option maxRecDepth 100000 in
set_option maxHeartbeats 4000000 in
theorem escaped_any (c : UInt8) (w : World) : Calls Tryd.prog 71 #[.int .u8 c.toNat] w fun e w' => e = .returned (.string ⟨(escV c).toArray⟩) ∧ ∃ q, w' = w.drewN q := by
  have C : Calls Tryd.prog 72 #[.string { data := #[34, 92, 8, 12, 10, 13, 9] }, .int .u8 c.toNat] w fun e w' => e = .returned (.int .i64 (Lib.indexByte escB c)) ∧ w' = w := indexByte_any escB c w
  have hge := Lib.indexByte_ge escB c
  have hhi := ixb_hi c escB
  have hlen : escB.length = 7 := rfl
  rw [hlen] at hhi
  have hcl : c.toNat < 256 := c.toNat_lt
  have HV : Hid (escV c = if 0 ≤ Lib.indexByte escB c then [92, escS.getD (Lib.indexByte escB c).toNat 0] else if c.toNat < 32 then [92, 117, 48, 48, smallS.getD (c.toNat / 16) 0, smallS.getD (c.toNat % 16) 0] else []) := rfl
  clear hlen
  generalize Lib.indexByte escB c = ix at *
  by_cases h0 : 0 ≤ ix
  · obtain ⟨k, rfl⟩ : ∃ k : Nat, ix = (k : Int) := ⟨ix.toNat, by omega⟩
    have hk7 : k < 7 := by omega
    have HE : Hid (escV c = [92, escS.getD k 0]) := by show _ = _; rw [HV.out, if_pos h0, Int.toNat_natCast]
    have hx : ({ data := #[34, 92, 98, 102, 110, 114, 116] } : ByteArray).extract k (k + 1) = ⟨#[escS.getD k 0]⟩ := ext1 escS k hk7
    have HX : Hid (({ data := #[34, 92, 98, 102, 110, 114, 116] } : ByteArray).extract k (k + 1) = ⟨#[escS.getD k 0]⟩) := hx
    generalize escS.getD k 0 = g at *
    have q0 : decide ((k : Int) ≥ 0) = true := decide_eq_true (by omega)
    clear HV h0
    go_enter Tryd.func71, Tryd.ntmps71
    go_wp2_with fail
    refine C.mono ?_
    rintro e w1 ⟨rfl, rfl⟩
    go_wp2
    go_ret
    rw [HE.out]
    exact ⟨rfl, 0, rfl⟩
  · have q0 : decide (ix ≥ 0) = false := decide_eq_false h0
    by_cases h32 : c.toNat < 32
    · have HE : Hid (escV c = [92, 117, 48, 48, smallS.getD (c.toNat / 16) 0, smallS.getD (c.toNat % 16) 0]) := by show _ = _; rw [HV.out, if_neg h0, if_pos h32]
      have hand := and15 ⟨c.toNat, hcl⟩
      have q1 : decide ((c.toNat : Int) < 32) = true := decide_eq_true (by omega)
      obtain ⟨a, ha⟩ : ∃ a, c.toNat / 16 = a := ⟨_, rfl⟩
      obtain ⟨m, hm⟩ : ∃ m, c.toNat % 16 = m := ⟨_, rfl⟩
      have hal : a < 16 := by omega
      have hml : m < 16 := by omega
      simp only at hand
      rw [hm] at hand
      rw [ha, hm] at HE
      have hsh : (c.toNat : Int) / 16 = (a : Int) := by omega
      have hx1 : ({ data := #[48, 49, 50, 51, 52, 53, 54, 55, 56, 57, 97, 98, 99, 100, 101, 102] } : ByteArray).extract a (a + 1) = ⟨#[smallS.getD a 0]⟩ := ext1 smallS a hal
      have hx2 : ({ data := #[48, 49, 50, 51, 52, 53, 54, 55, 56, 57, 97, 98, 99, 100, 101, 102] } : ByteArray).extract m (m + 1) = ⟨#[smallS.getD m 0]⟩ := ext1 smallS m hml
      generalize smallS.getD a 0 = g1 at *
      generalize smallS.getD m 0 = g2 at *
      clear HV h0 ha hm
      go_enter Tryd.func71, Tryd.ntmps71
      go_wp2_with fail
      refine C.mono ?_
      rintro e w1 ⟨rfl, rfl⟩
      go_wp2
      go_quiet (fail)
      go_wp2
      go_ret
      rw [HE.out]
      exact ⟨rfl, _, rfl⟩
    · have HE : Hid (escV c = []) := by show _ = _; rw [HV.out, if_neg h0, if_neg h32]
      have q1 : decide ((c.toNat : Int) < 32) = false := decide_eq_false (by omega)
      clear HV h0
      go_enter Tryd.func71, Tryd.ntmps71
      go_wp2_with fail
      refine C.mono ?_
      rintro e w1 ⟨rfl, rfl⟩
      go_wp2
      go_ret
      rw [HE.out]
      exact ⟨rfl, 0, rfl⟩

end Go.Proofs.YtlapkbdjipocoaaDoor
