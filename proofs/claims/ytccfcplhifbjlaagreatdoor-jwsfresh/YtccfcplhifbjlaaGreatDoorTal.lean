import Derived.Test.YtccfcplhifbjlaaGreatDoorTk
import Derived.Test.YtccfcplhifbjlaaGreatDoorSg
import Derived.Lib.SlBytesConst
import Derived.Laws.MakeOwn
import Derived.Deep.Cut
namespace Go.Proofs.YtccfcplhifbjlaaGreatDoor
open Go.RowKit Go.Shelf
set_option maxRecDepth 100000

theorem spl_w : splF [89, 81, 46, 89, 103, 46] = (([89, 81], [89, 103], []), 0) := splF_ok (a := [89, 81]) (b := [89, 103]) (c := []) (by decide) (by decide) (by decide) (by decide)
theorem dec_w1 : B64.decU [89, 81] = (some [97], 0, 0) := by decide +kernel
theorem dec_w2 : B64.decU [89, 103] = (some [98], 0, 0) := by decide +kernel
theorem dec_w3 : B64.decU [] = (some [], 0, 0) := by decide +kernel
theorem dcF_w : dcF [89, 81, 46, 89, 103, 46] = (([97], [98], []), 0) := by
  unfold dcF dcN dbF
  rw [spl_w]
  simp only [dec_w1, dec_w2, dec_w3]
  rfl
theorem cmF_w : cmF [97] [98] [] = ([89, 81, 46, 89, 103, 46], 0) := by decide +kernel

theorem conv_rd {w : World} {a : Option Addr} {c : Nat} {l : List UInt8} (h : Rd w a l) (hne : l ≠ []) : (convert 30 9 (.slice a l.length c)).run Tryz.prog w = .ok (.string ⟨l.toArray⟩) w := by
  obtain ⟨g, off, rfl, _, hc⟩ := h.resolve_left hne
  refine run_convert_bytes_back w 30 9 5 ⟨g, off, none⟩ c l Tryz.underlying30 Tryz.underlying5 Tryz.underlying9 fun j hj => ?_
  rw [Addr.add_mid, hc j hj]
  simp [B, List.getD_eq_getElem?_getD, hj]
theorem tg_w (d : List UInt8) : tgF 1 (List.replicate 32 0) d = (Sha.tagF 1 (List.replicate 32 0) d, 0) := by
  unfold tgF
  rw [if_pos (.inl rfl), if_neg (by decide)]
theorem rd_mark (w : World) (c : UInt8) (f : Nat × Nat) : Rd (w.alloc (.cells #[.int .u8 (c.toNat : Int)] 5 f)) (some ⟨w.heap.size, 0, none⟩) [c] := by
  refine .inr ⟨w.heap.size, 0, rfl, by rw [alloc_size]; omega, fun j hj => ?_⟩
  obtain rfl : j = 0 := by simp at hj; omega
  unfold World.cell? World.alloc
  simp [B]

set_option maxHeartbeats 4000000 in
theorem alive_any (w : World) (T : Sha.Tb w) : Calls Tryz.prog 10 #[] w fun e w' => e = .returned (.bool true) ∧ Below w.heap.size w w' := by
  have C1 := split_any [89, 81, 46, 89, 103, 46] w
  rw [spl_w] at C1
  have C2 : Hid (∀ w, Calls Tryz.prog 14 #[.string ⟨[89, 81, 46, 89, 103, 46].toArray⟩] w fun e w' => ∃ v1 v2 v3, e = .returned (.tuple #[v1, v2, v3, .int .i64 ((0 : Nat) : Int)]) ∧
    Owb w' w.heap.size v1 [97] ∧ Owb w' w.heap.size v2 [98] ∧ Owb w' w.heap.size v3 [] ∧ Below w.heap.size w w' ∧ Apt v1 v2 ∧ Apt v1 v3 ∧ Apt v2 v3) := fun w => by
    have h := jdecode_any [89, 81, 46, 89, 103, 46] w
    rw [dcF_w] at h
    exact h
  have HT : Hid (Sha.Tb w) := T
  clear T
  have kc := fun (w : World) (C : Array Value) (n c : Nat) => Lib.run_convert_bytes_const (P := Tryz.prog) w 30 5 C n c Tryz.underlying30 Tryz.underlying5
  go_enter Tryz.func10, Tryz.ntmps10
  go_wp2_with fail
  refine C1.mono ?_
  clear C1
  rintro e w1 ⟨rfl, B1⟩
  have HB1 : Hid (Below w.heap.size w w1) := B1
  clear B1
  go_wp2_with fail
  refine (C2.out _).mono ?_
  clear C2
  rintro e w2 ⟨v1, v2, v3, rfl, o1, o2, o3, B2, _⟩
  have HB2 : Hid (Below w.heap.size w w2) := HB1.out.trans (B2.mono HB1.out.size)
  have HV : Hid (Owb w2 w1.heap.size v1 [97] ∧ Owb w2 w1.heap.size v2 [98]) := ⟨o1, o2⟩
  obtain ⟨f1, k1, e1, _⟩ := o1.nb
  obtain ⟨f2, k2, e2, _⟩ := o2.nb
  obtain ⟨f3, k3, e3, _⟩ := o3.nb
  subst e1; subst e2; subst e3
  clear B2 HB1 o1 o2 o3
  have kc2 : (convert 30 30 (.slice (some ⟨w2.heap.size + 1, 0, none⟩) 1 1)).run Tryz.prog ((w2.alloc (.cells #[.int .u8 97] 5 (1, 2))).alloc (.cells #[.int .u8 98] 5)) = .ok (.slice (some ⟨w2.heap.size + 1, 0, none⟩) 1 1) ((w2.alloc (.cells #[.int .u8 97] 5 (1, 2))).alloc (.cells #[.int .u8 98] 5 (1, 2))) := by
    have h := kc (w2.alloc (.cells #[.int .u8 97] 5 (1, 2))) #[.int .u8 98] 1 1
    rw [alloc_size] at h
    exact h
  have b1 : Below w2.heap.size w2 ((w2.alloc (.cells #[.int .u8 97] 5 (1, 2))).alloc (.cells #[.int .u8 98] 5 (1, 2))) := Below.alloc (alloc_below _ _) (by rw [alloc_size]; omega) _
  have R1 : Rd ((w2.alloc (.cells #[.int .u8 97] 5 (1, 2))).alloc (.cells #[.int .u8 98] 5 (1, 2))) (some ⟨w2.heap.size, 0, none⟩) [97] := (rd_mark w2 97 (1, 2)).below (alloc_below _ _) (Nat.le_refl _)
  have R2 : Rd ((w2.alloc (.cells #[.int .u8 97] 5 (1, 2))).alloc (.cells #[.int .u8 98] 5 (1, 2))) (some ⟨w2.heap.size + 1, 0, none⟩) [98] := by
    have h := rd_mark (w2.alloc (.cells #[.int .u8 97] 5 (1, 2))) 98 (1, 2)
    rw [alloc_size] at h
    exact h
  have K1 := compact_any (some ⟨w2.heap.size, 0, none⟩) (some ⟨w2.heap.size + 1, 0, none⟩) none 1 1 0 [97] [98] [] _ R1 R2 (Rd.nil _ _) (by decide) (by decide) (by decide) (by decide) (by decide) (by decide)
  rw [cmF_w] at K1
  clear R1 R2
  go_wp2_with fail
  refine K1.mono ?_
  clear K1 kc2 kc
  rintro e w3 ⟨rfl, B3⟩
  have HB3 : Hid (Below w.heap.size w w3) := HB2.out.trans ((b1.trans (B3.mono b1.size)).mono HB2.out.size)
  have HV3 : Hid (Owb w3 w1.heap.size (.slice f1 1 k1) [97] ∧ Owb w3 w1.heap.size (.slice f2 1 k2) [98]) := ⟨HV.out.1.below (b1.trans (B3.mono b1.size)) (Nat.le_refl _), HV.out.2.below (b1.trans (B3.mono b1.size)) (Nat.le_refl _)⟩
  clear B3 b1 HB2 HV
  obtain ⟨i0, hi, hz0, hz1, hz2⟩ := info_parts infoB
  go_upto_region 5 with (at_make; refine wpList_make_full _ rfl _ _ 30 rfl w3.heap.size 5 i0 (.int .u8 0) 1 Tryz.underlying30 hi hz0 hz1 _ _ _ _ 32 rfl rfl rfl rfl (by rw [hz2]; decide) (by decide) (Nat.le_refl _) ?_; intro w4 h4 g4)
  have B4 : Below w3.heap.size w3 w4 := below_grown g4
  have HO4 : Hid (Owb w4 w3.heap.size (.slice (some ⟨w3.heap.size, 0, none⟩) 32 32) (List.replicate 32 0)) := by
    have e : (madeCells (Value.int .u8 0).cells (32 * 1)).toList = (List.replicate 32 (0 : UInt8)).map B := by first | rfl | (simp [madeCells, B, Value.cells]; done) | kernel_rfl
    rw [e] at h4
    exact h4
  have HB4 : Hid (Below w.heap.size w w4) := HB3.out.trans (B4.mono HB3.out.size)
  have HV4 : Hid (Owb w4 w1.heap.size (.slice f1 1 k1) [97] ∧ Owb w4 w1.heap.size (.slice f2 1 k2) [98]) := ⟨HV3.out.1.below B4 (Nat.le_refl _), HV3.out.2.below B4 (Nat.le_refl _)⟩
  clear g4 h4 B4 HB3 HV3 hi hz0 hz1 hz2
  have CT := tag_any 1 (some ⟨w3.heap.size, 0, none⟩) 32 (List.replicate 32 0) [89, 81, 46, 89, 103] w4 (HT.out.below HB4.out) (owb_rd HO4.out) (by decide) (by decide) (by decide)
  rw [tg_w, List.length_replicate] at CT
  go_wp2_with fail
  refine CT.mono ?_
  clear CT
  rintro e w5 ⟨v5, rfl, o5, B5⟩
  have hl5 := Sha.tagF_length 1 (List.replicate 32 0) [89, 81, 46, 89, 103]
  rw [show Sha.siz 1 = 32 from by decide] at hl5
  obtain ⟨f5, k5, e5, _, r5⟩ := o5.nb
  have CK := check_hs 1 (some ⟨w3.heap.size, 0, none⟩) f5 32 k5 (List.replicate 32 0) [89, 81, 46, 89, 103] _ w5 ((HT.out.below HB4.out).below B5) (.inl rfl) (owb_rd (HO4.out.below B5 (Nat.le_refl _))) r5 (by decide) (by decide) (by decide) (by decide) (by decide) (by rw [hl5]; decide)
  rw [if_pos rfl, List.length_replicate, hl5] at CK
  rw [hl5] at e5
  subst e5
  unfold kV at CK
  have HB5 : Hid (Below w.heap.size w w5) := HB4.out.trans (B5.mono HB4.out.size)
  have HV5 : Hid (Owb w5 w1.heap.size (.slice f1 1 k1) [97] ∧ Owb w5 w1.heap.size (.slice f2 1 k2) [98]) := ⟨HV4.out.1.below B5 (Nat.le_refl _), HV4.out.2.below B5 (Nat.le_refl _)⟩
  clear o5 B5 r5 hl5 HO4 HB4 HV4
  go_wp2_with fail
  refine CK.mono ?_
  clear CK
  rintro e w6 ⟨rfl, B6⟩
  have q1 := conv_rd (c := k1) (owb_rd (HV5.out.1.below B6 (Nat.le_refl _))) (by decide)
  have q2 := conv_rd (c := k2) (owb_rd (HV5.out.2.below B6 (Nat.le_refl _))) (by decide)
  have HB6 : Hid (Below w.heap.size w w6) := HB5.out.trans (B6.mono HB5.out.size)
  clear B6 HB5 HV5
  simp only [List.length_cons, List.length_nil] at q1 q2
  go_wp2
  go_ret
  exact ⟨rfl, HB6.out⟩

end Go.Proofs.YtccfcplhifbjlaaGreatDoor
