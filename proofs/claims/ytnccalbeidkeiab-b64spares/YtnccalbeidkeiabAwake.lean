import Derived.Test.YtnccalbeidkeiabSame
namespace Go.Proofs.Ytnccalbeidkeiab
open Go.RowKit

theorem decU_w : decU [45, 95, 56] = (some [251, 255], 0, 0) := by decide +kernel
theorem decS_w : decS [43, 47, 56, 61] = (some [251, 255], 0, 0) := by decide +kernel
theorem encU_w : enc urlRow [251, 255] = [45, 95, 56] := by decide +kernel
theorem encS_w : enc stdRow [251, 255] ++ fill 2 = [43, 47, 56, 61] := by decide +kernel

set_option maxHeartbeats 1000000 in
theorem awake_any (w : World) : Calls Try.prog 4 #[] w fun e w' => e = .returned (.bool true) ∧ Below w.heap.size w w' := by
  go_enter Try.func4, Try.ntmps4
  go_wp2_with fail
  refine (decode_any [45, 95, 56] w (by decide)).mono ?_
  rw [decU_w]
  rintro e w1 ⟨v, rfl, hv, hbl1⟩
  obtain ⟨g, cap, rfl, hg, hcap, hrd⟩ := hv.rd
  clear hv
  go_wp2_with fail
  refine (decodeStd_any [43, 47, 56, 61] w1 (by decide)).mono ?_
  rw [decS_w]
  rintro e w2 ⟨v2, rfl, hv2, hbl2⟩
  obtain ⟨g2, cap2, rfl, hg2, hcap2, hrd2⟩ := hv2.rd
  have hrd1 := hrd.below hbl2 (Nat.le_refl _)
  rcases hrd1 with h | ⟨b, o, h, hb, hc⟩
  · cases h
  cases h
  rcases hrd2 with h | ⟨b2, o2, h, hb2, hc2⟩
  · cases h
  cases h
  have q0 := hc 0 (by decide)
  have p1 := hc2 1 (by decide)
  have hR : Hid (Rd w2 (some ⟨g, 0, none⟩) [251, 255]) := hrd.below hbl2 (Nat.le_refl _)
  clear hv2 hrd hc hc2
  simp [B] at q0 p1
  go_wp2_with fail
  refine (encode_any (some ⟨g, 0, none⟩) cap [251, 255] w2 hR.out hcap (by decide)).mono ?_
  rw [encU_w]
  rintro e w3 ⟨rfl, hbl3⟩
  have hR3 : Hid (Rd w3 (some ⟨g, 0, none⟩) [251, 255]) := hR.out.below hbl3 (Nat.le_refl _)
  go_wp2_with fail
  refine (encodeStd_any (some ⟨g, 0, none⟩) cap [251, 255] w3 hR3.out hcap (by decide)).mono ?_
  rw [show enc stdRow [251, 255] ++ fill [(251 : UInt8), 255].length = [43, 47, 56, 61] from encS_w]
  rintro e w4 ⟨rfl, hbl4⟩
  go_wp2
  go_ret
  exact ⟨rfl, hbl1.trans ((hbl2.mono hbl1.size).trans ((hbl3.mono (Nat.le_trans hbl1.size hbl2.size)).trans (hbl4.mono (Nat.le_trans hbl1.size (Nat.le_trans hbl2.size hbl3.size)))))⟩

end Go.Proofs.Ytnccalbeidkeiab
