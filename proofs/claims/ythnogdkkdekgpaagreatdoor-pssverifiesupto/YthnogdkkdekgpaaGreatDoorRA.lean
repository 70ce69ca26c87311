import Derived.Test.YthnogdkkdekgpaaGreatDoorPJ
import Derived.Test.YthnogdkkdekgpaaGreatDoorShRSum
import Derived.Test.YthnogdkkdekgpaaGreatDoorShSumsH
namespace Go.Proofs.YthnogdkkdekgpaaGreatDoor
open Go.RowKit

theorem RtB {w w' : World} {n : Nat} (h : Sha.Rt w) (hb : Below n w w') (hn : w.heap.size ≤ n) : Sha.Rt w' := h.below hb hn
theorem tobe4 (k : Nat) (hk : k ≤ 100000) : tobe 4 k = [UInt8.ofNat (k / 16777216), UInt8.ofNat (k / 65536 % 256), UInt8.ofNat (k / 256 % 256), UInt8.ofNat (k % 256)] := by
  have e : List.range 4 = [0, 1, 2, 3] := rfl
  unfold tobe
  rw [e]
  simp only [List.map_cons, List.map_nil]
  rw [show 256 ^ (4 - 1 - 0) = 16777216 by decide, show 256 ^ (4 - 1 - 1) = 65536 by decide, show 256 ^ (4 - 1 - 2) = 256 by decide, show 256 ^ (4 - 1 - 3) = 1 by decide, Nat.div_one, Nat.mod_eq_of_lt (show k / 16777216 < 256 by omega)]

theorem and255 (x : Int) (h0 : 0 ≤ x) (h1 : x < 1048576) : bits .and .i64 x 255 = x % 256 := by
  have hk : ∀ n : Int, 0 ≤ n → n < 2 ^ 20 → IntKind.i64.wrap n = n := fun n h0 h1 => by rw [IntKind.wrap_i64]; omega
  exact bits_mask .i64 20 (by decide) hk 8 (by decide) x h0 h1
/-- A counter's four bytes, as they are reckoned. -/
theorem ct_bytes (k : Nat) (hk : k ≤ 100000) : ∃ b0 b1 b2 b3 : UInt8, tobe 4 k = [b0, b1, b2, b3] ∧ (k : Int) / 16777216 = (b0.toNat : Int) ∧ bits .and .i64 ((k : Int) / 65536) 255 = (b1.toNat : Int) ∧ bits .and .i64 ((k : Int) / 256) 255 = (b2.toNat : Int) ∧ bits .and .i64 (k : Int) 255 = (b3.toNat : Int) := by
  refine ⟨_, _, _, _, tobe4 k hk, ?_, ?_, ?_, ?_⟩
  · rw [UInt8.toNat_ofNat']; omega
  · rw [and255 _ (by omega) (by omega), UInt8.toNat_ofNat']; omega
  · rw [and255 _ (by omega) (by omega), UInt8.toNat_ofNat']; omega
  · rw [and255 _ (by omega) (by omega), UInt8.toNat_ofNat']; omega

set_option maxRecDepth 100000 in
set_option maxHeartbeats 4000000 in
theorem rmask_any (h : Int) (a : Option Addr) (c : Nat) (seed : List UInt8) (N : Nat) (w : World) (hh : isHB h = true) (R : Sha.Rt w) (hr : Rd w a seed) (hn : a = none → seed.length = 0 ∧ c = 0) (hN : N ≤ 65536) (hl : seed.length ≤ 90000000) :
    Calls Tryz.prog 60 #[.int .i64 h, .slice a seed.length c, .int .i64 (N : Int)] w fun e w' => ∃ a' c', e = .returned (.slice a' N c') ∧ N ≤ c' ∧ c' ≤ maxLen ∧ Rd w' a' (maskF h seed N) ∧ (∀ x, a' = some x → w.heap.size ≤ x.block) ∧ Below w.heap.size w w' := by
  have hs0 := isHB_pos hh
  have hs64 := siz_le64 h
  obtain ⟨S, HS⟩ : ∃ S, Hid (Sha.siz h = S) := ⟨_, rfl⟩
  rw [HS.out] at hs0 hs64
  obtain ⟨cn, Hcn⟩ : ∃ cn, Hid ((N + S - 1) / S = cn) := ⟨_, rfl⟩
  have hcn : cn ≤ 66000 := by rw [← Hcn.out]; exact Nat.le_trans (Nat.div_le_self _ _) (by omega)
  have HMk : Hid (∀ k, k < cn → k * S < N) := fun k hk => by rw [← Hcn.out] at hk; exact cnt_less N S k hs0 hk
  have HFu : Hid (N ≤ cn * S) := by show _ ≤ _; rw [← Hcn.out]; exact cnt_gen N S hs0
  have HR : Hid (Sha.Rt w) := R
  have HD : Hid (Rd w a seed) := hr
  have HN0 : Hid (OBb w.heap.size w w (.slice none 0 0) (flatM h seed 0)) := OBb.nil w
  clear hh R hr
  go_enter Tryz.func60, Tryz.ntmps60
  go_wp2
  go_loopw [7, 8, 9] (fun s7 s8 _ wr => ∃ k : Nat, s8 = .int .i64 (k : Int) ∧ k ≤ cn ∧ Hid (OBb w.heap.size w wr s7 (flatM h seed k))) (fun _ s _ _ => cn - (intOf s).toNat)
  case atStart => exact ⟨0, rfl, by omega, HN0⟩
  case round =>
    clear HN0
    obtain ⟨k, rfl, hk, HO⟩ := hrel
    obtain ⟨p, hp⟩ : ∃ p, k * S = p := ⟨_, rfl⟩
    have hfl : (flatM h seed k).length = p := by rw [flatM_length, HS.out]; exact hp
    have Hfl : Hid ((flatM h seed k).length = p) := hfl
    obtain ⟨a6, c6, e6, hc6⟩ : ∃ a c, u7 = .slice a p c ∧ p ≤ c := by obtain ⟨a, c, e, hc, _⟩ := HO.out.own.nb; rw [hfl] at e hc; exact ⟨a, c, e, hc⟩
    subst e6
    by_cases hlt : k < cn
    · have hpN : p < N := by rw [← hp]; exact HMk.out k hlt
      have d1 : decide ((p : Int) < (N : Int)) = true := decide_eq_true (by omega)
      have HNb : Hid (Owb wr wr.heap.size (.slice none 0 0) []) := Owb.nil _ _
      have HDr : Hid (Rd wr a seed) := HD.out.below HO.out.bel (Nat.le_refl _)
      have hwb : w.heap.size ≤ wr.heap.size := HO.out.bel.size
      obtain ⟨b0, b1, b2, b3, ht4, q0, q1, q2, q3⟩ := ct_bytes k (by omega)
      have Ht4 : Hid (tobe 4 k = [b0, b1, b2, b3]) := ht4
      have u0 := b0.toNat_lt
      have u1 := b1.toNat_lt
      have u2 := b2.toNat_lt
      have u3 := b3.toNat_lt
      have HK : Hid (∀ W : World, Rd (W.alloc (.cells #[.int .u8 (b0.toNat : Int), .int .u8 (b1.toNat : Int), .int .u8 (b2.toNat : Int), .int .u8 (b3.toNat : Int)] 5)) (some ⟨W.heap.size, 0, none⟩) [b0, b1, b2, b3]) := fun W => rd_lit (w := W) [b0, b1, b2, b3]
      clear ht4
      clear hfl
      go_wp2_with (first
        | (at_builtin; refine append_rdb rfl (.tmp 16) (.tmp 17) rfl wr.heap.size _ [] rfl HNb.out a seed.length c seed rfl rfl hn HDr.out (by rw [List.length_nil]; omega) (Nat.le_refl _) ?_; intro v5 w5 h5 h6; have HO5 : Hid (OBb wr.heap.size wr w5 v5 seed) := ⟨h5, (Below.refl _ _).grown h6 (Nat.le_refl _) (fun k hk => by cases hk)⟩; clear h5 h6; obtain ⟨a5, c5, e5⟩ : ∃ a c, v5 = .slice a seed.length c := (by obtain ⟨a, c, e, _⟩ := HO5.out.own.nb; exact ⟨a, c, e⟩); subst e5)
        | (at_builtin; refine append_rdb rfl (.tmp 19) (.tmp 34) rfl wr.heap.size _ seed rfl (HO5.out.own.below (alloc_below w5 _) (Nat.le_refl _)) (some ⟨w5.heap.size, 0, none⟩) 4 4 [b0, b1, b2, b3] rfl rfl (fun e => by cases e) (HK.out w5) (by omega) (by rw [World.size_alloc]; have := HO5.out.bel.size; omega) ?_; intro v6 w6 h7 h8; have HO6 : Hid (OBb wr.heap.size wr w6 v6 (seed ++ [b0, b1, b2, b3])) := ⟨h7, HO5.out.bel.trans (((alloc_below w5 _).mono HO5.out.bel.size).grown h8 (by rw [World.size_alloc]; have := HO5.out.bel.size; omega) (own_block HO5.out.own))⟩; clear h7 h8; obtain ⟨a6', c6', e6, hn6⟩ : ∃ a c, v6 = .slice a (seed ++ [b0, b1, b2, b3]).length c ∧ Hid (Rd w6 a (seed ++ [b0, b1, b2, b3])) := (by obtain ⟨a, c, e, _, hr⟩ := HO6.out.own.nb; exact ⟨a, c, e, hr⟩); subst e6)
        | fail)
      have hwr6 : Below wr.heap.size wr w6 := HO6.out.bel
      have hw6 : Below w.heap.size w w6 := HO.out.bel.trans (hwr6.mono hwb)
      have hl6 : (seed ++ [b0, b1, b2, b3]).length = seed.length + 4 := by simp
      have hns6 : a6' = none → (seed ++ [b0, b1, b2, b3]).length = 0 ∧ c6' = 0 := fun e => by
        rcases hn6.out with h0 | ⟨g, o, e1, _⟩
        · simp at h0
        · rw [e] at e1; cases e1
      have CS := Sha.rsum_any h a6' c6' (seed ++ [b0, b1, b2, b3]) w6 (RtB HR.out hw6 (Nat.le_refl _)) hn6.out hns6 (by rw [hl6]; omega)
      rw [hl6, HS.out] at CS
      have Hwr6 : Hid (Below wr.heap.size wr w6) := hwr6
      clear hw6 hl6 hns6 HO5 HO6 hn6 q0 q1 q2 q3 hwr6
      refine CS.mono ?_
      rintro e w7 ⟨aS, cS, rfl, hcS1, hcS2, hnS, hRS, _, hb7⟩
      clear CS
      have hwr7 : Below wr.heap.size wr w7 := Hwr6.out.trans (hb7.mono Hwr6.out.size)
      have HO7 : Hid (OBb w.heap.size w w7 (.slice a6 p c6) (flatM h seed k)) := ⟨HO.out.own.below hwr7 (Nat.le_refl _), HO.out.bel.trans (hwr7.mono hwb)⟩
      have HRS : Hid (Rd w7 aS (Sha.sumF h (seed ++ tobe 4 k))) := by show Rd _ _ _; rw [Ht4.out]; exact hRS
      have HnS : Hid (aS = none → S = 0 ∧ cS = 0) := hnS
      have HlS : Hid ((Sha.sumF h (seed ++ tobe 4 k)).length = S) := by show _ = _; rw [Sha.sumF_length]; exact HS.out
      have hw7 : w.heap.size ≤ w7.heap.size := HO7.out.bel.size
      clear hRS hnS hb7 hwr7 HO Hwr6
      go_wp2_with (at_builtin; refine append_rdb rfl (.tmp 36) (.tmp 39) rfl w.heap.size _ (flatM h seed k) rfl HO7.out.own aS S cS (Sha.sumF h (seed ++ tobe 4 k)) rfl HlS.out HnS.out HRS.out (by rw [Hfl.out]; omega) hw7 ?_; intro v8 w8 h9 h10)
      have HO8 : Hid (OBb w.heap.size w w8 v8 (flatM h seed (k + 1))) := by
        refine ⟨by rw [flatM_succ]; exact h9, HO7.out.bel.grown h10 hw7 (own_block HO7.out.own)⟩
      clear h9 h10 HO7
      go_wp2
      exact ⟨⟨k + 1, by go_num, by omega, HO8⟩, by simp [intOf]; omega⟩
    · obtain rfl : k = cn := by omega
      have hpN : N ≤ p := by rw [← hp]; exact HFu.out
      have d1 : decide ((p : Int) < (N : Int)) = false := decide_eq_false (by omega)
      have hNc : (N : Int) ≤ (c6 : Int) := by omega
      have HF : Hid (Rd wr a6 (maskF h seed N)) := by
        obtain ⟨a9, c9, e9, _, hr9⟩ := HO.out.own.nb
        injection e9 with e9
        subst e9
        have := hr9.takeP N
        rw [maskF_eq h seed N k (by rw [HS.out]; exact hs0) (by rw [HS.out]; exact HFu.out)] at this
        exact this
      have HG : Hid ((∀ x, a6 = some x → w.heap.size ≤ x.block) ∧ c6 ≤ maxLen) := by
        rcases HO.out.own.2 with ⟨e0, _⟩ | ⟨g, cap, cur, e0, hg, _, _, hm, _⟩
        · injection e0 with e1 e2 e3
          exact ⟨fun x hx => (by rw [e1] at hx; cases hx), by rw [e3]; unfold maxLen; omega⟩
        · injection e0 with e1 e2 e3
          exact ⟨fun x hx => (by rw [e1] at hx; cases hx; exact hg), by rw [e3]; exact hm⟩
      have HB : Hid (Below w.heap.size w wr) := HO.out.bel
      have hNc2 : N ≤ c6 := by omega
      clear HO hfl hp
      go_wp2
      go_ret
      exact ⟨a6, c6, rfl, hNc2, HG.out.2, HF.out, HG.out.1, HB.out⟩

end Go.Proofs.YthnogdkkdekgpaaGreatDoor
