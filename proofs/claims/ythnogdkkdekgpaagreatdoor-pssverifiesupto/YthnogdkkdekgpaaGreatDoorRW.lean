import Derived.Test.YthnogdkkdekgpaaGreatDoorRV
namespace Go.Proofs.YthnogdkkdekgpaaGreatDoor
open Go.RowKit

theorem byteMod (V k e : Nat) : V % 256 ^ k / 256 ^ e % 256 = if e < k then V / 256 ^ e % 256 else 0 := by
  by_cases h : e < k
  · rw [if_pos h]
    have e1 : 256 ^ k = 256 ^ e * 256 ^ (k - e) := by rw [← Nat.pow_add]; congr 1; omega
    rw [e1, Nat.mod_mul_right_div_self]
    exact Nat.mod_mod_of_dvd _ (by
      have : (256 : Nat) ^ 1 ∣ 256 ^ (k - e) := Nat.pow_dvd_pow 256 (by omega)
      simpa using this)
  · rw [if_neg h]
    have h1 : V % 256 ^ k < 256 ^ e := Nat.lt_of_lt_of_le (Nat.mod_lt _ (Nat.pow_pos (by decide))) (Nat.pow_le_pow_right (by decide) (by omega))
    rw [Nat.div_eq_of_lt h1]
theorem tobe_setP (size V k : Nat) (hk : k < size) (z : UInt8) (hz : z.toNat = V / 256 ^ k % 256) : (tobe size (V % 256 ^ k)).set (size - 1 - k) z = tobe size (V % 256 ^ (k + 1)) := by
  apply List.ext_getElem
  · rw [List.length_set, tobe_length, tobe_length]
  · intro j h1 h2
    have hj : j < size := by rw [tobe_length] at h2; exact h2
    apply UInt8.toNat_inj.1
    rw [tobe_get', byteMod]
    by_cases he : j = size - 1 - k
    · subst he
      rw [List.getElem_set_self, hz, show size - 1 - (size - 1 - k) = k by omega, if_pos (by omega)]
    · rw [List.getElem_set_ne (by omega), tobe_get', byteMod]
      by_cases h3 : size - 1 - j < k
      · rw [if_pos h3, if_pos (by omega)]
      · rw [if_neg h3, if_neg (by omega)]
theorem tobe_nil (size : Nat) : tobe size 0 = List.replicate size 0 := by
  apply List.ext_getElem
  · rw [tobe_length, List.length_replicate]
  · intro j h1 h2
    apply UInt8.toNat_inj.1
    rw [tobe_get', List.getElem_replicate]
    simp

set_option maxRecDepth 100000 in
set_option maxHeartbeats 4000000 in
theorem rpfixed_any (v : Value) (V size : Nat) (w : World) (hv : Nd w v V 3000000) (hsz : size ≤ 16384) :
    Calls Tryz.prog 25 #[v, .int .i64 (size : Int)] w fun e w' => ∃ r, e = .returned (.tuple #[r, .bool (decide (V < 256 ^ size))]) ∧ OBb w.heap.size w w' r (if V < 256 ^ size then tobe size V else []) := by
  obtain ⟨⟨xs, ⟨ax, cx, rfl, hcx, hx, sx⟩, hV, hk⟩, hz, hc⟩ := hv
  obtain ⟨n, Hn⟩ : ∃ n, Hid (xs.length = n) := ⟨_, rfl⟩
  rw [Hn.out] at hk hcx
  obtain ⟨F, eF⟩ : ∃ F : Nat, 4 * (n : Int) = (F : Int) := ⟨4 * n, by omega⟩
  have hF : F = 4 * n := by omega
  have HVF : Hid (V < 256 ^ F) := by
    show _ < _
    have h2 := nv_lt Bs_pos sx
    rw [hV, Hn.out, Bs_256, ← Nat.pow_mul] at h2
    rw [hF]; exact h2
  have HBy : Hid (∀ p, xs.getD (p / 4) 0 / 2 ^ (8 * (p % 4)) % 256 = V / 256 ^ p % 256) := fun p => by
    have := byte_div xs sx p
    rw [hV] at this
    exact this
  have HX : Hid (Rn w ax xs) := hx
  have HSm : Hid (Sm Bs xs) := sx
  obtain ⟨wm, hmk, hbl, hbel⟩ := madeB w size (by omega)
  have HO0 : Hid (Bl 5 wm w.heap.size ((tobe size (V % 256 ^ min 0 size)).map B) ∧ Below w.heap.size w wm ∧ (size ≤ 0 → V % 256 ^ 0 < 256 ^ size)) := by
    refine ⟨?_, hbel, fun _ => ?_⟩
    · rw [Nat.zero_min, Nat.pow_zero, Nat.mod_one, tobe_nil]; exact hbl
    · rw [Nat.pow_zero, Nat.mod_one]; exact Nat.pow_pos (by decide)
  obtain ⟨fit, Hfit⟩ : ∃ f, Hid (decide (V < 256 ^ size) = f) := ⟨_, rfl⟩
  obtain ⟨R, HR⟩ : ∃ R, Hid ((if V < 256 ^ size then tobe size V else []) = R) := ⟨_, rfl⟩
  rw [Hfit.out, HR.out, Hn.out]
  have hF2 : F ≤ 12000000 := by omega
  have Hew : Hid (IntKind.i64.wrap (4 * (n : Int)) = (F : Int)) := by
    show _ = _
    rw [eF, IntKind.wrap_i64]; omega
  have HqF : Hid (∀ k : Nat, k < F → k / 4 < n) := fun k h => by omega
  clear hx sx hV hz hc hbl hbel hF
  go_enter Tryz.func25, Tryz.ntmps25
  go_wp2
  clear hmk
  obtain ⟨g, hg⟩ : ∃ g, w.heap.size = g := ⟨_, rfl⟩
  have Hg : Hid (w.heap.size = g) := hg
  rw [hg] at HO0
  rw [hg]
  clear hg
  go_loopw [7, 8] (fun s _ wr => ∃ k : Nat, s = .int .i64 (k : Int) ∧ k ≤ F ∧ Hid (Bl 5 wr g ((tobe size (V % 256 ^ min k size)).map B) ∧ Below g w wr ∧ (size ≤ k → V % 256 ^ k < 256 ^ size))) (fun s _ _ => F - (intOf s).toNat)
  case atStart => exact ⟨0, rfl, Nat.zero_le _, HO0⟩
  case round =>
    clear HO0
    obtain ⟨k, rfl, hkF, HO⟩ := hrel
    by_cases hlt : k < F
    · have d1 : decide ((k : Int) < (F : Int)) = true := decide_eq_true (by omega)
      obtain ⟨qt, Hqt⟩ : ∃ a, Hid (k / 4 = a) := ⟨_, rfl⟩
      obtain ⟨s0, Hs0⟩ : ∃ a, Hid (k % 4 = a) := ⟨_, rfl⟩
      obtain ⟨s, Hs⟩ : ∃ a, Hid (8 * (k % 4) = a) := ⟨_, rfl⟩
      have hqn : qt < n := by rw [← Hqt.out]; exact HqF.out k hlt
      have ew := Hew.out
      have hs4 : s0 < 4 := by rw [← Hs0.out]; omega
      have hs32 : s ≤ 24 := by rw [← Hs.out]; omega
      obtain ⟨gx, ox, rfl, _, hcell⟩ := (HX.out.below (n := w.heap.size) (by rw [Hg.out]; exact HO.out.2.1) (Nat.le_refl _)).cell (by rw [Hn.out]; omega)
      have gc := hcell qt (by rw [Hn.out]; exact hqn)
      have hb0 := HBy.out k
      rw [Hqt.out, Hs.out] at hb0
      obtain ⟨x, Hx⟩ : ∃ x, Hid (xs.getD qt 0 = x) := ⟨_, rfl⟩
      have hxb : x < 4294967296 := by rw [← Hx.out, ← Bs_eq]; exact HSm.out.getD Bs_pos qt
      rw [Hx.out] at gc hb0
      obtain ⟨y, Hy⟩ : ∃ y, Hid (x / 2 ^ s = y) := ⟨_, rfl⟩
      have hyb : y < 4294967296 := by rw [← Hy.out]; exact Nat.lt_of_le_of_lt (Nat.div_le_self _ _) hxb
      have ey : (x : Int) / 2 ^ s = (y : Int) := by rw [← Hy.out]; simp
      rw [Hy.out] at hb0
      obtain ⟨z, hz⟩ : ∃ z : UInt8, z.toNat = V / 256 ^ k % 256 := ⟨UInt8.ofNat (V / 256 ^ k % 256), by rw [UInt8.toNat_ofNat']; exact Nat.mod_eq_of_lt (Nat.mod_lt _ (by decide))⟩
      have hand : bits .and .u32 (y : Int) 255 = (z.toNat : Int) := by
        have hkk : ∀ n : Int, 0 ≤ n → n < 2 ^ 32 → IntKind.u32.wrap n = n := fun n h0 h1 => by rw [IntKind.wrap_u32']; omega
        have := bits_mask .u32 32 (by decide) hkk 8 (by decide) (y : Int) (by omega) (by omega)
        rw [hz, ← hb0]
        refine this.trans ?_
        omega
      have hzb := z.toNat_lt
      have Hz : Hid (z.toNat = V / 256 ^ k % 256) := hz
      have eq1 : Int.tdiv (k : Int) 4 = (qt : Int) := by rw [Int.tdiv_eq_ediv_of_nonneg (by omega), ← Hqt.out]; omega
      have eq2 : (k : Int) / 4 = (qt : Int) := by rw [← Hqt.out]; omega
      have er1 : Int.tmod (k : Int) 4 = (s0 : Int) := by rw [Int.tmod_eq_emod_of_nonneg (by omega), ← Hs0.out]; omega
      have er2 : (k : Int) % 4 = (s0 : Int) := by rw [← Hs0.out]; omega
      have er3 : 8 * (s0 : Int) = (s : Int) := by rw [← Hs0.out, ← Hs.out]; omega
      have hqI : (qt : Int) < (n : Int) := by omega
      clear hcell hb0 hz
      by_cases hks : k < size
      · have d2 : decide ((k : Int) < (size : Int)) = true := decide_eq_true (by omega)
        obtain ⟨p, hp⟩ : ∃ p, size - 1 - k = p := ⟨_, rfl⟩
        have ep : (size : Int) - 1 - (k : Int) = (p : Int) := by omega
        have hps : p < size := by omega
        have hpI : (p : Int) < (size : Int) := by omega
        have hO := HO.out.1
        rw [Nat.min_eq_left (by omega)] at hO
        have gf := hO.frozen p
        obtain ⟨old, go⟩ : ∃ v, wr.cell? ⟨g, p, none⟩ = some v := ⟨_, hO.cell p (by rw [List.length_map, tobe_length]; exact hps)⟩
        have HO2 : Hid (Bl 5 (wr.setCell ⟨g, p, none⟩ (.int .u8 (z.toNat : Int))) g ((tobe size (V % 256 ^ min (k + 1) size)).map B) ∧ Below g w (wr.setCell ⟨g, p, none⟩ (.int .u8 (z.toNat : Int))) ∧ (size ≤ k + 1 → V % 256 ^ (k + 1) < 256 ^ size)) := by
          refine ⟨?_, HO.out.2.1.setCell (Nat.le_refl _) _, fun h => ?_⟩
          · have := hO.set p (B z)
            rw [← List.map_set, ← hp, tobe_setP size V k hks z Hz.out] at this
            rw [Nat.min_eq_left (by omega), ← hp]
            exact this
          · rw [show size = k + 1 by omega]
            exact Nat.mod_lt _ (Nat.pow_pos (by decide))
        clear hO HO hp
        go_wp2
        exact ⟨⟨k + 1, by go_num, by omega, HO2⟩, by simp [intOf]; omega⟩
      · have d2 : decide ((k : Int) < (size : Int)) = false := decide_eq_false (by omega)
        have hge : (size : Int) ≤ (k : Int) := by omega
        have hge2 : size ≤ k := by omega
        by_cases hz0 : z.toNat = 0
        · have dz : ((z.toNat : Int) != 0) = false := by rw [hz0]; rfl
          have HO2 : Hid (Bl 5 wr g ((tobe size (V % 256 ^ min (k + 1) size)).map B) ∧ Below g w wr ∧ (size ≤ k + 1 → V % 256 ^ (k + 1) < 256 ^ size)) := by
            refine ⟨?_, HO.out.2.1, fun _ => ?_⟩
            · have := HO.out.1
              rw [Nat.min_eq_right (by omega)] at this
              rw [Nat.min_eq_right (by omega)]
              exact this
            · have h1 := HO.out.2.2 hge2
              have h2 : V % 256 ^ (k + 1) = V % 256 ^ k + 256 ^ k * (V / 256 ^ k % 256) := by rw [Nat.pow_succ, Nat.mod_mul]
              rw [h2, ← Hz.out, hz0, Nat.mul_zero, Nat.add_zero]
              exact h1
          clear HO hks
          go_wp2
          exact ⟨⟨k + 1, by go_num, by omega, HO2⟩, by simp [intOf]; omega⟩
        · have dz : ((z.toNat : Int) != 0) = true := by simp; omega
          have hnf : ¬ V < 256 ^ size := fun hlt2 => by
            have h3 : V < 256 ^ k := Nat.lt_of_lt_of_le hlt2 (Nat.pow_le_pow_right (by decide) hge2)
            have := Hz.out
            rw [Nat.div_eq_of_lt h3] at this
            exact hz0 this
          obtain rfl : fit = false := by rw [← Hfit.out]; exact decide_eq_false hnf
          obtain rfl : R = [] := by rw [← HR.out, if_neg hnf]
          have HB : Hid (Below g w wr) := HO.out.2.1
          clear HO hks hz0 hnf
          go_wp2
          go_ret2
          refine ⟨_, rfl, Owb.nil _ _, ?_⟩
          rw [Hg.out]
          exact HB.out
    · obtain rfl : k = F := by omega
      have d1 : decide ((k : Int) < (k : Int)) = false := decide_eq_false (by omega)
      have ew := Hew.out
      have hfit : V < 256 ^ size := by
        rcases Nat.lt_or_ge size k with h1 | h1
        · have := HO.out.2.2 (by omega)
          rwa [Nat.mod_eq_of_lt HVF.out] at this
        · exact Nat.lt_of_lt_of_le HVF.out (Nat.pow_le_pow_right (by decide) h1)
      obtain rfl : fit = true := by rw [← Hfit.out]; exact decide_eq_true hfit
      have HF : Hid (Owb wr g (.slice (some ⟨g, 0, none⟩) size size) R ∧ Below g w wr) := by
        refine ⟨?_, HO.out.2.1⟩
        rw [← HR.out, if_pos hfit]
        have hv : V % 256 ^ min k size = V := by
          apply Nat.mod_eq_of_lt
          rcases Nat.le_total k size with h1 | h1
          · rw [Nat.min_eq_left h1]; exact HVF.out
          · rw [Nat.min_eq_right h1]; exact hfit
        have h1 := HO.out.1
        rw [hv] at h1
        have := h1.owb (base := g) (Nat.le_refl _) (by rw [tobe_length]; omega)
        rwa [tobe_length] at this
      clear HO hfit hlt hkF
      go_wp2
      go_ret2
      refine ⟨_, rfl, ?_⟩
      rw [Hg.out]
      exact ⟨HF.out.1, HF.out.2⟩

end Go.Proofs.YthnogdkkdekgpaaGreatDoor
