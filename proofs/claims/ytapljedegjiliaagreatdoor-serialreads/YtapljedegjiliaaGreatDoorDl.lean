import Derived.Test.YtapljedegjiliaaGreatDoorDZ
import Derived.Test.YtapljedegjiliaaGreatDoorDcRefWj
import Derived.Deep.CutRange
namespace Go.Proofs.YtapljedegjiliaaGreatDoor
open Go.RowKit Go.Shelf

theorem bat1 (t : List UInt8) (p : Nat) (c : UInt8) : (bat t p == (c.toNat : Int)) = tk t [c] p := by
  unfold tk bat
  by_cases hl : p < t.length
  · rw [if_pos hl, decide_eq_true hl, Bool.true_and, Bool.eq_iff_iff]
    simp only [beq_iff_eq, List.contains_cons, List.contains_nil, Bool.or_false]
    constructor
    · intro h; exact UInt8.toNat_inj.1 (by omega)
    · intro h; rw [h]
  · rw [if_neg hl, decide_eq_false hl, Bool.false_and]
    simp only [beq_eq_false_iff_ne, ne_eq]
    omega
theorem bat2 (t : List UInt8) (p : Nat) (a b : UInt8) : (bat t p == (a.toNat : Int) || bat t p == (b.toNat : Int)) = tk t [a, b] p := by
  rw [bat1, bat1]
  unfold tk
  simp only [List.contains_cons, List.contains_nil, Bool.or_false]
  cases decide (p < t.length) <;> rfl

/-- A number. -/
def nuG (t : List UInt8) (p : Nat) : Lx Unit → Lx (List Nd)
  | .ok _ q => .ok [numN (sgl t p q)] q
  | .bad c b => .bad c b
def nuF (t : List UInt8) (p : Nat) : Lx (List Nd) := nuG t p (numL t p)

set_option maxRecDepth 100000 in
set_option maxHeartbeats 16000000 in
theorem rnumber_any (t : List UInt8) (p : Nat) (w : World) (hp : p < t.length) (ht : t.length ≤ 1000000) :
    Calls Tryz.prog 31 #[.string ⟨t.toArray⟩, .int .i64 p] w fun e w' => (∃ v, e = .returned v ∧ GotL (nuF t p) v w.heap.size w') ∧ Below w.heap.size w w' := by
  obtain ⟨R, hR⟩ : ∃ R, numL t p = R := ⟨_, rfl⟩
  have HL : Hid (nuF t p = nuG t p R) := by show _ = _; unfold nuF; rw [hR]
  have HBox : Hid (Bl 50 (w.alloc (.cells (gotC 0 nilV [] 0 0).toArray 50)) w.heap.size (gotC 0 nilV [] 0 0)) := alloc_bl _ _ _
  have HB : Hid (Below w.heap.size w (w.alloc (.cells (gotC 0 nilV [] 0 0).toArray 50))) := alloc_below _ _
  generalize hw1 : w.alloc (.cells (gotC 0 nilV [] 0 0).toArray 50) = w1 at HBox HB
  have HW1 : Hid (w.alloc (.cells #[.int .i64 0, .slice none 0 0, .string ⟨#[]⟩, .int .i64 0, .int .i64 0] 50) = w1) := hw1
  clear hw1
  obtain ⟨c, hc⟩ : ∃ c, t.getD p 0 = c := ⟨_, rfl⟩
  have gx : (⟨t.toArray⟩ : ByteArray)[p]'(by show p < t.toArray.size; simpa using hp) = c := by rw [← hc]; simp [List.getD_eq_getElem?_getD, hp]; rfl
  obtain ⟨b0, hb0⟩ : ∃ b0, ((c.toNat : Int) == 45) = b0 := ⟨_, rfl⟩
  have hb1 : tk t [45] p = b0 := by
    rw [← bat1, ← hb0]
    unfold bat
    rw [if_pos hp, hc]
    rfl
  obtain ⟨P, hP⟩ : ∃ P : Nat, (if b0 = true then p + 1 else p) = P := ⟨_, rfl⟩
  have HK1 : Hid (numI t P = R) := by show _ = _; rw [← hR]; unfold numL; rw [hb1, hP]
  have hPl : P ≤ t.length := by rw [← hP]; split <;> omega
  have hPp : p ≤ P := by rw [← hP]; split <;> omega
  have HP : Hid ((if b0 = true then p + 1 else p) = P) := hP
  clear hP hb1 hR hc
  go_enter Tryz.func31, Tryz.ntmps31
  go_upto_region 2 with fail
  go_cut [15] from 12 to 15 (fun s15 wx => s15 = .bool b0 ∧ wx = w1)
  case first =>
    go_wp2
    go_meet
    exact ⟨rfl, HW1.out⟩
  case rest =>
  obtain ⟨rfl, rfl⟩ := hcut
  clear HW1 gx hb0
  go_upto_if 15 with fail
  go_cut [5] from 16 to 17 (fun s5 wx => s5 = .int .i64 P ∧ wx = wc)
  case first =>
    cases b0
    · have hP2 : p = P := HP.out
      clear HP
      go_wp2
      go_meet
      exact ⟨by rw [hP2], rfl⟩
    · have hP2 : p + 1 = P := HP.out
      clear HP
      go_wp2
      go_meet
      exact ⟨by rw [← hP2]; rfl, rfl⟩
  case rest =>
  obtain ⟨rfl, rfl⟩ := hcut
  clear HP
  obtain ⟨b1, hb1⟩ : ∃ b1, tk t [48] P = b1 := ⟨_, rfl⟩
  have HTb1 : Hid (tk t [48] P = b1) := hb1
  clear hb1
  go_upto_region 4 with fail
  go_cut [21] from 18 to 21 (fun s wx => s = .bool b1 ∧ wx = wc)
  case first =>
    have q0 : (bat t P == 48) = b1 := (bat1 t P 48).trans HTb1.out
    have C1 := byteAt_any t P wc (by omega)
    generalize bat t P = B0 at q0 C1
    go_wp2_with fail
    refine C1.mono ?_
    clear C1
    rintro e w9 ⟨rfl, rfl⟩
    go_wp2
    go_meet
    exact ⟨rfl, rfl⟩
  case rest =>
  obtain ⟨rfl, rfl⟩ := hcut
  go_upto_if 21 with fail
  go_cut [5] from 22 to 32 (fun s5 wx => ∃ k : Nat, s5 = .int .i64 k ∧ k ≤ t.length ∧ p ≤ k ∧ Hid (numF t k = R) ∧ Hid (Bl 50 wx w.heap.size (gotC 0 nilV [] 0 0)) ∧ Hid (Below w.heap.size w wx))
  case first =>
    cases b1
    · have HKb := HK1.out
      unfold numI at HKb
      rw [HTb1.out, if_neg Bool.false_ne_true] at HKb
      clear HK1 HTb1
      cases hdg : tk t digitsS (P)
      · have HX : Hid (R = .bad 31 (P)) := by show _ = _; rw [hdg, if_neg Bool.false_ne_true] at HKb; exact HKb.symm
        have C1 : Calls Tryz.prog 45 #[.string ⟨t.toArray⟩, .int .i64 (P : Int)] wc fun e w' => (e = .returned (.agg #[.int .i64 0, .slice none 0 0, .string ⟨#[]⟩, .int .i64 31, .int .i64 (P : Int)])) ∧ Below wc.heap.size wc w' := by
          refine (rdigits_any t (P) wc (hPl) ht).mono ?_
          rintro e w' ⟨⟨v, rfl, hv⟩, hB⟩
          unfold dgF at hv
          rw [hdg, if_neg Bool.false_ne_true] at hv
          rw [show v = gotV 0 nilV [] 31 (P : Int) from hv]
          exact ⟨rfl, hB⟩
        clear hdg
        go_wp2_with fail
        refine C1.mono ?_
        clear C1
        rintro e w3 ⟨rfl, hB3⟩
        have HBx4 : Hid (Bl 50 (w3.alloc (.cells #[.int .i64 0, .slice none 0 0, .string ⟨#[]⟩, .int .i64 31, .int .i64 (P : Int)] 50)) w.heap.size (gotC 0 nilV [] 0 0)) := bl_below (bl_below HBox.out hB3) (alloc_below _ _)
        have HB4 : Hid (Below w.heap.size w (w3.alloc (.cells #[.int .i64 0, .slice none 0 0, .string ⟨#[]⟩, .int .i64 31, .int .i64 (P : Int)] 50))) := (HB.out.trans (hB3.mono HB.out.size)).trans ((alloc_below _ _).mono (Nat.le_trans HB.out.size hB3.size))
        have HG : Bl 50 (w3.alloc (.cells #[.int .i64 0, .slice none 0 0, .string ⟨#[]⟩, .int .i64 31, .int .i64 (P : Int)] 50)) w3.heap.size (gotC 0 nilV [] 31 (P : Int)) := alloc_bl _ _ _
        have k3 : (w3.alloc (.cells #[.int .i64 0, .slice none 0 0, .string ⟨#[]⟩, .int .i64 31, .int .i64 (P : Int)] 50)).cell? ⟨w3.heap.size, 3, none⟩ = some (.int .i64 31) := HG.cell 3 (by show 3 < 5; decide)
        have HRg : Hid ((w3.alloc (.cells #[.int .i64 0, .slice none 0 0, .string ⟨#[]⟩, .int .i64 31, .int .i64 (P : Int)] 50)).rangeAt w3.heap.size 0 (gotC 0 nilV [] 31 (P : Int))) := bl_range HG
        have hgi : (Tryz.prog.info? 50).map (·.size) = some 5 := by kernel_rfl
        obtain ⟨wz, hwz⟩ : ∃ wz, (w3.alloc (.cells #[.int .i64 0, .slice none 0 0, .string ⟨#[]⟩, .int .i64 31, .int .i64 (P : Int)] 50)).setRow w.heap.size (gotC 0 nilV [] 31 (P : Int)).toArray = wz := ⟨_, rfl⟩
        have HBz : Hid (Bl 50 wz w.heap.size (gotC 0 nilV [] 31 (P : Int))) := by rw [← hwz]; exact set_bl HBx4.out
        have Hz : Hid (Below w.heap.size w wz) := by rw [← hwz]; exact setRow_below _ HB4.out (Nat.le_refl _)
        have HWz : Hid ((w3.alloc (.cells #[.int .i64 0, .slice none 0 0, .string ⟨#[]⟩, .int .i64 31, .int .i64 (P : Int)] 50)).setRow w.heap.size (gotC 0 nilV [] 31 (P : Int)).toArray = wz) := hwz
        clear hwz HG hB3
        go_wp2_with (first | (refine wpList_load_mid rfl 50 (.tmp 6) rfl w3.heap.size 0 rfl (gotC 0 nilV [] 31 (P : Int)) _ HRg.out Tryz.underlying50 rfl hgi ?_) | (refine wpList_store_row rfl 50 (.tmp 4) (.tmp 30) rfl w.heap.size (gotC 0 nilV [] 31 (P : Int)).toArray rfl rfl 50 (gotC 0 nilV [] 0 0).toArray HBx4.out hgi rfl (by simp [gotC, nilV, Value.oneCell']) ?_; rw [HWz.out]; clear HWz))
        (try simp only [Exit.inBlock, Exit.then])
        exact bodyPost_ret (v := gotV 0 nilV [] 31 (P : Int)) (results_got rfl _ _ w.heap.size 0 nilV [] 31 (P : Int) rfl HBz.out) rfl ⟨⟨_, rfl, by rw [HL.out, HX.out]; exact ⟨_, _, rfl⟩⟩, Hz.out⟩
      · obtain ⟨z, hz⟩ : ∃ z, skp t digitsS (P) = z := ⟨_, rfl⟩
        have HK9 : Hid (numF t z = R) := by show _ = _; rw [hdg, if_pos rfl, hz] at HKb; exact HKb
        have hzl : z ≤ t.length := by rw [← hz]; exact skp_le _ _ _ (hPl)
        have hzp : p ≤ z := by rw [← hz]; have := skp_ge t digitsS (P); omega
        have C1 : Calls Tryz.prog 45 #[.string ⟨t.toArray⟩, .int .i64 (P : Int)] wc fun e w' => (e = .returned (.agg #[.int .i64 (z : Int), .slice none 0 0, .string ⟨#[]⟩, .int .i64 0, .int .i64 0])) ∧ Below wc.heap.size wc w' := by
          refine (rdigits_any t (P) wc (hPl) ht).mono ?_
          rintro e w' ⟨⟨v, rfl, hv⟩, hB⟩
          unfold dgF at hv
          rw [hdg, if_pos rfl, hz] at hv
          rw [show v = gotV (z : Int) nilV [] 0 0 from hv]
          exact ⟨rfl, hB⟩
        clear hdg hz
        go_wp2_with fail
        refine C1.mono ?_
        clear C1
        rintro e w3 ⟨rfl, hB3⟩
        have HBx4 : Hid (Bl 50 (w3.alloc (.cells #[.int .i64 (z : Int), .slice none 0 0, .string ⟨#[]⟩, .int .i64 0, .int .i64 0] 50)) w.heap.size (gotC 0 nilV [] 0 0)) := bl_below (bl_below HBox.out hB3) (alloc_below _ _)
        have HB4 : Hid (Below w.heap.size w (w3.alloc (.cells #[.int .i64 (z : Int), .slice none 0 0, .string ⟨#[]⟩, .int .i64 0, .int .i64 0] 50))) := (HB.out.trans (hB3.mono HB.out.size)).trans ((alloc_below _ _).mono (Nat.le_trans HB.out.size hB3.size))
        have HG : Bl 50 (w3.alloc (.cells #[.int .i64 (z : Int), .slice none 0 0, .string ⟨#[]⟩, .int .i64 0, .int .i64 0] 50)) w3.heap.size (gotC (z : Int) nilV [] 0 0) := alloc_bl _ _ _
        have k0 : (w3.alloc (.cells #[.int .i64 (z : Int), .slice none 0 0, .string ⟨#[]⟩, .int .i64 0, .int .i64 0] 50)).cell? ⟨w3.heap.size, 0, none⟩ = some (.int .i64 (z : Int)) := HG.cell 0 (by show 0 < 5; decide)
        have k3 : (w3.alloc (.cells #[.int .i64 (z : Int), .slice none 0 0, .string ⟨#[]⟩, .int .i64 0, .int .i64 0] 50)).cell? ⟨w3.heap.size, 3, none⟩ = some (.int .i64 0) := HG.cell 3 (by show 3 < 5; decide)
        clear HG hB3
        go_wp2
        go_meet
        exact ⟨z, rfl, hzl, hzp, HK9, HBx4, HB4⟩
    · have HK9 : Hid (numF t (P + 1) = R) := by
        have h := HK1.out
        unfold numI at h
        rw [HTb1.out, if_pos rfl] at h
        exact h
      have hlt : P < t.length := (by have h := HTb1.out; unfold tk at h; simp only [Bool.and_eq_true, decide_eq_true_eq] at h; exact h.1)
      clear HK1 HTb1
      go_wp2
      go_meet
      exact ⟨P + 1, by go_num, hlt, by omega, HK9, HBox, HB⟩
  case rest =>
  clear HK1 HTb1 HBox HB hPl hPp
  obtain ⟨k1, rfl, hk1, hpk1, HK1, HBox, HB⟩ := hcut
  obtain ⟨b2, hb2⟩ : ∃ b2, tk t [46] k1 = b2 := ⟨_, rfl⟩
  have HTb2 : Hid (tk t [46] k1 = b2) := hb2
  clear hb2
  go_upto_region 10 with fail
  go_cut [36] from 33 to 36 (fun s wx => s = .bool b2 ∧ wx = wc)
  case first =>
    have q0 : (bat t k1 == 46) = b2 := (bat1 t k1 46).trans HTb2.out
    have C1 := byteAt_any t k1 wc (by omega)
    generalize bat t k1 = B0 at q0 C1
    go_wp2_with fail
    refine C1.mono ?_
    clear C1
    rintro e w9 ⟨rfl, rfl⟩
    go_wp2
    go_meet
    exact ⟨rfl, rfl⟩
  case rest =>
  obtain ⟨rfl, rfl⟩ := hcut
  go_upto_if 36 with fail
  go_cut [5] from 37 to 46 (fun s5 wx => ∃ k : Nat, s5 = .int .i64 k ∧ k ≤ t.length ∧ p ≤ k ∧ Hid (numE t k = R) ∧ Hid (Bl 50 wx w.heap.size (gotC 0 nilV [] 0 0)) ∧ Hid (Below w.heap.size w wx))
  case first =>
    cases b2
    · have HK9 : Hid (numE t k1 = R) := by
        have h := HK1.out
        unfold numF at h
        rw [HTb2.out, if_neg Bool.false_ne_true] at h
        exact h
      clear HK1 HTb2
      go_wp2
      go_meet
      exact ⟨k1, rfl, hk1, hpk1, HK9, HBox, HB⟩
    · have HKb := HK1.out
      unfold numF at HKb
      rw [HTb2.out, if_pos rfl] at HKb
      have hlt : k1 < t.length := (by have h := HTb2.out; unfold tk at h; simp only [Bool.and_eq_true, decide_eq_true_eq] at h; exact h.1)
      clear HK1 HTb2
      cases hdg : tk t digitsS (k1 + 1)
      · have HX : Hid (R = .bad 31 (k1 + 1)) := by show _ = _; rw [hdg, if_neg Bool.false_ne_true] at HKb; exact HKb.symm
        have C1 : Calls Tryz.prog 45 #[.string ⟨t.toArray⟩, .int .i64 ((k1 : Int) + 1)] wc fun e w' => (e = .returned (.agg #[.int .i64 0, .slice none 0 0, .string ⟨#[]⟩, .int .i64 31, .int .i64 ((k1 : Int) + 1)])) ∧ Below wc.heap.size wc w' := by
          refine (rdigits_any t (k1 + 1) wc (hlt) ht).mono ?_
          rintro e w' ⟨⟨v, rfl, hv⟩, hB⟩
          unfold dgF at hv
          rw [hdg, if_neg Bool.false_ne_true] at hv
          rw [show v = gotV 0 nilV [] 31 ((k1 : Int) + 1) from hv]
          exact ⟨rfl, hB⟩
        clear hdg
        go_wp2_with fail
        refine C1.mono ?_
        clear C1
        rintro e w3 ⟨rfl, hB3⟩
        have HBx4 : Hid (Bl 50 (w3.alloc (.cells #[.int .i64 0, .slice none 0 0, .string ⟨#[]⟩, .int .i64 31, .int .i64 ((k1 : Int) + 1)] 50)) w.heap.size (gotC 0 nilV [] 0 0)) := bl_below (bl_below HBox.out hB3) (alloc_below _ _)
        have HB4 : Hid (Below w.heap.size w (w3.alloc (.cells #[.int .i64 0, .slice none 0 0, .string ⟨#[]⟩, .int .i64 31, .int .i64 ((k1 : Int) + 1)] 50))) := (HB.out.trans (hB3.mono HB.out.size)).trans ((alloc_below _ _).mono (Nat.le_trans HB.out.size hB3.size))
        have HG : Bl 50 (w3.alloc (.cells #[.int .i64 0, .slice none 0 0, .string ⟨#[]⟩, .int .i64 31, .int .i64 ((k1 : Int) + 1)] 50)) w3.heap.size (gotC 0 nilV [] 31 ((k1 : Int) + 1)) := alloc_bl _ _ _
        have k3 : (w3.alloc (.cells #[.int .i64 0, .slice none 0 0, .string ⟨#[]⟩, .int .i64 31, .int .i64 ((k1 : Int) + 1)] 50)).cell? ⟨w3.heap.size, 3, none⟩ = some (.int .i64 31) := HG.cell 3 (by show 3 < 5; decide)
        have HRg : Hid ((w3.alloc (.cells #[.int .i64 0, .slice none 0 0, .string ⟨#[]⟩, .int .i64 31, .int .i64 ((k1 : Int) + 1)] 50)).rangeAt w3.heap.size 0 (gotC 0 nilV [] 31 ((k1 : Int) + 1))) := bl_range HG
        have hgi : (Tryz.prog.info? 50).map (·.size) = some 5 := by kernel_rfl
        obtain ⟨wz, hwz⟩ : ∃ wz, (w3.alloc (.cells #[.int .i64 0, .slice none 0 0, .string ⟨#[]⟩, .int .i64 31, .int .i64 ((k1 : Int) + 1)] 50)).setRow w.heap.size (gotC 0 nilV [] 31 ((k1 : Int) + 1)).toArray = wz := ⟨_, rfl⟩
        have HBz : Hid (Bl 50 wz w.heap.size (gotC 0 nilV [] 31 ((k1 : Int) + 1))) := by rw [← hwz]; exact set_bl HBx4.out
        have Hz : Hid (Below w.heap.size w wz) := by rw [← hwz]; exact setRow_below _ HB4.out (Nat.le_refl _)
        have HWz : Hid ((w3.alloc (.cells #[.int .i64 0, .slice none 0 0, .string ⟨#[]⟩, .int .i64 31, .int .i64 ((k1 : Int) + 1)] 50)).setRow w.heap.size (gotC 0 nilV [] 31 ((k1 : Int) + 1)).toArray = wz) := hwz
        clear hwz HG hB3
        go_wp2_with (first | (refine wpList_load_mid rfl 50 (.tmp 7) rfl w3.heap.size 0 rfl (gotC 0 nilV [] 31 ((k1 : Int) + 1)) _ HRg.out Tryz.underlying50 rfl hgi ?_) | (refine wpList_store_row rfl 50 (.tmp 4) (.tmp 44) rfl w.heap.size (gotC 0 nilV [] 31 ((k1 : Int) + 1)).toArray rfl rfl 50 (gotC 0 nilV [] 0 0).toArray HBx4.out hgi rfl (by simp [gotC, nilV, Value.oneCell']) ?_; rw [HWz.out]; clear HWz))
        (try simp only [Exit.inBlock, Exit.then])
        exact bodyPost_ret (v := gotV 0 nilV [] 31 ((k1 : Int) + 1)) (results_got rfl _ _ w.heap.size 0 nilV [] 31 ((k1 : Int) + 1) rfl HBz.out) rfl ⟨⟨_, rfl, by rw [HL.out, HX.out]; exact ⟨_, _, rfl⟩⟩, Hz.out⟩
      · obtain ⟨z, hz⟩ : ∃ z, skp t digitsS (k1 + 1) = z := ⟨_, rfl⟩
        have HK9 : Hid (numE t z = R) := by show _ = _; rw [hdg, if_pos rfl, hz] at HKb; exact HKb
        have hzl : z ≤ t.length := by rw [← hz]; exact skp_le _ _ _ (hlt)
        have hzp : p ≤ z := by rw [← hz]; have := skp_ge t digitsS (k1 + 1); omega
        have C1 : Calls Tryz.prog 45 #[.string ⟨t.toArray⟩, .int .i64 ((k1 : Int) + 1)] wc fun e w' => (e = .returned (.agg #[.int .i64 (z : Int), .slice none 0 0, .string ⟨#[]⟩, .int .i64 0, .int .i64 0])) ∧ Below wc.heap.size wc w' := by
          refine (rdigits_any t (k1 + 1) wc (hlt) ht).mono ?_
          rintro e w' ⟨⟨v, rfl, hv⟩, hB⟩
          unfold dgF at hv
          rw [hdg, if_pos rfl, hz] at hv
          rw [show v = gotV (z : Int) nilV [] 0 0 from hv]
          exact ⟨rfl, hB⟩
        clear hdg hz
        go_wp2_with fail
        refine C1.mono ?_
        clear C1
        rintro e w3 ⟨rfl, hB3⟩
        have HBx4 : Hid (Bl 50 (w3.alloc (.cells #[.int .i64 (z : Int), .slice none 0 0, .string ⟨#[]⟩, .int .i64 0, .int .i64 0] 50)) w.heap.size (gotC 0 nilV [] 0 0)) := bl_below (bl_below HBox.out hB3) (alloc_below _ _)
        have HB4 : Hid (Below w.heap.size w (w3.alloc (.cells #[.int .i64 (z : Int), .slice none 0 0, .string ⟨#[]⟩, .int .i64 0, .int .i64 0] 50))) := (HB.out.trans (hB3.mono HB.out.size)).trans ((alloc_below _ _).mono (Nat.le_trans HB.out.size hB3.size))
        have HG : Bl 50 (w3.alloc (.cells #[.int .i64 (z : Int), .slice none 0 0, .string ⟨#[]⟩, .int .i64 0, .int .i64 0] 50)) w3.heap.size (gotC (z : Int) nilV [] 0 0) := alloc_bl _ _ _
        have k0 : (w3.alloc (.cells #[.int .i64 (z : Int), .slice none 0 0, .string ⟨#[]⟩, .int .i64 0, .int .i64 0] 50)).cell? ⟨w3.heap.size, 0, none⟩ = some (.int .i64 (z : Int)) := HG.cell 0 (by show 0 < 5; decide)
        have k3 : (w3.alloc (.cells #[.int .i64 (z : Int), .slice none 0 0, .string ⟨#[]⟩, .int .i64 0, .int .i64 0] 50)).cell? ⟨w3.heap.size, 3, none⟩ = some (.int .i64 0) := HG.cell 3 (by show 3 < 5; decide)
        clear HG hB3
        go_wp2
        go_meet
        exact ⟨z, rfl, hzl, hzp, HK9, HBx4, HB4⟩
  case rest =>
  clear HK1 HTb2 HBox HB
  obtain ⟨k2, rfl, hk2, hpk2, HK1, HBox, HB⟩ := hcut
  obtain ⟨b3, hb3⟩ : ∃ b3, tk t [101, 69] k2 = b3 := ⟨_, rfl⟩
  have HTb3 : Hid (tk t [101, 69] k2 = b3) := hb3
  clear hb3
  go_upto_region 15 with fail
  go_cut [56] from 47 to 56 (fun s wx => s = .bool b3 ∧ wx = wc)
  case first =>
    have q0 : (bat t k2 == 101 || bat t k2 == 69) = b3 := (bat2 t k2 101 69).trans HTb3.out
    have C1 := byteAt_any t k2 wc (by omega)
    have C2 := byteAt_any t k2 wc (by omega)
    generalize bat t k2 = B0 at q0 C1 C2
    cases q1 : (B0 == 101)
    · rw [q1, Bool.false_or] at q0
      go_wp2_with fail
      refine C1.mono ?_
      clear C1
      rintro e w9 ⟨rfl, rfl⟩
      go_wp2_with fail
      refine C2.mono ?_
      clear C2
      rintro e w9 ⟨rfl, rfl⟩
      go_wp2
      go_meet
      exact ⟨rfl, rfl⟩
    · rw [q1, Bool.true_or] at q0
      subst q0
      clear C2
      go_wp2_with fail
      refine C1.mono ?_
      clear C1
      rintro e w9 ⟨rfl, rfl⟩
      go_wp2
      go_meet
      exact ⟨rfl, rfl⟩
  case rest =>
  obtain ⟨rfl, rfl⟩ := hcut
  go_upto_if 56 with fail
  go_cut [5] from 57 to 79 (fun s5 wx => ∃ k : Nat, s5 = .int .i64 k ∧ k ≤ t.length ∧ p ≤ k ∧ Hid (Lx.ok () k = R) ∧ Hid (Bl 50 wx w.heap.size (gotC 0 nilV [] 0 0)) ∧ Hid (Below w.heap.size w wx))
  case first =>
    cases b3
    · have HK9 : Hid (Lx.ok () k2 = R) := by
        have h := HK1.out
        unfold numE at h
        rw [HTb3.out, if_neg Bool.false_ne_true] at h
        exact h
      clear HK1 HTb3
      go_wp2
      go_meet
      exact ⟨k2, rfl, hk2, hpk2, HK9, HBox, HB⟩
    · have HKb := HK1.out
      unfold numE at HKb
      rw [HTb3.out, if_pos rfl] at HKb
      have hlt : k2 < t.length := (by have h := HTb3.out; unfold tk at h; simp only [Bool.and_eq_true, decide_eq_true_eq] at h; exact h.1)
      have HKc : Hid ((let q := if tk t [43, 45] (k2 + 1) then k2 + 2 else k2 + 1; if tk t digitsS q then Lx.ok () (skp t digitsS q) else Lx.bad 31 q) = R) := HKb
      obtain ⟨k3, hk3⟩ : ∃ k3, k2 + 1 = k3 := ⟨_, rfl⟩
      have hk3i : (k2 : Int) + 1 = (k3 : Int) := by omega
      clear HKb HK1 HTb3
      go_upto_region 16 with fail
      go_cut [5] from 57 to 58 (fun s5 wx => s5 = .int .i64 k3 ∧ wx = wc)
      case first =>
        go_wp2
        go_meet
        exact ⟨by rw [← hk3i], rfl⟩
      case rest =>
      obtain ⟨rfl, rfl⟩ := hcut
      have hk3l : k3 ≤ t.length := by omega
      have hpk3 : p ≤ k3 := by omega
      have HKd : Hid ((let q := if tk t [43, 45] k3 then k3 + 1 else k3; if tk t digitsS q then Lx.ok () (skp t digitsS q) else Lx.bad 31 q) = R) := by
        have h := HKc.out
        rw [show k2 + 2 = k2 + 1 + 1 from rfl, hk3] at h
        exact h
      clear HKc hk3 hk3i hlt hk2 hpk2
      obtain ⟨b4, hb4⟩ : ∃ b4, tk t [43, 45] k3 = b4 := ⟨_, rfl⟩
      have HTb4 : Hid (tk t [43, 45] k3 = b4) := hb4
      clear hb4
      go_upto_region 17 with fail
      go_cut [68] from 59 to 68 (fun s wx => s = .bool b4 ∧ wx = wc)
      case first =>
        have q0 : (bat t k3 == 43 || bat t k3 == 45) = b4 := (bat2 t k3 43 45).trans HTb4.out
        have C1 := byteAt_any t k3 wc (by omega)
        have C2 := byteAt_any t k3 wc (by omega)
        generalize bat t k3 = B0 at q0 C1 C2
        cases q1 : (B0 == 43)
        · rw [q1, Bool.false_or] at q0
          go_wp2_with fail
          refine C1.mono ?_
          clear C1
          rintro e w9 ⟨rfl, rfl⟩
          go_wp2_with fail
          refine C2.mono ?_
          clear C2
          rintro e w9 ⟨rfl, rfl⟩
          go_wp2
          go_meet
          exact ⟨rfl, rfl⟩
        · rw [q1, Bool.true_or] at q0
          subst q0
          clear C2
          go_wp2_with fail
          refine C1.mono ?_
          clear C1
          rintro e w9 ⟨rfl, rfl⟩
          go_wp2
          go_meet
          exact ⟨rfl, rfl⟩
      case rest =>
      obtain ⟨rfl, rfl⟩ := hcut
      obtain ⟨k5, hk5⟩ : ∃ k5 : Nat, (if b4 = true then k3 + 1 else k3) = k5 := ⟨_, rfl⟩
      have hk5l : k5 ≤ t.length := by
        rw [← hk5]
        cases b4
        · exact hk3l
        · have : k3 < t.length := (by have h := HTb4.out; unfold tk at h; simp only [Bool.and_eq_true, decide_eq_true_eq] at h; exact h.1)
          exact this
      have hpk5 : p ≤ k5 := by rw [← hk5]; split <;> omega
      have HKb : Hid ((if tk t digitsS k5 then Lx.ok () (skp t digitsS k5) else Lx.bad 31 k5) = R) := by
        have h := HKd.out
        simp only at h
        rw [HTb4.out, hk5] at h
        exact h
      have HP5 : Hid ((if b4 = true then k3 + 1 else k3) = k5) := hk5
      clear HKd HTb4 hk5
      go_upto_if 68 with fail
      go_cut [5] from 69 to 70 (fun s5 wx => s5 = .int .i64 k5 ∧ wx = wc)
      case first =>
        cases b4
        · have h2 : k3 = k5 := HP5.out
          clear HP5
          go_wp2
          go_meet
          exact ⟨by rw [h2], rfl⟩
        · have h2 : k3 + 1 = k5 := HP5.out
          clear HP5
          go_wp2
          go_meet
          exact ⟨by rw [← h2]; rfl, rfl⟩
      case rest =>
      obtain ⟨rfl, rfl⟩ := hcut
      clear HP5 hk3l hpk3
      have HKb := HKb.out
      cases hdg : tk t digitsS (k5)
      · have HX : Hid (R = .bad 31 (k5)) := by show _ = _; rw [hdg, if_neg Bool.false_ne_true] at HKb; exact HKb.symm
        have C1 : Calls Tryz.prog 45 #[.string ⟨t.toArray⟩, .int .i64 (k5 : Int)] wc fun e w' => (e = .returned (.agg #[.int .i64 0, .slice none 0 0, .string ⟨#[]⟩, .int .i64 31, .int .i64 (k5 : Int)])) ∧ Below wc.heap.size wc w' := by
          refine (rdigits_any t (k5) wc (hk5l) ht).mono ?_
          rintro e w' ⟨⟨v, rfl, hv⟩, hB⟩
          unfold dgF at hv
          rw [hdg, if_neg Bool.false_ne_true] at hv
          rw [show v = gotV 0 nilV [] 31 (k5 : Int) from hv]
          exact ⟨rfl, hB⟩
        clear hdg
        go_wp2_with fail
        refine C1.mono ?_
        clear C1
        rintro e w3 ⟨rfl, hB3⟩
        have HBx4 : Hid (Bl 50 (w3.alloc (.cells #[.int .i64 0, .slice none 0 0, .string ⟨#[]⟩, .int .i64 31, .int .i64 (k5 : Int)] 50)) w.heap.size (gotC 0 nilV [] 0 0)) := bl_below (bl_below HBox.out hB3) (alloc_below _ _)
        have HB4 : Hid (Below w.heap.size w (w3.alloc (.cells #[.int .i64 0, .slice none 0 0, .string ⟨#[]⟩, .int .i64 31, .int .i64 (k5 : Int)] 50))) := (HB.out.trans (hB3.mono HB.out.size)).trans ((alloc_below _ _).mono (Nat.le_trans HB.out.size hB3.size))
        have HG : Bl 50 (w3.alloc (.cells #[.int .i64 0, .slice none 0 0, .string ⟨#[]⟩, .int .i64 31, .int .i64 (k5 : Int)] 50)) w3.heap.size (gotC 0 nilV [] 31 (k5 : Int)) := alloc_bl _ _ _
        have k3 : (w3.alloc (.cells #[.int .i64 0, .slice none 0 0, .string ⟨#[]⟩, .int .i64 31, .int .i64 (k5 : Int)] 50)).cell? ⟨w3.heap.size, 3, none⟩ = some (.int .i64 31) := HG.cell 3 (by show 3 < 5; decide)
        have HRg : Hid ((w3.alloc (.cells #[.int .i64 0, .slice none 0 0, .string ⟨#[]⟩, .int .i64 31, .int .i64 (k5 : Int)] 50)).rangeAt w3.heap.size 0 (gotC 0 nilV [] 31 (k5 : Int))) := bl_range HG
        have hgi : (Tryz.prog.info? 50).map (·.size) = some 5 := by kernel_rfl
        obtain ⟨wz, hwz⟩ : ∃ wz, (w3.alloc (.cells #[.int .i64 0, .slice none 0 0, .string ⟨#[]⟩, .int .i64 31, .int .i64 (k5 : Int)] 50)).setRow w.heap.size (gotC 0 nilV [] 31 (k5 : Int)).toArray = wz := ⟨_, rfl⟩
        have HBz : Hid (Bl 50 wz w.heap.size (gotC 0 nilV [] 31 (k5 : Int))) := by rw [← hwz]; exact set_bl HBx4.out
        have Hz : Hid (Below w.heap.size w wz) := by rw [← hwz]; exact setRow_below _ HB4.out (Nat.le_refl _)
        have HWz : Hid ((w3.alloc (.cells #[.int .i64 0, .slice none 0 0, .string ⟨#[]⟩, .int .i64 31, .int .i64 (k5 : Int)] 50)).setRow w.heap.size (gotC 0 nilV [] 31 (k5 : Int)).toArray = wz) := hwz
        clear hwz HG hB3
        go_wp2_with (first | (refine wpList_load_mid rfl 50 (.tmp 8) rfl w3.heap.size 0 rfl (gotC 0 nilV [] 31 (k5 : Int)) _ HRg.out Tryz.underlying50 rfl hgi ?_) | (refine wpList_store_row rfl 50 (.tmp 4) (.tmp 77) rfl w.heap.size (gotC 0 nilV [] 31 (k5 : Int)).toArray rfl rfl 50 (gotC 0 nilV [] 0 0).toArray HBx4.out hgi rfl (by simp [gotC, nilV, Value.oneCell']) ?_; rw [HWz.out]; clear HWz))
        (try simp only [Exit.inBlock, Exit.then])
        exact bodyPost_ret (v := gotV 0 nilV [] 31 (k5 : Int)) (results_got rfl _ _ w.heap.size 0 nilV [] 31 (k5 : Int) rfl HBz.out) rfl ⟨⟨_, rfl, by rw [HL.out, HX.out]; exact ⟨_, _, rfl⟩⟩, Hz.out⟩
      · obtain ⟨z, hz⟩ : ∃ z, skp t digitsS (k5) = z := ⟨_, rfl⟩
        have HK9 : Hid (Lx.ok () z = R) := by show _ = _; rw [hdg, if_pos rfl, hz] at HKb; exact HKb
        have hzl : z ≤ t.length := by rw [← hz]; exact skp_le _ _ _ (hk5l)
        have hzp : p ≤ z := by rw [← hz]; have := skp_ge t digitsS (k5); omega
        have C1 : Calls Tryz.prog 45 #[.string ⟨t.toArray⟩, .int .i64 (k5 : Int)] wc fun e w' => (e = .returned (.agg #[.int .i64 (z : Int), .slice none 0 0, .string ⟨#[]⟩, .int .i64 0, .int .i64 0])) ∧ Below wc.heap.size wc w' := by
          refine (rdigits_any t (k5) wc (hk5l) ht).mono ?_
          rintro e w' ⟨⟨v, rfl, hv⟩, hB⟩
          unfold dgF at hv
          rw [hdg, if_pos rfl, hz] at hv
          rw [show v = gotV (z : Int) nilV [] 0 0 from hv]
          exact ⟨rfl, hB⟩
        clear hdg hz
        go_wp2_with fail
        refine C1.mono ?_
        clear C1
        rintro e w3 ⟨rfl, hB3⟩
        have HBx4 : Hid (Bl 50 (w3.alloc (.cells #[.int .i64 (z : Int), .slice none 0 0, .string ⟨#[]⟩, .int .i64 0, .int .i64 0] 50)) w.heap.size (gotC 0 nilV [] 0 0)) := bl_below (bl_below HBox.out hB3) (alloc_below _ _)
        have HB4 : Hid (Below w.heap.size w (w3.alloc (.cells #[.int .i64 (z : Int), .slice none 0 0, .string ⟨#[]⟩, .int .i64 0, .int .i64 0] 50))) := (HB.out.trans (hB3.mono HB.out.size)).trans ((alloc_below _ _).mono (Nat.le_trans HB.out.size hB3.size))
        have HG : Bl 50 (w3.alloc (.cells #[.int .i64 (z : Int), .slice none 0 0, .string ⟨#[]⟩, .int .i64 0, .int .i64 0] 50)) w3.heap.size (gotC (z : Int) nilV [] 0 0) := alloc_bl _ _ _
        have k0 : (w3.alloc (.cells #[.int .i64 (z : Int), .slice none 0 0, .string ⟨#[]⟩, .int .i64 0, .int .i64 0] 50)).cell? ⟨w3.heap.size, 0, none⟩ = some (.int .i64 (z : Int)) := HG.cell 0 (by show 0 < 5; decide)
        have k3 : (w3.alloc (.cells #[.int .i64 (z : Int), .slice none 0 0, .string ⟨#[]⟩, .int .i64 0, .int .i64 0] 50)).cell? ⟨w3.heap.size, 3, none⟩ = some (.int .i64 0) := HG.cell 3 (by show 3 < 5; decide)
        clear HG hB3
        go_wp2
        go_meet
        exact ⟨z, rfl, hzl, hzp, HK9, HBx4, HB4⟩
  case rest =>
  clear HK1 HTb3 HBox HB hk2 hpk2 hpk1
  obtain ⟨k4, rfl, hk4, hpk4, HK1, HBox, HB⟩ := hcut
  have HX : Hid (R = .ok () k4) := HK1.out.symm
  obtain ⟨S, hS⟩ : ∃ S, sgl t p k4 = S := ⟨_, rfl⟩
  have hSl : S.length ≤ t.length := by rw [← hS]; exact sgl_le _ _ _
  have Hsl : Hid ((⟨t.toArray⟩ : ByteArray).extract p k4 = ⟨S.toArray⟩) := by show _ = _; rw [ext_sgl, hS]
  have HS : Hid (sgl t p k4 = S) := hS
  obtain ⟨I, hI⟩ : ∃ I, (Dec.wholeV (Dec.pcut S)).1 = I := ⟨_, rfl⟩
  obtain ⟨F, hF⟩ : ∃ F, (Dec.wholeV (Dec.pcut S)).2 = F := ⟨_, rfl⟩
  have HN : Hid (numN S = ⟨4, [], S, F, I, 0⟩) := by show _ = _; unfold numN whV; rw [hI, hF]
  have HC : Hid (∀ wq, Calls Tryz.prog 46 #[.string ⟨S.toArray⟩] wq fun e w' => e = .returned (.tuple #[.int .i64 I, .bool F]) ∧ Below wq.heap.size wq w') := fun wq => by
    have h := Dec.rwhole_any S wq (by omega)
    rw [hI, hF] at h
    exact h
  clear hI hF hS HK1
  go_wp2_with fail
  rw [Hsl.out]
  refine (HC.out _).mono ?_
  clear HC
  rintro e w3 ⟨rfl, hB3⟩
  have HBox2 : Hid (Bl 50 w3 w.heap.size (gotC 0 nilV [] 0 0)) := bl_below HBox.out hB3
  have HB3 : Hid (Below w.heap.size w w3) := HB.out.trans (hB3.mono HB.out.size)
  have HNe : Hid (w.heap.size < w3.heap.size) := HBox2.out.lt
  clear hB3
  have HBox4 : Hid (Bl 50 (w3.alloc (.cells #[.int .i64 4, .string ⟨#[]⟩, .string ⟨S.toArray⟩, .bool F, .int .i64 I, .int .i64 0] 38)) w.heap.size (gotC 0 nilV [] 0 0)) := bl_below HBox2.out (alloc_below _ _)
  have HB4 : Hid (Below w.heap.size w (w3.alloc (.cells #[.int .i64 4, .string ⟨#[]⟩, .string ⟨S.toArray⟩, .bool F, .int .i64 I, .int .i64 0] 38))) := HB3.out.trans ((alloc_below _ _).mono HB3.out.size)
  obtain ⟨wz, hwz⟩ : ∃ wz, (w3.alloc (.cells #[.int .i64 4, .string ⟨#[]⟩, .string ⟨S.toArray⟩, .bool F, .int .i64 I, .int .i64 0] 38)).setRow w.heap.size (gotC (k4 : Int) (.slice (some ⟨w3.heap.size, 0, none⟩) 1 1) [] 0 0).toArray = wz := ⟨_, rfl⟩
  have HBz : Hid (Bl 50 wz w.heap.size (gotC (k4 : Int) (.slice (some ⟨w3.heap.size, 0, none⟩) 1 1) [] 0 0)) := by rw [← hwz]; exact set_bl HBox4.out
  have Hz : Hid (Below w.heap.size w wz) := by rw [← hwz]; exact setRow_below _ HB4.out (Nat.le_refl _)
  have HWz : Hid ((w3.alloc (.cells #[.int .i64 4, .string ⟨#[]⟩, .string ⟨S.toArray⟩, .bool F, .int .i64 I, .int .i64 0] 38)).setRow w.heap.size (gotC (k4 : Int) (.slice (some ⟨w3.heap.size, 0, none⟩) 1 1) [] 0 0).toArray = wz) := hwz
  have HNo : Hid (NO w.heap.size wz (.slice (some ⟨w3.heap.size, 0, none⟩) 1 1) [numN S]) := by rw [← hwz, HN.out]; exact own_keep (no_one w3 ⟨4, [], S, F, I, 0⟩ w.heap.size (Nat.le_of_lt HNe.out)) (fun g hg => setRow_other _ _ _ _ (by have := HNe.out; have e : w3.heap.size = g := Option.some.inj hg; omega))
  have hgi : (Tryz.prog.info? 50).map (·.size) = some 5 := by kernel_rfl
  clear hwz
  go_wp2_with (first | (rw [Hsl.out]) | (refine wpList_store_row rfl 50 (.tmp 4) (.tmp 97) rfl w.heap.size (gotC (k4 : Int) (.slice (some ⟨w3.heap.size, 0, none⟩) 1 1) [] 0 0).toArray rfl rfl 50 (gotC 0 nilV [] 0 0).toArray HBox4.out hgi rfl (by simp [gotC, Value.oneCell']) ?_; rw [HWz.out]; clear HWz hgi))
  (try simp only [Exit.inBlock, Exit.then])
  exact bodyPost_ret (v := gotV (k4 : Int) (.slice (some ⟨w3.heap.size, 0, none⟩) 1 1) [] 0 0) (results_got rfl _ _ w.heap.size (k4 : Int) (.slice (some ⟨w3.heap.size, 0, none⟩) 1 1) [] 0 0 rfl HBz.out) rfl ⟨⟨_, rfl, by rw [HL.out, HX.out]; exact ⟨_, [], rfl, by rw [HS.out]; exact HNo.out⟩⟩, Hz.out⟩

end Go.Proofs.YtapljedegjiliaaGreatDoor
