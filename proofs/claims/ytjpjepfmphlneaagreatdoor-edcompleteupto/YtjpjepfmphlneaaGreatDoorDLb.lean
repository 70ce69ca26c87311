import Derived.Test.YtjpjepfmphlneaaGreatDoorDLt
namespace Go.Proofs.YtjpjepfmphlneaaGreatDoor
open Go.RowKit

set_option maxRecDepth 100000

set_option maxHeartbeats 8000000 in
theorem bytes_v (x : Value) (V : Nat) (w : World) (hx : Nu w x V) (hV : V < pw 256) : Calls Tryz.prog 30 #[x] w fun e w' => ∃ r, e = .returned r ∧ Owb w' w.heap.size r (leB 32 V) ∧ Below w.heap.size w w' := by
  obtain ⟨i, hi, hz, hsize, hby⟩ := info_u8
  have C := efixed_v x V w hx hV
  obtain ⟨x0, x1, x2, rfl⟩ := hx.shape
  clear hx hV
  go_enter Tryz.func30, Tryz.ntmps30
  go_wp2_with fail
  refine C.mono ?_
  clear C
  rintro e w1 ⟨b, rfl, hO, hB⟩
  obtain ⟨l, Hl⟩ : ∃ l, Hid (l = tobe 32 V) := ⟨_, rfl⟩
  rw [← Hl.out] at hO
  have Hn : Hid (l.length = 32) := (by rw [Hl.out, tobe_length] : l.length = 32)
  obtain ⟨g, cap, cs, rfl, hg, _, hb, hn, ht, _, _⟩ := hO.blk (by rw [Hn.out]; decide)
  have HR : Hid (Rd w1 (some ⟨g, 0, none⟩) l) := rd_of hb ht hn
  have HB1 : Hid (Below w.heap.size w w1) := hB
  rw [Hn.out]
  clear hO hB hg hb hn ht
  go_wp2
  go_loopw [5, 6] (fun s3 s4 wr => ∃ (w' : World) (j : Nat) (v : Value), w' = wr ∧ v = s3 ∧ s4 = .int .i64 (31 - (j : Int)) ∧ j ≤ 32 ∧ Hid (Owb w' w1.heap.size v (l.reverse.take j) ∧ Below w1.heap.size w1 w')) (fun _ s4 _ => (intOf s4 + 1).toNat)
  case atStart => exact ⟨w1, 0, .slice none 0 0, rfl, rfl, by simp, Nat.zero_le _, by rw [List.take_zero]; exact Owb.nil w1 w1.heap.size, Below.refl _ _⟩
  case round =>
    obtain ⟨w', j, v, rfl, rfl, rfl, hj, HI⟩ := hrel
    by_cases hlt : j < 32
    · obtain ⟨k, hk⟩ : ∃ k : Nat, (31 : Int) - (j : Int) = (k : Int) := ⟨31 - j, by omega⟩
      have hkn : k < 32 := by omega
      have hkl : k < l.length := by rw [Hn.out]; exact hkn
      have hjr : j < l.reverse.length := by rw [List.length_reverse, Hn.out]; exact hlt
      obtain ⟨c, hc⟩ : ∃ c, l[k] = c := ⟨_, rfl⟩
      have Hc : Hid (l.reverse.take (j + 1) = l.reverse.take j ++ [c]) := (by
        rw [take_next hjr, List.getElem_reverse, ← hc]
        congr 3
        have := Hn.out
        omega : l.reverse.take (j + 1) = l.reverse.take j ++ [c])
      have ck : w'.cell? ⟨g, k, none⟩ = some (.int .u8 (c.toNat : Int)) := by
        have h1 := HR.out.below HI.out.2 (Nat.le_refl _)
        rcases h1 with h2 | ⟨b, o2, e2, _, hcell⟩
        · subst h2; simp at hkl
        · cases e2
          have h3 := hcell k hkl
          rw [Nat.zero_add] at h3
          rw [h3, List.getD_eq_getElem?_getD, List.getElem?_eq_getElem hkl, Option.getD_some, hc]
          rfl
      have HJ : Hid ((31 : Int) - ((j + 1 : Nat) : Int) = (k : Int) - 1) := (by omega : (31 : Int) - ((j + 1 : Nat) : Int) = (k : Int) - 1)
      have HO : Hid ((l.reverse.take j).length = j) := (by rw [List.length_take]; omega : (l.reverse.take j).length = j)
      rw [hk]
      clear hc hk hkl hjr
      generalize hzc : (c.toNat : Int) = zc at ck
      obtain ⟨lj, Hlj⟩ : ∃ lj, Hid (lj = l.reverse.take j) := ⟨_, rfl⟩
      rw [← Hlj.out] at HO Hc
      have HB2 : Hid (Below w1.heap.size w1 (w'.alloc (.cells #[.int .u8 zc] 5))) := HI.out.2.alloc HI.out.2.size _
      have HO2 : Hid (Owb (w'.alloc (.cells #[.int .u8 zc] 5)) w1.heap.size v lj) := Hlj.out ▸ HI.out.1.below (alloc_below _ _) (Nat.le_refl _)
      have HR2 : Hid (Rd (w'.alloc (.cells #[.int .u8 zc] 5)) (some ⟨w'.heap.size, 0, none⟩) [c]) := hzc ▸ u8_lit w' c
      clear hzc
      go_wp2_with (at_builtin; refine append_rdE rfl (.tmp 18) (.tmp 23) rfl w1.heap.size i hi hz hsize hby v _ lj rfl HO2.out _ 1 1 [c] rfl rfl (fun e => by cases e) HR2.out (by rw [HO.out]; omega) HB2.out.size ?_)
      intro v1 w4 ho4 hg4
      have HF : Hid (Owb w4 w1.heap.size v1 (l.reverse.take (j + 1)) ∧ Below w1.heap.size w1 w4) := ⟨by rw [Hc.out]; unfold Owb; rw [List.length_append, List.map_append]; exact ho4, HB2.out.grown hg4 HB2.out.size (fun q hq => (HO2.out.lt q hq).1)⟩
      clear ho4 hg4 ck
      go_wp2
      refine ⟨⟨_, j + 1, _, rfl, rfl, ?_, by omega, HF.out⟩, by simp [intOf]⟩
      rw [HJ.out]
    · obtain rfl : j = 32 := by omega
      have hO := HI.out.1
      rw [List.take_of_length_le (by rw [List.length_reverse, Hn.out]; decide), Hl.out] at hO
      have HX : Hid (Owb w' w.heap.size v (leB 32 V) ∧ Below w.heap.size w w') := ⟨hO.base HB1.out.size, HB1.out.trans (HI.out.2.mono HB1.out.size)⟩
      obtain ⟨vo, vc, rfl, _⟩ := own_rdE hO
      clear hO
      go_wp2
      go_ret
      exact ⟨_, rfl, HX.out⟩
/-- modn's calls modulo the order. -/
theorem pmL : Pm eL := ⟨by decide +kernel, Nat.lt_of_lt_of_le eL_pw (pw_mono (by decide))⟩
theorem mmulL (a b m : Value) (A B k j : Nat) (w : World) (ha : Nk w a A k) (hb : Nk w b B j) (hm : Nk w m eL 256) (hk : k ≤ 4096) (hj : j ≤ 4096) : Calls Tryz.prog 28 #[a, b, m] w fun e w' => ∃ r, e = .returned (.tuple #[r, .int .i64 0]) ∧ Rk w w' r (A * B % eL) 256 := by
  have C := mmul_v a b m A B eL w ha.1 hb.1 hm.1
  rw [rcode_fine pmL.1 pmL.lt4 ha.2 hb.2 hk hj] at C
  refine C.mono ?_
  rintro e w' h
  rcases h with ⟨h, _⟩ | ⟨_, r, rfl, h⟩
  · exact absurd rfl h
  · exact ⟨r, rfl, h, Nat.lt_trans (Nat.mod_lt _ (by decide +kernel)) eL_pw⟩
theorem maddL (a b m : Value) (A B k j : Nat) (w : World) (ha : Nk w a A k) (hb : Nk w b B j) (hm : Nk w m eL 256) (hk : k ≤ 4096) (hj : j ≤ 4096) : Calls Tryz.prog 29 #[a, b, m] w fun e w' => ∃ r, e = .returned (.tuple #[r, .int .i64 0]) ∧ Rk w w' r ((A + B) % eL) 256 := by
  have C := madd_v a b m A B eL w ha.1 hb.1 hm.1
  rw [rcode_fine pmL.1 pmL.lt4 ha.2 hb.2 hk hj] at C
  refine C.mono ?_
  rintro e w' h
  rcases h with ⟨h, _⟩ | ⟨_, r, rfl, h⟩
  · exact absurd rfl h
  · exact ⟨r, rfl, h, Nat.lt_trans (Nat.mod_lt _ (by decide +kernel)) eL_pw⟩
/-- What the signer makes is taken. -/
theorem comp_rV {a r : Nat} {msg : List UInt8} (k S : Nat) (hk : k = kV (encL (me eP eD r eB)) (encL (me eP eD a eB)) msg) (hS : S = (k * a % eL + r) % eL) : rV (me eP eD a eB) (encL (me eP eD a eB)) msg (encL (me eP eD r eB) ++ leB 32 S) = me eP eD r eB := by
  have hS2 : S < 256 ^ 32 := by rw [hS]; exact Nat.lt_trans (Nat.mod_lt _ (by decide +kernel)) (by decide +kernel)
  have d : (encL (me eP eD r eB) ++ leB 32 S).drop 32 = leB 32 S := List.drop_left' (encL_len _)
  have t : (encL (me eP eD r eB) ++ leB 32 S).take 32 = encL (me eP eD r eB) := List.take_left' (encL_len _)
  have oa := ew.mon onB a
  have or := ew.mon onB r
  unfold rV
  rw [d, t, leN_leB 32 S hS2, ← hk, ew.mng oa, ← ew.mml onB]
  have e1 : me eP eD S eB = se eP eD (me eP eD (k * a) eB) (me eP eD r eB) := by
    rw [hS, mm, ← ew.madd onB]
    refine ew.mcg onB ordB ?_
    rw [Nat.add_mod, Nat.mod_mod, ← Nat.add_mod]
  have ok := ew.mon onB (k * a)
  rw [e1, ew.comm ok or, ew.ass or ok (ew.non ok), ew.neg ok, ew.zr or]
theorem comp_ok {a r : Nat} {msg : List UInt8} (k S : Nat) (hk : k = kV (encL (me eP eD r eB)) (encL (me eP eD a eB)) msg) (hS : S = (k * a % eL + r) % eL) : verC (me eP eD a eB) (encL (me eP eD a eB)) msg (encL (me eP eD r eB) ++ leB 32 S) = 0 := by
  have hL : S < eL := by rw [hS]; exact Nat.mod_lt _ (by decide +kernel)
  have hS2 : S < 256 ^ 32 := Nat.lt_trans hL (by decide +kernel)
  refine if_pos ⟨by rw [List.length_append, encL_len, leB_len], ?_, ?_⟩
  · rw [List.drop_left' (encL_len _), leN_leB 32 S hS2]; exact hL
  · rw [comp_rV k S hk hS, List.take_left' (encL_len _)]
theorem comp_no {a r : Nat} {pub msg : List UInt8} (S : Nat) (hS : S < eL) : verC (me eP eD a eB) pub msg (encL (me eP eD r eB) ++ leB 32 (S + eL)) = 91 := by
  have h2 : S + eL < 256 ^ 32 := Nat.lt_of_lt_of_le (Nat.add_lt_add_right hS eL) (by decide +kernel)
  refine if_neg fun h => ?_
  have h3 := h.2.1
  rw [List.drop_left' (encL_len _), leN_leB 32 _ h2] at h3
  omega
end Go.Proofs.YtjpjepfmphlneaaGreatDoor
