import Derived.Test.YtefpjjonmoofpaaDoorCompM
namespace Go.Proofs.YtefpjjonmoofpaaDoor
open Go.RowKit

theorem klst_lt (V : Nat) : V < 256 ^ lst V := by
  have h := bl_lt V
  have h2 : 2 ^ bl V ≤ 2 ^ (8 * lst V) := Nat.pow_le_pow_right (by decide) (by unfold lst; omega)
  rw [Nat.pow_mul, show (2 : Nat) ^ 8 = 256 by rfl] at h2
  omega

set_option maxRecDepth 100000 in
set_option maxHeartbeats 16000000 in
theorem comp_core (h : Int) (a1 : Option Addr) (c1 : Nat) (m : List UInt8) (v : Value) (S : Nat) (size flip : Int) (W : World) (T : Sha.Tb W) (I : Inf W) (r1 : Rd W a1 m) (hv : Nu W v S)
    (k1 : m.length ≤ c1) (k1' : c1 ≤ 9223372036854775807) (l1 : m.length ≤ 3000000) :
    Calls Tryd.prog 7 #[.int .i64 h, .slice a1 m.length c1, v, .int .i64 size, .int .i64 flip] W fun x w' => x = .returned (.bool true) ∧ Below W.heap.size W w' := by
  have HT : Hid (Sha.Tb W) := T
  have HI : Hid (Inf W) := I
  have H1 : Hid (Rd W a1 m) := r1
  have HS : Hid (Nu W v S) := hv
  have CA := alive9 W T I
  clear T I r1 hv
  go_enter Tryd.func7, Tryd.ntmps7
  go_wp2_with fail
  refine CA.mono ?_
  rintro x w1 ⟨rfl, hb1⟩
  clear CA
  have B1 : Hid (Below W.heap.size W w1) := hb1
  clear hb1
  have CN := lknown_any h w1
  by_cases hh : isHB h = true
  case neg =>
    have hh2 : isHB h = false := by simpa using hh
    rw [hh2] at CN
    clear hh hh2
    go_wp2_with fail
    refine CN.mono ?_
    rintro x w' ⟨rfl, rfl⟩
    clear CN
    go_wp2
    go_ret
    exact ⟨rfl, B1.out⟩
  rw [hh] at CN
  have HH : Hid (isHB h = true) := hh
  clear hh
  by_cases hz1 : size < 256
  · have d1 : decide (size < 256) = true := decide_eq_true hz1
    clear hz1
    go_wp2_with fail
    refine CN.mono ?_
    rintro x w' ⟨rfl, rfl⟩
    clear CN
    go_wp2
    go_ret
    exact ⟨rfl, B1.out⟩
  have d1 : decide (size < 256) = false := decide_eq_false hz1
  by_cases hz2 : size > 512
  · have d2 : decide (size > 512) = true := decide_eq_true hz2
    have d2' : decide (512 < size) = true := decide_eq_true hz2
    clear hz1 hz2
    go_wp2_with fail
    refine CN.mono ?_
    rintro x w' ⟨rfl, rfl⟩
    clear CN
    go_wp2
    go_ret
    exact ⟨rfl, B1.out⟩
  have d2 : decide (size > 512) = false := decide_eq_false hz2
  have d2' : decide (512 < size) = false := decide_eq_false hz2
  obtain ⟨k, rfl⟩ : ∃ k : Nat, size = (k : Int) := ⟨size.toNat, by omega⟩
  have hk1 : 256 ≤ k := by omega
  have hk2 : k ≤ 512 := by omega
  have CB := vbits v S _ w1 (HS.out.below B1.out (Nat.le_refl _)) (by omega)
  by_cases hbl : bl S > 1400
  · have d3 : decide (((bl S : Nat) : Int) > 1400) = true := decide_eq_true (by omega)
    have d3' : decide (1400 < bl S) = true := decide_eq_true (by omega)
    generalize bl S = bs at *
    clear hz1 hz2 hbl
    go_wp2_with fail
    refine CN.mono ?_
    rintro x w' ⟨rfl, rfl⟩
    clear CN
    go_wp2_with fail
    refine CB.mono ?_
    rintro x w' ⟨rfl, rfl⟩
    clear CB
    go_wp2
    go_ret
    exact ⟨rfl, B1.out⟩
  have d3 : decide (((bl S : Nat) : Int) > 1400) = false := decide_eq_false (by omega)
  have d3' : decide (1400 < bl S) = false := decide_eq_false (by omega)
  have HBL : Hid (bl S ≤ 1400) := by show _ ≤ _; omega
  have C2 := encode_any h a1 c1 m (k : Int) w1 (HT.out.below B1.out) (HI.out.below B1.out) (H1.out.below B1.out (Nat.le_refl _)) k1 k1' (by omega)
  have hec := ecode_ok h k HH.out hk1 hk2
  have hev : encV h m (k : Int) = emV h m k := by unfold encV; rw [hec, if_pos rfl, Int.toNat_natCast]
  have hml := emV_length h m k (by have := siz_le64 h; omega)
  rw [hec, hev] at C2
  clear hec hev hz1 hz2 hbl
  generalize hbs : bl S = bs at CB d3 d3'
  clear hbs
  go_wp2_with fail
  refine CN.mono ?_
  rintro x w' ⟨rfl, rfl⟩
  clear CN
  go_wp2_with fail
  refine CB.mono ?_
  rintro x w' ⟨rfl, rfl⟩
  clear CB
  go_wp2_with fail
  refine C2.mono ?_
  rintro x w2 ⟨rM, rfl, hM⟩
  clear C2
  have B2 : Hid (Below W.heap.size W w2) := B1.out.trans (hM.bel.mono B1.out.size)
  obtain ⟨aM, cM, eM, hMr⟩ : ∃ a c, rM = .slice a k c ∧ Rd w2 a (emV h m k) := by
    obtain ⟨a, c, e, _, hr⟩ := hM.own.nb
    rw [hml] at e
    exact ⟨a, c, e, hr⟩
  subst eM
  have C3 := fromb aM cM (emV h m k) w2 hMr (by rw [hml]; omega)
  rw [hml] at C3
  obtain ⟨M, eMv⟩ : ∃ M, bv (emV h m k) = M := ⟨_, rfl⟩
  have HMv : Hid (bv (emV h m k) = M) := eMv
  rw [eMv] at C3
  clear hM hMr B1 eMv hml d1 d2 d2' d3 d3'
  go_wp2_with fail
  refine C3.mono ?_
  rintro x w3 ⟨rm, rfl, hm3⟩
  clear C3
  have B3 : Hid (Below W.heap.size W w3) := B2.out.trans (hm3.bel.mono B2.out.size)
  have hb3 := bl_mul3 S HBL.out
  have C4 := mul_v v v S S w3 (HS.out.below B3.out (Nat.le_refl _)) (HS.out.below B3.out (Nat.le_refl _)) (dg_bl _ _ (by omega))
  have HM3 : Hid (Nu w3 rm M) := hm3.nu
  clear hm3 B2 hb3
  go_wp2_with fail
  refine C4.mono ?_
  rintro x w4 ⟨rq, rfl, hq4⟩
  clear C4
  have B4 : Hid (Below W.heap.size W w4) := B3.out.trans (hq4.bel.mono B3.out.size)
  have HM4 : Hid (Nu w4 rm M) := HM3.out.below hq4.bel (Nat.le_refl _)
  have hb3 := bl_mul3 S HBL.out
  have C5 := mul_v rq v (S * S) S w4 hq4.nu (HS.out.below B4.out (Nat.le_refl _)) (dg_bl _ _ (by omega))
  clear hq4 B3 HM3 hb3
  go_wp2_with fail
  refine C5.mono ?_
  rintro x w5 ⟨rc, rfl, hc5⟩
  clear C5
  have B5 : Hid (Below W.heap.size W w5) := B4.out.trans (hc5.bel.mono B4.out.size)
  have HM5 : Hid (Nu w5 rm M) := HM4.out.below hc5.bel (Nat.le_refl _)
  have C6 := sub_v rc rm (S * S * S) M w5 hc5.nu HM5.out
  obtain ⟨N, HN⟩ : ∃ N, Hid (N = S * S * S - M) := ⟨_, rfl⟩
  rw [← HN.out] at C6
  clear hc5 B4 HM4
  go_wp2_with fail
  refine C6.mono ?_
  rintro x w6 ⟨rn, rfl, hn6⟩
  clear C6
  have B6 : Hid (Below W.heap.size W w6) := B5.out.trans (hn6.bel.mono B5.out.size)
  have HM6 : Hid (Nu w6 rm M) := HM5.out.below hn6.bel (Nat.le_refl _)
  have HN6 : Hid (Nu w6 rn N) := hn6.nu
  clear hn6 B5 HM5
  by_cases hok : M ≤ S * S * S
  case neg =>
    rw [decide_eq_false hok]
    clear hok
    go_wp2
    go_ret
    exact ⟨rfl, B6.out⟩
  rw [decide_eq_true hok]
  have C7 := vcmp rn rm _ _ _ _ w6 HN6.out HM6.out (by omega) (by omega)
  have d7 := cmp3_le N M
  have HOK : Hid (M ≤ S * S * S) := hok
  clear hok
  generalize cmp3 ((N : Nat) : Int) ((M : Nat) : Int) = q7 at *
  go_wp2_with fail
  refine C7.mono ?_
  rintro x w7 ⟨rfl, z7, hw7⟩
  clear C7
  have B7 : Hid (Below W.heap.size W w7) := by rw [hw7]; exact below_drewN B6.out z7
  have HM7 : Hid (Nu w7 rm M) := by rw [hw7]; exact HM6.out
  have HN7 : Hid (Nu w7 rn N) := by rw [hw7]; exact HN6.out
  clear hw7 B6 HM6 HN6
  by_cases hnm : N ≤ M
  · rw [decide_eq_true hnm] at d7
    clear hnm
    go_wp2
    go_ret
    exact ⟨rfl, B7.out⟩
  rw [decide_eq_false hnm] at d7
  have HNM : Hid (M < N) := by show _ < _; omega
  clear hnm
  have C7 := vcmp rn v _ _ _ _ w7 HN7.out (HS.out.below B7.out (Nat.le_refl _)) (by omega) (by omega)
  have e7 := cmp3_le N S
  generalize cmp3 ((N : Nat) : Int) ((S : Nat) : Int) = y7 at *
  go_wp2_with fail
  refine C7.mono ?_
  rintro x w7b ⟨rfl, z7b, hw7⟩
  clear C7
  have B7b : Hid (Below W.heap.size W w7b) := by rw [hw7]; exact below_drewN B7.out z7b
  have HM7b : Hid (Nu w7b rm M) := by rw [hw7]; exact HM7.out
  have HN7b : Hid (Nu w7b rn N) := by rw [hw7]; exact HN7.out
  clear hw7 B7 HM7 HN7
  by_cases hns : N ≤ S
  · rw [decide_eq_true hns] at e7
    clear hns
    go_wp2
    go_ret
    exact ⟨rfl, B7b.out⟩
  rw [decide_eq_false hns] at e7
  have HNS : Hid (S < N) := by show _ < _; omega
  clear hns
  have C8 := bytes_v rn N w7b HN7b.out
  go_wp2_with fail
  refine C8.mono ?_
  rintro x w8 ⟨rb, rfl, hb8⟩
  clear C8
  have B8 : Hid (Below W.heap.size W w8) := B7b.out.trans (hb8.bel.mono B7b.out.size)
  have HM8 : Hid (Nu w8 rm M) := HM7b.out.below hb8.bel (Nat.le_refl _)
  have HN8 : Hid (Nu w8 rn N) := HN7b.out.below hb8.bel (Nat.le_refl _)
  obtain ⟨mod, hmod⟩ : ∃ l, tobe (lst N) N = l := ⟨_, rfl⟩
  have HMv2 : Hid (bv mod = N) := by show _ = _; rw [← hmod, kbv_tobe, Nat.mod_eq_of_lt (klst_lt N)]
  rw [hmod] at hb8
  obtain ⟨ab, cb, eb, hbr⟩ : ∃ a c, rb = .slice a mod.length c ∧ Hid (Rd w8 a mod) := by obtain ⟨a, c, e, _, hr⟩ := hb8.own.nb; exact ⟨a, c, e, hr⟩
  subst eb
  have hSk : S < 256 ^ k := pow_lt256 S k hk1 HBL.out
  have C9 := fixed_v v S k w8 (HS.out.below B8.out (Nat.le_refl _)) hSk (by omega)
  have HSk : Hid (S < 256 ^ k) := hSk
  clear hb8 B7b HM7b HN7b hmod hSk d7 e7
  go_wp2_with fail
  refine C9.mono ?_
  rintro x w9 ⟨rs, rfl, hs9⟩
  clear C9
  have K9 : Hid (Below w8.heap.size w8 w9) := hs9.bel
  have hsl := tobe_length k S
  obtain ⟨gS, cS, eS, hgS, hSown⟩ : ∃ g c, rs = .slice (some ⟨g, 0, none⟩) k c ∧ w8.heap.size ≤ g ∧ Hid (∃ r, Bl 5 w9 g ((tobe k S).map B ++ r)) := by
    rcases hs9.own.2 with ⟨_, h0⟩ | ⟨g, cap, cur, e, hg, hh9, hnn, _, _, ht⟩
    · rw [hsl] at h0; omega
    · rw [hsl] at e
      refine ⟨g, cap, e, hg, cur.toList.drop ((tobe k S).length * 1), ?_⟩
      unfold Bl
      rw [hh9, ← ht, List.take_append_drop]
  subst eS
  clear hs9 hsl
  by_cases hlen : mod.length = k
  case neg =>
    have dl : ((mod.length : Int) != (k : Int)) = true := by simp; omega
    have HZ : Hid (Below W.heap.size W w9) := B8.out.trans (K9.out.mono B8.out.size)
    clear hlen
    go_wp2
    go_ret
    exact ⟨rfl, HZ.out⟩
  have dl : ((mod.length : Int) != (k : Int)) = false := by rw [hlen]; simp
  -- the key
  have b10 := alloc_below w9 (.cells #[.int .u8 3] 5)
  have K10 : Hid (Below w8.heap.size w8 (w9.alloc (.cells #[.int .u8 3] 5))) := K9.out.trans (b10.mono K9.out.size)
  have HS10 : Hid (∃ r, Bl 5 (w9.alloc (.cells #[.int .u8 3] 5)) gS ((tobe k S).map B ++ r)) := by obtain ⟨r, hb⟩ := hSown.out; exact ⟨r, hb.below b10 hb.lt⟩
  have CK := key_any ab (some ⟨w9.heap.size, 0, none⟩) cb 1 mod [3] (w9.alloc (.cells #[.int .u8 3] 5)) (hbr.out.below K10.out (Nat.le_refl _)) (rd_lit (w := w9) [3]) (by omega) (by simp)
  have Hlen : Hid (mod.length = k) := hlen
  clear b10 K9 hSown hlen
  by_cases hkey : keyC mod [3] = 0
  case neg =>
    have dk : (keyC mod [3] != 0) = true := by simpa using hkey
    generalize keyC mod [3] = kc at *
    have HZ : Hid (Below W.heap.size W (w9.alloc (.cells #[.int .u8 3] 5))) := B8.out.trans (K10.out.mono B8.out.size)
    clear hkey
    go_wp2_with fail
    refine CK.mono ?_
    rintro x w' ⟨rfl, rfl⟩
    clear CK
    go_wp2
    go_ret
    exact ⟨rfl, HZ.out⟩
  have dk : (keyC mod [3] != 0) = false := by rw [hkey]; rfl
  have HKey : Hid (keyC mod [3] = 0) := hkey
  generalize keyC mod [3] = kc at CK dk
  clear hkey
  go_wp2_with fail
  refine CK.mono ?_
  rintro x w10 ⟨rfl, hw10⟩
  clear CK
  have K10' : Hid (Below w8.heap.size w8 w10) := by rw [hw10]; exact K10.out
  have HS10' : Hid (∃ r, Bl 5 w10 gS ((tobe k S).map B ++ r)) := by rw [hw10]; exact HS10.out
  clear hw10 K10 HS10
  -- it holds
  have b11 := alloc_below w10 (.cells #[.int .u8 3] 5)
  have K11 := K10'.out.trans (b11.mono K10'.out.size)
  have hSr : Rd (w10.alloc (.cells #[.int .u8 3] 5)) (some ⟨gS, 0, none⟩) (tobe k S) := by
    obtain ⟨r, hb⟩ := HS10'.out
    have hb2 := hb.below b11 hb.lt
    refine .inr ⟨gS, 0, rfl, hb2.lt, fun j hj => ?_⟩
    rw [Nat.zero_add, hb2.cell j (by simp; omega), List.getElem_append_left (by simp; omega), List.getElem_map, List.getD_eq_getElem?_getD, List.getElem?_eq_getElem hj]
    rfl
  have W11 := B8.out.trans (K11.mono B8.out.size)
  have CV := verify_any h ab (some ⟨w10.heap.size, 0, none⟩) a1 (some ⟨gS, 0, none⟩) cb 1 c1 cS mod [3] m (tobe k S) (w10.alloc (.cells #[.int .u8 3] 5)) (HT.out.below W11) (HI.out.below W11) (hbr.out.below K11 (Nat.le_refl _)) (rd_lit (w := w10) [3]) (H1.out.below W11 (Nat.le_refl _)) hSr k1 k1' (by have := Hlen.out; omega) (by simp) (by omega) (by rw [tobe_length]; omega)
  have hv0 : verV h mod [3] m (tobe k S) = 0 := by
    have e := verV_key (m := m) (s := tobe k S) HH.out HKey.out (by rw [tobe_length, Hlen.out])
    rw [kbv_tobe, Nat.mod_eq_of_lt HSk.out, HMv2.out, bv_one, Hlen.out, HMv.out, decide_eq_true HNS.out, show (3 : UInt8).toNat = 3 from rfl, cube_mod S M N HN.out HOK.out HNM.out, decide_eq_true rfl] at e
    simpa using e
  rw [hv0, tobe_length] at CV
  have HS11 : Hid (∃ r, Bl 5 (w10.alloc (.cells #[.int .u8 3] 5)) gS ((tobe k S).map B ++ r)) := by obtain ⟨r, hb⟩ := HS10'.out; exact ⟨r, hb.below b11 hb.lt⟩
  have K11h : Hid (Below w8.heap.size w8 (w10.alloc (.cells #[.int .u8 3] 5))) := K11
  clear hv0 W11 hSr K11 b11 K10' HS10'
  go_wp2_with fail
  refine CV.mono ?_
  rintro x w12 ⟨rfl, hb12⟩
  clear CV
  have K12 : Hid (Below w8.heap.size w8 w12) := K11h.out.trans (hb12.mono K11h.out.size)
  have HS12 : Hid (∃ r, Bl 5 w12 gS ((tobe k S).map B ++ r)) := by obtain ⟨r, hb⟩ := HS11.out; exact ⟨r, hb.below hb12 hb.lt⟩
  clear hb12 K11h HS11 dl dk
  -- the flip
  by_cases hf1 : flip < 0
  · have f1 : decide (flip < 0) = true := decide_eq_true hf1
    have HZ : Hid (Below W.heap.size W w12) := B8.out.trans (K12.out.mono B8.out.size)
    clear hf1
    go_wp2
    go_ret
    exact ⟨rfl, HZ.out⟩
  have f1 : decide (flip < 0) = false := decide_eq_false hf1
  by_cases hf2 : flip ≥ 8 * (k : Int)
  · have f2 : decide (flip ≥ 8 * (k : Int)) = true := decide_eq_true hf2
    have f2' : decide (8 * (k : Int) ≤ flip) = true := decide_eq_true hf2
    have HZ : Hid (Below W.heap.size W w12) := B8.out.trans (K12.out.mono B8.out.size)
    clear hf1 hf2
    go_wp2
    go_ret
    exact ⟨rfl, HZ.out⟩
  have f2 : decide (flip ≥ 8 * (k : Int)) = false := decide_eq_false hf2
  have f2' : decide (8 * (k : Int) ≤ flip) = false := decide_eq_false hf2
  obtain ⟨f, rfl⟩ : ∃ f : Nat, flip = (f : Int) := ⟨flip.toNat, by omega⟩
  obtain ⟨q, hq⟩ : ∃ q, f / 8 = q := ⟨_, rfl⟩
  obtain ⟨b, hb⟩ : ∃ b, f % 8 = b := ⟨_, rfl⟩
  have hqk : q < k := by omega
  have hb8 : b < 8 := by omega
  have e1 : Int.tdiv (f : Int) 8 = (q : Int) := by rw [Int.tdiv_eq_ediv_of_nonneg (by omega)]; omega
  have e2 : (f : Int) / 8 = (q : Int) := by omega
  have e3 : Int.tmod (f : Int) 8 = (b : Int) := by rw [Int.tmod_eq_emod_of_nonneg (by omega)]; omega
  have e4 : (f : Int) % 8 = (b : Int) := by omega
  clear hq hb hf1 hf2
  obtain ⟨r0, hbl0⟩ := HS12.out
  have gq := hbl0.cell q (by simp [tobe_length]; omega)
  have fq := hbl0.frozen q
  rw [List.getElem_append_left (by simp [tobe_length]; omega), List.getElem_map] at gq
  obtain ⟨x0, hx0⟩ : ∃ x0, (tobe k S)[q]'(by rw [tobe_length]; exact hqk) = x0 := ⟨_, rfl⟩
  rw [hx0] at gq
  unfold B at gq
  clear hx0
  obtain ⟨y0, hy1⟩ := xor_any x0 b hb8
  have HY : Hid (bits .xor .u8 (x0.toNat : Int) ((2 : Int) ^ b % 256) = (y0.toNat : Int)) := hy1
  have HBL0 : Hid (Bl 5 w12 gS ((tobe k S).map B ++ r0)) := hbl0
  clear hbl0 hy1
  go_wp2
  go_region
  rw [HY.out]
  have hbl3 := row_set HBL0.out (q := q) (by rw [tobe_length]; exact hqk) y0
  obtain ⟨sig, hsig⟩ : ∃ l, (tobe k S).set q y0 = l := ⟨_, rfl⟩
  have hsl : sig.length = k := by rw [← hsig, List.length_set, tobe_length]
  rw [hsig] at hbl3
  obtain ⟨w13, hw13⟩ : ∃ w, (w12.setCell ⟨gS, q, none⟩ (.int .u8 (y0.toNat : Int))).drew = w := ⟨_, rfl⟩
  have HS13 : Hid (Bl 5 w13 gS (sig.map B ++ r0)) := by rw [← hw13]; exact hbl3
  have K13 : Hid (Below w8.heap.size w8 w13) := by rw [← hw13]; exact Below.drew (K12.out.setCell hgS _)
  have Hsl : Hid (sig.length = k) := hsl
  rw [hw13]
  clear hw13 hbl3 hsig HBL0 HS12 K12 HY gq fq e1 e2 e3 e4 f1 f2 f2' hqk hb8
  have CF := fromb (some ⟨gS, 0, none⟩) cS sig w13 (row_rd HS13.out) (by omega)
  rw [hsl] at CF
  clear hsl
  go_wp2_with fail
  refine CF.mono ?_
  rintro x w14 ⟨ro, rfl, ho14⟩
  clear CF
  have K14 : Hid (Below w8.heap.size w8 w14) := K13.out.trans (ho14.bel.mono K13.out.size)
  have HS14 : Hid (Bl 5 w14 gS (sig.map B ++ r0)) := HS13.out.below ho14.bel HS13.out.lt
  have b15 := alloc_below w14 (.cells #[.int .u32 3] 51)
  have K15 := K14.out.trans (b15.mono K14.out.size)
  have CX := mexp_v ro (.slice (some ⟨w14.heap.size, 0, none⟩) 1 1) rn (bv sig) 3 N (w14.alloc (.cells #[.int .u32 3] 51)) (ho14.nu.below b15 (Nat.le_refl _)) (nm3 w14) (HN8.out.below K15 (Nat.le_refl _))
  have kp := key_parts HKey.out
  have hrc : rcode N (Lg (bv sig) || Lg 3) = 0 := by
    have h1 : Lg (bv sig) = false := Lg_lt (Nat.le_refl _) (by rw [Hsl.out]; exact hk2)
    have h2 : Lg 3 = false := Lg_lt (l := [3]) (by rw [bv_one]; decide) (by simp)
    have h3 := kp.nl
    have h4 := kp.two
    rw [HMv2.out] at h3 h4
    unfold rcode
    rw [h1, h2, h3, if_neg (by simp), if_neg (by omega)]
  rw [hrc] at CX
  have HO14 : Hid (Nu (w14.alloc (.cells #[.int .u32 3] 51)) ro (bv sig)) := ho14.nu.below b15 (Nat.le_refl _)
  have HS15 : Hid (Bl 5 (w14.alloc (.cells #[.int .u32 3] 51)) gS (sig.map B ++ r0)) := HS14.out.below b15 HS14.out.lt
  have K15h : Hid (Below w8.heap.size w8 (w14.alloc (.cells #[.int .u32 3] 51))) := K15
  clear ho14 b15 K15 kp hrc HS14 K14 HS13 K13
  go_wp2_with fail
  refine CX.mono ?_
  intro x w16 hA
  clear CX
  obtain ⟨rp, rfl, hp16⟩ := (hA.resolve_left (fun hx => hx.1 rfl)).2
  clear hA
  have K16 : Hid (Below w8.heap.size w8 w16) := K15h.out.trans (hp16.bel.mono K15h.out.size)
  have HS16 : Hid (Bl 5 w16 gS (sig.map B ++ r0)) := HS15.out.below hp16.bel HS15.out.lt
  have HO16 : Hid (Nu w16 ro (bv sig)) := HO14.out.below hp16.bel (Nat.le_refl _)
  have HP16 : Hid (Nu w16 rp (bv sig ^ 3 % N)) := hp16.nu
  clear hp16 K15h HS15 HO14
  obtain ⟨O, hO⟩ : ∃ O, bv sig = O := ⟨_, rfl⟩
  have HOv : Hid (bv sig = O) := hO
  rw [hO] at HO16 HP16
  clear hO
  obtain ⟨P, hP⟩ : ∃ P, O ^ 3 % N = P := ⟨_, rfl⟩
  have HPv : Hid (O ^ 3 % N = P) := hP
  rw [hP] at HP16
  clear hP
  have CC := vcmp ro rn _ _ _ _ w16 HO16.out (HN8.out.below K16.out (Nat.le_refl _)) (by omega) (by omega)
  have dC := kcmp_lt O N
  generalize cmp3 ((O : Nat) : Int) ((N : Nat) : Int) = yC at *
  go_wp2_with fail
  refine CC.mono ?_
  rintro x w17 ⟨rfl, z17, hw17⟩
  clear CC
  have K17 : Hid (Below w8.heap.size w8 w17) := by rw [hw17]; exact below_drewN K16.out z17
  have HS17 : Hid (Bl 5 w17 gS (sig.map B ++ r0)) := by rw [hw17]; exact HS16.out
  have HP17 : Hid (Nu w17 rp P) := by rw [hw17]; exact HP16.out
  clear hw17 K16 HS16 HP16 HO16
  -- the last Verify, wherever it is called
  have HLast : Hid (∀ w : World, Below w8.heap.size w8 w → Bl 5 w gS (sig.map B ++ r0) → Calls Tryd.prog 18 #[.int .i64 h, .slice ab mod.length cb, .slice (some ⟨w.heap.size, 0, none⟩) 1 1, .slice a1 m.length c1, .slice (some ⟨gS, 0, none⟩) k cS] (w.alloc (.cells #[.int .u8 3] 5)) fun x w' => ∃ V : Int, x = .returned (.int .i64 V) ∧ (V == 0) = (decide (O < N) && decide (P = M)) ∧ Below W.heap.size W w') := fun w hK hB => by
    have b := alloc_below w (.cells #[.int .u8 3] 5)
    have K := hK.trans (b.mono hK.size)
    have WW := B8.out.trans (K.mono B8.out.size)
    have C := verify_any h ab (some ⟨w.heap.size, 0, none⟩) a1 (some ⟨gS, 0, none⟩) cb 1 c1 cS mod [3] m sig (w.alloc (.cells #[.int .u8 3] 5)) (HT.out.below WW) (HI.out.below WW) (hbr.out.below K (Nat.le_refl _)) (rd_lit (w := w) [3]) (H1.out.below WW (Nat.le_refl _)) (row_rd (hB.below b hB.lt)) k1 k1' (by have := Hlen.out; omega) (by simp) (by omega) (by have := Hsl.out; omega)
    rw [Hsl.out] at C
    refine C.mono ?_
    rintro x w' ⟨rfl, hb'⟩
    refine ⟨_, rfl, ?_, WW.trans (hb'.mono WW.size)⟩
    have e := verV_key (m := m) (s := sig) HH.out HKey.out (by rw [Hsl.out, Hlen.out])
    rw [HOv.out, HMv2.out, bv_one, Hlen.out, HMv.out, show (3 : UInt8).toNat = 3 from rfl, HPv.out] at e
    exact e
  clear HT HI H1 HS HH HBL HMv HN HOK HNM HNS HMv2 hbr HSk Hlen HKey Hsl HOv HPv B8 HN8
  by_cases hON : O < N
  · rw [decide_eq_true hON] at dC
    have CD := vcmp rp rm _ _ _ _ w17 HP17.out (HM8.out.below K17.out (Nat.le_refl _)) (by omega) (by omega)
    have dD := kcmp_eq0 P M
    generalize cmp3 ((P : Nat) : Int) ((M : Nat) : Int) = yD at *
    go_wp2_with fail
    refine CD.mono ?_
    rintro x w18 ⟨rfl, z18, hw18⟩
    clear CD
    have CL := HLast.out w18 (by rw [hw18]; exact below_drewN K17.out z18) (by rw [hw18]; exact HS17.out)
    clear hw18 HLast K17 HS17 HP17 HM8
    rw [decide_eq_true hON] at CL
    by_cases hPM : P = M
    · rw [decide_eq_true hPM] at CL dD
      clear hPM hON
      go_wp2_with fail
      refine CL.mono ?_
      rintro x w19 ⟨V, rfl, dV, hb19⟩
      clear CL
      have HZ : Hid (Below W.heap.size W w19) := hb19
      have dV1 : (V == 0) = true := dV
      clear hb19 dV
      go_wp2
      go_ret
      exact ⟨rfl, HZ.out⟩
    · rw [decide_eq_false hPM] at CL dD
      clear hPM hON
      go_wp2_with fail
      refine CL.mono ?_
      rintro x w19 ⟨V, rfl, dV, hb19⟩
      clear CL
      have HZ : Hid (Below W.heap.size W w19) := hb19
      have dV1 : (V == 0) = false := dV
      clear hb19 dV
      go_wp2
      go_ret
      exact ⟨rfl, HZ.out⟩
  · rw [decide_eq_false hON] at dC
    have CL := HLast.out w17 K17.out HS17.out
    clear HLast K17 HS17 HP17 HM8
    rw [decide_eq_false hON] at CL
    clear hON
    go_wp2_with fail
    refine CL.mono ?_
    rintro x w19 ⟨V, rfl, dV, hb19⟩
    clear CL
    have HZ : Hid (Below W.heap.size W w19) := hb19
    have dV1 : (V == 0) = false := dV
    clear hb19 dV
    go_wp2
    go_ret
    exact ⟨rfl, HZ.out⟩

end Go.Proofs.YtefpjjonmoofpaaDoor
