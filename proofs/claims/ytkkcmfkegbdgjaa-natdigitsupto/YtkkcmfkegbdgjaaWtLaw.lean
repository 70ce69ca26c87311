import Derived.Test.YtkkcmfkegbdgjaaRkLaw
import Derived.Test.YtkkcmfkegbdgjaaRefX
namespace Go.Proofs.Ytkkcmfkegbdgjaa
open Go.RowKit

theorem take_iff {l1 l2 : List UInt8} {k : Nat} (h1 : k < l1.length) (h2 : k < l2.length) (h : l1.take k = l2.take k) : l1[k] = l2[k] ↔ l1.take (k + 1) = l2.take (k + 1) := by
  rw [List.take_succ_eq_append_getElem h1, List.take_succ_eq_append_getElem h2, h]
  constructor
  · intro e; rw [e]
  · intro e
    have := List.append_cancel_left e
    exact (List.cons.inj this).1

theorem ne_byte (x y : UInt8) : ((x.toNat : Int) != (y.toNat : Int)) = !decide (x = y) := by
  by_cases h : x = y
  · subst h; simp
  · have : x.toNat ≠ y.toNat := fun e => h (UInt8.toNat_inj.1 e)
    simp [h]; omega

set_option maxHeartbeats 1000000 in
theorem lsb_any (a1 a2 : Option Addr) (c1 c2 : Nat) (l1 l2 : List UInt8) (w : World) (hr1 : Rd w a1 l1) (hr2 : Rd w a2 l2) (hlen : l1.length ≤ 281474976710656) :
    Calls Try.prog 27 #[.slice a1 l1.length c1, .slice a2 l2.length c2] w fun e w' => e = .returned (.bool (decide (l1 = l2))) ∧ ∃ q, w' = w.drewN q := by
  by_cases hl : l1.length = l2.length
  · have hl' : ((l1.length : Int) != (l2.length : Int)) = false := by simp; omega
    have Hl : Hid (l1.length = l2.length) := hl
    clear hl
    go_enter Try.func27, Try.ntmps27
    go_wp2
    go_loopw [5] (fun s wr => ∃ k q : Nat, k ≤ l1.length ∧ s = .int .i64 k ∧ Hid (l1.take k = l2.take k) ∧ wr = w.drewN q) (fun s _ => l1.length - (intOf s).toNat)
    case atStart => exact ⟨0, 0, Nat.zero_le _, rfl, rfl, rfl⟩
    case round =>
      obtain ⟨k, q, hk, rfl, Ht, rfl⟩ := hrel
      by_cases hlt : k < l1.length
      · rcases hr1 with hr1 | ⟨b1, o1, rfl, hb1, hc1⟩
        · subst hr1; simp at hlt
        rcases hr2 with hr2 | ⟨b2, o2, rfl, hb2, hc2⟩
        · subst hr2; have h := Hl.out; rw [List.length_nil] at h; omega
        have hlt2 : k < l2.length := by have := Hl.out; omega
        have g1 := hc1 k hlt
        have g2 := hc2 k hlt2
        rw [List.getD_eq_getElem?_getD, List.getElem?_eq_getElem hlt, Option.getD_some] at g1
        rw [List.getD_eq_getElem?_getD, List.getElem?_eq_getElem hlt2, Option.getD_some] at g2
        have Hx : Hid (l1[k] = l2[k] ↔ l1.take (k + 1) = l2.take (k + 1)) := take_iff hlt hlt2 Ht.out
        unfold B at g1 g2
        clear hc1 hc2
        generalize l1[k] = x at g1 Hx
        generalize l2[k] = y at g2 Hx
        have hltI : (k : Int) < (l2.length : Int) := by omega
        have hne := ne_byte x y
        by_cases hxy : x = y
        · have hd : ((x.toNat : Int) != (y.toNat : Int)) = false := by rw [hne]; simp [hxy]
          have Ht1 : Hid (l1.take (k + 1) = l2.take (k + 1)) := Hx.out.1 hxy
          clear hne hxy Hx
          go_wp2
          go_quiet (fail)
          go_wp2
          go_roundw
          case rel => exact ⟨k + 1, _, by omega, by go_num, Ht1, rfl⟩
          case measure => simp [intOf]; omega
        · have hd : ((x.toNat : Int) != (y.toNat : Int)) = true := by rw [hne]; simp [hxy]
          have Hf : Hid (decide (l1 = l2) = false) := by
            show decide (l1 = l2) = false
            rw [decide_eq_false_iff_not]
            intro e
            exact hxy (Hx.out.2 (by rw [e]))
          clear hne hxy Hx
          go_wp2
          go_quiet (fail)
          go_wp2
          go_ret
          rw [Hf.out]
          exact ⟨rfl, _, World.drewN_drewN _ _ _⟩
      · have He : Hid (decide (l1 = l2) = true) := by
          show decide (l1 = l2) = true
          have h1 := Ht.out
          have h2 := Hl.out
          rw [List.take_of_length_le (by omega), List.take_of_length_le (by omega)] at h1
          simpa using h1
        clear hr1 hr2
        go_wp2
        go_ret
        rw [He.out]
        exact ⟨rfl, _, rfl⟩
  · have hl' : ((l1.length : Int) != (l2.length : Int)) = true := by simp; omega
    have Hf : Hid (decide (l1 = l2) = false) := by show _ = _; simp; intro e; subst e; exact hl rfl
    clear hl
    go_enter Try.func27, Try.ntmps27
    go_wp2
    go_ret
    rw [Hf.out]
    exact ⟨rfl, 0, rfl⟩

theorem lsb_eq (v u : Value) (l : List UInt8) (w : World) (hv : Nb w v l) (hu : Nb w u l) (hl : l.length ≤ 1000000000) :
    Calls Try.prog 27 #[v, u] w fun e w' => e = .returned (.bool true) ∧ ∃ q, w' = w.drewN q := by
  obtain ⟨a1, c1, rfl, _, r1⟩ := hv
  obtain ⟨a2, c2, rfl, _, r2⟩ := hu
  have := lsb_any a1 a2 c1 c2 l l w r1 r2 (by omega)
  rwa [decide_eq_true rfl] at this
theorem fromBytes_nb (v : Value) (l : List UInt8) (w : World) (hv : Nb w v l) (h1 : l.length ≤ 100000000) :
    Calls Try.prog 26 #[v] w fun e w' => ∃ r, e = .returned r ∧ Ow w' w.heap.size r (dg Bs (bv l)) ∧ Below w.heap.size w w' := by
  obtain ⟨a1, c1, rfl, _, r1⟩ := hv
  exact fromBytes_any a1 c1 l w r1 h1
theorem rfromBytes_nb (v : Value) (l : List UInt8) (w : World) (hv : Nb w v l) (h1 : l.length ≤ 100000000) :
    Calls Try.prog 39 #[v] w fun e w' => ∃ r, e = .returned r ∧ Ow w' w.heap.size r (dg Bs (bv l)) ∧ Below w.heap.size w w' := by
  obtain ⟨a1, c1, rfl, _, r1⟩ := hv
  exact rfromBytes_any a1 c1 l w r1 h1
/-- Is the bit set? -/
def bitV (V : Nat) (i : Int) : Bool := if i < 0 then false else decide (V / 2 ^ i.toNat % 2 = 1)
theorem bit_nm (i : Int) (v : Value) (xs : List Nat) (w : World) (hv : Nm w v xs) (hi : i ≤ 9223372036854775807) :
    Calls Try.prog 33 #[v, .int .i64 i] w fun e w' => e = .returned (.bool (bitV (nv Bs xs) i)) ∧ w' = w := by
  unfold bitV
  by_cases h : i < 0
  · rw [if_pos h]; exact bit_neg i v w h
  · rw [if_neg h]
    obtain ⟨k, rfl⟩ : ∃ k : Nat, i = (k : Int) := ⟨i.toNat, by omega⟩
    rw [Int.toNat_natCast]
    exact bit_pos k v xs w hv (by omega)
theorem rbit_neg (i : Int) (v : Value) (w : World) (hk : i < 0) : Calls Try.prog 44 #[v, .int .i64 i] w fun e w' => e = .returned (.bool false) ∧ w' = w := by
  have hk0 : decide (i < 0) = true := decide_eq_true hk
  go_enter Try.func44, Try.ntmps44
  go_wp2
  go_ret
  exact ⟨rfl, rfl⟩
theorem rbit_nm (i : Int) (v : Value) (xs : List Nat) (w : World) (hv : Nm w v xs) (hl : xs.length ≤ 100000000) (hi : i ≤ 9223372036854775807) :
    Calls Try.prog 44 #[v, .int .i64 i] w fun e w' => e = .returned (.bool (bitV (nv Bs xs) i)) ∧ w' = w := by
  unfold bitV
  by_cases h : i < 0
  · rw [if_pos h]; exact rbit_neg i v w h
  · rw [if_neg h]
    obtain ⟨k, rfl⟩ : ∃ k : Nat, i = (k : Int) := ⟨i.toNat, by omega⟩
    rw [Int.toNat_natCast]
    obtain ⟨ax, cx, rfl, hcx, hx, sx⟩ := hv
    exact rbit_any ax cx k xs w hx sx hl (by omega)
theorem dgl_bv (l : List UInt8) (k : Nat) (h : l.length ≤ k) : (dg Bs (bv l)).length ≤ k := by
  refine dg_len Bs_two _ _ (Nat.lt_of_lt_of_le (bv_lt l) ?_)
  exact Nat.le_trans (Nat.pow_le_pow_right (by decide) h) (Nat.pow_le_pow_left (by decide) _)
theorem dgl_shl (V k m M : Nat) (h : (dg Bs V).length ≤ m) (hk : k ≤ M) : (dg Bs (V * 2 ^ k)).length ≤ m + M := by
  refine dg_len Bs_two _ _ ?_
  have h1 : V < Bs ^ m := Nat.lt_of_lt_of_le (dg_up Bs_two V) (Nat.pow_le_pow_right Bs_pos h)
  have h2 : 2 ^ k ≤ Bs ^ M := Nat.le_trans (Nat.pow_le_pow_right (by decide) hk) (Nat.pow_le_pow_left (by decide) _)
  rw [Nat.pow_add]
  exact Nat.lt_of_lt_of_le (Nat.mul_lt_mul_of_pos_right h1 (Nat.pow_pos (by decide))) (Nat.mul_le_mul_left _ h2)

set_option maxRecDepth 100000 in
set_option maxHeartbeats 4000000 in
theorem writes_core (b n : Value) (l : List UInt8) (xs : List Nat) (u : Nat) (size i k : Int) (w : World) (hb : Nb w b l) (hn : Nm w n xs) (nb : Nilly b) (nn : Nilly n) (h1 : l.length ≤ 1048576) (h2 : xs.length ≤ 1048576) (hu : u < 18446744073709551616) (hi : i ≤ 9223372036854775807) (hk : k ≤ 9223372036854775807) :
    Calls Try.prog 9 #[b, n, .int .u64 (u : Int), .int .i64 size, .int .i64 i, .int .i64 k] w fun e w' => e = .returned (.bool true) ∧ Below w.heap.size w w' := by
  have Nb_b : Hid (Nb w b l) := hb
  have Nn : Hid (Nm w n (xs)) := hn
  have HSxs : Hid (Sm Bs xs) := hn.sm
  have HNn : Hid (Nilly n) := nn
  have L2 : Hid ((dg Bs (nv Bs xs)).length ≤ 1048576) := dgl_arg xs _ hn.sm h2
  have HB : Hid (Below w.heap.size w w) := Below.refl _ _
  obtain ⟨ab, cb, rfl, hcb, hrb⟩ := hb
  have hnilb : ab = none → l.length = 0 ∧ cb = 0 := fun e => by have := nb _ _ _ rfl e; omega
  have HRb : Hid (Rd w ab l) := hrb
  have HN0 : Hid (Owb w w.heap.size (.slice none 0 0) []) := Owb.nil _ _
  have HLst : Hid (lst (nv Bs xs) ≤ 4194304) := by have h3 := lst_bound xs hn.sm; show _ ≤ _; omega
  clear hn nb nn hrb
  go_enter Try.func9, Try.ntmps9
  go_wp2_with (at_builtin; refine append_rdb rfl (.tmp 33) (.tmp 34) rfl w.heap.size _ [] rfl HN0.out ab l.length cb l rfl rfl hnilb HRb.out (by rw [List.length_nil]; omega) (Nat.le_refl _) ?_; intro given w0 h5 h6)
  have hbel : Below w.heap.size w w0 := (Below.refl _ _).grown h6 (Nat.le_refl _) (fun k h => by cases h)
  obtain ⟨bb, Hbb⟩ : ∃ bb, Hid (Value.slice ab l.length cb = bb) := ⟨_, rfl⟩
  rw [Hbb.out] at Nb_b
  rw [Hbb.out]
  have Ng : Hid (Nb w0 given l) := (show Owb w0 w.heap.size given l from h5).nb
  replace Nb_b : Hid (Nb w0 bb l) := Nb_b.out.below hbel (Nat.le_refl _)
  replace Nn : Hid (Nm w0 n (xs)) := Nn.out.below hbel (Nat.le_refl _)
  replace HB : Hid (Below w.heap.size w w0) := hbel
  clear h5 h6 hbel HN0 HRb hnilb hcb
  obtain ⟨V, HV⟩ : ∃ V, Hid (nv Bs xs = V) := ⟨_, rfl⟩
  obtain ⟨z, Hz⟩ : ∃ z : Nat, Hid ((if V < 18446744073709551616 then V else 0) = z) := ⟨_, rfl⟩
  obtain ⟨k1, Hk1⟩ : ∃ k1 : Bool, Hid (decide (V < 18446744073709551616) = k1) := ⟨_, rfl⟩
  obtain ⟨k2, Hk2⟩ : ∃ k2 : Bool, Hid (decide ((lst V : Int) ≤ size ∧ size ≤ 16384) = k2) := ⟨_, rfl⟩
  obtain ⟨k3, Hk3⟩ : ∃ k3 : Bool, Hid (bitV V i = k3) := ⟨_, rfl⟩
  obtain ⟨z4, Hz4⟩ : ∃ z4 : Nat, Hid (bl V = z4) := ⟨_, rfl⟩
  obtain ⟨fl, Hfl⟩ : ∃ fl : List UInt8, Hid ((if (lst V : Int) ≤ size ∧ size ≤ 16384 then tobe size.toNat V else []) = fl) := ⟨_, rfl⟩
  have HFl : Hid (fl.length ≤ 16384) := by
    show _ ≤ _
    rw [← Hfl.out]
    split
    · rw [tobe_length]; omega
    · exact Nat.zero_le _
  rw [HV.out] at HLst
  have b1 : ((z : Int) != (z : Int)) = false := by simp
  have b2 : (k1 != k1) = false := by simp
  have b3 : (k2 != k2) = false := by simp
  have b4 : (k3 == k3) = true := by simp
  have b5 : ((z4 : Int) == (z4 : Int)) = true := by simp
  have Cc := copiedL_any n xs w0 Nn.out HNn.out (by omega)
  go_wp2_with fail
  refine Cc.mono ?_
  clear Cc
  rintro e w1 ⟨x, rfl, hown, hbel⟩
  replace Nb_b : Hid (Nb w1 bb (l)) := Nb_b.out.below hbel (Nat.le_refl _)
  replace Ng : Hid (Nb w1 given (l)) := Ng.out.below hbel (Nat.le_refl _)
  replace Nn : Hid (Nm w1 n (xs)) := Nn.out.below hbel (Nat.le_refl _)
  replace HB : Hid (Below w.heap.size w w1) := HB.out.trans (hbel.mono HB.out.size)
  have Nx : Hid (Nm w1 x (xs)) := hown.nm HSxs.out
  clear hown hbel
  have Cc := fromBytes_nb given l w1 Ng.out (by omega)
  go_wp2_with fail
  refine Cc.mono ?_
  clear Cc
  rintro e w2 ⟨f, rfl, hown, hbel⟩
  replace Nb_b : Hid (Nb w2 bb (l)) := Nb_b.out.below hbel (Nat.le_refl _)
  replace Ng : Hid (Nb w2 given (l)) := Ng.out.below hbel (Nat.le_refl _)
  replace Nn : Hid (Nm w2 n (xs)) := Nn.out.below hbel (Nat.le_refl _)
  replace Nx : Hid (Nm w2 x (xs)) := Nx.out.below hbel (Nat.le_refl _)
  replace HB : Hid (Below w.heap.size w w2) := HB.out.trans (hbel.mono HB.out.size)
  have Nf : Hid (Nm w2 f (dg Bs (bv l))) := hown.nm (dg_sm Bs_two _)
  clear hown hbel
  have Cc := bytes_nm x xs w2 Nx.out (by omega)
  rw [HV.out] at Cc
  go_wp2_with fail
  refine Cc.mono ?_
  clear Cc
  rintro e w3 ⟨bts, rfl, hown, hbel⟩
  replace Nb_b : Hid (Nb w3 bb (l)) := Nb_b.out.below hbel (Nat.le_refl _)
  replace Ng : Hid (Nb w3 given (l)) := Ng.out.below hbel (Nat.le_refl _)
  replace Nn : Hid (Nm w3 n (xs)) := Nn.out.below hbel (Nat.le_refl _)
  replace Nx : Hid (Nm w3 x (xs)) := Nx.out.below hbel (Nat.le_refl _)
  replace Nf : Hid (Nm w3 f (dg Bs (bv l))) := Nf.out.below hbel (Nat.le_refl _)
  replace HB : Hid (Below w.heap.size w w3) := HB.out.trans (hbel.mono HB.out.size)
  have Nbts : Hid (Nb w3 bts (tobe (lst V) V)) := hown.nb
  clear hown hbel
  have Cc := fixed_nm x xs size w3 Nx.out (by omega)
  rw [HV.out, Hk2.out, Hfl.out] at Cc
  go_wp2_with fail
  refine Cc.mono ?_
  clear Cc
  rintro e w4 ⟨fixed, fl2, rfl, hown, hfl2, hbel⟩
  rw [hfl2] at hown
  clear hfl2
  replace Nb_b : Hid (Nb w4 bb (l)) := Nb_b.out.below hbel (Nat.le_refl _)
  replace Ng : Hid (Nb w4 given (l)) := Ng.out.below hbel (Nat.le_refl _)
  replace Nbts : Hid (Nb w4 bts (tobe (lst V) V)) := Nbts.out.below hbel (Nat.le_refl _)
  replace Nn : Hid (Nm w4 n (xs)) := Nn.out.below hbel (Nat.le_refl _)
  replace Nx : Hid (Nm w4 x (xs)) := Nx.out.below hbel (Nat.le_refl _)
  replace Nf : Hid (Nm w4 f (dg Bs (bv l))) := Nf.out.below hbel (Nat.le_refl _)
  replace HB : Hid (Below w.heap.size w w4) := HB.out.trans (hbel.mono HB.out.size)
  have Nfixed : Hid (Nb w4 fixed (fl)) := hown.nb
  clear hown hbel
  have Cc := rfixed_nm n xs size w4 Nn.out (by omega)
  rw [HV.out, Hk2.out, Hfl.out] at Cc
  go_wp2_with fail
  refine Cc.mono ?_
  clear Cc
  rintro e w5 ⟨other, fl2, rfl, hown, hfl2, hbel⟩
  rw [hfl2] at hown
  clear hfl2
  replace Nb_b : Hid (Nb w5 bb (l)) := Nb_b.out.below hbel (Nat.le_refl _)
  replace Ng : Hid (Nb w5 given (l)) := Ng.out.below hbel (Nat.le_refl _)
  replace Nbts : Hid (Nb w5 bts (tobe (lst V) V)) := Nbts.out.below hbel (Nat.le_refl _)
  replace Nfixed : Hid (Nb w5 fixed (fl)) := Nfixed.out.below hbel (Nat.le_refl _)
  replace Nn : Hid (Nm w5 n (xs)) := Nn.out.below hbel (Nat.le_refl _)
  replace Nx : Hid (Nm w5 x (xs)) := Nx.out.below hbel (Nat.le_refl _)
  replace Nf : Hid (Nm w5 f (dg Bs (bv l))) := Nf.out.below hbel (Nat.le_refl _)
  replace HB : Hid (Below w.heap.size w w5) := HB.out.trans (hbel.mono HB.out.size)
  have Nother : Hid (Nb w5 other (fl)) := hown.nb
  clear hown hbel
  have Cc := uint_nm x xs w5 Nx.out (by omega)
  rw [HV.out, Hz.out, Hk1.out] at Cc
  go_wp2_with fail
  refine Cc.mono ?_
  clear Cc
  rintro e w5 ⟨rfl, rfl⟩
  have Cc := ruint_nm n xs w5 Nn.out (by omega)
  rw [HV.out, Hz.out, Hk1.out] at Cc
  go_wp2_with fail
  refine Cc.mono ?_
  clear Cc
  rintro e w6 ⟨rfl, hbel⟩
  replace Nb_b : Hid (Nb w6 bb (l)) := Nb_b.out.below hbel (Nat.le_refl _)
  replace Ng : Hid (Nb w6 given (l)) := Ng.out.below hbel (Nat.le_refl _)
  replace Nbts : Hid (Nb w6 bts (tobe (lst V) V)) := Nbts.out.below hbel (Nat.le_refl _)
  replace Nfixed : Hid (Nb w6 fixed (fl)) := Nfixed.out.below hbel (Nat.le_refl _)
  replace Nother : Hid (Nb w6 other (fl)) := Nother.out.below hbel (Nat.le_refl _)
  replace Nn : Hid (Nm w6 n (xs)) := Nn.out.below hbel (Nat.le_refl _)
  replace Nx : Hid (Nm w6 x (xs)) := Nx.out.below hbel (Nat.le_refl _)
  replace Nf : Hid (Nm w6 f (dg Bs (bv l))) := Nf.out.below hbel (Nat.le_refl _)
  replace HB : Hid (Below w.heap.size w w6) := HB.out.trans (hbel.mono HB.out.size)
  clear hbel
  have Cc := fromUint_any u w6 hu
  go_wp2_with fail
  refine Cc.mono ?_
  clear Cc
  rintro e w7 ⟨frm, rfl, hown, hbel⟩
  replace Nb_b : Hid (Nb w7 bb (l)) := Nb_b.out.below hbel (Nat.le_refl _)
  replace Ng : Hid (Nb w7 given (l)) := Ng.out.below hbel (Nat.le_refl _)
  replace Nbts : Hid (Nb w7 bts (tobe (lst V) V)) := Nbts.out.below hbel (Nat.le_refl _)
  replace Nfixed : Hid (Nb w7 fixed (fl)) := Nfixed.out.below hbel (Nat.le_refl _)
  replace Nother : Hid (Nb w7 other (fl)) := Nother.out.below hbel (Nat.le_refl _)
  replace Nn : Hid (Nm w7 n (xs)) := Nn.out.below hbel (Nat.le_refl _)
  replace Nx : Hid (Nm w7 x (xs)) := Nx.out.below hbel (Nat.le_refl _)
  replace Nf : Hid (Nm w7 f (dg Bs (bv l))) := Nf.out.below hbel (Nat.le_refl _)
  replace HB : Hid (Below w.heap.size w w7) := HB.out.trans (hbel.mono HB.out.size)
  have Nfrm : Hid (Nm w7 frm (dg Bs u)) := hown.nm (dg_sm Bs_two _)
  clear hown hbel
  have Cc := shl_nm k x xs w7 Nx.out (by omega)
  rw [HV.out] at Cc
  go_wp2_with fail
  refine Cc.mono ?_
  clear Cc
  rintro e w8 ⟨up, rfl, hown, hbel⟩
  replace Nb_b : Hid (Nb w8 bb (l)) := Nb_b.out.below hbel (Nat.le_refl _)
  replace Ng : Hid (Nb w8 given (l)) := Ng.out.below hbel (Nat.le_refl _)
  replace Nbts : Hid (Nb w8 bts (tobe (lst V) V)) := Nbts.out.below hbel (Nat.le_refl _)
  replace Nfixed : Hid (Nb w8 fixed (fl)) := Nfixed.out.below hbel (Nat.le_refl _)
  replace Nother : Hid (Nb w8 other (fl)) := Nother.out.below hbel (Nat.le_refl _)
  replace Nn : Hid (Nm w8 n (xs)) := Nn.out.below hbel (Nat.le_refl _)
  replace Nx : Hid (Nm w8 x (xs)) := Nx.out.below hbel (Nat.le_refl _)
  replace Nf : Hid (Nm w8 f (dg Bs (bv l))) := Nf.out.below hbel (Nat.le_refl _)
  replace Nfrm : Hid (Nm w8 frm (dg Bs u)) := Nfrm.out.below hbel (Nat.le_refl _)
  replace HB : Hid (Below w.heap.size w w8) := HB.out.trans (hbel.mono HB.out.size)
  have Nup : Hid (Nm w8 up (dg Bs (V * 2 ^ shk k))) := hown.nm (dg_sm Bs_two _)
  clear hown hbel
  have Cc := shr_nm k x xs w8 Nx.out (by omega) hk
  rw [HV.out] at Cc
  go_wp2_with fail
  refine Cc.mono ?_
  clear Cc
  rintro e w9 ⟨dwn, rfl, hown, hbel⟩
  replace Nb_b : Hid (Nb w9 bb (l)) := Nb_b.out.below hbel (Nat.le_refl _)
  replace Ng : Hid (Nb w9 given (l)) := Ng.out.below hbel (Nat.le_refl _)
  replace Nbts : Hid (Nb w9 bts (tobe (lst V) V)) := Nbts.out.below hbel (Nat.le_refl _)
  replace Nfixed : Hid (Nb w9 fixed (fl)) := Nfixed.out.below hbel (Nat.le_refl _)
  replace Nother : Hid (Nb w9 other (fl)) := Nother.out.below hbel (Nat.le_refl _)
  replace Nn : Hid (Nm w9 n (xs)) := Nn.out.below hbel (Nat.le_refl _)
  replace Nx : Hid (Nm w9 x (xs)) := Nx.out.below hbel (Nat.le_refl _)
  replace Nf : Hid (Nm w9 f (dg Bs (bv l))) := Nf.out.below hbel (Nat.le_refl _)
  replace Nfrm : Hid (Nm w9 frm (dg Bs u)) := Nfrm.out.below hbel (Nat.le_refl _)
  replace Nup : Hid (Nm w9 up (dg Bs (V * 2 ^ shk k))) := Nup.out.below hbel (Nat.le_refl _)
  replace HB : Hid (Below w.heap.size w w9) := HB.out.trans (hbel.mono HB.out.size)
  have Ndwn : Hid (Nm w9 dwn (dg Bs (V / 2 ^ k.toNat))) := hown.nm (dg_sm Bs_two _)
  clear hown hbel
  have Cc := lsb_eq given bb _ w9 Ng.out Nb_b.out (by omega)
  go_wp2_with fail
  refine Cc.mono ?_
  clear Cc
  rintro e w10 ⟨rfl, qq, hq⟩
  replace Nb_b : Hid (Nb w10 bb (l)) := by rw [hq]; exact Nb_b.out.drewN qq
  replace Ng : Hid (Nb w10 given (l)) := by rw [hq]; exact Ng.out.drewN qq
  replace Nbts : Hid (Nb w10 bts (tobe (lst V) V)) := by rw [hq]; exact Nbts.out.drewN qq
  replace Nfixed : Hid (Nb w10 fixed (fl)) := by rw [hq]; exact Nfixed.out.drewN qq
  replace Nother : Hid (Nb w10 other (fl)) := by rw [hq]; exact Nother.out.drewN qq
  replace Nn : Hid (Nm w10 n (xs)) := by rw [hq]; exact Nn.out.drewN qq
  replace Nx : Hid (Nm w10 x (xs)) := by rw [hq]; exact Nx.out.drewN qq
  replace Nf : Hid (Nm w10 f (dg Bs (bv l))) := by rw [hq]; exact Nf.out.drewN qq
  replace Nfrm : Hid (Nm w10 frm (dg Bs u)) := by rw [hq]; exact Nfrm.out.drewN qq
  replace Nup : Hid (Nm w10 up (dg Bs (V * 2 ^ shk k))) := by rw [hq]; exact Nup.out.drewN qq
  replace Ndwn : Hid (Nm w10 dwn (dg Bs (V / 2 ^ k.toNat))) := by rw [hq]; exact Ndwn.out.drewN qq
  replace HB : Hid (Below w.heap.size w w10) := by rw [hq]; exact below_drewN HB.out qq
  clear hq
  have Cc := rbytes_nm n xs w10 Nn.out (by omega)
  rw [HV.out] at Cc
  go_wp2_with fail
  refine Cc.mono ?_
  clear Cc
  rintro e w11 ⟨bts2, rfl, hown, hbel⟩
  replace Nb_b : Hid (Nb w11 bb (l)) := Nb_b.out.below hbel (Nat.le_refl _)
  replace Ng : Hid (Nb w11 given (l)) := Ng.out.below hbel (Nat.le_refl _)
  replace Nbts : Hid (Nb w11 bts (tobe (lst V) V)) := Nbts.out.below hbel (Nat.le_refl _)
  replace Nfixed : Hid (Nb w11 fixed (fl)) := Nfixed.out.below hbel (Nat.le_refl _)
  replace Nother : Hid (Nb w11 other (fl)) := Nother.out.below hbel (Nat.le_refl _)
  replace Nn : Hid (Nm w11 n (xs)) := Nn.out.below hbel (Nat.le_refl _)
  replace Nx : Hid (Nm w11 x (xs)) := Nx.out.below hbel (Nat.le_refl _)
  replace Nf : Hid (Nm w11 f (dg Bs (bv l))) := Nf.out.below hbel (Nat.le_refl _)
  replace Nfrm : Hid (Nm w11 frm (dg Bs u)) := Nfrm.out.below hbel (Nat.le_refl _)
  replace Nup : Hid (Nm w11 up (dg Bs (V * 2 ^ shk k))) := Nup.out.below hbel (Nat.le_refl _)
  replace Ndwn : Hid (Nm w11 dwn (dg Bs (V / 2 ^ k.toNat))) := Ndwn.out.below hbel (Nat.le_refl _)
  replace HB : Hid (Below w.heap.size w w11) := HB.out.trans (hbel.mono HB.out.size)
  have Nbts2 : Hid (Nb w11 bts2 (tobe (lst V) V)) := hown.nb
  clear hown hbel
  have Cc := lsb_eq bts bts2 _ w11 Nbts.out Nbts2.out (by rw [tobe_length]; have := HLst.out; omega)
  go_wp2_with fail
  refine Cc.mono ?_
  clear Cc
  rintro e w12 ⟨rfl, qq, hq⟩
  replace Nb_b : Hid (Nb w12 bb (l)) := by rw [hq]; exact Nb_b.out.drewN qq
  replace Ng : Hid (Nb w12 given (l)) := by rw [hq]; exact Ng.out.drewN qq
  replace Nbts : Hid (Nb w12 bts (tobe (lst V) V)) := by rw [hq]; exact Nbts.out.drewN qq
  replace Nfixed : Hid (Nb w12 fixed (fl)) := by rw [hq]; exact Nfixed.out.drewN qq
  replace Nother : Hid (Nb w12 other (fl)) := by rw [hq]; exact Nother.out.drewN qq
  replace Nbts2 : Hid (Nb w12 bts2 (tobe (lst V) V)) := by rw [hq]; exact Nbts2.out.drewN qq
  replace Nn : Hid (Nm w12 n (xs)) := by rw [hq]; exact Nn.out.drewN qq
  replace Nx : Hid (Nm w12 x (xs)) := by rw [hq]; exact Nx.out.drewN qq
  replace Nf : Hid (Nm w12 f (dg Bs (bv l))) := by rw [hq]; exact Nf.out.drewN qq
  replace Nfrm : Hid (Nm w12 frm (dg Bs u)) := by rw [hq]; exact Nfrm.out.drewN qq
  replace Nup : Hid (Nm w12 up (dg Bs (V * 2 ^ shk k))) := by rw [hq]; exact Nup.out.drewN qq
  replace Ndwn : Hid (Nm w12 dwn (dg Bs (V / 2 ^ k.toNat))) := by rw [hq]; exact Ndwn.out.drewN qq
  replace HB : Hid (Below w.heap.size w w12) := by rw [hq]; exact below_drewN HB.out qq
  clear hq
  have Cc := lsb_eq fixed other _ w12 Nfixed.out Nother.out (Nat.le_trans HFl.out (by decide))
  go_wp2_with fail
  refine Cc.mono ?_
  clear Cc
  rintro e w13 ⟨rfl, qq, hq⟩
  replace Nb_b : Hid (Nb w13 bb (l)) := by rw [hq]; exact Nb_b.out.drewN qq
  replace Ng : Hid (Nb w13 given (l)) := by rw [hq]; exact Ng.out.drewN qq
  replace Nbts : Hid (Nb w13 bts (tobe (lst V) V)) := by rw [hq]; exact Nbts.out.drewN qq
  replace Nfixed : Hid (Nb w13 fixed (fl)) := by rw [hq]; exact Nfixed.out.drewN qq
  replace Nother : Hid (Nb w13 other (fl)) := by rw [hq]; exact Nother.out.drewN qq
  replace Nbts2 : Hid (Nb w13 bts2 (tobe (lst V) V)) := by rw [hq]; exact Nbts2.out.drewN qq
  replace Nn : Hid (Nm w13 n (xs)) := by rw [hq]; exact Nn.out.drewN qq
  replace Nx : Hid (Nm w13 x (xs)) := by rw [hq]; exact Nx.out.drewN qq
  replace Nf : Hid (Nm w13 f (dg Bs (bv l))) := by rw [hq]; exact Nf.out.drewN qq
  replace Nfrm : Hid (Nm w13 frm (dg Bs u)) := by rw [hq]; exact Nfrm.out.drewN qq
  replace Nup : Hid (Nm w13 up (dg Bs (V * 2 ^ shk k))) := by rw [hq]; exact Nup.out.drewN qq
  replace Ndwn : Hid (Nm w13 dwn (dg Bs (V / 2 ^ k.toNat))) := by rw [hq]; exact Ndwn.out.drewN qq
  replace HB : Hid (Below w.heap.size w w13) := by rw [hq]; exact below_drewN HB.out qq
  clear hq
  have Cc := rfromBytes_nb bb l w13 Nb_b.out (by omega)
  go_wp2_with fail
  refine Cc.mono ?_
  clear Cc
  rintro e w14 ⟨f2, rfl, hown, hbel⟩
  replace Nb_b : Hid (Nb w14 bb (l)) := Nb_b.out.below hbel (Nat.le_refl _)
  replace Ng : Hid (Nb w14 given (l)) := Ng.out.below hbel (Nat.le_refl _)
  replace Nbts : Hid (Nb w14 bts (tobe (lst V) V)) := Nbts.out.below hbel (Nat.le_refl _)
  replace Nfixed : Hid (Nb w14 fixed (fl)) := Nfixed.out.below hbel (Nat.le_refl _)
  replace Nother : Hid (Nb w14 other (fl)) := Nother.out.below hbel (Nat.le_refl _)
  replace Nbts2 : Hid (Nb w14 bts2 (tobe (lst V) V)) := Nbts2.out.below hbel (Nat.le_refl _)
  replace Nn : Hid (Nm w14 n (xs)) := Nn.out.below hbel (Nat.le_refl _)
  replace Nx : Hid (Nm w14 x (xs)) := Nx.out.below hbel (Nat.le_refl _)
  replace Nf : Hid (Nm w14 f (dg Bs (bv l))) := Nf.out.below hbel (Nat.le_refl _)
  replace Nfrm : Hid (Nm w14 frm (dg Bs u)) := Nfrm.out.below hbel (Nat.le_refl _)
  replace Nup : Hid (Nm w14 up (dg Bs (V * 2 ^ shk k))) := Nup.out.below hbel (Nat.le_refl _)
  replace Ndwn : Hid (Nm w14 dwn (dg Bs (V / 2 ^ k.toNat))) := Ndwn.out.below hbel (Nat.le_refl _)
  replace HB : Hid (Below w.heap.size w w14) := HB.out.trans (hbel.mono HB.out.size)
  have Nf2 : Hid (Nm w14 f2 (dg Bs (bv l))) := hown.nm (dg_sm Bs_two _)
  clear hown hbel
  have Cc := rsame_eq f f2 _ w14 Nf.out Nf2.out (Nat.le_trans (dgl_bv l _ h1) (by decide))
  go_wp2_with fail
  refine Cc.mono ?_
  clear Cc
  rintro e w15 ⟨rfl, qq, hq⟩
  replace Nb_b : Hid (Nb w15 bb (l)) := by rw [hq]; exact Nb_b.out.drewN qq
  replace Ng : Hid (Nb w15 given (l)) := by rw [hq]; exact Ng.out.drewN qq
  replace Nbts : Hid (Nb w15 bts (tobe (lst V) V)) := by rw [hq]; exact Nbts.out.drewN qq
  replace Nfixed : Hid (Nb w15 fixed (fl)) := by rw [hq]; exact Nfixed.out.drewN qq
  replace Nother : Hid (Nb w15 other (fl)) := by rw [hq]; exact Nother.out.drewN qq
  replace Nbts2 : Hid (Nb w15 bts2 (tobe (lst V) V)) := by rw [hq]; exact Nbts2.out.drewN qq
  replace Nn : Hid (Nm w15 n (xs)) := by rw [hq]; exact Nn.out.drewN qq
  replace Nx : Hid (Nm w15 x (xs)) := by rw [hq]; exact Nx.out.drewN qq
  replace Nf : Hid (Nm w15 f (dg Bs (bv l))) := by rw [hq]; exact Nf.out.drewN qq
  replace Nfrm : Hid (Nm w15 frm (dg Bs u)) := by rw [hq]; exact Nfrm.out.drewN qq
  replace Nup : Hid (Nm w15 up (dg Bs (V * 2 ^ shk k))) := by rw [hq]; exact Nup.out.drewN qq
  replace Ndwn : Hid (Nm w15 dwn (dg Bs (V / 2 ^ k.toNat))) := by rw [hq]; exact Ndwn.out.drewN qq
  replace Nf2 : Hid (Nm w15 f2 (dg Bs (bv l))) := by rw [hq]; exact Nf2.out.drewN qq
  replace HB : Hid (Below w.heap.size w w15) := by rw [hq]; exact below_drewN HB.out qq
  clear hq
  have Cc := rfromUint_any u w15 hu
  go_wp2_with fail
  refine Cc.mono ?_
  clear Cc
  rintro e w16 ⟨frm2, rfl, hown, hbel⟩
  replace Nb_b : Hid (Nb w16 bb (l)) := Nb_b.out.below hbel (Nat.le_refl _)
  replace Ng : Hid (Nb w16 given (l)) := Ng.out.below hbel (Nat.le_refl _)
  replace Nbts : Hid (Nb w16 bts (tobe (lst V) V)) := Nbts.out.below hbel (Nat.le_refl _)
  replace Nfixed : Hid (Nb w16 fixed (fl)) := Nfixed.out.below hbel (Nat.le_refl _)
  replace Nother : Hid (Nb w16 other (fl)) := Nother.out.below hbel (Nat.le_refl _)
  replace Nbts2 : Hid (Nb w16 bts2 (tobe (lst V) V)) := Nbts2.out.below hbel (Nat.le_refl _)
  replace Nn : Hid (Nm w16 n (xs)) := Nn.out.below hbel (Nat.le_refl _)
  replace Nx : Hid (Nm w16 x (xs)) := Nx.out.below hbel (Nat.le_refl _)
  replace Nf : Hid (Nm w16 f (dg Bs (bv l))) := Nf.out.below hbel (Nat.le_refl _)
  replace Nfrm : Hid (Nm w16 frm (dg Bs u)) := Nfrm.out.below hbel (Nat.le_refl _)
  replace Nup : Hid (Nm w16 up (dg Bs (V * 2 ^ shk k))) := Nup.out.below hbel (Nat.le_refl _)
  replace Ndwn : Hid (Nm w16 dwn (dg Bs (V / 2 ^ k.toNat))) := Ndwn.out.below hbel (Nat.le_refl _)
  replace Nf2 : Hid (Nm w16 f2 (dg Bs (bv l))) := Nf2.out.below hbel (Nat.le_refl _)
  replace HB : Hid (Below w.heap.size w w16) := HB.out.trans (hbel.mono HB.out.size)
  have Nfrm2 : Hid (Nm w16 frm2 (dg Bs u)) := hown.nm (dg_sm Bs_two _)
  clear hown hbel
  have Cc := rsame_eq frm frm2 _ w16 Nfrm.out Nfrm2.out (Nat.le_trans (dg_len64 hu) (by decide))
  go_wp2_with fail
  refine Cc.mono ?_
  clear Cc
  rintro e w17 ⟨rfl, qq, hq⟩
  replace Nb_b : Hid (Nb w17 bb (l)) := by rw [hq]; exact Nb_b.out.drewN qq
  replace Ng : Hid (Nb w17 given (l)) := by rw [hq]; exact Ng.out.drewN qq
  replace Nbts : Hid (Nb w17 bts (tobe (lst V) V)) := by rw [hq]; exact Nbts.out.drewN qq
  replace Nfixed : Hid (Nb w17 fixed (fl)) := by rw [hq]; exact Nfixed.out.drewN qq
  replace Nother : Hid (Nb w17 other (fl)) := by rw [hq]; exact Nother.out.drewN qq
  replace Nbts2 : Hid (Nb w17 bts2 (tobe (lst V) V)) := by rw [hq]; exact Nbts2.out.drewN qq
  replace Nn : Hid (Nm w17 n (xs)) := by rw [hq]; exact Nn.out.drewN qq
  replace Nx : Hid (Nm w17 x (xs)) := by rw [hq]; exact Nx.out.drewN qq
  replace Nf : Hid (Nm w17 f (dg Bs (bv l))) := by rw [hq]; exact Nf.out.drewN qq
  replace Nfrm : Hid (Nm w17 frm (dg Bs u)) := by rw [hq]; exact Nfrm.out.drewN qq
  replace Nup : Hid (Nm w17 up (dg Bs (V * 2 ^ shk k))) := by rw [hq]; exact Nup.out.drewN qq
  replace Ndwn : Hid (Nm w17 dwn (dg Bs (V / 2 ^ k.toNat))) := by rw [hq]; exact Ndwn.out.drewN qq
  replace Nf2 : Hid (Nm w17 f2 (dg Bs (bv l))) := by rw [hq]; exact Nf2.out.drewN qq
  replace Nfrm2 : Hid (Nm w17 frm2 (dg Bs u)) := by rw [hq]; exact Nfrm2.out.drewN qq
  replace HB : Hid (Below w.heap.size w w17) := by rw [hq]; exact below_drewN HB.out qq
  clear hq
  have Cc := rshl_nm k n xs w17 Nn.out (by omega)
  rw [HV.out] at Cc
  go_wp2_with fail
  refine Cc.mono ?_
  clear Cc
  rintro e w18 ⟨up2, rfl, hown, hbel⟩
  replace Nb_b : Hid (Nb w18 bb (l)) := Nb_b.out.below hbel (Nat.le_refl _)
  replace Ng : Hid (Nb w18 given (l)) := Ng.out.below hbel (Nat.le_refl _)
  replace Nbts : Hid (Nb w18 bts (tobe (lst V) V)) := Nbts.out.below hbel (Nat.le_refl _)
  replace Nfixed : Hid (Nb w18 fixed (fl)) := Nfixed.out.below hbel (Nat.le_refl _)
  replace Nother : Hid (Nb w18 other (fl)) := Nother.out.below hbel (Nat.le_refl _)
  replace Nbts2 : Hid (Nb w18 bts2 (tobe (lst V) V)) := Nbts2.out.below hbel (Nat.le_refl _)
  replace Nn : Hid (Nm w18 n (xs)) := Nn.out.below hbel (Nat.le_refl _)
  replace Nx : Hid (Nm w18 x (xs)) := Nx.out.below hbel (Nat.le_refl _)
  replace Nf : Hid (Nm w18 f (dg Bs (bv l))) := Nf.out.below hbel (Nat.le_refl _)
  replace Nfrm : Hid (Nm w18 frm (dg Bs u)) := Nfrm.out.below hbel (Nat.le_refl _)
  replace Nup : Hid (Nm w18 up (dg Bs (V * 2 ^ shk k))) := Nup.out.below hbel (Nat.le_refl _)
  replace Ndwn : Hid (Nm w18 dwn (dg Bs (V / 2 ^ k.toNat))) := Ndwn.out.below hbel (Nat.le_refl _)
  replace Nf2 : Hid (Nm w18 f2 (dg Bs (bv l))) := Nf2.out.below hbel (Nat.le_refl _)
  replace Nfrm2 : Hid (Nm w18 frm2 (dg Bs u)) := Nfrm2.out.below hbel (Nat.le_refl _)
  replace HB : Hid (Below w.heap.size w w18) := HB.out.trans (hbel.mono HB.out.size)
  have Nup2 : Hid (Nm w18 up2 (dg Bs (V * 2 ^ shk k))) := hown.nm (dg_sm Bs_two _)
  clear hown hbel
  have Cc := rsame_eq up up2 _ w18 Nup.out Nup2.out (Nat.le_trans (dgl_shl V (shk k) 1048576 131072 (by have h := L2.out; rw [HV.out] at h; exact h) (shk_le k)) (by decide))
  go_wp2_with fail
  refine Cc.mono ?_
  clear Cc
  rintro e w19 ⟨rfl, qq, hq⟩
  replace Nb_b : Hid (Nb w19 bb (l)) := by rw [hq]; exact Nb_b.out.drewN qq
  replace Ng : Hid (Nb w19 given (l)) := by rw [hq]; exact Ng.out.drewN qq
  replace Nbts : Hid (Nb w19 bts (tobe (lst V) V)) := by rw [hq]; exact Nbts.out.drewN qq
  replace Nfixed : Hid (Nb w19 fixed (fl)) := by rw [hq]; exact Nfixed.out.drewN qq
  replace Nother : Hid (Nb w19 other (fl)) := by rw [hq]; exact Nother.out.drewN qq
  replace Nbts2 : Hid (Nb w19 bts2 (tobe (lst V) V)) := by rw [hq]; exact Nbts2.out.drewN qq
  replace Nn : Hid (Nm w19 n (xs)) := by rw [hq]; exact Nn.out.drewN qq
  replace Nx : Hid (Nm w19 x (xs)) := by rw [hq]; exact Nx.out.drewN qq
  replace Nf : Hid (Nm w19 f (dg Bs (bv l))) := by rw [hq]; exact Nf.out.drewN qq
  replace Nfrm : Hid (Nm w19 frm (dg Bs u)) := by rw [hq]; exact Nfrm.out.drewN qq
  replace Nup : Hid (Nm w19 up (dg Bs (V * 2 ^ shk k))) := by rw [hq]; exact Nup.out.drewN qq
  replace Ndwn : Hid (Nm w19 dwn (dg Bs (V / 2 ^ k.toNat))) := by rw [hq]; exact Ndwn.out.drewN qq
  replace Nf2 : Hid (Nm w19 f2 (dg Bs (bv l))) := by rw [hq]; exact Nf2.out.drewN qq
  replace Nfrm2 : Hid (Nm w19 frm2 (dg Bs u)) := by rw [hq]; exact Nfrm2.out.drewN qq
  replace Nup2 : Hid (Nm w19 up2 (dg Bs (V * 2 ^ shk k))) := by rw [hq]; exact Nup2.out.drewN qq
  replace HB : Hid (Below w.heap.size w w19) := by rw [hq]; exact below_drewN HB.out qq
  clear hq
  have Cc := rshr_nm k n xs w19 Nn.out (by omega) hk
  rw [HV.out] at Cc
  go_wp2_with fail
  refine Cc.mono ?_
  clear Cc
  rintro e w20 ⟨dwn2, rfl, hown, hbel⟩
  replace Nb_b : Hid (Nb w20 bb (l)) := Nb_b.out.below hbel (Nat.le_refl _)
  replace Ng : Hid (Nb w20 given (l)) := Ng.out.below hbel (Nat.le_refl _)
  replace Nbts : Hid (Nb w20 bts (tobe (lst V) V)) := Nbts.out.below hbel (Nat.le_refl _)
  replace Nfixed : Hid (Nb w20 fixed (fl)) := Nfixed.out.below hbel (Nat.le_refl _)
  replace Nother : Hid (Nb w20 other (fl)) := Nother.out.below hbel (Nat.le_refl _)
  replace Nbts2 : Hid (Nb w20 bts2 (tobe (lst V) V)) := Nbts2.out.below hbel (Nat.le_refl _)
  replace Nn : Hid (Nm w20 n (xs)) := Nn.out.below hbel (Nat.le_refl _)
  replace Nx : Hid (Nm w20 x (xs)) := Nx.out.below hbel (Nat.le_refl _)
  replace Nf : Hid (Nm w20 f (dg Bs (bv l))) := Nf.out.below hbel (Nat.le_refl _)
  replace Nfrm : Hid (Nm w20 frm (dg Bs u)) := Nfrm.out.below hbel (Nat.le_refl _)
  replace Nup : Hid (Nm w20 up (dg Bs (V * 2 ^ shk k))) := Nup.out.below hbel (Nat.le_refl _)
  replace Ndwn : Hid (Nm w20 dwn (dg Bs (V / 2 ^ k.toNat))) := Ndwn.out.below hbel (Nat.le_refl _)
  replace Nf2 : Hid (Nm w20 f2 (dg Bs (bv l))) := Nf2.out.below hbel (Nat.le_refl _)
  replace Nfrm2 : Hid (Nm w20 frm2 (dg Bs u)) := Nfrm2.out.below hbel (Nat.le_refl _)
  replace Nup2 : Hid (Nm w20 up2 (dg Bs (V * 2 ^ shk k))) := Nup2.out.below hbel (Nat.le_refl _)
  replace HB : Hid (Below w.heap.size w w20) := HB.out.trans (hbel.mono HB.out.size)
  have Ndwn2 : Hid (Nm w20 dwn2 (dg Bs (V / 2 ^ k.toNat))) := hown.nm (dg_sm Bs_two _)
  clear hown hbel
  have Cc := rsame_eq dwn dwn2 _ w20 Ndwn.out Ndwn2.out (Nat.le_trans (dgl_le _ V 1048576 (Nat.div_le_self _ _) (by have h := L2.out; rw [HV.out] at h; exact h)) (by decide))
  go_wp2_with fail
  refine Cc.mono ?_
  clear Cc
  rintro e w21 ⟨rfl, qq, hq⟩
  replace Nb_b : Hid (Nb w21 bb (l)) := by rw [hq]; exact Nb_b.out.drewN qq
  replace Ng : Hid (Nb w21 given (l)) := by rw [hq]; exact Ng.out.drewN qq
  replace Nbts : Hid (Nb w21 bts (tobe (lst V) V)) := by rw [hq]; exact Nbts.out.drewN qq
  replace Nfixed : Hid (Nb w21 fixed (fl)) := by rw [hq]; exact Nfixed.out.drewN qq
  replace Nother : Hid (Nb w21 other (fl)) := by rw [hq]; exact Nother.out.drewN qq
  replace Nbts2 : Hid (Nb w21 bts2 (tobe (lst V) V)) := by rw [hq]; exact Nbts2.out.drewN qq
  replace Nn : Hid (Nm w21 n (xs)) := by rw [hq]; exact Nn.out.drewN qq
  replace Nx : Hid (Nm w21 x (xs)) := by rw [hq]; exact Nx.out.drewN qq
  replace Nf : Hid (Nm w21 f (dg Bs (bv l))) := by rw [hq]; exact Nf.out.drewN qq
  replace Nfrm : Hid (Nm w21 frm (dg Bs u)) := by rw [hq]; exact Nfrm.out.drewN qq
  replace Nup : Hid (Nm w21 up (dg Bs (V * 2 ^ shk k))) := by rw [hq]; exact Nup.out.drewN qq
  replace Ndwn : Hid (Nm w21 dwn (dg Bs (V / 2 ^ k.toNat))) := by rw [hq]; exact Ndwn.out.drewN qq
  replace Nf2 : Hid (Nm w21 f2 (dg Bs (bv l))) := by rw [hq]; exact Nf2.out.drewN qq
  replace Nfrm2 : Hid (Nm w21 frm2 (dg Bs u)) := by rw [hq]; exact Nfrm2.out.drewN qq
  replace Nup2 : Hid (Nm w21 up2 (dg Bs (V * 2 ^ shk k))) := by rw [hq]; exact Nup2.out.drewN qq
  replace Ndwn2 : Hid (Nm w21 dwn2 (dg Bs (V / 2 ^ k.toNat))) := by rw [hq]; exact Ndwn2.out.drewN qq
  replace HB : Hid (Below w.heap.size w w21) := by rw [hq]; exact below_drewN HB.out qq
  clear hq
  have Cc := rsame_eq x n _ w21 Nx.out Nn.out (by omega)
  go_wp2_with fail
  refine Cc.mono ?_
  clear Cc
  rintro e w22 ⟨rfl, qq, hq⟩
  replace Nb_b : Hid (Nb w22 bb (l)) := by rw [hq]; exact Nb_b.out.drewN qq
  replace Ng : Hid (Nb w22 given (l)) := by rw [hq]; exact Ng.out.drewN qq
  replace Nbts : Hid (Nb w22 bts (tobe (lst V) V)) := by rw [hq]; exact Nbts.out.drewN qq
  replace Nfixed : Hid (Nb w22 fixed (fl)) := by rw [hq]; exact Nfixed.out.drewN qq
  replace Nother : Hid (Nb w22 other (fl)) := by rw [hq]; exact Nother.out.drewN qq
  replace Nbts2 : Hid (Nb w22 bts2 (tobe (lst V) V)) := by rw [hq]; exact Nbts2.out.drewN qq
  replace Nn : Hid (Nm w22 n (xs)) := by rw [hq]; exact Nn.out.drewN qq
  replace Nx : Hid (Nm w22 x (xs)) := by rw [hq]; exact Nx.out.drewN qq
  replace Nf : Hid (Nm w22 f (dg Bs (bv l))) := by rw [hq]; exact Nf.out.drewN qq
  replace Nfrm : Hid (Nm w22 frm (dg Bs u)) := by rw [hq]; exact Nfrm.out.drewN qq
  replace Nup : Hid (Nm w22 up (dg Bs (V * 2 ^ shk k))) := by rw [hq]; exact Nup.out.drewN qq
  replace Ndwn : Hid (Nm w22 dwn (dg Bs (V / 2 ^ k.toNat))) := by rw [hq]; exact Ndwn.out.drewN qq
  replace Nf2 : Hid (Nm w22 f2 (dg Bs (bv l))) := by rw [hq]; exact Nf2.out.drewN qq
  replace Nfrm2 : Hid (Nm w22 frm2 (dg Bs u)) := by rw [hq]; exact Nfrm2.out.drewN qq
  replace Nup2 : Hid (Nm w22 up2 (dg Bs (V * 2 ^ shk k))) := by rw [hq]; exact Nup2.out.drewN qq
  replace Ndwn2 : Hid (Nm w22 dwn2 (dg Bs (V / 2 ^ k.toNat))) := by rw [hq]; exact Ndwn2.out.drewN qq
  replace HB : Hid (Below w.heap.size w w22) := by rw [hq]; exact below_drewN HB.out qq
  clear hq
  have Cc := bits_nm x xs w22 Nx.out (by omega)
  rw [HV.out, Hz4.out] at Cc
  go_wp2_with fail
  refine Cc.mono ?_
  clear Cc
  rintro e w22 ⟨rfl, rfl⟩
  have Cc := rbits_nm n xs w22 Nn.out (by omega)
  rw [HV.out, Hz4.out] at Cc
  go_wp2_with fail
  refine Cc.mono ?_
  clear Cc
  rintro e w23 ⟨rfl, hbel⟩
  replace Nb_b : Hid (Nb w23 bb (l)) := Nb_b.out.below hbel (Nat.le_refl _)
  replace Ng : Hid (Nb w23 given (l)) := Ng.out.below hbel (Nat.le_refl _)
  replace Nbts : Hid (Nb w23 bts (tobe (lst V) V)) := Nbts.out.below hbel (Nat.le_refl _)
  replace Nfixed : Hid (Nb w23 fixed (fl)) := Nfixed.out.below hbel (Nat.le_refl _)
  replace Nother : Hid (Nb w23 other (fl)) := Nother.out.below hbel (Nat.le_refl _)
  replace Nbts2 : Hid (Nb w23 bts2 (tobe (lst V) V)) := Nbts2.out.below hbel (Nat.le_refl _)
  replace Nn : Hid (Nm w23 n (xs)) := Nn.out.below hbel (Nat.le_refl _)
  replace Nx : Hid (Nm w23 x (xs)) := Nx.out.below hbel (Nat.le_refl _)
  replace Nf : Hid (Nm w23 f (dg Bs (bv l))) := Nf.out.below hbel (Nat.le_refl _)
  replace Nfrm : Hid (Nm w23 frm (dg Bs u)) := Nfrm.out.below hbel (Nat.le_refl _)
  replace Nup : Hid (Nm w23 up (dg Bs (V * 2 ^ shk k))) := Nup.out.below hbel (Nat.le_refl _)
  replace Ndwn : Hid (Nm w23 dwn (dg Bs (V / 2 ^ k.toNat))) := Ndwn.out.below hbel (Nat.le_refl _)
  replace Nf2 : Hid (Nm w23 f2 (dg Bs (bv l))) := Nf2.out.below hbel (Nat.le_refl _)
  replace Nfrm2 : Hid (Nm w23 frm2 (dg Bs u)) := Nfrm2.out.below hbel (Nat.le_refl _)
  replace Nup2 : Hid (Nm w23 up2 (dg Bs (V * 2 ^ shk k))) := Nup2.out.below hbel (Nat.le_refl _)
  replace Ndwn2 : Hid (Nm w23 dwn2 (dg Bs (V / 2 ^ k.toNat))) := Ndwn2.out.below hbel (Nat.le_refl _)
  replace HB : Hid (Below w.heap.size w w23) := HB.out.trans (hbel.mono HB.out.size)
  clear hbel
  have Cc := bit_nm i x xs w23 Nx.out hi
  rw [HV.out, Hk3.out] at Cc
  go_wp2_with fail
  refine Cc.mono ?_
  clear Cc
  rintro e w23 ⟨rfl, rfl⟩
  have Cc := rbit_nm i n xs w23 Nn.out (by omega) hi
  rw [HV.out, Hk3.out] at Cc
  go_wp2_with fail
  refine Cc.mono ?_
  clear Cc
  rintro e w23 ⟨rfl, rfl⟩
  go_wp2
  go_ret
  exact ⟨by first | rfl | simp, HB.out⟩

end Go.Proofs.Ytkkcmfkegbdgjaa
