import Derived.Test.YtkkcmfkegbdgjaaDig0
import Derived.Deep.CutRange
namespace Go.Proofs.Ytkkcmfkegbdgjaa
open Go.RowKit

/-- What stands through all of NatDigits. -/
structure DD (w wr : World) (b n : Value) (l : List UInt8) (xs : List Nat) : Prop where
  nb : Nb wr b l
  nm : Nm wr n xs
  bel : Below w.heap.size w wr
theorem DD.below {w w1 w2 : World} {b n : Value} {l : List UInt8} {xs : List Nat} {k : Nat} (h : DD w w1 b n l xs) (hb : Below k w1 w2) (hk : w1.heap.size ≤ k) : DD w w2 b n l xs := ⟨h.nb.below hb hk, h.nm.below hb hk, h.bel.trans (hb.mono (Nat.le_trans h.bel.size hk))⟩
theorem DD.drew {w w1 : World} {b n : Value} {l : List UInt8} {xs : List Nat} (h : DD w w1 b n l xs) : DD w w1.drew b n l xs := ⟨h.nb, h.nm, Below.drew h.bel⟩
theorem DD.drewN {w w1 : World} {b n : Value} {l : List UInt8} {xs : List Nat} (h : DD w w1 b n l xs) (q : Nat) : DD w (w1.drewN q) b n l xs := ⟨h.nb, h.nm, below_drewN h.bel q⟩
theorem Nb.drew {w : World} {v : Value} {l : List UInt8} (h : Nb w v l) : Nb w.drew v l := h
theorem Ow.drew {w : World} {base : Nat} {v : Value} {xs : List Nat} (h : Ow w base v xs) : Ow w.drew base v xs := h

/-- .. and the number of the bytes. -/
structure DF (w wr : World) (b n f : Value) (l : List UInt8) (xs : List Nat) : Prop where
  d : DD w wr b n l xs
  f : Ow wr 0 f (dg Bs (bv l))
theorem DF.below {w w1 w2 : World} {b n f : Value} {l : List UInt8} {xs : List Nat} {k : Nat} (h : DF w w1 b n f l xs) (hb : Below k w1 w2) (hk : w1.heap.size ≤ k) : DF w w2 b n f l xs := ⟨h.d.below hb hk, h.f.below hb hk⟩
theorem DF.drew {w w1 : World} {b n f : Value} {l : List UInt8} {xs : List Nat} (h : DF w w1 b n f l xs) : DF w w1.drew b n f l xs := ⟨h.d.drew, h.f⟩
theorem DF.drewN {w w1 : World} {b n f : Value} {l : List UInt8} {xs : List Nat} (h : DF w w1 b n f l xs) (q : Nat) : DF w (w1.drewN q) b n f l xs := ⟨h.d.drewN q, h.f⟩

set_option maxRecDepth 100000 in
set_option maxHeartbeats 20000000 in
theorem digits_core (ab : Option Addr) (cb : Nat) (n : Value) (l : List UInt8) (xs : List Nat) (size k i : Int) (w : World) (hb : Nb w (.slice ab l.length cb) l) (hn : Nm w n xs) (h1 : l.length ≤ 1048576) (h2 : xs.length ≤ 1048576) (hi : i ≤ 9223372036854775807) (hnil : ab = none → cb = 0) :
    Calls Try.prog 8 #[.slice ab l.length cb, n, .int .i64 size, .int .i64 k, .int .i64 i] w fun e w' => e = .returned (.bool true) ∧ Below w.heap.size w w' := by
  have HD0 : Hid (DD w w (.slice ab l.length cb) n l xs) := ⟨hb, hn, Below.refl _ _⟩
  have LX : Hid ((dg Bs (nv Bs xs)).length ≤ 1048576) := dgl_arg xs _ hn.sm h2
  have HLst : Hid (lst (nv Bs xs) ≤ 4194304) := by have h3 := lst_bound xs hn.sm; show _ ≤ _; omega
  have LB : Hid ((dg Bs (bv l)).length ≤ 1048576) := dgl_bv l _ h1
  obtain ⟨V, HV⟩ : ∃ V, Hid (nv Bs xs = V) := ⟨_, rfl⟩
  rw [HV.out] at LX HLst
  have hcb : l.length ≤ cb := by obtain ⟨ao, c, e, h3, _⟩ := hb; cases e; exact h3
  clear hb hn
  go_enter Try.func8, Try.ntmps8
  go_wp2_with fail
  refine (alive_any w).mono ?_
  rintro e w1 ⟨rfl, hb1⟩
  have HD1 : Hid (DD w w1 (.slice ab l.length cb) n l xs) := HD0.out.below hb1 (Nat.le_refl _)
  clear hb1 HD0
  have C := fromBytes_nb (.slice ab l.length cb) l w1 HD1.out.nb (by omega)
  go_wp2_with fail
  refine C.mono ?_
  clear C
  rintro e w2 ⟨f, rfl, of, hb2⟩
  have HD2 : Hid (DD w w2 (.slice ab l.length cb) n l xs) := HD1.out.below hb2 (Nat.le_refl _)
  have Of : Hid (Ow w2 0 f (dg Bs (bv l))) := of.base (Nat.zero_le _)
  clear of hb2 HD1
  go_wp2
  go_loopw [12] (fun s wr => ∃ z : Nat, s = .int .i64 (z : Int) ∧ z ≤ l.length ∧ wr = w2 ∧ Hid (∀ j, j < z → l.getD j 0 = 0)) (fun s _ => l.length - (intOf s).toNat)
  case atStart => exact ⟨0, rfl, Nat.zero_le _, rfl, fun j hj => by omega⟩
  case round =>
    obtain ⟨z, rfl, hz, hw, HZ⟩ := hrel
    have hw2 := hw.symm
    clear hw
    subst hw2
    obtain ⟨tb, Htb⟩ : ∃ tb : Bool, Hid ((tb = true ∧ z < l.length ∧ l.getD z 0 = 0) ∨ (tb = false ∧ (z = l.length ∨ l.getD z 0 ≠ 0))) := by
      by_cases h : z < l.length ∧ l.getD z 0 = 0
      · exact ⟨true, .inl ⟨rfl, h⟩⟩
      · refine ⟨false, .inr ⟨rfl, ?_⟩⟩
        by_cases h3 : z < l.length
        · exact .inr (fun e => h ⟨h3, e⟩)
        · exact .inl (by omega)
    go_upto_region 5 with fail
    go_cut [39] from 29 to 39 (fun s wx => s = .bool tb ∧ wx = w2)
    case first =>
      by_cases hlt : z < l.length
      · obtain ⟨ao', c', e', _, hrd⟩ := HD2.out.nb
        cases e'
        have hll : l ≠ [] := fun e => by rw [e] at hlt; simp at hlt
        obtain ⟨gl, ol, rfl, _, cl⟩ : ∃ g off : Nat, ab = some ⟨g, off, none⟩ ∧ g < w2.heap.size ∧ ∀ j, j < l.length → w2.cell? ⟨g, off + j, none⟩ = some (B (l.getD j 0)) := by
          rcases hrd with h | h
          · exact absurd h hll
          · exact h
        have c1 := cl z hlt
        obtain ⟨x, Hx⟩ : ∃ x, Hid (l.getD z 0 = x) := ⟨_, rfl⟩
        rw [Hx.out] at c1
        unfold B at c1
        by_cases hx0 : x = 0
        · subst hx0
          rw [show (((0 : UInt8).toNat : Nat) : Int) = 0 from rfl] at c1
          have HT : Hid (tb = true) := by
            rcases Htb.out with h | h
            · exact h.1
            · rcases h.2 with h3 | h3
              · omega
              · exact absurd Hx.out h3
          clear cl hll hrd Htb
          go_wp2_with fail
          go_meet
          exact ⟨by rw [HT.out], rfl⟩
        · have hxb : (((x.toNat : Nat) : Int) == 0) = false := by
            have : x.toNat ≠ 0 := fun e => hx0 (UInt8.toNat_inj.1 e)
            simp only [beq_eq_false_iff_ne]
            omega
          have HT : Hid (tb = false) := by
            rcases Htb.out with h | h
            · exact absurd (Hx.out.symm.trans h.2.2) hx0
            · exact h.1
          clear cl hll hrd hx0 Htb
          go_wp2_with fail
          go_meet
          exact ⟨by rw [HT.out], rfl⟩
      · have HT : Hid (tb = false) := by
          rcases Htb.out with h | h
          · exact absurd h.2.1 hlt
          · exact h.1
        clear Htb
        go_wp2_with fail
        go_meet
        exact ⟨by rw [HT.out], rfl⟩
    case rest =>
    obtain ⟨rfl, hwc⟩ := hcut
    have hwc2 := hwc.symm
    clear hwc
    subst hwc2
    rcases Htb.out with ⟨rfl, hzl, hz0⟩ | ⟨rfl, hzz⟩
    · have HZ1 : Hid (∀ j, j < z + 1 → l.getD j 0 = 0) := fun j hj => by
        rcases Nat.lt_or_ge j z with h | h
        · exact HZ.out j h
        · obtain rfl : j = z := by omega
          exact hz0
      clear hz0
      go_wp2
      go_roundw
      case rel => first | exact ⟨z + 1, by go_num, by omega, rfl, HZ1⟩ | exact ⟨z + 1, by go_num, by omega, trivial, HZ1⟩
      case measure => simp [intOf]; omega
    · have HT : Hid (tobe (lst (bv l)) (bv l) = l.drop z) := least_is l z hz HZ.out hzz
      clear hzz HZ Htb
      have LD : Hid ((l.drop z).length ≤ 1048576) := by show _ ≤ _; rw [List.length_drop]; omega
      have HF : Hid (DF w w2 (.slice ab l.length cb) n f l xs) := ⟨HD2.out, Of.out⟩
      have C1 : Hid (∀ w', DF w w' (.slice ab l.length cb) n f l xs → Calls Try.prog 28 #[f] w' fun e w'' => ∃ r, e = .returned r ∧ Nb w'' r (l.drop z) ∧ DF w w'' (.slice ab l.length cb) n f l xs) := fun w' hd => by
        have C := bytes_nm f _ w' (hd.f.nm (dg_sm Bs_two _)) (by have := LB.out; omega)
        rw [dg_nv Bs_two, HT.out] at C
        refine C.mono ?_
        rintro e w'' ⟨r, rfl, ho, hb⟩
        exact ⟨r, rfl, ho.nb, hd.below hb (Nat.le_refl _)⟩
      have C2 : Hid (∀ w' r vs, DF w w' (.slice ab l.length cb) n f l xs → Nb w' r (l.drop z) → Nb w' vs (l.drop z) → Calls Try.prog 27 #[r, vs] w' fun e w'' => e = .returned (.bool true) ∧ DF w w'' (.slice ab l.length cb) n f l xs) := fun w' r vs hd h3 h4 => by
        refine (lsb_eq r vs _ w' h3 h4 (by have := LD.out; omega)).mono ?_
        rintro e w'' ⟨rfl, q, rfl⟩
        exact ⟨rfl, hd.drewN q⟩
      have C3 : Hid (∀ w', DF w w' (.slice ab l.length cb) n f l xs → Calls Try.prog 28 #[n] w' fun e w'' => ∃ r, e = .returned r ∧ Nb w'' r (tobe (lst V) V) ∧ DF w w'' (.slice ab l.length cb) n f l xs) := fun w' hd => by
        have C := bytes_nm n xs w' hd.d.nm (by omega)
        rw [HV.out] at C
        refine C.mono ?_
        rintro e w'' ⟨r, rfl, ho, hb⟩
        exact ⟨r, rfl, ho.nb, hd.below hb (Nat.le_refl _)⟩
      have C4 : Hid (∀ w' r, DF w w' (.slice ab l.length cb) n f l xs → Nb w' r (tobe (lst V) V) → Calls Try.prog 26 #[r] w' fun e w'' => ∃ r', e = .returned r' ∧ Ow w'' 0 r' (dg Bs V) ∧ DF w w'' (.slice ab l.length cb) n f l xs) := fun w' r hd h3 => by
        have C := fromBytes_nb r _ w' h3 (by rw [tobe_length]; have := HLst.out; omega)
        rw [back_is V (lst V) (Nat.le_refl _)] at C
        refine C.mono ?_
        rintro e w'' ⟨r', rfl, ho, hb⟩
        exact ⟨r', rfl, ho.base (Nat.zero_le _), hd.below hb (Nat.le_refl _)⟩
      have C5 : Hid (∀ w' r, DF w w' (.slice ab l.length cb) n f l xs → Ow w' 0 r (dg Bs V) → Calls Try.prog 15 #[r, n] w' fun e w'' => e = .returned (.int .i64 0) ∧ DF w w'' (.slice ab l.length cb) n f l xs) := fun w' r hd h3 => by
        have C := cmp_nm r n _ xs w' (h3.nm (dg_sm Bs_two _)) hd.d.nm (by have := LX.out; omega) (by omega)
        rw [dg_nv Bs_two, HV.out, cmp3_eq rfl] at C
        refine C.mono ?_
        rintro e w'' ⟨rfl, q, rfl⟩
        exact ⟨rfl, hd.drewN q⟩
      clear HD2 Of
      go_upto_region 7 with fail
      go_cut [56] from 42 to 56 (fun s wx => s = .bool false ∧ Hid (DF w wx (.slice ab l.length cb) n f l xs))
      case first =>
        have hF := HF.out
        clear HF
        by_cases hzc : z < cb
        · have HS : Hid (∀ w', DF w w' (.slice ab l.length cb) n f l xs → Nb w' (.slice (Option.map (fun x => x.add z) ab) (l.length - z) (cb - z)) (l.drop z)) := fun w' hd => by
            obtain ⟨ao, c, e, hc, hrd⟩ := hd.d.nb
            cases e
            refine ⟨_, cb - z, by rw [List.length_drop], by rw [List.length_drop]; omega, ?_⟩
            rcases Nat.lt_or_ge z l.length with h | h
            · rcases hrd with h5 | ⟨g, off, e5, h6, h7⟩
              · rw [h5] at h; simp at h
              · subst e5
                refine .inr ⟨g, off + z, by simp [Addr.add], h6, fun j hj => ?_⟩
                rw [List.length_drop] at hj
                rw [Nat.add_assoc, h7 (z + j) (by omega)]
                simp [List.getD_eq_getElem?_getD, List.getElem?_drop]
            · exact .inl (List.drop_of_length_le h)
          go_region_with (first
            | (go_at_call_of 28 f; refine (C1.out _ (by repeat (first | with_reducible assumption | with_reducible apply DF.drew))).mono ?_; rintro e wx ⟨r, rfl, hrx, hDx⟩)
            | (go_at_call 27; refine (C2.out _ _ _ (by repeat (first | with_reducible assumption | with_reducible apply DF.drew)) (by with_reducible assumption) (HS.out _ (by with_reducible assumption))).mono ?_; rintro e wy ⟨rfl, hDy⟩)
            | (go_at_call_of 28 n; refine (C3.out _ (by with_reducible assumption)).mono ?_; rintro e wz ⟨r2, rfl, hrz, hDz⟩)
            | (go_at_call 26; refine (C4.out _ _ (by with_reducible assumption) (by with_reducible assumption)).mono ?_; rintro e wu ⟨r3, rfl, hru, hDu⟩)
            | (go_at_call 15; refine (C5.out _ _ (by with_reducible assumption) (by with_reducible assumption)).mono ?_; rintro e wv ⟨rfl, hDv⟩))
          all_goals go_wp2_with fail
          all_goals go_meet
          exact ⟨rfl, hDv⟩
        · have hl0 : Hid (l.drop z = []) := List.drop_of_length_le (by omega)
          obtain rfl : z = cb := by omega
          have HS : Hid (∀ w', DF w w' (.slice ab l.length z) n f l xs → Nb w' (.slice ab 0 0) (l.drop z)) := fun w' _ => by
            rw [hl0.out]
            exact ⟨ab, 0, rfl, Nat.le_refl _, .inl rfl⟩
          go_region_with (first
            | (go_at_call_of 28 f; refine (C1.out _ (by repeat (first | with_reducible assumption | with_reducible apply DF.drew))).mono ?_; rintro e wx ⟨r, rfl, hrx, hDx⟩)
            | (go_at_call 27; refine (C2.out _ _ _ (by repeat (first | with_reducible assumption | with_reducible apply DF.drew)) (by with_reducible assumption) (HS.out _ (by with_reducible assumption))).mono ?_; rintro e wy ⟨rfl, hDy⟩)
            | (go_at_call_of 28 n; refine (C3.out _ (by with_reducible assumption)).mono ?_; rintro e wz ⟨r2, rfl, hrz, hDz⟩)
            | (go_at_call 26; refine (C4.out _ _ (by with_reducible assumption) (by with_reducible assumption)).mono ?_; rintro e wu ⟨r3, rfl, hru, hDu⟩)
            | (go_at_call 15; refine (C5.out _ _ (by with_reducible assumption) (by with_reducible assumption)).mono ?_; rintro e wv ⟨rfl, hDv⟩))
          all_goals go_wp2_with fail
          all_goals go_meet
          exact ⟨rfl, hDv⟩
      case rest =>
      obtain ⟨rfl, HF2⟩ := hcut
      clear HF C1 C2 C4 C5 HT LD
      go_wp2_with fail
      refine (C3.out _ HF2.out).mono ?_
      clear C3
      rintro e wd ⟨least, rfl, hleast, hdd⟩
      have HDd : Hid (DD w wd (.slice ab l.length cb) n l xs) := hdd.d
      clear hdd HF2
      obtain ⟨al, cl, rfl, _, _⟩ := hleast
      rw [tobe_length]
      have C := fixed_nm n xs size wd HDd.out.nm (by omega)
      rw [HV.out] at C
      obtain ⟨L, HL⟩ : ∃ L, Hid (lst V = L) := ⟨_, rfl⟩
      rw [HL.out] at HLst C ⊢
      obtain ⟨ok, Hok⟩ : ∃ ok, Hid (decide ((L : Int) ≤ size ∧ size ≤ 16384) = ok) := ⟨_, rfl⟩
      rw [Hok.out] at C
      go_wp2_with fail
      refine C.mono ?_
      clear C
      rintro e we ⟨fx, lf, rfl, hfx, HLf, hb3⟩
      have HDe : Hid (DD w we (.slice ab l.length cb) n l xs) := HDd.out.below hb3 (Nat.le_refl _)
      obtain ⟨mf, Hmf⟩ : ∃ mf, Hid (lf.length = mf) := ⟨_, rfl⟩
      obtain ⟨af, cf, e5, h6, h7⟩ := hfx.nb
      rw [Hmf.out] at e5
      subst e5
      have HFx : Hid (Nb we (.slice af mf cf) lf) := by
        show Nb _ _ _
        rw [← Hmf.out]
        exact ⟨af, cf, rfl, h6, h7⟩
      clear hfx hb3 HDd h6 h7
      go_upto_region 11 with fail
      go_cut [103] from 65 to 103 (fun s wx => s = .bool false ∧ Hid (DD w wx (.slice ab l.length cb) n l xs))
      case first =>
        by_cases hA : (L : Int) ≤ size ∧ size ≤ 16384
        · rw [if_pos hA] at HLf
          obtain rfl : ok = true := Hok.out.symm.trans (decide_eq_true hA)
          obtain ⟨m, rfl⟩ : ∃ m : Nat, size = (m : Int) := ⟨size.toNat, by omega⟩
          rw [Int.toNat_natCast] at HLf
          subst HLf
          have em : m = mf := by rw [← Hmf.out, tobe_length]
          subst em
          have HFn := HFx.out
          have hm1 : L ≤ m := by omega
          have hm2 : m ≤ 16384 := by omega
          have C4 : Hid (∀ w' r, DD w w' (.slice ab l.length cb) n l xs → Nb w' r (tobe m V) → Calls Try.prog 26 #[r] w' fun e w'' => ∃ r', e = .returned r' ∧ Ow w'' 0 r' (dg Bs V) ∧ DD w w'' (.slice ab l.length cb) n l xs) := fun w' r hd h3 => by
            have C := fromBytes_nb r _ w' h3 (by rw [tobe_length]; omega)
            rw [back_is V m (by rw [HL.out]; exact hm1)] at C
            refine C.mono ?_
            rintro e w'' ⟨r', rfl, ho, hb⟩
            exact ⟨r', rfl, ho.base (Nat.zero_le _), hd.below hb (Nat.le_refl _)⟩
          have C5 : Hid (∀ w' r, DD w w' (.slice ab l.length cb) n l xs → Ow w' 0 r (dg Bs V) → Calls Try.prog 15 #[r, n] w' fun e w'' => e = .returned (.int .i64 0) ∧ DD w w'' (.slice ab l.length cb) n l xs) := fun w' r hd h3 => by
            have C := cmp_nm r n _ xs w' (h3.nm (dg_sm Bs_two _)) hd.nm (by have := LX.out; omega) (by omega)
            rw [dg_nv Bs_two, HV.out, cmp3_eq rfl] at C
            refine C.mono ?_
            rintro e w'' ⟨rfl, q, rfl⟩
            exact ⟨rfl, hd.drewN q⟩
          have hDe := HDe.out
          clear HDe HFx hA
          go_wp2_with fail
          refine (C4.out _ _ hDe HFn).mono ?_
          rintro e wu ⟨r3, rfl, hru, hDu⟩
          go_wp2_with fail
          refine (C5.out _ _ hDu hru).mono ?_
          rintro e wv ⟨rfl, hDv⟩
          go_wp2_with fail
          go_meet
          exact ⟨rfl, hDv⟩
        · rw [if_neg hA] at HLf
          obtain rfl : ok = false := Hok.out.symm.trans (decide_eq_false hA)
          subst HLf
          have em : 0 = mf := Hmf.out
          subst em
          clear HFx
          have hDe := HDe.out
          clear HDe
          by_cases hB : (L : Int) ≤ size
          · have hB2 : 16384 < size := by omega
            clear hA
            go_wp2_with fail
            go_meet
            exact ⟨rfl, hDe⟩
          · clear hA
            go_wp2_with fail
            go_meet
            exact ⟨rfl, hDe⟩
      case rest =>
      obtain ⟨rfl, HDf⟩ := hcut
      clear HDe HFx HLf Hok Hmf
      obtain ⟨bk, Hbk⟩ : ∃ bk : Bool, Hid ((bk = true ∧ (k < 0 ∨ 4096 < k)) ∨ (bk = false ∧ 0 ≤ k ∧ k ≤ 4096)) := by
        by_cases h : k < 0 ∨ 4096 < k
        · exact ⟨true, .inl ⟨rfl, h⟩⟩
        · exact ⟨false, .inr ⟨rfl, by omega⟩⟩
      go_upto_region 13 with fail
      go_cut [109] from 104 to 109 (fun s wx => s = .bool bk ∧ Hid (DD w wx (.slice ab l.length cb) n l xs))
      case first =>
        by_cases h1 : k < 0
        · obtain rfl : bk = true := by
            rcases Hbk.out with h | h
            · exact h.1
            · omega
          clear Hbk
          go_wp2_with fail
          go_meet
          exact ⟨rfl, HDf⟩
        · by_cases h2 : 4096 < k
          · obtain rfl : bk = true := by
              rcases Hbk.out with h | h
              · exact h.1
              · omega
            clear Hbk
            go_wp2_with fail
            go_meet
            exact ⟨rfl, HDf⟩
          · obtain rfl : bk = false := by
              rcases Hbk.out with h | h
              · omega
              · exact h.1
            clear Hbk
            go_wp2_with fail
            go_meet
            exact ⟨rfl, HDf⟩
      case rest =>
      obtain ⟨rfl, HDg⟩ := hcut
      clear HDf
      obtain ⟨kk, hkk, HK1, HK2⟩ : ∃ kk : Nat, kk ≤ 4096 ∧ Hid (bk = true → kk = 0) ∧ Hid (bk = false → k = (kk : Int)) := by
        rcases Hbk.out with ⟨rfl, h⟩ | ⟨rfl, h⟩
        · exact ⟨0, by omega, fun _ => rfl, fun e => by cases e⟩
        · exact ⟨k.toNat, by omega, (fun e => by cases e), (fun _ => by omega)⟩
      clear Hbk
      go_upto_if 109 with fail
      go_cut [3] from 109 to 109 (fun s wx => s = .int .i64 (kk : Int) ∧ Hid (DD w wx (.slice ab l.length cb) n l xs))
      case first =>
        rcases Bool.eq_false_or_eq_true bk with h | h
        · have HE := HK1.out h
          subst h
          clear HK1 HK2
          subst HE
          go_wp2_with fail
          go_meet
          exact ⟨rfl, HDg⟩
        · have HE : Hid (k = (kk : Int)) := HK2.out h
          subst h
          clear HK1 HK2
          go_wp2_with fail
          go_meet
          exact ⟨by rw [HE.out], HDg⟩
      case rest =>
      obtain ⟨rfl, HDh⟩ := hcut
      clear HDg HK1 HK2
      have LU : Hid ((dg Bs (V * 2 ^ kk)).length ≤ 10000000) := Nat.le_trans (dgl_shl V kk _ 4096 LX.out hkk) (by decide)
      -- Shl
      have C := d_shl kk (by omega) n xs _ HDh.out.nm (by omega)
      rw [HV.out] at C
      go_wp2_with fail
      refine C.mono ?_
      clear C
      rintro e w3 ⟨up, rfl, ho, hb3⟩
      have HD3 : Hid (DD w w3 (.slice ab l.length cb) n l xs) := HDh.out.below hb3 (Nat.le_refl _)
      have HU3 : Hid (Vo w3 up (V * 2 ^ kk)) := ho
      clear HDh ho hb3
      -- Shr
      have C := d_shr kk (by omega) n xs _ HD3.out.nm (by omega)
      rw [HV.out] at C
      go_wp2_with fail
      refine C.mono ?_
      clear C
      rintro e w4 ⟨dn, rfl, ho, hb4⟩
      have HD4 : Hid (DD w w4 (.slice ab l.length cb) n l xs) := HD3.out.below hb4 (Nat.le_refl _)
      have HU4 : Hid (Vo w4 up (V * 2 ^ kk)) := HU3.out.below hb4 (Nat.le_refl _)
      have HN4 : Hid (Vo w4 dn (V / 2 ^ kk)) := ho
      clear HD3 HU3 ho hb4
      -- pow
      have C := d_pow kk (by omega) w4
      go_wp2_with fail
      refine C.mono ?_
      clear C
      rintro e w5 ⟨pw, rfl, ho, hb5⟩
      have HD5 : Hid (DD w w5 (.slice ab l.length cb) n l xs) := HD4.out.below hb5 (Nat.le_refl _)
      have HU5 : Hid (Vo w5 up (V * 2 ^ kk)) := HU4.out.below hb5 (Nat.le_refl _)
      have HN5 : Hid (Vo w5 dn (V / 2 ^ kk)) := HN4.out.below hb5 (Nat.le_refl _)
      have HP5 : Hid (Vo w5 pw (2 ^ kk)) := ho
      clear HD4 HU4 HN4 ho hb5
      -- DivMod
      have C := d_div kk (by omega) n pw xs _ HD5.out.nm HP5.out (by omega)
      rw [HV.out] at C
      go_wp2_with fail
      refine C.mono ?_
      clear C
      rintro e w6 ⟨qq, rr, rfl, ho, ho2, hb6⟩
      have HD6 : Hid (DD w w6 (.slice ab l.length cb) n l xs) := HD5.out.below hb6 (Nat.le_refl _)
      have HU6 : Hid (Vo w6 up (V * 2 ^ kk)) := HU5.out.below hb6 (Nat.le_refl _)
      have HN6 : Hid (Vo w6 dn (V / 2 ^ kk)) := HN5.out.below hb6 (Nat.le_refl _)
      have HQ6 : Hid (Vo w6 qq (V / 2 ^ kk)) := ho
      have HR6 : Hid (Vo w6 rr (V % 2 ^ kk)) := ho2
      clear HD5 HU5 HN5 HP5 ho ho2 hb6
      -- Shr of up
      have C := d_shr kk (by omega) up _ _ HU6.out.nm LU.out
      rw [dg_nv Bs_two, Nat.mul_div_cancel _ (Nat.pow_pos (by decide))] at C
      go_wp2_with fail
      refine C.mono ?_
      clear C
      rintro e w7 ⟨bk2, rfl, ho, hb7⟩
      have HD7 : Hid (DD w w7 (.slice ab l.length cb) n l xs) := HD6.out.below hb7 (Nat.le_refl _)
      have HU7 : Hid (Vo w7 up (V * 2 ^ kk)) := HU6.out.below hb7 (Nat.le_refl _)
      have HN7 : Hid (Vo w7 dn (V / 2 ^ kk)) := HN6.out.below hb7 (Nat.le_refl _)
      have HQ7 : Hid (Vo w7 qq (V / 2 ^ kk)) := HQ6.out.below hb7 (Nat.le_refl _)
      have HR7 : Hid (Vo w7 rr (V % 2 ^ kk)) := HR6.out.below hb7 (Nat.le_refl _)
      have HB7 : Hid (Vo w7 bk2 V) := ho
      clear HD6 HU6 HN6 HQ6 HR6 ho hb7
      -- pow
      have C := d_pow kk (by omega) w7
      go_wp2_with fail
      refine C.mono ?_
      clear C
      rintro e w8 ⟨pw2, rfl, ho, hb8⟩
      have HD8 : Hid (DD w w8 (.slice ab l.length cb) n l xs) := HD7.out.below hb8 (Nat.le_refl _)
      have HU8 : Hid (Vo w8 up (V * 2 ^ kk)) := HU7.out.below hb8 (Nat.le_refl _)
      have HN8 : Hid (Vo w8 dn (V / 2 ^ kk)) := HN7.out.below hb8 (Nat.le_refl _)
      have HQ8 : Hid (Vo w8 qq (V / 2 ^ kk)) := HQ7.out.below hb8 (Nat.le_refl _)
      have HR8 : Hid (Vo w8 rr (V % 2 ^ kk)) := HR7.out.below hb8 (Nat.le_refl _)
      have HB8 : Hid (Vo w8 bk2 V) := HB7.out.below hb8 (Nat.le_refl _)
      have HP8 : Hid (Vo w8 pw2 (2 ^ kk)) := ho
      clear HD7 HU7 HN7 HQ7 HR7 HB7 ho hb8
      -- Mul
      have C := d_mul kk (by omega) n pw2 xs _ HD8.out.nm HP8.out (by omega)
      rw [HV.out] at C
      go_wp2_with fail
      refine C.mono ?_
      clear C
      rintro e w9 ⟨mm, rfl, ho, hb9⟩
      have HD9 : Hid (DD w w9 (.slice ab l.length cb) n l xs) := HD8.out.below hb9 (Nat.le_refl _)
      have HU9 : Hid (Vo w9 up (V * 2 ^ kk)) := HU8.out.below hb9 (Nat.le_refl _)
      have HN9 : Hid (Vo w9 dn (V / 2 ^ kk)) := HN8.out.below hb9 (Nat.le_refl _)
      have HQ9 : Hid (Vo w9 qq (V / 2 ^ kk)) := HQ8.out.below hb9 (Nat.le_refl _)
      have HR9 : Hid (Vo w9 rr (V % 2 ^ kk)) := HR8.out.below hb9 (Nat.le_refl _)
      have HB9 : Hid (Vo w9 bk2 V) := HB8.out.below hb9 (Nat.le_refl _)
      have HM9 : Hid (Vo w9 mm (V * 2 ^ kk)) := ho
      clear HD8 HU8 HN8 HQ8 HR8 HB8 HP8 ho hb9
      -- same
      have C := vsame up mm _ w9 0 0 HU9.out HM9.out (by have := LU.out; omega)
      go_wp2_with fail
      refine C.mono ?_
      clear C
      rintro e w10 ⟨rfl, q10, e10⟩
      have HD10 : Hid (DD w w10 (.slice ab l.length cb) n l xs) := by subst e10; exact HD9.out.drewN q10
      have HN10 : Hid (Vo w10 dn (V / 2 ^ kk)) := by subst e10; exact HN9.out.drewN q10
      have HQ10 : Hid (Vo w10 qq (V / 2 ^ kk)) := by subst e10; exact HQ9.out.drewN q10
      have HR10 : Hid (Vo w10 rr (V % 2 ^ kk)) := by subst e10; exact HR9.out.drewN q10
      have HB10 : Hid (Vo w10 bk2 V) := by subst e10; exact HB9.out.drewN q10
      clear HD9 HU9 HN9 HQ9 HR9 HB9 HM9 e10
      have C := vsame dn qq _ w10 0 0 HN10.out HQ10.out (Nat.le_trans (dgl_le _ V _ (Nat.div_le_self _ _) LX.out) (by decide))
      go_wp2_with fail
      refine C.mono ?_
      clear C
      rintro e w11 ⟨rfl, q11, e11⟩
      have HD11 : Hid (DD w w11 (.slice ab l.length cb) n l xs) := by subst e11; exact HD10.out.drewN q11
      have HR11 : Hid (Vo w11 rr (V % 2 ^ kk)) := by subst e11; exact HR10.out.drewN q11
      have HB11 : Hid (Vo w11 bk2 V) := by subst e11; exact HB10.out.drewN q11
      clear HD10 HN10 HQ10 HR10 HB10 e11
      have C := d_cmp bk2 n V xs w11 HB11.out HD11.out.nm (by omega) (by have := LX.out; omega)
      rw [HV.out, cmp3_eq rfl] at C
      go_wp2_with fail
      refine C.mono ?_
      clear C
      rintro e w12 ⟨rfl, q12, e12⟩
      have HD12 : Hid (DD w w12 (.slice ab l.length cb) n l xs) := by subst e12; exact HD11.out.drewN q12
      have HR12 : Hid (Vo w12 rr (V % 2 ^ kk)) := by subst e12; exact HR11.out.drewN q12
      clear HD11 HR11 HB11 e12
      have C := d_bits rr _ w12 HR12.out (Nat.le_trans (dgl_le _ V _ (Nat.mod_le _ _) LX.out) (by decide))
      have hbr := bl_rest V kk
      obtain ⟨br, Hbr⟩ : ∃ br, Hid (bl (V % 2 ^ kk) = br) := ⟨_, rfl⟩
      rw [Hbr.out] at hbr C
      go_wp2_with fail
      refine C.mono ?_
      clear C
      rintro e w13 ⟨rfl, e13⟩
      have HD13 : Hid (DD w w13 (.slice ab l.length cb) n l xs) := by subst e13; exact HD12.out
      clear HD12 HR12 e13 Hbr
      have C := bits_nm n xs w13 HD13.out.nm (by omega)
      have hbb := bl_bound V _ LX.out
      obtain ⟨b, Hb⟩ : ∃ b, Hid (bl V = b) := ⟨_, rfl⟩
      rw [HV.out, Hb.out] at C
      rw [Hb.out] at hbb
      go_wp2_with fail
      refine C.mono ?_
      clear C
      rintro e w14 ⟨rfl, e14⟩
      have HD14 : Hid (DD w w14 (.slice ab l.length cb) n l xs) := by subst e14; exact HD13.out
      clear HD13 e14 LU hbr
      go_upto_region 22 with fail
      go_cut [180] from 158 to 180 (fun s wx => s = .bool false ∧ Hid (DD w wx (.slice ab l.length cb) n l xs))
      case first =>
        by_cases hV : V = 0
        · have eb : b = 0 := by rw [← Hb.out, hV]; rfl
          have eL : L = 0 := by rw [← HL.out, hV]; rfl
          clear hV
          subst eb
          subst eL
          go_wp2_with fail
          go_meet
          exact ⟨rfl, HD14⟩
        · have hb0 : 0 < b := by rw [← Hb.out]; exact bl_pos V hV
          have hbt := bit_top V hV
          rw [Hb.out] at hbt
          have C1 : Hid (∀ j : Int, j = (b : Int) - 1 → Calls Try.prog 33 #[n, .int .i64 j] w14 fun e w' => e = .returned (.bool true) ∧ w' = w14) := fun j hj => by
            have C := bit_nm j n xs w14 HD14.out.nm (by omega)
            rw [HV.out] at C
            have e : bitV V j = true := by
              unfold bitV
              rw [if_neg (by omega), show j.toNat = b - 1 by omega]
              exact decide_eq_true hbt.1
            rw [e] at C
            exact C
          have C2 : Hid (∀ j : Int, j = (b : Int) → Calls Try.prog 33 #[n, .int .i64 j] w14 fun e w' => e = .returned (.bool false) ∧ w' = w14) := fun j hj => by
            have C := bit_nm j n xs w14 HD14.out.nm (by omega)
            rw [HV.out] at C
            have e : bitV V j = false := by
              unfold bitV
              rw [if_neg (by omega), show j.toNat = b by omega]
              exact decide_eq_false (by omega)
            rw [e] at C
            exact C
          have hbe : ((b : Int) == 0) = false := by simp only [beq_eq_false_iff_ne]; omega
          clear hbt hV
          go_wp2_with fail
          refine (C1.out _ (by omega)).mono ?_
          rintro e wu ⟨rfl, eu⟩
          have eu2 := eu.symm
          clear eu
          subst eu2
          go_wp2_with fail
          refine (C2.out _ (by omega)).mono ?_
          rintro e wv ⟨rfl, ev⟩
          have ev2 := ev.symm
          clear ev
          subst ev2
          go_wp2_with fail
          go_meet
          exact ⟨rfl, HD14⟩
      case rest =>
      obtain ⟨rfl, HD15⟩ := hcut
      clear HD14
      go_upto_region 24 with fail
      go_cut [201] from 181 to 201 (fun s wx => s = .bool false ∧ Hid (DD w wx (.slice ab l.length cb) n l xs))
      case first =>
        by_cases hV : V = 0
        · have eb : b = 0 := by rw [← Hb.out, hV]; rfl
          clear hV
          subst eb
          go_wp2_with fail
          go_meet
          exact ⟨rfl, HD15⟩
        · have hb0 : 0 < b := by rw [← Hb.out]; exact bl_pos V hV
          by_cases hb1 : b ≤ 131072
          · have C1 : Hid (∀ (j : Int) w', j = (b : Int) → DD w w' (.slice ab l.length cb) n l xs → Calls Try.prog 32 #[.int .i64 j] w' fun e w'' => ∃ r, e = .returned r ∧ Vo w'' r (2 ^ b) ∧ DD w w'' (.slice ab l.length cb) n l xs) := fun j w' hj hd => by
              rw [hj]
              refine (d_pow b hb1 w').mono ?_
              rintro e w'' ⟨r, rfl, ho, hb⟩
              exact ⟨r, rfl, ho, hd.below hb (Nat.le_refl _)⟩
            have C2 : Hid (∀ (j : Int) w', j = (b : Int) - 1 → DD w w' (.slice ab l.length cb) n l xs → Calls Try.prog 32 #[.int .i64 j] w' fun e w'' => ∃ r, e = .returned r ∧ Vo w'' r (2 ^ (b - 1)) ∧ DD w w'' (.slice ab l.length cb) n l xs) := fun j w' hj hd => by
              rw [hj, show (b : Int) - 1 = ((b - 1 : Nat) : Int) by omega]
              refine (d_pow (b - 1) (by omega) w').mono ?_
              rintro e w'' ⟨r, rfl, ho, hb⟩
              exact ⟨r, rfl, ho, hd.below hb (Nat.le_refl _)⟩
            have C3 : Hid (∀ v w', Vo w' v (2 ^ b) → DD w w' (.slice ab l.length cb) n l xs → Calls Try.prog 15 #[v, n] w' fun e w'' => e = .returned (.int .i64 1) ∧ DD w w'' (.slice ab l.length cb) n l xs) := fun v w' hv hd => by
              have C := d_cmp v n _ xs w' hv hd.nm (by omega) (Nat.le_trans (dgl_pow b _ hb1) (by decide))
              have h5 := bl_lt V
              rw [Hb.out] at h5
              rw [HV.out, cmp3_gt (Int.ofNat_lt.2 h5)] at C
              refine C.mono ?_
              rintro e w'' ⟨rfl, q, rfl⟩
              exact ⟨rfl, hd.drewN q⟩
            have C4 : Hid (∀ v w', Vo w' v (2 ^ (b - 1)) → DD w w' (.slice ab l.length cb) n l xs → Calls Try.prog 15 #[v, n] w' fun e w'' => ∃ c : Int, e = .returned (.int .i64 c) ∧ c ≤ 0 ∧ DD w w'' (.slice ab l.length cb) n l xs) := fun v w' hv hd => by
              have C := d_cmp v n _ xs w' hv hd.nm (by omega) (Nat.le_trans (dgl_pow (b - 1) 131072 (by omega)) (by decide))
              have h5 := bl_le V hV
              rw [Hb.out] at h5
              refine C.mono ?_
              rintro e w'' ⟨rfl, q, rfl⟩
              refine ⟨_, rfl, ?_, hd.drewN q⟩
              rw [HV.out]
              have h6 : ((2 ^ (b - 1) : Nat) : Int) ≤ (V : Int) := Int.ofNat_le.2 h5
              generalize ((2 ^ (b - 1) : Nat) : Int) = X at h6
              unfold cmp3
              split
              · omega
              · split
                · omega
                · omega
            have hd := HD15.out
            clear HD15 hV
            go_wp2_with fail
            refine (C1.out _ _ (by omega) hd).mono ?_
            rintro e wu ⟨p1, rfl, hp1, hdu⟩
            go_wp2_with fail
            refine (C3.out _ _ hp1 hdu).mono ?_
            rintro e wv ⟨rfl, hdv⟩
            go_wp2_with fail
            refine (C2.out _ _ (by omega) hdv).mono ?_
            rintro e wx ⟨p2, rfl, hp2, hdx⟩
            go_wp2_with fail
            refine (C4.out _ _ hp2 hdx).mono ?_
            rintro e wy ⟨c, rfl, hc, hdy⟩
            go_wp2_with fail
            go_meet
            exact ⟨by rw [decide_eq_false (by omega)], hdy⟩
          · clear hV
            go_wp2_with fail
            go_meet
            exact ⟨rfl, HD15⟩
      case rest =>
      obtain ⟨rfl, HD16⟩ := hcut
      clear HD15
      by_cases hi0 : i < 0
      · have C := bit_nm i n xs _ HD16.out.nm hi
        unfold bitV at C
        rw [if_pos hi0] at C
        go_wp2_with fail
        refine C.mono ?_
        clear C
        rintro e w20 ⟨rfl, e20⟩
        have HB : Hid (Below w.heap.size w w20) := by subst e20; exact HD16.out.bel
        clear e20 HD16
        go_wp2
        go_ret
        exact ⟨rfl, HB.out⟩
      · obtain ⟨ii, rfl⟩ : ∃ ii : Nat, i = (ii : Int) := ⟨i.toNat, by omega⟩
        have C := d_shr ii (by omega) n xs _ HD16.out.nm (by omega)
        rw [HV.out] at C
        obtain ⟨X, HX⟩ : ∃ X, Hid (V / 2 ^ ii = X) := ⟨_, rfl⟩
        rw [HX.out] at C
        go_wp2_with fail
        refine C.mono ?_
        clear C
        rintro e w20 ⟨sh, rfl, ho, hb20⟩
        have HD20 : Hid (DD w w20 (.slice ab l.length cb) n l xs) := HD16.out.below hb20 (Nat.le_refl _)
        clear HD16 hb20
        have C := bit_nm (ii : Int) n xs w20 HD20.out.nm hi
        unfold bitV at C
        rw [if_neg (by omega), Int.toNat_natCast, HV.out, HX.out] at C
        have hod := dg_odd X
        obtain ⟨sa, sc, rfl, hsc, hrn, hsm⟩ := ho.nm
        have HB : Hid (Below w.heap.size w w20) := HD20.out.bel
        clear ho hsm HD20
        obtain ⟨D, HDg⟩ : ∃ D, Hid (dg Bs X = D) := ⟨_, rfl⟩
        rw [HDg.out] at hod hsc hrn ⊢
        by_cases hD : D = []
        · subst hD
          rw [decide_eq_false (by rw [← hod]; decide)] at C
          rw [List.length_nil]
          clear hod hrn hsc
          go_wp2_with fail
          refine C.mono ?_
          clear C
          rintro e w21 ⟨rfl, e21⟩
          have HB2 : Hid (Below w.heap.size w w21) := by subst e21; exact HB.out
          clear e21 HB
          go_wp2
          go_ret
          exact ⟨rfl, HB2.out⟩
        · have hpos : 0 < D.length := List.length_pos_iff.2 hD
          obtain ⟨g, o, rfl, _, hc⟩ := hrn.cell hpos
          have c0 := hc 0 hpos
          rw [Nat.add_zero] at c0
          obtain ⟨x, Hx⟩ : ∃ x, Hid (D.getD 0 0 = x) := ⟨_, rfl⟩
          rw [Hx.out] at c0 hod
          obtain ⟨sl, Hsl⟩ : ∃ sl, Hid (D.length = sl) := ⟨_, rfl⟩
          rw [Hsl.out] at hpos hsc ⊢
          have Hod : Hid (x % 2 = X % 2) := hod
          clear hod hrn hc hD
          go_wp2_with fail
          refine C.mono ?_
          clear C
          rintro e w21 ⟨rfl, e21⟩
          have HB2 : Hid (Below w.heap.size w w21) := by subst e21; exact HB.out
          clear e21 HB
          go_wp2
          go_ret
          have he : (decide (X % 2 = 1) == ((x : Int) % 2 == 1)) = true := by
            have h := Hod.out
            rcases Nat.mod_two_eq_zero_or_one X with h3 | h3
            · have h4 : (x : Int) % 2 = 0 := by omega
              rw [h4, decide_eq_false (by omega)]
              rfl
            · have h4 : (x : Int) % 2 = 1 := by omega
              rw [h4, decide_eq_true h3]
              rfl
          refine ⟨?_, HB2.out⟩
          rw [he]
          rfl

end Go.Proofs.Ytkkcmfkegbdgjaa
