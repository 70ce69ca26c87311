import Derived.Test.YtlapkbdjipocoaaDoorFa
namespace Go.Proofs.YtlapkbdjipocoaaDoor
open Go.RowKit Go.Shelf

theorem kids_len {l : List Nd} {a : Int} : (kidsF l a).length ≤ l.length := by
  unfold kidsF
  split
  · have := kidsF_len (v := l) (l.length + 1) (a.toNat + 1) (l.getD a.toNat (nd0 0)).kids (by omega)
    omega
  · simp

theorem rep_snoc {α : Type} (k : Nat) (x : α) : List.replicate k x ++ [x] = List.replicate (k + 1) x := by
  rw [List.replicate_succ']

/-- A node, as it is written over. -/
def wiped (n : Nd) : Nd := { n with key := [], text := if n.kind = 5 then [] else n.text }
theorem wiped_kids (n : Nd) : (wiped n).kids = n.kids := rfl

set_option maxRecDepth 100000 in
set_option maxHeartbeats 40000000 in
theorem fresh_any (t : List UInt8) (at_ : Int) (w : World) (hG : GL w.heap.size w) :
    Calls Tryd.prog 8 #[.string ⟨t.toArray⟩, .int .i64 at_] w fun e w' => e = .returned (.bool true) ∧ Below w.heap.size w w' := by
  have CA := alive_any w hG
  have HR : Hid (∀ wq, Below w.heap.size w wq → Calls Tryd.prog 27 #[.string ⟨t.toArray⟩] wq fun e w' => Below wq.heap.size wq w' ∧ ∃ v, e = .returned (.tuple #[v, .int .i64 ((parseF t).2.1 : Int), .int .i64 ((parseF t).2.2 : Int)]) ∧ NO wq.heap.size w' v (parseF t).1) := fun wq hq => parse_all t wq ((hG.below hq).up hq.size)
  have hbd := (parse_bd t).1
  generalize parseF t = pf at hbd HR
  obtain ⟨X, c, p⟩ := pf
  simp only at hbd HR
  obtain ⟨K, hK⟩ : ∃ K : List Int, (kidsF X at_).map (fun i : Nat => (i : Int)) = K := ⟨_, rfl⟩
  have hKl : K.length ≤ X.length := by rw [← hK, List.length_map]; exact kids_len
  have HKids : Hid (∀ wq (Y : List Nd) (v : Value) (ao : Option Addr) (cap : Nat), NR wq v Y ao cap → Y.length ≤ 262144 → kidsF Y at_ = kidsF X at_ → Calls Tryd.prog 13 #[v, .int .i64 at_] wq fun e w' => ∃ r, e = .returned r ∧ Below wq.heap.size wq w' ∧ Own1 wq.heap.size w' r K) := fun wq Y v ao cap h hl hk => by
    refine (kids_any v Y ao cap at_ wq h (by omega)).mono ?_
    rintro e w' ⟨r, rfl, hO⟩
    refine ⟨r, rfl, hO.bel, ?_⟩
    have := hO.own
    rw [hk] at this
    unfold Own1
    rw [← hK, List.map_map, List.length_map]
    exact this
  clear hK hG
  go_enter Tryd.func8, Tryd.ntmps8
  go_wp2_with fail
  refine CA.mono ?_
  clear CA
  rintro e w1 ⟨rfl, hB1⟩
  have C1 := HR.out w1 hB1
  have HB1 : Hid (Below w.heap.size w w1) := hB1
  clear hB1
  go_wp2_with fail
  refine C1.mono ?_
  clear C1
  rintro e w2 ⟨hB2, v, rfl, hOv⟩
  have HB2 : Hid (Below w.heap.size w w2) := HB1.out.trans (hB2.mono HB1.out.size)
  obtain ⟨av, cv, hNv, hgv, hbv, hcv⟩ := no_nr hOv
  obtain ⟨rfl, hcv1, _⟩ := id hNv
  have C2 := HR.out w2 HB2.out
  have HS1 : Hid (w.heap.size ≤ w1.heap.size ∧ w1.heap.size ≤ w2.heap.size) := ⟨HB1.out.size, hB2.size⟩
  have HOv : Hid (NO w1.heap.size w2 (.slice av X.length cv) X) := hOv
  have HNv : Hid (NR w2 (.slice av X.length cv) X av cv) := hNv
  have Hgv : Hid (∀ g off, av = some ⟨g, off, none⟩ → off = 0 ∧ w1.heap.size ≤ g ∧ g < w2.heap.size) := hgv
  clear hB2 hOv hNv hgv hbv HB1 hcv
  go_wp2_with fail
  refine C2.mono ?_
  clear C2
  rintro e w3 ⟨hB3, vw, rfl, hOw⟩
  have HB3 : Hid (Below w2.heap.size w2 w3) := hB3
  obtain ⟨aw, cw, hNw, hgw, hbw, hcw⟩ := no_nr hOw
  obtain ⟨rfl, hcw1, _⟩ := id hNw
  have C3 := same_any _ _ X X av aw cv cw w3 (HNv.out.below hB3 (Nat.le_refl _)) hNw (by omega)
  rw [decide_eq_true rfl] at C3
  have HOw : Hid (NO w2.heap.size w3 (.slice aw X.length cw) X) := hOw
  have HNw : Hid (∀ wq, Below w3.heap.size w3 wq → NR wq (.slice aw X.length cw) X aw cw) := fun wq hq => hNw.below hq (Nat.le_refl _)
  have Hgw : Hid (∀ g off, aw = some ⟨g, off, none⟩ → off = 0 ∧ w2.heap.size ≤ g ∧ g < w3.heap.size) := hgw
  have HCw : Hid (aw = none → cw = 0) := hcw
  clear hB3 hOw hNw hgw hbw HNv hcw
  go_wp2_with fail
  refine C3.mono ?_
  clear C3
  rintro e w3d ⟨rfl, q3, rfl⟩
  have HD3 : Hid (Below w3.heap.size w3 (w3.drewN q3)) := below_drewN (Below.refl _ _) q3
  have C4 := twin_any _ X aw cw (w3.drewN q3) (HNw.out _ HD3.out) (by omega) HCw.out
  generalize w3.drewN q3 = w3d at HD3 C4 ⊢
  go_wp2_with fail
  refine C4.mono ?_
  clear C4
  rintro e w4 ⟨hB4, vt, rfl, hOt⟩
  have HB4 : Hid (Below w3.heap.size w3 w4) := HD3.out.trans (hB4.mono HD3.out.size)
  obtain ⟨at4, ct, hNt, hgt, _, _⟩ := no_nr hOt
  obtain ⟨rfl, hct1, _⟩ := id hNt
  have HSd : Hid (w3.heap.size ≤ w3d.heap.size) := HD3.out.size
  have HNt : Hid (∀ wq, Below w4.heap.size w4 wq → NR wq (.slice at4 X.length ct) X at4 ct) := fun wq hq => hNt.below hq (Nat.le_refl _)
  have Hgt : Hid (∀ g off, at4 = some ⟨g, off, none⟩ → w3.heap.size ≤ g ∧ g < w4.heap.size) := fun g off e => ⟨Nat.le_trans HSd.out (hgt g off e).2.1, (hgt g off e).2.2⟩
  have C5 := HKids.out w4 X _ aw cw (HNw.out w4 HB4.out) hbd rfl
  clear hB4 hOt hNt hgt HD3
  go_wp2_with fail
  refine C5.mono ?_
  clear C5
  rintro e w5 ⟨r, rfl, hB5, hOk⟩
  have HB5 : Hid (Below w4.heap.size w4 w5) := hB5
  obtain ⟨ak, ck, hNk, hgk, _, hnk⟩ := own_ir hOk
  obtain ⟨rfl, hck1, _⟩ := id hNk
  have HOk : Hid (Own1 w4.heap.size w5 (.slice ak K.length ck) K) := hOk
  have HNk : Hid (∀ wq, Below w5.heap.size w5 wq → IR wq (.slice ak K.length ck) K ak ck) := fun wq hq => hNk.below hq (Nat.le_refl _)
  have Hgk : Hid (∀ g off, ak = some ⟨g, off, none⟩ → off = 0 ∧ w4.heap.size ≤ g ∧ g < w5.heap.size) := hgk
  have C6 := HKids.out w5 X _ aw cw (HNw.out w5 (HB4.out.trans (hB5.mono HB4.out.size))) hbd rfl
  have HCk : Hid (ak = none → ck = 0) := hnk
  clear hB5 hOk hNk hgk hnk
  go_wp2_with fail
  refine C6.mono ?_
  clear C6
  rintro e w6 ⟨r, rfl, hB6, hOl⟩
  have HB6 : Hid (Below w5.heap.size w5 w6) := hB6
  obtain ⟨al, cl, hNl, hgl, _, _⟩ := own_ir hOl
  obtain ⟨rfl, hcl1, _⟩ := id hNl
  have HNl : Hid (∀ wq, Below w6.heap.size w6 wq → IR wq (.slice al K.length cl) K al cl) := fun wq hq => hNl.below hq (Nat.le_refl _)
  have Hgl : Hid (∀ g off, al = some ⟨g, off, none⟩ → w5.heap.size ≤ g ∧ g < w6.heap.size) := fun g off e => (hgl g off e).2
  have HNk6 : Hid (IR w6 (.slice ak K.length ck) K ak ck) := HNk.out w6 hB6
  clear hB6 hOl hNl hgl HNk
  -- kids: a copy of k
  go_wp2_with (at_builtin; refine append_copy rfl (.tmp 58) (.tmp 59) rfl K ak ck rfl rfl HNk6.out HCk.out (by omega) ?_; intro vz w7 hOz hB7)
  obtain ⟨az, cz, hNz, hgz, _, _⟩ := own_ir hOz
  obtain ⟨rfl, hcz1, _⟩ := id hNz
  have HB7 : Hid (Below w6.heap.size w6 w7) := hB7
  have HNz : Hid (IR w7 (.slice az K.length cz) K az cz) := hNz
  have Hgz : Hid (∀ g off, az = some ⟨g, off, none⟩ → w6.heap.size ≤ g ∧ g < w7.heap.size) := fun g off e => (hgz g off e).2
  have C8 := sameInts_any _ _ K K al az cl cz w7 (HNl.out w7 hB7) hNz (by omega)
  rw [decide_eq_true rfl] at C8
  clear hOz hNz hgz hB7 HNk6 HCk
  go_wp2_with fail
  refine C8.mono ?_
  clear C8
  rintro e w8 ⟨rfl, q8, rfl⟩
  -- all lists are made: a is the world from now on
  obtain ⟨a, ha⟩ : ∃ a, w7.drewN q8 = a := ⟨_, rfl⟩
  have HB7a : Hid (Below w7.heap.size w7 a) := by rw [← ha]; exact below_drewN (Below.refl _ _) q8
  rw [ha]
  have HB6a : Hid (Below w6.heap.size w6 a) := HB7.out.trans (HB7a.out.mono HB7.out.size)
  have HB5a : Hid (Below w5.heap.size w5 a) := HB6.out.trans (HB6a.out.mono HB6.out.size)
  have HB4a : Hid (Below w4.heap.size w4 a) := HB5.out.trans (HB5a.out.mono HB5.out.size)
  have HB3a : Hid (Below w3.heap.size w3 a) := HB4.out.trans (HB4a.out.mono HB4.out.size)
  have HB2a : Hid (Below w2.heap.size w2 a) := HB3.out.trans (HB3a.out.mono HB3.out.size)
  have HBa : Hid (Below w.heap.size w a) := HB2.out.trans (HB2a.out.mono HB2.out.size)
  have HZ : Hid ((w.heap.size ≤ w1.heap.size ∧ w1.heap.size ≤ w2.heap.size) ∧ w2.heap.size ≤ w3.heap.size ∧ w3.heap.size ≤ w4.heap.size ∧ w4.heap.size ≤ w5.heap.size ∧ w5.heap.size ≤ w6.heap.size ∧ w6.heap.size ≤ w7.heap.size ∧ w7.heap.size ≤ a.heap.size) := ⟨HS1.out, HB3.out.size, HB4.out.size, HB5.out.size, HB6.out.size, HB7.out.size, HB7a.out.size⟩
  obtain ⟨gv, hgv⟩ : ∃ gv, av.map (·.block) = gv := ⟨_, rfl⟩
  obtain ⟨gk, hgk⟩ : ∃ gk, ak.map (·.block) = gk := ⟨_, rfl⟩
  -- where v and k lie
  have HPv : Hid (∀ k, gv = some k → w1.heap.size ≤ k ∧ k < w2.heap.size) := fun k hk => by
    have hl := World.ownsRow.lt HOv.out k (by
      rw [← hk, ← hgv]
      cases av with
      | none => rfl
      | some ad =>
        obtain ⟨g, hg⟩ | h0 : (∃ g, some ad = some ⟨g, 0, none⟩) ∨ (some ad = (none : Option Addr)) := by
          have := HOv.out
          unfold NO at this
          rcases this.2 with ⟨hv, _⟩ | ⟨g, cap, cur, hv, _⟩
          · cases hv
          · left
            cases hv
            exact ⟨g, rfl⟩
        · cases hg
          rfl
        · cases h0)
    exact hl
  have HPk : Hid (∀ k, gk = some k → w4.heap.size ≤ k ∧ k < w5.heap.size) := fun k hk => by
    have hl := World.ownsRow.lt HOk.out k (by
      rw [← hk, ← hgk]
      cases ak with
      | none => rfl
      | some ad =>
        obtain ⟨g, hg⟩ : ∃ g, some ad = some ⟨g, 0, none⟩ := by
          have := HOk.out
          unfold Own1 at this
          rcases this.2 with ⟨hv, _⟩ | ⟨g, cap, cur, hv, _⟩
          · cases hv
          · cases hv
            exact ⟨g, rfl⟩
        cases hg
        rfl)
    exact hl
  have HGv : Hid (av.map (·.block) = gv) := hgv
  have HGk : Hid (ak.map (·.block) = gk) := hgk
  have HRow : Hid (∀ k, (gv = some k ∨ gk = some k ∨ a.heap.size ≤ k) → w.heap.size ≤ k ∧ (some k = gv ∨ some k = gk ∨ a.heap.size ≤ k)) := fun k hk => by
    obtain ⟨z1, z2, z3, z4, z5, z6, z7⟩ := HZ.out
    have hs2 := HB2.out.size
    have hsa := HBa.out.size
    rcases hk with h | h | h
    · have := HPv.out k h
      exact ⟨by omega, .inl h.symm⟩
    · have := HPk.out k h
      exact ⟨by omega, .inr (.inl h.symm)⟩
    · exact ⟨by omega, .inr (.inr h)⟩
  have HRow0 : Hid (∀ k, (gv = some k ∨ a.heap.size ≤ k) → w.heap.size ≤ k ∧ (some k = gv ∨ some k = none ∨ a.heap.size ≤ k)) := fun k hk => by
    have hsa := HBa.out.size
    obtain ⟨z1, z2, z3, z4, z5, z6, z7⟩ := HZ.out
    rcases hk with h | h
    · have := HPv.out k h
      exact ⟨by omega, .inl h.symm⟩
    · exact ⟨by omega, .inr (.inr h)⟩
  have HApart : Hid (∀ k g : Nat, ((w2.heap.size ≤ g ∧ g < w4.heap.size) ∨ (w5.heap.size ≤ g ∧ g < w7.heap.size)) → some g ≠ gv ∧ some g ≠ gk) := fun _ g hg => by
    obtain ⟨z1, z2, z3, z4, z5, z6, z7⟩ := HZ.out
    refine ⟨fun e => ?_, fun e => ?_⟩
    · have := HPv.out g e.symm
      omega
    · have := HPk.out g e.symm
      omega
  -- what stays readable
  have HKw : Hid (∀ wq, Ky w a gv gk wq → NR wq (.slice aw X.length cw) X aw cw) := fun wq hq => (HNw.out a HB3a.out).ky hq (fun g off e => HApart.out 0 g (.inl (by have := Hgw.out g off e; have := HZ.out; omega)))
  have HKt : Hid (∀ wq, Ky w a gv gk wq → NR wq (.slice at4 X.length ct) X at4 ct) := fun wq hq => (HNt.out a HB4a.out).ky hq (fun g off e => HApart.out 0 g (.inl (by have := Hgt.out g off e; have := HZ.out; omega)))
  have HKl : Hid (∀ wq, Ky w a gv gk wq → IR wq (.slice al K.length cl) K al cl) := fun wq hq => (HNl.out a HB6a.out).ky hq (fun g off e => HApart.out 0 g (.inr (by have := Hgl.out g off e; have := HZ.out; omega)))
  have HKz : Hid (∀ wq, Ky w a gv gk wq → IR wq (.slice az K.length cz) K az cz) := fun wq hq => (HNz.out.below HB7a.out (Nat.le_refl _)).ky hq (fun g off e => HApart.out 0 g (.inr (by have := Hgz.out g off e; have := HZ.out; omega)))
  have HOva : Hid (NO w1.heap.size a (.slice av X.length cv) X) := own_below HOv.out HB2a.out (Nat.le_refl _)
  have HOka : Hid (Own1 w4.heap.size a (.slice ak K.length ck) K) := own_below HOk.out HB5a.out (Nat.le_refl _)
  have HOwa : Hid (NO w2.heap.size a (.slice aw X.length cw) X) := own_below HOw.out HB3a.out (Nat.le_refl _)
  have HKy0 : Hid (Ky w a gv none a) := Ky.refl _ _ HBa.out
  have HGa : Hid (∀ wq, Ky w a gv gk wq → Below w.heap.size w wq) := fun wq hq => hq.bel
  clear ha hgv hgk HNw HNt HNl HNz HB7a HB6a HB5a HB4a HB2a HB3 HB4 HB5 HB6 HB7 HOv HOk HOw HSd HCw Hgt Hgl Hgz HS1
  have HX99 : Hid (∀ k, k < X.length → List.replicate k (nd0 99) ++ X.drop k = List.replicate k (nd0 99) ++ (X.getD k (nd0 0) :: X.drop (k + 1))) := fun k hk => by rw [dropN hk]
  go_wp2
  go_loopw [15] (fun s15 wx => ∃ k : Nat, s15 = .int .i64 k ∧ k ≤ X.length ∧ Ky w a gv none wx ∧ NO w1.heap.size wx (.slice av X.length cv) (List.replicate k (nd0 99) ++ X.drop k)) (fun s _ => X.length - (intOf s).toNat)
  case atStart => exact ⟨0, rfl, Nat.zero_le _, HKy0.out, HOva.out⟩
  case round =>
    obtain ⟨k, rfl, hk, hky, hno⟩ := hrel
    have HY : Hid (Ky w a gv none wr) := hky
    have HO : Hid (NO w1.heap.size wr (.slice av X.length cv) (List.replicate k (nd0 99) ++ X.drop k)) := hno
    clear hky hno
    by_cases hlt : k < X.length
    · have q0 : decide ((k : Int) < (X.length : Int)) = true := decide_eq_true (by omega)
      obtain ⟨g, rfl⟩ : ∃ g, av = some ⟨g, 0, none⟩ := by
        have h := HO.out
        unfold NO at h
        have hl0 : (List.replicate k (nd0 99) ++ X.drop k).length = X.length := by simp; omega
        rw [hl0] at h
        rcases h.2 with ⟨hv, h0⟩ | ⟨g, cap, cur, hv, _⟩
        · omega
        · cases hv
          exact ⟨g, rfl⟩
      have hown := HO.out
      rw [HX99.out k hlt] at hown
      have hlen : (List.replicate k (nd0 99) ++ (X.getD k (nd0 0) :: X.drop (k + 1))).length = X.length := by simp; omega
      unfold NO at hown
      rw [hlen] at hown
      have hth : wr.there g (k * 6) 6 := own_there hown (by rw [nCs_length, hlen]; omega)
      have hst := own_setCells (nC (nd0 99)) _ (k * 6) wr hown
      have hsn := setL_node (List.replicate k (nd0 99)) (X.getD k (nd0 0)) (nd0 99) (X.drop (k + 1))
      rw [List.length_replicate] at hsn
      rw [hsn] at hst
      have HS : Hid (NO w1.heap.size (wr.setCells g (k * 6) (nC (nd0 99))) (.slice (some ⟨g, 0, none⟩) X.length cv) (List.replicate (k + 1) (nd0 99) ++ X.drop (k + 1))) := by
        show World.ownsRow _ _ _ _ _ _ _
        have e : List.replicate (k + 1) (nd0 99) ++ X.drop (k + 1) = List.replicate k (nd0 99) ++ (nd0 99 :: X.drop (k + 1)) := by rw [← rep_snoc]; simp
        have el : (List.replicate (k + 1) (nd0 99) ++ X.drop (k + 1)).length = X.length := by simp; omega
        rw [el, e]
        exact hst.1
      have HYn : Hid (Ky w a gv none (wr.setCells g (k * 6) (nC (nd0 99)))) := HY.out.grown hst.2 (fun j hj => by
        have hgj : g = j := by simpa using hj
        have hgv := HGv.out
        simp only [Option.map_some] at hgv
        exact HRow0.out j (.inl (by rw [← hgv, hgj])))
      have HTh : Hid (wr.there g (k * 6) 6) := hth
      have hinf : (Tryd.prog.info? 33).map (·.size) = some 6 := by kernel_rfl
      clear hown hlen hth hst hsn
      obtain ⟨wn, hwn⟩ : ∃ wn, wr.setCells g (k * 6) (nC (nd0 99)) = wn := ⟨_, rfl⟩
      rw [hwn] at HS HYn
      have HW : Hid (wr.setCells g (k * 6) (#[.int .i64 99, .string ⟨#[]⟩, .string ⟨#[]⟩, .bool false, .int .i64 0, .int .i64 0] : Array Value).toList = wn) := hwn
      clear hwn
      go_wp2_with (refine wpList_store_mid rfl 33 (.tmp 74) (.tmp 73) rfl g (k * 6) #[.int .i64 99, .string ⟨#[]⟩, .string ⟨#[]⟩, .bool false, .int .i64 0, .int .i64 0] rfl rfl HTh.out hinf (by simp [Value.oneCell']) ?_; rw [HW.out]; clear HW HTh hinf)
      go_roundw
      case rel => exact ⟨k + 1, by go_num, by omega, HYn.out, HS.out⟩
      case measure => simp [intOf]; omega
    · have q0 : decide ((k : Int) < (X.length : Int)) = false := decide_eq_false (by omega)
      have HO2 : Hid (NO w1.heap.size wr (.slice av X.length cv) (List.replicate X.length (nd0 99))) := by
        have h := HO.out
        obtain rfl : k = X.length := by omega
        rw [List.drop_length, List.append_nil] at h
        exact h
      clear HO
      have C9 := same_any _ _ X X aw at4 cw ct wr (HKw.out _ (HY.out.weak gk)) (HKt.out _ (HY.out.weak gk)) (by omega)
      rw [decide_eq_true rfl] at C9
      go_wp2_with fail
      refine C9.mono ?_
      clear C9
      rintro e x9d ⟨rfl, q9, rfl⟩
      have HY9 : Hid (Ky w a gv none (wr.drewN q9)) := HY.out.drewN q9
      have HO2n : Hid (NO w1.heap.size (wr.drewN q9) (.slice av X.length cv) (List.replicate X.length (nd0 99))) := HO2.out
      generalize wr.drewN q9 = x9 at HY9 HO2n ⊢
      clear HO2
      have HO2 := HO2n
      clear HO2n
      clear HY
      have HZ1 : Hid (∀ wq, Ky w a gv none wq → w1.heap.size ≤ wq.heap.size) := fun wq hq => by have := HZ.out; have := hq.size; omega
      have HZ4 : Hid (∀ wq, Ky w a gv gk wq → w4.heap.size ≤ wq.heap.size) := fun wq hq => by have := HZ.out; have := hq.size; omega
      have HO3 : Hid (NO w1.heap.size x9 (.slice av X.length cv) (List.replicate X.length (nd0 99) ++ List.replicate 0 (nd0 98))) := by
        have h := HO2.out
        rw [List.replicate_zero, List.append_nil]
        exact h
      have HBv : Hid (∀ j, (Value.slice av X.length cv).ownBlock = some j → gv = some j ∨ a.heap.size ≤ j) := fun j hj => by
        left
        rw [← HGv.out]
        cases av with
        | none => cases hj
        | some ad => exact hj
      clear HO2
      go_wp2
      go_loopw [16, 17] (fun s16 s17 wx => ∃ (i : Nat) (am : Option Addr) (cm : Nat), s17 = .int .i64 i ∧ s16 = .slice am (X.length + i) cm ∧ i ≤ 70 ∧ Ky w a gv none wx ∧ NO w1.heap.size wx (.slice am (X.length + i) cm) (List.replicate X.length (nd0 99) ++ List.replicate i (nd0 98)) ∧ (∀ j, (Value.slice am (X.length + i) cm).ownBlock = some j → gv = some j ∨ a.heap.size ≤ j)) (fun _ s _ => 70 - (intOf s).toNat)
      case atStart => exact ⟨0, av, cv, rfl, rfl, by omega, HY9.out, HO3.out, HBv.out⟩
      case round =>
        obtain ⟨i, am, cm, rfl, rfl, hi, hky, hno, hbl⟩ := hrel
        have HYr : Hid (Ky w a gv none wr) := hky
        have HOr : Hid (NO w1.heap.size wr (.slice am (X.length + i) cm) (List.replicate X.length (nd0 99) ++ List.replicate i (nd0 98))) := hno
        have HBr : Hid (∀ j, (Value.slice am (X.length + i) cm).ownBlock = some j → gv = some j ∨ a.heap.size ≤ j) := hbl
        clear hky hno hbl HY9 HO3 HBv
        by_cases hlt : i < 70
        · have q1 : decide ((i : Int) < 70) = true := decide_eq_true (by omega)
          have HLn : Hid ((List.replicate X.length (nd0 99) ++ List.replicate i (nd0 98)).length = X.length + i) := by show _ = _; simp
          go_wp2_with (at_builtin; refine append_nd (wr := wr) rfl (.tmp 84) (.tmp 86) rfl w1.heap.size _ (List.replicate X.length (nd0 99) ++ List.replicate i (nd0 98)) (nd0 98) rfl HOr.out wr.heap.size rfl rfl (by rw [HLn.out]; omega) (HZ1.out _ HYr.out) ?_; intro g5 c5 w5b h5 h6 h7; rw [HLn.out] at h5 ⊢; have HO5 : Hid (NO w1.heap.size w5b (.slice (some ⟨g5, 0, none⟩) (X.length + i + 1) c5) (List.replicate X.length (nd0 99) ++ List.replicate (i + 1) (nd0 98))) := (by rw [List.append_assoc, rep_snoc] at h5; exact h5); have HY5 : Hid (Ky w a gv none w5b) := (HYr.out.below (alloc_below _ _)).grown h6 (fun j hj => HRow0.out j (HBr.out j hj)); have HB5 : Hid (∀ j, (Value.slice (some ⟨g5, 0, none⟩) (X.length + i + 1) c5).ownBlock = some j → gv = some j ∨ a.heap.size ≤ j) := (fun j hj => by have hj5 : g5 = j := Option.some.inj hj; subst hj5; rcases h7 with h | h; exact HBr.out g5 h; exact .inr (Nat.le_trans HYr.out.size h)); clear h5 h6 h7 HOr HYr HBr HLn)
          go_roundw
          case rel => exact ⟨i + 1, some ⟨g5, 0, none⟩, c5, by go_num, by rw [Nat.add_assoc], by omega, HY5.out, by have := HO5.out; rw [Nat.add_assoc] at this; exact this, by have := HB5.out; rw [Nat.add_assoc] at this; exact this⟩
          case measure => simp [intOf]; omega
        · have q1 : decide ((i : Int) < 70) = false := decide_eq_false (by omega)
          obtain rfl : i = 70 := by omega
          clear q1 hlt hi
          have HMl : Hid ((List.replicate X.length (nd0 99) ++ List.replicate 70 (nd0 98)).length = X.length + 70) := by show _ = _; simp
          have HKg : Hid (∀ j, (Value.slice ak K.length ck).ownBlock = some j → gk = some j) := fun j hj => by
            rw [← HGk.out]
            cases ak with
            | none => cases hj
            | some ad => exact hj
          have HKo : Hid (Own1 w4.heap.size wr (.slice ak K.length ck) (List.replicate 0 (-7) ++ K.drop 0)) := own_keep HOka.out (fun g hg => by
            have h1 := HPk.out g (HKg.out g hg)
            have h2 := HZ.out
            refine HYr.out.blk g (by omega) (fun e => ?_) (fun e => by cases e)
            have := HPv.out g e.symm
            omega)
          have HY2 : Hid (Ky w a gv gk wr) := HYr.out.weak gk
          have HK7 : Hid (∀ k, k < K.length → List.replicate k (-7 : Int) ++ K.drop k = List.replicate k (-7) ++ (K.getD k 0 :: K.drop (k + 1))) := fun k hk => by
            rw [List.drop_eq_getElem_cons hk]
            simp [List.getD_eq_getElem?_getD, hk]
          clear HYr
          go_wp2
          go_loopw [18] (fun s18 wx => ∃ k : Nat, s18 = .int .i64 k ∧ k ≤ K.length ∧ Ky w a gv gk wx ∧ Own1 w4.heap.size wx (.slice ak K.length ck) (List.replicate k (-7) ++ K.drop k) ∧ NO w1.heap.size wx (.slice am (X.length + 70) cm) (List.replicate X.length (nd0 99) ++ List.replicate 70 (nd0 98))) (fun s _ => K.length - (intOf s).toNat)
          case atStart => exact ⟨0, rfl, Nat.zero_le _, HY2.out, HKo.out, HOr.out⟩
          case round =>
            clear HY2 HKo HOr
            obtain ⟨k, rfl, hk, hky, hok, hom⟩ := hrel
            have HY2 : Hid (Ky w a gv gk wr) := hky
            have HKo : Hid (Own1 w4.heap.size wr (.slice ak K.length ck) (List.replicate k (-7) ++ K.drop k)) := hok
            have HMo : Hid (NO w1.heap.size wr (.slice am (X.length + 70) cm) (List.replicate X.length (nd0 99) ++ List.replicate 70 (nd0 98))) := hom
            clear hky hok hom
            by_cases hlt : k < K.length
            · have q1 : decide ((k : Int) < (K.length : Int)) = true := decide_eq_true (by omega)
              have hown := HKo.out
              rw [HK7.out k hlt] at hown
              have hlen : (List.replicate k (-7 : Int) ++ (K.getD k 0 :: K.drop (k + 1))).length = K.length := by simp; omega
              unfold Own1 at hown
              rw [hlen] at hown
              obtain ⟨g, rfl⟩ : ∃ g, ak = some ⟨g, 0, none⟩ := by
                rcases hown.2 with ⟨hv, h0⟩ | ⟨g, cap, cur, hv, _⟩
                · omega
                · cases hv
                  exact ⟨g, rfl⟩
              have hcell := own_cell hown k (zV (K.getD k 0)) (by simp)
              have hc1 : wr.cell? ⟨g, k, none⟩ = some (.int .i64 (K.getD k 0)) := hcell.1
              have hc2 := hcell.2
              have hst := hown.stored k (zV (-7))
              have HS : Hid (Own1 w4.heap.size (wr.setCell ⟨g, k, none⟩ (.int .i64 (-7))) (.slice (some ⟨g, 0, none⟩) K.length ck) (List.replicate (k + 1) (-7) ++ K.drop (k + 1))) := by
                show World.ownsRow _ _ _ _ _ _ _
                have e : List.replicate (k + 1) (-7 : Int) ++ K.drop (k + 1) = List.replicate k (-7) ++ (-7 :: K.drop (k + 1)) := by rw [← rep_snoc]; simp
                have el : (List.replicate (k + 1) (-7 : Int) ++ K.drop (k + 1)).length = K.length := by simp; omega
                rw [el, e]
                have h1 := hst.1
                rw [List.map_append, List.map_cons, List.set_append_right _ _ (by simp)] at h1
                simp only [List.length_map, List.length_replicate, Nat.sub_self, List.set_cons_zero] at h1
                rw [List.map_append, List.map_cons]
                exact h1
              have HYn : Hid (Ky w a gv gk (wr.setCell ⟨g, k, none⟩ (.int .i64 (-7)))) := HY2.out.grown hst.2 (fun j hj => HRow.out j (.inr (.inl (by
                have hgj : g = j := by simpa using hj
                rw [← hgj]
                exact HKg.out g rfl))))
              have HMn : Hid (NO w1.heap.size (wr.setCell ⟨g, k, none⟩ (.int .i64 (-7))) (.slice am (X.length + 70) cm) (List.replicate X.length (nd0 99) ++ List.replicate 70 (nd0 98))) := World.ownsRow.kept HMo.out hst.2 (.inr (fun e => by
                have := kinds_apart HMo.out HKo.out (by decide) (g := g) (by rw [e])
                exact this rfl))
              clear hown hlen hcell hst HY2 HKo HMo
              go_wp2
              go_roundw
              case rel => exact ⟨k + 1, by go_num, by omega, HYn.out, HS.out, HMn.out⟩
              case measure => simp [intOf]; omega
            · have q1 : decide ((k : Int) < (K.length : Int)) = false := decide_eq_false (by omega)
              have HKo2 : Hid (Own1 w4.heap.size wr (.slice ak K.length ck) (List.replicate K.length (-7))) := by
                have h := HKo.out
                obtain rfl : k = K.length := by omega
                rw [List.drop_length, List.append_nil] at h
                exact h
              clear HKo
              have C10 := sameInts_any _ _ K K al az cl cz wr (HKl.out _ HY2.out) (HKz.out _ HY2.out) (by omega)
              rw [decide_eq_true rfl] at C10
              go_wp2_with fail
              refine C10.mono ?_
              clear C10
              rintro e x10d ⟨rfl, q10, rfl⟩
              have HY10 : Hid (Ky w a gv gk (wr.drewN q10)) := HY2.out.drewN q10
              have HMon : Hid (NO w1.heap.size (wr.drewN q10) (.slice am (X.length + 70) cm) (List.replicate X.length (nd0 99) ++ List.replicate 70 (nd0 98))) := HMo.out
              have HKo2n : Hid (Own1 w4.heap.size (wr.drewN q10) (.slice ak K.length ck) (List.replicate K.length (-7))) := HKo2.out
              generalize wr.drewN q10 = x10 at HY10 HMon HKo2n ⊢
              clear HMo HKo2
              have HMo := HMon
              clear HMon
              have HKo2 := HKo2n
              clear HKo2n
              clear HY2
              have C11 := same_any _ _ X X aw at4 cw ct x10 (HKw.out _ HY10.out) (HKt.out _ HY10.out) (by omega)
              rw [decide_eq_true rfl] at C11
              go_wp2_with fail
              refine C11.mono ?_
              clear C11
              rintro e x11d ⟨rfl, q11, rfl⟩
              have HY11 : Hid (Ky w a gv gk (x10.drewN q11)) := HY10.out.drewN q11
              have HMon : Hid (NO w1.heap.size (x10.drewN q11) (.slice am (X.length + 70) cm) (List.replicate X.length (nd0 99) ++ List.replicate 70 (nd0 98))) := HMo.out
              have HKo2n : Hid (Own1 w4.heap.size (x10.drewN q11) (.slice ak K.length ck) (List.replicate K.length (-7))) := HKo2.out
              generalize x10.drewN q11 = x11 at HY11 HMon HKo2n ⊢
              clear HMo HKo2
              have HMo := HMon
              clear HMon
              have HKo2 := HKo2n
              clear HKo2n
              clear HY10 q1 hlt
              have HO4 : Hid (Own1 w4.heap.size x11 (.slice ak K.length ck) (List.replicate K.length (-7) ++ List.replicate 0 (-8))) := by
                have h := HKo2.out
                rw [List.replicate_zero, List.append_nil]
                exact h
              have HBk : Hid (∀ j, (Value.slice ak K.length ck).ownBlock = some j → gk = some j ∨ a.heap.size ≤ j) := fun j hj => .inl (HKg.out j hj)
              clear HKo2
              go_wp2
              go_loopw [19, 20] (fun s19 s20 wx => ∃ (i : Nat) (ao : Option Addr) (co : Nat), s20 = .int .i64 i ∧ s19 = .slice ao (K.length + i) co ∧ i ≤ 70 ∧ Ky w a gv gk wx ∧ Own1 w4.heap.size wx (.slice ao (K.length + i) co) (List.replicate K.length (-7) ++ List.replicate i (-8)) ∧ (∀ j, (Value.slice ao (K.length + i) co).ownBlock = some j → gk = some j ∨ a.heap.size ≤ j) ∧ NO w1.heap.size wx (.slice am (X.length + 70) cm) (List.replicate X.length (nd0 99) ++ List.replicate 70 (nd0 98))) (fun _ s _ => 70 - (intOf s).toNat)
              case atStart => exact ⟨0, ak, ck, rfl, rfl, by omega, HY11.out, HO4.out, HBk.out, HMo.out⟩
              case round =>
                clear HY11 HO4 HBk HMo
                obtain ⟨i, ao, co, rfl, rfl, hi, hky, hno, hbl, hom⟩ := hrel
                have HYr : Hid (Ky w a gv gk wr) := hky
                have HOr : Hid (Own1 w4.heap.size wr (.slice ao (K.length + i) co) (List.replicate K.length (-7) ++ List.replicate i (-8))) := hno
                have HBr : Hid (∀ j, (Value.slice ao (K.length + i) co).ownBlock = some j → gk = some j ∨ a.heap.size ≤ j) := hbl
                have HMo : Hid (NO w1.heap.size wr (.slice am (X.length + 70) cm) (List.replicate X.length (nd0 99) ++ List.replicate 70 (nd0 98))) := hom
                clear hky hno hbl hom
                by_cases hlt : i < 70
                · have q1 : decide ((i : Int) < 70) = true := decide_eq_true (by omega)
                  have HLn : Hid ((List.replicate K.length (-7 : Int) ++ List.replicate i (-8)).length = K.length + i) := by show _ = _; simp
                  have HMa : Hid (NO w1.heap.size (wr.alloc (.cells #[.int .i64 (-8)] 3)) (.slice am (X.length + 70) cm) (List.replicate X.length (nd0 99) ++ List.replicate 70 (nd0 98))) := World.ownsRow.alloc HMo.out _
                  have HNe : Hid ((Value.slice am (X.length + 70) cm).ownBlock = none ∨ (Value.slice am (X.length + 70) cm).ownBlock ≠ (Value.slice ao (K.length + i) co).ownBlock) := by
                    cases hb : (Value.slice am (X.length + 70) cm).ownBlock with
                    | none => exact .inl rfl
                    | some g => exact .inr (fun e => kinds_apart HMo.out HOr.out (by decide) hb e.symm)
                  go_wp2_with (at_builtin; refine append_1 (wr := wr) rfl (.tmp 112) (.tmp 113) rfl w4.heap.size _ (List.replicate K.length (-7) ++ List.replicate i (-8)) (-8) rfl HOr.out wr.heap.size rfl rfl (by rw [HLn.out]; omega) (HZ4.out _ HYr.out) ?_; intro g5 c5 w5b h5 h6 h7; rw [HLn.out] at h5 ⊢; have HO5 : Hid (Own1 w4.heap.size w5b (.slice (some ⟨g5, 0, none⟩) (K.length + i + 1) c5) (List.replicate K.length (-7) ++ List.replicate (i + 1) (-8))) := (by rw [List.append_assoc, rep_snoc] at h5; exact h5); have HY5 : Hid (Ky w a gv gk w5b) := (HYr.out.below (alloc_below _ _)).grown h6 (fun j hj => HRow.out j (.inr (HBr.out j hj))); have HB5 : Hid (∀ j, (Value.slice (some ⟨g5, 0, none⟩) (K.length + i + 1) c5).ownBlock = some j → gk = some j ∨ a.heap.size ≤ j) := (fun j hj => by have hj5 : g5 = j := Option.some.inj hj; subst hj5; rcases h7 with h | h; exact HBr.out g5 h; exact .inr (Nat.le_trans HYr.out.size h)); have HM5 : Hid (NO w1.heap.size w5b (.slice am (X.length + 70) cm) (List.replicate X.length (nd0 99) ++ List.replicate 70 (nd0 98))) := World.ownsRow.kept HMa.out h6 HNe.out; clear h5 h6 h7 HOr HYr HBr HLn HMa HNe HMo)
                  go_roundw
                  case rel => exact ⟨i + 1, some ⟨g5, 0, none⟩, c5, by go_num, by rw [Nat.add_assoc], by omega, HY5.out, by have := HO5.out; rw [Nat.add_assoc] at this; exact this, (by have := HB5.out; rw [Nat.add_assoc] at this; exact this), HM5.out⟩
                  case measure => simp [intOf]; omega
                · have q1 : decide ((i : Int) < 70) = false := decide_eq_false (by omega)
                  obtain rfl : i = 70 := by omega
                  clear q1 hlt hi HBr
                  have C12 := sameInts_any _ _ K K al az cl cz wr (HKl.out _ HYr.out) (HKz.out _ HYr.out) (by omega)
                  rw [decide_eq_true rfl] at C12
                  go_wp2_with fail
                  refine C12.mono ?_
                  clear C12
                  rintro e x12d ⟨rfl, q12, rfl⟩
                  have HY12 : Hid (Ky w a gv gk (wr.drewN q12)) := HYr.out.drewN q12
                  have HMon : Hid (NO w1.heap.size (wr.drewN q12) (.slice am (X.length + 70) cm) (List.replicate X.length (nd0 99) ++ List.replicate 70 (nd0 98))) := HMo.out
                  have HOrn : Hid (Own1 w4.heap.size (wr.drewN q12) (.slice ao (K.length + 70) co) (List.replicate K.length (-7) ++ List.replicate 70 (-8))) := HOr.out
                  generalize wr.drewN q12 = x12 at HY12 HMon HOrn ⊢
                  clear HMo HOr
                  have HMo := HMon
                  clear HMon
                  have HOr := HOrn
                  clear HOrn
                  clear HYr
                  have C13 := same_any _ _ X X aw at4 cw ct x12 (HKw.out _ HY12.out) (HKt.out _ HY12.out) (by omega)
                  rw [decide_eq_true rfl] at C13
                  go_wp2_with fail
                  refine C13.mono ?_
                  clear C13
                  rintro e x13d ⟨rfl, q13, rfl⟩
                  have HY13 : Hid (Ky w a gv gk (x12.drewN q13)) := HY12.out.drewN q13
                  have HMon : Hid (NO w1.heap.size (x12.drewN q13) (.slice am (X.length + 70) cm) (List.replicate X.length (nd0 99) ++ List.replicate 70 (nd0 98))) := HMo.out
                  have HOrn : Hid (Own1 w4.heap.size (x12.drewN q13) (.slice ao (K.length + 70) co) (List.replicate K.length (-7) ++ List.replicate 70 (-8))) := HOr.out
                  generalize x12.drewN q13 = x13 at HY13 HMon HOrn ⊢
                  clear HMo HOr
                  have HMo := HMon
                  clear HMon
                  have HOr := HOrn
                  clear HOrn
                  clear HY12
                  obtain ⟨am', cm', hNm, _⟩ := no_nr HMo.out
                  have hNm2 := hNm.val
                  obtain ⟨ao', co', hNo, _⟩ := own_ir HOr.out
                  have hNo2 := hNo.val
                  have C14 := marks_any _ _ _ _ am' ao' cm' co' X.length K.length x13 hNm hNo (by rw [HMl.out]; omega) (by simp; omega) (fun i hi => by
                    rw [HMl.out] at hi
                    by_cases h : i < X.length
                    · rw [if_pos h, List.getD_eq_getElem?_getD, List.getElem?_append_left (by simpa using h), List.getElem?_replicate, if_pos h]
                      rfl
                    · rw [if_neg h, List.getD_eq_getElem?_getD, List.getElem?_append_right (by simp; omega), List.getElem?_replicate, if_pos (by simp; omega)]
                      rfl) (fun i hi => by
                    simp only [List.length_append, List.length_replicate] at hi
                    by_cases h : i < K.length
                    · rw [if_pos h, List.getD_eq_getElem?_getD, List.getElem?_append_left (by simpa using h), List.getElem?_replicate, if_pos h]
                      rfl
                    · rw [if_neg h, List.getD_eq_getElem?_getD, List.getElem?_append_right (by simp; omega), List.getElem?_replicate, if_pos (by simp; omega)]
                      rfl)
                  clear hNm hNo hNm2 hNo2 HMo HOr
                  go_wp2_with fail
                  refine C14.mono ?_
                  clear C14
                  rintro e x14 ⟨rfl, rfl⟩
                  have C15 := HR.out x14 HY13.out.bel
                  go_wp2_with fail
                  refine C15.mono ?_
                  clear C15
                  rintro e x15 ⟨hB15, vx, rfl, hOx⟩
                  have HY15 : Hid (Ky w a gv gk x15) := HY13.out.below hB15
                  obtain ⟨ax, cx, hNx, _⟩ := no_nr hOx
                  obtain ⟨rfl, hcx1, _⟩ := id hNx
                  have HNx : Hid (∀ wq, Below x15.heap.size x15 wq → NR wq (.slice ax X.length cx) X ax cx) := fun wq hq => hNx.below hq (Nat.le_refl _)
                  have C16 := HKids.out x15 X _ aw cw (HKw.out _ HY15.out) hbd rfl
                  clear hB15 hOx hNx HY13 HR
                  go_wp2_with fail
                  refine C16.mono ?_
                  clear C16
                  rintro e x16 ⟨r, rfl, hB16, hOm⟩
                  have HY16 : Hid (Ky w a gv gk x16) := HY15.out.below hB16
                  obtain ⟨am2, cm2, hNm2, _⟩ := own_ir hOm
                  obtain ⟨rfl, hcm21, _⟩ := id hNm2
                  have HNm2 : Hid (∀ wq, Below x16.heap.size x16 wq → IR wq (.slice am2 K.length cm2) K am2 cm2) := fun wq hq => hNm2.below hq (Nat.le_refl _)
                  have C17 := same_any _ _ X X ax at4 cx ct x16 (HNx.out _ hB16) (HKt.out _ HY16.out) (by omega)
                  rw [decide_eq_true rfl] at C17
                  clear hB16 hOm hNm2 HY15 HNx
                  have qcc : ((c : Int) != (c : Int)) = false := by simp
                  go_wp2_with fail
                  refine C17.mono ?_
                  clear C17
                  rintro e x17d ⟨rfl, q17, rfl⟩
                  have HY17 : Hid (Ky w a gv gk (x16.drewN q17)) := HY16.out.drewN q17
                  have HN17 : Hid (IR (x16.drewN q17) (.slice am2 K.length cm2) K am2 cm2) := (HNm2.out _ (Below.refl _ _)).drewN q17
                  generalize x16.drewN q17 = x17 at HY17 HN17 ⊢
                  clear HY16 HNm2
                  have C18 := sameInts_any _ _ K K am2 az cm2 cz x17 HN17.out (HKz.out _ HY17.out) (by omega)
                  rw [decide_eq_true rfl] at C18
                  go_wp2_with fail
                  refine C18.mono ?_
                  clear C18
                  rintro e x18d ⟨rfl, q18, rfl⟩
                  have HY18 : Hid (Ky w a gv gk (x17.drewN q18)) := HY17.out.drewN q18
                  generalize x17.drewN q18 = x18 at HY18 ⊢
                  clear HY17 HN17
                  have C19 := sameInts_any _ _ K K al az cl cz x18 (HKl.out _ HY18.out) (HKz.out _ HY18.out) (by omega)
                  rw [decide_eq_true rfl] at C19
                  go_wp2_with fail
                  refine C19.mono ?_
                  clear C19
                  rintro e x19d ⟨rfl, q19, rfl⟩
                  have HY19 : Hid (Ky w a gv gk (x18.drewN q19)) := HY18.out.drewN q19
                  generalize x18.drewN q19 = x19 at HY19 ⊢
                  clear HY18
                  have HW0 : Hid (NO w2.heap.size x19 (.slice aw X.length cw) ((X.take 0).map wiped ++ X.drop 0)) := own_keep HOwa.out (fun g hg => by
                    have hgw : ∃ off, aw = some ⟨g, off, none⟩ := by
                      have h := HOwa.out
                      unfold NO at h
                      rcases h.2 with ⟨hv, _⟩ | ⟨g', cap, cur, hv, _⟩
                      · simp only [Value.slice.injEq] at hv
                        rw [hv.1] at hg
                        cases hg
                      · cases hv
                        cases hg
                        exact ⟨0, rfl⟩
                    obtain ⟨off, e⟩ := hgw
                    have h1 := Hgw.out g off e
                    have h2 := HZ.out
                    have h3 := HApart.out 0 g (.inl (by omega))
                    exact HY19.out.blk g (by omega) h3.1 h3.2)
                  have HB19 : Hid (Below w.heap.size w x19) := HY19.out.bel
                  have HXt : Hid (∀ k, k < X.length → (X.take k).map wiped ++ X.drop k = (X.take k).map wiped ++ (X.getD k (nd0 0) :: X.drop (k + 1))) := fun k hk => by rw [dropN hk]
                  have HXs : Hid (∀ k, k < X.length → (X.take (k + 1)).map wiped ++ X.drop (k + 1) = (X.take k).map wiped ++ (wiped (X.getD k (nd0 0)) :: X.drop (k + 1))) := fun k hk => by
                    rw [takeN hk, List.map_append]
                    simp
                  have HZw : Hid (w.heap.size ≤ w2.heap.size) := by have := HZ.out; show _ ≤ _; omega
                  go_wp2
                  go_loopw [25] (fun s25 wx => ∃ k : Nat, s25 = .int .i64 k ∧ k ≤ X.length ∧ Below w.heap.size w wx ∧ NO w2.heap.size wx (.slice aw X.length cw) ((X.take k).map wiped ++ X.drop k)) (fun s _ => X.length - (intOf s).toNat)
                  case atStart => exact ⟨0, rfl, Nat.zero_le _, HB19.out, HW0.out⟩
                  case round =>
                    clear HB19 HW0 HY19
                    obtain ⟨k, rfl, hk, hbel, hno⟩ := hrel
                    have HBr : Hid (Below w.heap.size w wr) := hbel
                    have HO : Hid (NO w2.heap.size wr (.slice aw X.length cw) ((X.take k).map wiped ++ X.drop k)) := hno
                    clear hbel hno
                    by_cases hlt : k < X.length
                    · have q1 : decide ((k : Int) < (X.length : Int)) = true := decide_eq_true (by omega)
                      have hown := HO.out
                      rw [HXt.out k hlt] at hown
                      obtain ⟨nk, hnk⟩ : ∃ nk, X.getD k (nd0 0) = nk := ⟨_, rfl⟩
                      have hXs := HXs.out k hlt
                      rw [hnk] at hown hXs
                      have hlen : ((X.take k).map wiped ++ (nk :: X.drop (k + 1))).length = X.length := by simp; omega
                      have hpl : ((X.take k).map wiped).length = k := by simp; omega
                      unfold NO at hown
                      rw [hlen] at hown
                      obtain ⟨g, rfl⟩ : ∃ g, aw = some ⟨g, 0, none⟩ := by
                        rcases hown.2 with ⟨hv, h0⟩ | ⟨g, cap, cur, hv, _⟩
                        · omega
                        · cases hv
                          exact ⟨g, rfl⟩
                      have hcell : ∀ j u, j < 6 → (nC nk)[j]? = some u → wr.cell? ⟨g, k * 6 + j, none⟩ = some u ∧ wr.frozen? ⟨g, k * 6 + j, none⟩ = false := fun j u hj hu => own_cell hown (k * 6 + j) u (by
                        rw [nCs_at _ k j (by rw [hlen]; exact hlt) hj, List.getD_eq_getElem?_getD, List.getElem?_append_right (by omega), hpl, Nat.sub_self]
                        exact hu)
                      have k0 := (hcell 0 (.int .i64 nk.kind) (by omega) rfl).1
                      rw [Nat.add_zero] at k0
                      have k1 := (hcell 1 (.string ⟨nk.key.toArray⟩) (by omega) rfl).1
                      have f1 := (hcell 1 (.string ⟨nk.key.toArray⟩) (by omega) rfl).2
                      have k2 := (hcell 2 (.string ⟨nk.text.toArray⟩) (by omega) rfl).1
                      have f2 := (hcell 2 (.string ⟨nk.text.toArray⟩) (by omega) rfl).2
                      have hg : w.heap.size ≤ g := Nat.le_trans HZw.out (World.ownsRow.lt hown g rfl).1
                      have hset : ∀ (wz : World) (m m' : Nd) (j : Nat) (u : Value), j < 6 → (nC m).set j u = nC m' → wz.ownsRow w2.heap.size 33 6 (.slice (some ⟨g, 0, none⟩) X.length cw) X.length (nCs ((X.take k).map wiped ++ (m :: X.drop (k + 1)))) → (wz.setCell ⟨g, k * 6 + j, none⟩ u).ownsRow w2.heap.size 33 6 (.slice (some ⟨g, 0, none⟩) X.length cw) X.length (nCs ((X.take k).map wiped ++ (m' :: X.drop (k + 1)))) ∧ wz.grownBy (wz.setCell ⟨g, k * 6 + j, none⟩ u) (some g) := fun wz m m' j u hj hm ho => by
                        have h1 := ho.stored (k * 6 + j) u
                        refine ⟨?_, h1.2⟩
                        have e1 : ∀ x : Nd, nCs ((X.take k).map wiped ++ (x :: X.drop (k + 1))) = nCs ((X.take k).map wiped) ++ (nC x ++ nCs (X.drop (k + 1))) := fun x => by rw [nCs_append]; rfl
                        have h2 := h1.1
                        rw [e1, List.set_append_right _ _ (by rw [nCs_length, hpl]; omega), nCs_length, hpl, Nat.add_sub_cancel_left, List.set_append_left _ _ (by rw [nC_length]; exact hj), hm] at h2
                        rw [e1]
                        exact h2
                      by_cases h5 : nk.kind = 5
                      · have q2 : decide (nk.kind = 5) = true := decide_eq_true h5
                        have s1 := hset wr nk { nk with text := [] } 2 (.string ⟨#[]⟩) (by omega) rfl hown
                        have s2 := hset _ { nk with text := [] } (wiped nk) 1 (.string ⟨#[]⟩) (by omega) (by unfold wiped; rw [if_pos h5]; rfl) s1.1
                        have HS : Hid (NO w2.heap.size ((wr.setCell ⟨g, k * 6 + 2, none⟩ (.string ⟨#[]⟩)).setCell ⟨g, k * 6 + 1, none⟩ (.string ⟨#[]⟩)) (.slice (some ⟨g, 0, none⟩) X.length cw) ((X.take (k + 1)).map wiped ++ X.drop (k + 1))) := by
                          show World.ownsRow _ _ _ _ _ _ _
                          rw [hXs, show ((X.take k).map wiped ++ (wiped nk :: X.drop (k + 1))).length = X.length by simp; omega]
                          exact s2.1
                        have HBn : Hid (Below w.heap.size w ((wr.setCell ⟨g, k * 6 + 2, none⟩ (.string ⟨#[]⟩)).setCell ⟨g, k * 6 + 1, none⟩ (.string ⟨#[]⟩))) := (HBr.out.grown s1.2 HBr.out.size (fun j hj => by cases hj; exact hg)).grown s2.2 (Nat.le_trans HBr.out.size s1.2.size) (fun j hj => by cases hj; exact hg)
                        rw [h5] at k0
                        clear hown hXs hlen hpl hcell hset s1 s2 HBr HO hnk q2 h5
                        go_wp2
                        go_roundw
                        case rel => exact ⟨k + 1, by go_num, by omega, HBn.out, HS.out⟩
                        case measure => simp [intOf]; omega
                      · have q2 : decide (nk.kind = 5) = false := decide_eq_false h5
                        have s2 := hset wr nk (wiped nk) 1 (.string ⟨#[]⟩) (by omega) (by unfold wiped; rw [if_neg h5]; rfl) hown
                        have HS : Hid (NO w2.heap.size (wr.setCell ⟨g, k * 6 + 1, none⟩ (.string ⟨#[]⟩)) (.slice (some ⟨g, 0, none⟩) X.length cw) ((X.take (k + 1)).map wiped ++ X.drop (k + 1))) := by
                          show World.ownsRow _ _ _ _ _ _ _
                          rw [hXs, show ((X.take k).map wiped ++ (wiped nk :: X.drop (k + 1))).length = X.length by simp; omega]
                          exact s2.1
                        have HBn : Hid (Below w.heap.size w (wr.setCell ⟨g, k * 6 + 1, none⟩ (.string ⟨#[]⟩))) := HBr.out.grown s2.2 HBr.out.size (fun j hj => by cases hj; exact hg)
                        clear hown hXs hlen hpl hcell hset s2 HBr HO hnk
                        generalize nk.kind = kk at k0 q2 h5
                        have q3 : (kk == 5) = false := by simpa using h5
                        go_wp2
                        go_roundw
                        case rel => exact ⟨k + 1, by go_num, by omega, HBn.out, HS.out⟩
                        case measure => simp [intOf]; omega
                    · have q1 : decide ((k : Int) < (X.length : Int)) = false := decide_eq_false (by omega)
                      have hO2 : NO w2.heap.size wr (.slice aw X.length cw) (X.map wiped) := by
                        have h := HO.out
                        obtain rfl : k = X.length := by omega
                        rw [List.drop_length, List.append_nil, List.take_length] at h
                        exact h
                      obtain ⟨a9, c9, hN9, _⟩ := no_nr hO2
                      have C20 := HKids.out wr (X.map wiped) _ a9 c9 hN9 (by rw [List.length_map]; exact hbd) (kidsF_map wiped wiped_kids X at_)
                      clear hO2 hN9 HO
                      go_wp2_with fail
                      refine C20.mono ?_
                      clear C20
                      rintro e x20 ⟨r, rfl, hB20, hOn⟩
                      obtain ⟨an, cn, hNn, _⟩ := own_ir hOn
                      obtain ⟨rfl, _, _⟩ := id hNn
                      have HB20 : Hid (Below w.heap.size w x20) := HBr.out.trans (hB20.mono HBr.out.size)
                      clear hB20 hOn hNn
                      go_wp2
                      go_ret
                      exact ⟨rfl, HB20.out⟩

theorem fresh_core (t : List UInt8) (at_ : Int) (_h1 : -9223372036854775808 ≤ at_) (_h2 : at_ ≤ 9223372036854775807) (w : World) (hG : GL w.heap.size w) :
    Calls Tryd.prog 8 #[.string ⟨t.toArray⟩, .int .i64 at_] w fun e w' => e = .returned (.bool true) ∧ Below w.heap.size w w' := fresh_any t at_ w hG

end Go.Proofs.YtlapkbdjipocoaaDoor
