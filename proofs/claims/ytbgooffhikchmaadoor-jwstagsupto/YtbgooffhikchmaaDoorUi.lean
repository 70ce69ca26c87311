import Derived.Test.YtbgooffhikchmaaDoorUh
import Derived.Laws.BitsAllLaws
namespace Go.Proofs.YtbgooffhikchmaaDoor
open Go.RowKit
set_option maxRecDepth 100000

theorem tg_le (a : Int) (key data : List UInt8) : (tgF a key data).1.length ≤ 64 := by
  unfold tgF
  split
  · split
    · simp
    · have h := Sha.tagF_length a key data
      have h2 := Sha.siz_le a
      show (Sha.tagF a key data).length ≤ 64
      omega
  · simp
theorem owb_rd {w : World} {B0 : Nat} {a : Option Addr} {n c : Nat} {l : List UInt8} (h : Owb w B0 (.slice a n c) l) : Rd w a l := by
  obtain ⟨a', c', e, _, hr⟩ := h.nb
  injection e with e1 e2 e3
  subst e1
  exact hr
theorem xorB_all : ∀ a b : Fin 256, bits .xor .u8 (a.val : Int) (b.val : Int) = ((a.val ^^^ b.val : Nat) : Int) := fun a b => by
  have h := u8_xor_nat a.val b.val a.isLt b.isLt
  exact h
theorem xor8_b (x : UInt8) : Value.int .u8 (bits .xor .u8 (x.toNat : Int) 8) = B (x ^^^ 8) := by
  unfold B
  have := xorB_all ⟨x.toNat, x.toNat_lt⟩ ⟨8, by decide⟩
  simp only at this
  rw [show (8 : Int) = ((8 : Nat) : Int) from rfl, this, UInt8.toNat_xor]
  rfl

/-- The secret lent, an answer, the document's answer. -/
structure St (W : World) (N0 g0 m0 : Nat) (key : List UInt8) (v : Value) (ac : Option Addr) (L : List UInt8) : Prop where
  s : Ln W N0 g0 m0 key
  t : Owb W 0 v L
  c : Rd W ac L
theorem St.below {W W' : World} {N0 g0 m0 : Nat} {key L : List UInt8} {v : Value} {ac : Option Addr} (h : St W N0 g0 m0 key v ac L) (hb : Below W.heap.size W W') : St W' N0 g0 m0 key v ac L :=
  ⟨h.s.below hb (Nat.le_refl _), h.t.below hb (Nat.le_refl _), h.c.below hb (Nat.le_refl _)⟩
theorem St.drewN {W : World} {N0 g0 m0 : Nat} {key L : List UInt8} {v : Value} {ac : Option Addr} (h : St W N0 g0 m0 key v ac L) (q : Nat) : St (W.drewN q) N0 g0 m0 key v ac L := ⟨h.s, h.t, h.c⟩

set_option maxHeartbeats 40000000 in
theorem jtags_any (a : Int) (ak : Option Addr) (ck : Nat) (key data : List UInt8) (w : World) (T : Sha.Tb w) (R : Sha.Rt w) (hk : Rd w ak key) (hak : ak = none → key.length = 0 ∧ ck = 0) (hkl : key.length ≤ 1048576) (hd : data.length ≤ 1048576) :
    Calls Tryd.prog 3 #[.int .i64 a, .slice ak key.length ck, .string ⟨data.toArray⟩] w fun e w' => e = .returned (.bool true) ∧ Below w.heap.size w w' := by
  have C0 := lent_any ak ck key w hk hak (by omega)
  have HT : Hid (Sha.Tb w) := T
  have HR : Hid (Sha.Rt w) := R
  have HK : Hid (Rd w ak key) := hk
  obtain ⟨D, HD⟩ : ∃ D, Hid (tgF a key data = D) := ⟨tgF a key data, rfl⟩
  have hD64 : D.1.length ≤ 64 := by rw [← HD.out]; exact tg_le a key data
  obtain ⟨L, n⟩ := D
  simp only at hD64
  clear T R hk
  have e4 : ((n : Int) != (n : Int)) = false := by simp
  go_enter Tryd.func3, Tryd.ntmps3
  go_wp2_with fail
  refine C0.mono ?_
  clear C0
  rintro e w1 ⟨g0, m0, rfl, Ls, B1⟩
  have HB1 : Hid (Below w.heap.size w w1) := B1
  have HL1 : Hid (Ln w1 w.heap.size g0 m0 key) := Ls
  obtain ⟨z1, z2, z3, z4, _⟩ := Ls.parts
  unfold maxLen at z4
  clear B1 Ls
  have C1 := tag_any a (some ⟨g0, 0, none⟩) m0 key data w1 (HT.out.below HB1.out) HL1.out.rd (by omega) (by omega) (by omega)
  rw [HD.out] at C1
  simp only at C1
  go_wp2_with fail
  refine C1.mono ?_
  clear C1
  rintro e w2 ⟨v1, rfl, o1, B2⟩
  have HB2 : Hid (Below w.heap.size w w2) := HB1.out.trans (B2.mono HB1.out.size)
  have HL2 : Hid (Ln w2 w.heap.size g0 m0 key) := HL1.out.below B2 (Nat.le_refl _)
  have HO2 : Hid (Owb w2 w1.heap.size v1 L) := o1
  have HN1 : Hid (∀ g, v1.ownBlock = some g → w1.heap.size ≤ g ∧ g < w2.heap.size) := fun g e => o1.lt g e
  have hs12 : w1.heap.size ≤ w2.heap.size := B2.size
  clear B2 HB1 HL1 o1
  obtain ⟨f1, k1, e1⟩ : ∃ a c, v1 = .slice a L.length c := by obtain ⟨a, c, e, _⟩ := HO2.out.nb; exact ⟨a, c, e⟩
  subst e1
  have C2 := tag_any a (some ⟨g0, 0, none⟩) m0 key data w2 (HT.out.below HB2.out) HL2.out.rd (by omega) (by omega) (by omega)
  rw [HD.out] at C2
  simp only at C2
  go_wp2_with fail
  refine C2.mono ?_
  clear C2
  rintro e w3 ⟨v2, rfl, o2, B3⟩
  have HB3 : Hid (Below w.heap.size w w3) := HB2.out.trans (B3.mono HB2.out.size)
  have HL3 : Hid (Ln w3 w.heap.size g0 m0 key) := HL2.out.below B3 (Nat.le_refl _)
  have HO3 : Hid (Owb w3 w1.heap.size (.slice f1 L.length k1) L) := HO2.out.below B3 (Nat.le_refl _)
  have HV3 : Hid (Owb w3 w2.heap.size v2 L) := o2
  have HN2 : Hid (∀ g, v2.ownBlock = some g → w2.heap.size ≤ g) := fun g e => (o2.lt g e).1
  have hs23 : w2.heap.size ≤ w3.heap.size := B3.size
  clear B3 HB2 HL2 HO2 o2
  obtain ⟨f2, k2, e2⟩ : ∃ a c, v2 = .slice a L.length c := by obtain ⟨a, c, e, _⟩ := HV3.out.nb; exact ⟨a, c, e⟩
  subst e2
  have C3 := rtag_any a ak ck key data w3 (HR.out.below HB3.out (Nat.le_refl _)) (HK.out.below HB3.out (Nat.le_refl _)) hak (by omega)
  rw [HD.out] at C3
  simp only at C3
  go_wp2_with fail
  refine C3.mono ?_
  clear C3
  rintro e w4 ⟨vc, rfl, ⟨ac, cc, ec, _, rc, nc⟩, B4⟩
  subst ec
  have HB4 : Hid (Below w.heap.size w w4) := HB3.out.trans (B4.mono HB3.out.size)
  have HS : Hid (St w4 w.heap.size g0 m0 key (.slice f2 L.length k2) ac L) := ⟨HL3.out.below B4 (Nat.le_refl _), (HV3.out.below B4 (Nat.le_refl _)).base (Nat.zero_le _), rc⟩
  have HO : Hid (Owb w4 0 (.slice f1 L.length k1) L) := (HO3.out.below B4 (Nat.le_refl _)).base (Nat.zero_le _)
  have HNC : Hid (∀ x, ac = some x → w3.heap.size ≤ x.block) := nc
  have hs34 : w3.heap.size ≤ w4.heap.size := B4.size
  clear B4 HB3 HL3 HV3 HO3 rc nc
  have S1 : Calls Tryd.prog 7 #[.slice f1 L.length k1, .slice ac L.length cc] w4 fun e w' => e = .returned (.bool true) ∧ ∃ q, w' = w4.drewN q := by
    have := lsame_any f1 ac k1 cc L L w4 (owb_rd HO.out) HS.out.c (by omega)
    rwa [decide_eq_true rfl] at this
  have S2 : Hid (∀ q, Calls Tryd.prog 7 #[.slice f2 L.length k2, .slice ac L.length cc] (w4.drewN q) fun e w' => e = .returned (.bool true) ∧ ∃ q', w' = (w4.drewN q).drewN q') := fun q => by
    have := lsame_any f2 ac k2 cc L L (w4.drewN q) (owb_rd HS.out.t) HS.out.c (by omega)
    rwa [decide_eq_true rfl] at this
  go_wp2_with fail
  refine S1.mono ?_
  clear S1
  rintro e wx ⟨rfl, qa, rfl⟩
  go_wp2_with fail
  refine (S2.out _).mono ?_
  clear S2
  rintro e wx ⟨rfl, qb, rfl⟩
  obtain ⟨w5, hw5⟩ : ∃ w5, (w4.drewN qa).drewN qb = w5 := ⟨_, rfl⟩
  have HS5 : Hid (St w5 w.heap.size g0 m0 key (.slice f2 L.length k2) ac L) := by rw [← hw5]; exact (HS.out.drewN _).drewN _
  have HO5 : Hid (Owb w5 0 (.slice f1 L.length k1) L) := by rw [← hw5]; exact HO.out
  have HB5 : Hid (Below w.heap.size w w5) := by rw [← hw5]; exact below_drewN (below_drewN HB4.out _) _
  have HW5 : Hid (w3.heap.size ≤ w5.heap.size ∧ True) := by rw [← hw5]; exact ⟨hs34, trivial⟩
  rw [hw5]
  clear hw5 HS HO HB4
  go_wp2
  go_loopw [14] (fun s14 wr => ∃ (k : Nat) (L1 : List UInt8), s14 = .int .i64 (k : Int) ∧ k ≤ L.length ∧ L1.length = L.length ∧ Hid ((∀ j, j < k → L1.getD j 0 = 119) ∧ Owb wr 0 (.slice f1 L.length k1) L1 ∧ w5.grownBy wr (Value.slice f1 L.length k1).ownBlock)) (fun s _ => L.length - (intOf s).toNat)
  case atStart => exact ⟨0, L, rfl, by omega, rfl, ⟨fun j hj => by omega, HO5.out, World.grownBy.refl _ _⟩⟩
  case round =>
    clear HO5
    obtain ⟨k, L1, rfl, hk, hl1, HO⟩ := hrel
    by_cases hlt : k < L.length
    · have d1 : decide ((k : Int) < (L.length : Int)) = true := decide_eq_true (by omega)
      obtain ⟨gb, eb, hnn, hcap, hcm, _, _⟩ := HO.out.2.1.some (by omega)
      subst eb
      clear hnn
      unfold maxLen at hcm
      rw [hl1] at hcap
      obtain ⟨xx, hxx⟩ : ∃ xx, L1.getD k 0 = xx := ⟨_, rfl⟩
      have k0 : wr.cell? ⟨gb, k, none⟩ = some (.int .u8 (xx.toNat : Int)) := by rw [← hxx]; exact HO.out.2.1.cell k (by omega)
      clear hxx
      have f0 : wr.frozen? ⟨gb, k, none⟩ = false := HO.out.2.1.frozen k
      have HO2 : Hid ((∀ j, j < k + 1 → (L1.set k 119).getD j 0 = 119) ∧ Owb (wr.setCell ⟨gb, k, none⟩ (.int .u8 119)) 0 (.slice (some ⟨gb, 0, none⟩) L.length k1) (L1.set k 119) ∧ w5.grownBy (wr.setCell ⟨gb, k, none⟩ (.int .u8 119)) (some gb)) := by
        refine ⟨fun j hj => ?_, HO.out.2.1.put k 119, grown_set HO.out.2.2⟩
        rw [List.getD_eq_getElem?_getD, List.getElem?_set]
        by_cases e : k = j
        · subst e; simp [hl1, hlt]
        · rw [if_neg e, ← List.getD_eq_getElem?_getD]
          exact HO.out.1 j (by omega)
      clear HO
      go_wp2
      go_roundw
      case rel => exact ⟨k + 1, L1.set k 119, by go_num, by omega, by rw [List.length_set]; exact hl1, HO2⟩
      case measure => simp [intOf]; omega
    · have d1 : decide ((k : Int) < (L.length : Int)) = false := decide_eq_false (by omega)
      have hL1 : L1 = List.replicate L.length 119 := by
        apply List.ext_getElem
        · simp [hl1]
        · intro j h1 h2
          have := HO.out.1 j (by omega)
          rw [List.getD_eq_getElem?_getD, List.getElem?_eq_getElem h1] at this
          simpa using this
      subst hL1
      have HM0 : Hid (Mr wr wr (.slice f1 L.length k1) (.slice f1 L.length k1) (List.replicate L.length 119) (List.replicate 0 120)) := Mr.start HO.out.2.1
      have HG : Hid (w5.grownBy wr (Value.slice f1 L.length k1).ownBlock) := HO.out.2.2
      clear HO hl1
      obtain ⟨w6, rfl⟩ : ∃ w6, w6 = wr := ⟨_, rfl⟩
      go_wp2
      go_loopw [15, 16] (fun s15 s16 wz => ∃ (k : Nat), s16 = .int .i64 (k : Int) ∧ k ≤ 70 ∧ Hid (Mr w6 wz (.slice f1 L.length k1) s15 (List.replicate L.length 119) (List.replicate k 120))) (fun _ s _ => 70 - (intOf s).toNat)
      case atStart => exact ⟨0, rfl, by omega, HM0⟩
      case round =>
        clear HM0
        obtain ⟨q, rfl, hq, HM⟩ := hrel
        obtain ⟨a6, n6, c6, e6⟩ : ∃ a n c, u15 = .slice a n c := by obtain ⟨a, c, e, _⟩ := HM.out.m.nb; exact ⟨a, _, c, e⟩
        subst e6
        by_cases hlt2 : q < 70
        · go_wp2_with (at_builtin; refine append_mr rfl (.tmp 77) (.tmp 78) rfl _ _ (List.replicate L.length 119) (List.replicate q 120) 120 rfl HM.out rfl (by simp; omega) ?_; intro v7 w7 h7)
          have HM7 : Hid (Mr w6 w7 (.slice f1 L.length k1) v7 (List.replicate L.length 119) (List.replicate (q + 1) 120)) := (by rw [← List.replicate_succ'] at h7; exact h7 : Mr w6 w7 (.slice f1 L.length k1) v7 (List.replicate L.length 119) (List.replicate (q + 1) 120))
          clear h7 HM
          go_wp2
          go_roundw
          case rel => exact ⟨q + 1, by go_num, by omega, HM7⟩
          case measure => simp [intOf]; omega
        · obtain rfl : q = 70 := by omega
          obtain ⟨w7, rfl⟩ : ∃ w7, w7 = wr := ⟨_, rfl⟩
          have HG7 : Hid (w5.grownBy w7 (Value.slice f1 L.length k1).ownBlock) := B64.grownBy.trans HG.out HM.out.g
          have hs5 : w3.heap.size ≤ w5.heap.size := HW5.out.1
          have hs1 : g0 < w1.heap.size := z2
          have HS7 : Hid (St w7 w.heap.size g0 m0 key (.slice f2 L.length k2) ac L) := by
            refine ⟨HS5.out.s.grown HG7.out (fun e => ?_), HS5.out.t.grown HG7.out (fun g e e2 => ?_), HS5.out.c.grownb HG7.out (fun x e e2 => ?_)⟩
            · have := HN1.out _ e; omega
            · have := HN1.out _ e2; have := HN2.out _ e; omega
            · have := HN1.out _ e2; have := HNC.out _ e; omega
          have HB7 : Hid (Below w.heap.size w w7) := HB5.out.trans (grown_below HG7.out (fun g e => by have := HN1.out g e; omega) HB5.out.size)
          have HBm : Hid (Owb w7 0 (.slice f1 L.length k1) (List.replicate L.length 119) ∧ Owb w7 0 (.slice a6 n6 c6) (List.replicate L.length 119 ++ List.replicate 70 120)) := ⟨HM.out.b, HM.out.m⟩
          clear HM HG HG7 HS5 HB5 hlt2 hq
          have S3 : Calls Tryd.prog 7 #[.slice f2 L.length k2, .slice ac L.length cc] w7 fun e w' => e = .returned (.bool true) ∧ ∃ q, w' = w7.drewN q := by
            have := lsame_any f2 ac k2 cc L L w7 (owb_rd HS7.out.t) HS7.out.c (by omega)
            rwa [decide_eq_true rfl] at this
          go_wp2_with fail
          refine S3.mono ?_
          clear S3
          rintro e wx ⟨rfl, qd, rfl⟩
          obtain ⟨w8, hw8⟩ : ∃ w8, w7.drewN qd = w8 := ⟨_, rfl⟩
          have HS8 : Hid (St w8 w.heap.size g0 m0 key (.slice f2 L.length k2) ac L) := by rw [← hw8]; exact HS7.out.drewN _
          have HB8 : Hid (Below w.heap.size w w8) := by rw [← hw8]; exact below_drewN HB7.out _
          have HBm8 : Hid (Owb w8 0 (.slice f1 L.length k1) (List.replicate L.length 119) ∧ Owb w8 0 (.slice a6 n6 c6) (List.replicate L.length 119 ++ List.replicate 70 120)) := by rw [← hw8]; exact HBm.out
          rw [hw8]
          clear hw8 HS7 HB7 HBm
          have C4 := tag_any a (some ⟨g0, 0, none⟩) m0 key data w8 (HT.out.below HB8.out) HS8.out.s.rd (by omega) (by omega) (by omega)
          rw [HD.out] at C4
          simp only at C4
          go_wp2_with fail
          refine C4.mono ?_
          clear C4
          rintro e w9 ⟨v3, rfl, o3, B9⟩
          have HB9 : Hid (Below w.heap.size w w9) := HB8.out.trans (B9.mono HB8.out.size)
          have HS9 : Hid (St w9 w.heap.size g0 m0 key (.slice f2 L.length k2) ac L) := HS8.out.below B9
          have HBm9 : Hid (Owb w9 0 (.slice f1 L.length k1) (List.replicate L.length 119) ∧ Owb w9 0 (.slice a6 n6 c6) (List.replicate L.length 119 ++ List.replicate 70 120)) := ⟨HBm8.out.1.below B9 (Nat.le_refl _), HBm8.out.2.below B9 (Nat.le_refl _)⟩
          have HD9 : Hid (Owb w9 0 v3 L) := o3.base (Nat.zero_le _)
          have HN3 : Hid (∀ g, v3.ownBlock = some g → w8.heap.size ≤ g) := fun g e => (o3.lt g e).1
          have hs8 : g0 < w8.heap.size := HS8.out.s.parts.2.1
          clear B9 o3 HB8 HS8 HBm8
          obtain ⟨f3, k3, e3⟩ : ∃ a c, v3 = .slice a L.length c := by obtain ⟨a, c, e, _⟩ := HD9.out.nb; exact ⟨a, c, e⟩
          subst e3
          go_wp2
          go_loopw [19] (fun s19 wz => ∃ (k : Nat), s19 = .int .i64 (k : Int) ∧ k ≤ L.length ∧ wz = w9) (fun s _ => L.length - (intOf s).toNat)
          case atStart => exact ⟨0, rfl, by omega, rfl⟩
          case round =>
            obtain ⟨r, rfl, hr, rfl⟩ := hrel
            by_cases hlt3 : r < L.length
            · have d3 : decide ((r : Int) < (L.length : Int)) = true := decide_eq_true (by omega)
              obtain ⟨gb, eb, hnn, hcap, hcm, _, _⟩ := HBm9.out.1.some (by simp; omega)
              subst eb
              clear hnn
              unfold maxLen at hcm
              have k0 : wr.cell? ⟨gb, r, none⟩ = some (.int .u8 119) := by
                have := HBm9.out.1.cell r (by simp; omega)
                rw [List.getD_eq_getElem?_getD, List.getElem?_replicate, if_pos hlt3] at this
                exact this
              rw [List.length_replicate] at hcap
              go_wp2
              go_roundw
              case rel => exact ⟨r + 1, by go_num, by omega, by first | rfl | trivial⟩
              case measure => simp [intOf]; omega
            · have d3 : decide ((r : Int) < (L.length : Int)) = false := decide_eq_false (by omega)
              obtain ⟨w9, rfl⟩ : ∃ w9, w9 = wr := ⟨_, rfl⟩
              have hn6 : n6 = L.length + 70 := by
                obtain ⟨a, c, e, _⟩ := HBm9.out.2.nb
                injection e with e1 e2 e3
                simpa using e2
              subst hn6
              have T1 : Calls Tryd.prog 7 #[.slice f3 L.length k3, .slice ac L.length cc] w9 fun e w' => e = .returned (.bool true) ∧ ∃ q, w' = w9.drewN q := by
                have := lsame_any f3 ac k3 cc L L w9 (owb_rd HD9.out) HS9.out.c (by omega)
                rwa [decide_eq_true rfl] at this
              have T2 : Hid (∀ q, Calls Tryd.prog 7 #[.slice f2 L.length k2, .slice ac L.length cc] (w9.drewN q) fun e w' => e = .returned (.bool true) ∧ ∃ q', w' = (w9.drewN q).drewN q') := fun q => by
                have := lsame_any f2 ac k2 cc L L (w9.drewN q) (owb_rd HS9.out.t) HS9.out.c (by omega)
                rwa [decide_eq_true rfl] at this
              have T3 : Hid (∀ q, Calls Tryd.prog 8 #[.slice (some ⟨g0, 0, none⟩) key.length m0, .slice ak key.length ck] (w9.drewN q) fun e w' => e = .returned (.bool true) ∧ ∃ q', w' = (w9.drewN q).drewN q') := fun q => still_true w.heap.size g0 m0 ck ak key (w9.drewN q) (HS9.out.s.drewN q) ((HK.out.below HB9.out (Nat.le_refl _)).drewN q) (by omega)
              have T4 : Hid (∀ q, Calls Tryd.prog 9 #[.slice a6 (L.length + 70) c6, .int .i64 (L.length : Int), .int .u8 119, .int .u8 120] (w9.drewN q) fun e w' => e = .returned (.bool true) ∧ ∃ q', w' = (w9.drewN q).drewN q') := fun q => marked_any (.slice a6 (L.length + 70) c6) L.length 119 120 (w9.drewN q) HBm9.out.2 (by omega)
              go_wp2_with fail
              refine T1.mono ?_
              clear T1
              rintro e wx ⟨rfl, qa, rfl⟩
              go_wp2_with fail
              refine (T2.out _).mono ?_
              clear T2
              rintro e wx ⟨rfl, qb, rfl⟩
              go_wp2_with fail
              refine (T3.out _).mono ?_
              clear T3
              rintro e wx ⟨rfl, qc, rfl⟩
              go_wp2_with fail
              refine (T4.out _).mono ?_
              clear T4
              rintro e wx ⟨rfl, qe, rfl⟩
              obtain ⟨wy, hwy⟩ : ∃ wy, (w9.drewN (qa + qb + qc)).drewN qe = wy := ⟨_, rfl⟩
              have HSy : Hid (St wy w.heap.size g0 m0 key (.slice f3 L.length k3) ac L) := by rw [← hwy]; exact ⟨HS9.out.s, HD9.out, HS9.out.c⟩
              have HBy : Hid (Below w.heap.size w wy) := by rw [← hwy]; exact below_drewN (below_drewN HB9.out _) _
              rw [hwy]
              clear hwy HS9 HB9 HBm9 HD9
              by_cases hk0 : key.length = 0
              · obtain rfl : key = [] := List.eq_nil_of_length_eq_zero hk0
                clear hk0
                obtain ⟨key2, HK2⟩ : ∃ key2 : List UInt8, Hid (key2.length = ([] : List UInt8).length ∧ St wy w.heap.size g0 m0 key2 (.slice f3 L.length k3) ac L) := ⟨[], rfl, HSy.out⟩
                obtain ⟨WX, rfl⟩ : ∃ WX, WX = wy := ⟨_, rfl⟩
                have HS : Hid (St WX w.heap.size g0 m0 key2 (.slice f3 L.length k3) ac L) := HK2.out.2
                have HB := HBy
                clear HSy HBy
                go_upto_region 28 with fail
                have hklen : key2.length = ([] : List UInt8).length := HK2.out.1
                clear HK2
                go_upto_region 30 with (at_builtin; refine append_rdb rfl (.tmp 145) (.tmp 146) rfl w.heap.size _ [] rfl (Owb.nil _ _) (some ⟨g0, 0, none⟩) ([] : List UInt8).length m0 key2 rfl hklen (fun e => by cases e) HS.out.s.rd (by rw [List.length_nil]; omega) HB.out.size ?_; intro vo wo ho1 ho2)
                have Bo : Below WX.heap.size WX wo := below_grown ho2
                have HO : Hid (Owb wo w.heap.size vo key2) := (by simpa using ho1 : Owb wo w.heap.size vo key2)
                have HSo : Hid (St wo w.heap.size g0 m0 key2 (.slice f3 L.length k3) ac L) := HS.out.below Bo
                have HBo : Hid (Below w.heap.size w wo) := HB.out.trans (Bo.mono HB.out.size)
                clear ho1 ho2 Bo HS HB
                obtain ⟨ao, co, eo⟩ : ∃ a c, vo = .slice a ([] : List UInt8).length c := by obtain ⟨a, c, e, _⟩ := HO.out.nb; rw [hklen] at e; exact ⟨a, c, e⟩
                subst eo
                obtain ⟨D2, hD2⟩ : ∃ D2, tgF a key2 data = D2 := ⟨_, rfl⟩
                have hD2l : D2.1.length ≤ 64 := by rw [← hD2]; exact tg_le a key2 data
                have CT := tag_any a (some ⟨g0, 0, none⟩) m0 key2 data wo (HT.out.below HBo.out) HSo.out.s.rd (by have := HSo.out.s.parts.2.2.1; omega) (by have := HSo.out.s.parts.2.2.2.1; unfold maxLen at this; omega) (by omega)
                rw [hD2, hklen] at CT
                go_wp2_with fail
                refine CT.mono ?_
                clear CT
                rintro e wp ⟨vh, rfl, oh, Bp⟩
                have HSp : Hid (St wp w.heap.size g0 m0 key2 (.slice f3 L.length k3) ac L) := HSo.out.below Bp
                have HBp : Hid (Below w.heap.size w wp) := HBo.out.trans (Bp.mono HBo.out.size)
                have HOp : Hid (Owb wp w.heap.size (.slice ao ([] : List UInt8).length co) key2) := HO.out.below Bp (Nat.le_refl _)
                have HH : Hid (Owb wp 0 vh D2.1) := oh.base (Nat.zero_le _)
                clear oh Bp HSo HBo HO
                obtain ⟨fh, kh, eh⟩ : ∃ a c, vh = .slice a D2.1.length c := by obtain ⟨a, c, e, _⟩ := HH.out.nb; exact ⟨a, c, e⟩
                subst eh
                have CU := rtag_any a ao co key2 data wp (HR.out.below HBp.out (Nat.le_refl _)) (owb_rd HOp.out) (fun e => by
                  have h5 := HOp.out
                  rw [e] at h5
                  rcases h5.2 with ⟨h6, h7⟩ | ⟨g, cap, cur, h6, _⟩
                  · injection h6 with _ _ h8
                    exact ⟨h7, h8⟩
                  · injection h6 with h8
                    cases h8) (by omega)
                rw [hD2, hklen] at CU
                go_wp2_with fail
                refine CU.mono ?_
                clear CU
                rintro e wq ⟨vu, rfl, ⟨au, cu, eu, _, ru, _⟩, Bq⟩
                subst eu
                have HSq : Hid (St wq w.heap.size g0 m0 key2 (.slice f3 L.length k3) ac L) := HSp.out.below Bq
                have HBq : Hid (Below w.heap.size w wq) := HBp.out.trans (Bq.mono HBp.out.size)
                have HOq : Hid (Rd wq ao key2) := owb_rd (HOp.out.below Bq (Nat.le_refl _))
                have HHq : Hid (Rd wq fh D2.1) := owb_rd (HH.out.below Bq (Nat.le_refl _))
                have HU : Hid (Rd wq au D2.1) := ru
                clear ru Bq HSp HBp HOp HH hD2
                obtain ⟨L2, n2⟩ := D2
                simp only at hD2l HHq HU ⊢
                have e8 : ((n2 : Int) == (n2 : Int)) = true := by simp
                have T1 : Calls Tryd.prog 7 #[.slice fh L2.length kh, .slice au L2.length cu] wq fun e w' => e = .returned (.bool true) ∧ ∃ q, w' = wq.drewN q := by
                  have := lsame_any fh au kh cu L2 L2 wq HHq.out HU.out (by omega)
                  rwa [decide_eq_true rfl] at this
                have T2 : Hid (∀ q, Calls Tryd.prog 7 #[.slice f3 L.length k3, .slice ac L.length cc] (wq.drewN q) fun e w' => e = .returned (.bool true) ∧ ∃ q', w' = (wq.drewN q).drewN q') := fun q => by
                  have := lsame_any f3 ac k3 cc L L (wq.drewN q) (owb_rd HSq.out.t) HSq.out.c (by omega)
                  rwa [decide_eq_true rfl] at this
                have T3 : Hid (∀ q, Calls Tryd.prog 8 #[.slice (some ⟨g0, 0, none⟩) ([] : List UInt8).length m0, .slice ao ([] : List UInt8).length co] (wq.drewN q) fun e w' => e = .returned (.bool true) ∧ ∃ q', w' = (wq.drewN q).drewN q') := fun q => by
                  have := still_true w.heap.size g0 m0 co ao key2 (wq.drewN q) (HSq.out.s.drewN q) (HOq.out.drewN q) (by omega)
                  rwa [hklen] at this
                clear HSq HOq HHq HU
                go_wp2_with fail
                refine T1.mono ?_
                clear T1
                rintro e wx ⟨rfl, qa, rfl⟩
                go_wp2_with fail
                refine (T2.out _).mono ?_
                clear T2
                rintro e wx ⟨rfl, qb, rfl⟩
                go_wp2_with fail
                refine (T3.out _).mono ?_
                clear T3
                rintro e wx ⟨rfl, qc, rfl⟩
                go_wp2
                go_ret
                exact ⟨rfl, below_drewN HBq.out _⟩
              · have d5 : decide ((key.length : Int) > 0) = true := decide_eq_true (by omega)
                have d6 : decide ((0 : Int) < (key.length : Int)) = true := decide_eq_true (by omega)
                obtain ⟨i, hi⟩ : ∃ i : Nat, i = key.length - 1 := ⟨_, rfl⟩
                have eI : (key.length : Int) - 1 = (i : Int) := by omega
                have hi2 : i < key.length := by omega
                clear hi
                obtain ⟨x, hx⟩ : ∃ x, key.getD i 0 = x := ⟨_, rfl⟩
                have c0 : wy.cell? ⟨g0, i, none⟩ = some (.int .u8 (x.toNat : Int)) := by rw [← hx]; exact HSy.out.s.cell i hi2
                have f0 : wy.frozen? ⟨g0, i, none⟩ = false := by obtain ⟨_, _, _, _, r, hb, _⟩ := HSy.out.s.parts; exact hb.frozen i
                clear hx
                obtain ⟨WX, hWX⟩ : ∃ WX, wy.setCell ⟨g0, i, none⟩ (.int .u8 (bits .xor .u8 (x.toNat : Int) 8)) = WX := ⟨_, rfl⟩
                have HS2 : St WX w.heap.size g0 m0 (key.set i (x ^^^ 8)) (.slice f3 L.length k3) ac L := by
                  rw [← hWX, xor8_b]
                  refine ⟨HSy.out.s.set i hi2 _, own_keep HSy.out.t fun g e => heap_setCell_other wy ⟨g0, i, none⟩ g _ (fun e2 => ?_), HSy.out.c.butb ((But.refl _ _).set i _) (fun a e e2 => ?_)⟩
                  · have := HN3.out g e
                    have e3 : g = g0 := e2
                    omega
                  · have := HNC.out a e
                    omega
                have HB : Hid (Below w.heap.size w WX) := by rw [← hWX]; exact HBy.out.setCell z1 _
                obtain ⟨key2, HK2⟩ : ∃ key2 : List UInt8, Hid (key2.length = key.length ∧ St WX w.heap.size g0 m0 key2 (.slice f3 L.length k3) ac L) := ⟨key.set i (x ^^^ 8), by rw [List.length_set], HS2⟩
                have HS : Hid (St WX w.heap.size g0 m0 key2 (.slice f3 L.length k3) ac L) := HK2.out.2
                clear HS2 HSy HBy
                go_upto_region 28 with fail
                try rw [hWX]
                clear hWX c0 f0
                have hklen : key2.length = key.length := HK2.out.1
                clear HK2
                go_upto_region 30 with (at_builtin; refine append_rdb rfl (.tmp 145) (.tmp 146) rfl w.heap.size _ [] rfl (Owb.nil _ _) (some ⟨g0, 0, none⟩) key.length m0 key2 rfl hklen (fun e => by cases e) HS.out.s.rd (by rw [List.length_nil]; omega) HB.out.size ?_; intro vo wo ho1 ho2)
                have Bo : Below WX.heap.size WX wo := below_grown ho2
                have HO : Hid (Owb wo w.heap.size vo key2) := (by simpa using ho1 : Owb wo w.heap.size vo key2)
                have HSo : Hid (St wo w.heap.size g0 m0 key2 (.slice f3 L.length k3) ac L) := HS.out.below Bo
                have HBo : Hid (Below w.heap.size w wo) := HB.out.trans (Bo.mono HB.out.size)
                clear ho1 ho2 Bo HS HB
                obtain ⟨ao, co, eo⟩ : ∃ a c, vo = .slice a key.length c := by obtain ⟨a, c, e, _⟩ := HO.out.nb; rw [hklen] at e; exact ⟨a, c, e⟩
                subst eo
                obtain ⟨D2, hD2⟩ : ∃ D2, tgF a key2 data = D2 := ⟨_, rfl⟩
                have hD2l : D2.1.length ≤ 64 := by rw [← hD2]; exact tg_le a key2 data
                have CT := tag_any a (some ⟨g0, 0, none⟩) m0 key2 data wo (HT.out.below HBo.out) HSo.out.s.rd (by have := HSo.out.s.parts.2.2.1; omega) (by have := HSo.out.s.parts.2.2.2.1; unfold maxLen at this; omega) (by omega)
                rw [hD2, hklen] at CT
                go_wp2_with fail
                refine CT.mono ?_
                clear CT
                rintro e wp ⟨vh, rfl, oh, Bp⟩
                have HSp : Hid (St wp w.heap.size g0 m0 key2 (.slice f3 L.length k3) ac L) := HSo.out.below Bp
                have HBp : Hid (Below w.heap.size w wp) := HBo.out.trans (Bp.mono HBo.out.size)
                have HOp : Hid (Owb wp w.heap.size (.slice ao key.length co) key2) := HO.out.below Bp (Nat.le_refl _)
                have HH : Hid (Owb wp 0 vh D2.1) := oh.base (Nat.zero_le _)
                clear oh Bp HSo HBo HO
                obtain ⟨fh, kh, eh⟩ : ∃ a c, vh = .slice a D2.1.length c := by obtain ⟨a, c, e, _⟩ := HH.out.nb; exact ⟨a, c, e⟩
                subst eh
                have CU := rtag_any a ao co key2 data wp (HR.out.below HBp.out (Nat.le_refl _)) (owb_rd HOp.out) (fun e => by
                  have h5 := HOp.out
                  rw [e] at h5
                  rcases h5.2 with ⟨h6, h7⟩ | ⟨g, cap, cur, h6, _⟩
                  · injection h6 with _ _ h8
                    exact ⟨h7, h8⟩
                  · injection h6 with h8
                    cases h8) (by omega)
                rw [hD2, hklen] at CU
                go_wp2_with fail
                refine CU.mono ?_
                clear CU
                rintro e wq ⟨vu, rfl, ⟨au, cu, eu, _, ru, _⟩, Bq⟩
                subst eu
                have HSq : Hid (St wq w.heap.size g0 m0 key2 (.slice f3 L.length k3) ac L) := HSp.out.below Bq
                have HBq : Hid (Below w.heap.size w wq) := HBp.out.trans (Bq.mono HBp.out.size)
                have HOq : Hid (Rd wq ao key2) := owb_rd (HOp.out.below Bq (Nat.le_refl _))
                have HHq : Hid (Rd wq fh D2.1) := owb_rd (HH.out.below Bq (Nat.le_refl _))
                have HU : Hid (Rd wq au D2.1) := ru
                clear ru Bq HSp HBp HOp HH hD2
                obtain ⟨L2, n2⟩ := D2
                simp only at hD2l HHq HU ⊢
                have e8 : ((n2 : Int) == (n2 : Int)) = true := by simp
                have T1 : Calls Tryd.prog 7 #[.slice fh L2.length kh, .slice au L2.length cu] wq fun e w' => e = .returned (.bool true) ∧ ∃ q, w' = wq.drewN q := by
                  have := lsame_any fh au kh cu L2 L2 wq HHq.out HU.out (by omega)
                  rwa [decide_eq_true rfl] at this
                have T2 : Hid (∀ q, Calls Tryd.prog 7 #[.slice f3 L.length k3, .slice ac L.length cc] (wq.drewN q) fun e w' => e = .returned (.bool true) ∧ ∃ q', w' = (wq.drewN q).drewN q') := fun q => by
                  have := lsame_any f3 ac k3 cc L L (wq.drewN q) (owb_rd HSq.out.t) HSq.out.c (by omega)
                  rwa [decide_eq_true rfl] at this
                have T3 : Hid (∀ q, Calls Tryd.prog 8 #[.slice (some ⟨g0, 0, none⟩) key.length m0, .slice ao key.length co] (wq.drewN q) fun e w' => e = .returned (.bool true) ∧ ∃ q', w' = (wq.drewN q).drewN q') := fun q => by
                  have := still_true w.heap.size g0 m0 co ao key2 (wq.drewN q) (HSq.out.s.drewN q) (HOq.out.drewN q) (by omega)
                  rwa [hklen] at this
                clear HSq HOq HHq HU
                go_wp2_with fail
                refine T1.mono ?_
                clear T1
                rintro e wx ⟨rfl, qa, rfl⟩
                go_wp2_with fail
                refine (T2.out _).mono ?_
                clear T2
                rintro e wx ⟨rfl, qb, rfl⟩
                go_wp2_with fail
                refine (T3.out _).mono ?_
                clear T3
                rintro e wx ⟨rfl, qc, rfl⟩
                go_wp2
                go_ret
                exact ⟨rfl, below_drewN HBq.out _⟩

end Go.Proofs.YtbgooffhikchmaaDoor
