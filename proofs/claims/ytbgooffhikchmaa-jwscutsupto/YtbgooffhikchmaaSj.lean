import Derived.Test.YtbgooffhikchmaaSi
import Derived.Deep.Cut
namespace Go.Proofs.Ytbgooffhikchmaa
open Go.RowKit Go.Shelf

/-- Three byte strings lent, apart from one another, made since a world. -/
structure CI (w wr : World) (g1 k1 g2 k2 g3 k3 : Nat) (m n o : List UInt8) : Prop where
  l1 : Ln wr w.heap.size g1 k1 m
  l2 : Ln wr w.heap.size g2 k2 n
  l3 : Ln wr w.heap.size g3 k3 o
  bel : Below w.heap.size w wr
  d12 : g1 ≠ g2
  d13 : g1 ≠ g3
  d23 : g2 ≠ g3
theorem CI.lift {w wr w' : World} {g1 k1 g2 k2 g3 k3 : Nat} {m n o : List UInt8} (h : CI w wr g1 k1 g2 k2 g3 k3 m n o) (hb : Below wr.heap.size wr w') : CI w w' g1 k1 g2 k2 g3 k3 m n o :=
  ⟨h.l1.below hb (Nat.le_refl _), h.l2.below hb (Nat.le_refl _), h.l3.below hb (Nat.le_refl _), h.bel.trans (hb.mono h.bel.size), h.d12, h.d13, h.d23⟩
theorem CI.drewN {w wr : World} {g1 k1 g2 k2 g3 k3 : Nat} {m n o : List UInt8} (h : CI w wr g1 k1 g2 k2 g3 k3 m n o) (q : Nat) : CI w (wr.drewN q) g1 k1 g2 k2 g3 k3 m n o :=
  ⟨h.l1, h.l2, h.l3, below_drewN h.bel q, h.d12, h.d13, h.d23⟩
theorem CI.set1 {w wr : World} {g1 k1 g2 k2 g3 k3 : Nat} {m n o : List UInt8} (h : CI w wr g1 k1 g2 k2 g3 k3 m n o) (j : Nat) (hj : j < m.length) (x : UInt8) : CI w (wr.setCell ⟨g1, j, none⟩ (B x)) g1 k1 g2 k2 g3 k3 (m.set j x) n o :=
  ⟨h.l1.set j hj x, h.l2.but ((But.refl _ _).set j _) h.d12.symm, h.l3.but ((But.refl _ _).set j _) h.d13.symm, h.bel.setCell h.l1.parts.1 _, h.d12, h.d13, h.d23⟩
theorem CI.set3 {w wr : World} {g1 k1 g2 k2 g3 k3 : Nat} {m n o : List UInt8} (h : CI w wr g1 k1 g2 k2 g3 k3 m n o) (j : Nat) (hj : j < o.length) (x : UInt8) : CI w (wr.setCell ⟨g3, j, none⟩ (B x)) g1 k1 g2 k2 g3 k3 m n (o.set j x) :=
  ⟨h.l1.but ((But.refl _ _).set j _) h.d13, h.l2.but ((But.refl _ _).set j _) h.d23, h.l3.set j hj x, h.bel.setCell h.l3.parts.1 _, h.d12, h.d13, h.d23⟩

theorem owb_rd {w : World} {B0 : Nat} {a : Option Addr} {n c : Nat} {l : List UInt8} (h : Owb w B0 (.slice a n c) l) : Rd w a l := by
  obtain ⟨a', c', e, _, hr⟩ := h.nb
  injection e with e1 e2 e3
  subst e1
  exact hr
theorem inc_b (x : UInt8) : Value.int .u8 (((x.toNat : Int) + 1) % 256) = B (x + 1) := by
  unfold B
  refine congrArg (Value.int .u8) ?_
  rw [UInt8.toNat_add]
  have : (1 : UInt8).toNat = 1 := rfl
  rw [this]
  omega
theorem flip_b (x : UInt8) : Value.int .u8 ((255 - (x.toNat : Int)) % 256) = B (255 - x) := by
  unfold B
  refine congrArg (Value.int .u8) ?_
  have h := x.toNat_lt
  rw [UInt8.toNat_sub_of_le _ _ (by rw [UInt8.le_iff_toNat_le]; have : (255 : UInt8).toNat = 255 := rfl; omega)]
  have : (255 : UInt8).toNat = 255 := rfl
  rw [this]
  omega

set_option maxRecDepth 100000 in
set_option maxHeartbeats 8000000 in
theorem jcuts_any (t : List UInt8) (a1 a2 a3 : Option Addr) (c1 c2 c3 : Nat) (h p s : List UInt8) (w : World) (r1 : Rd w a1 h) (r2 : Rd w a2 p) (r3 : Rd w a3 s) (n1 : a1 = none → h.length = 0 ∧ c1 = 0) (n2 : a2 = none → p.length = 0 ∧ c2 = 0) (n3 : a3 = none → s.length = 0 ∧ c3 = 0) (l1 : h.length ≤ 100000000) (l2 : p.length ≤ 100000000) (l3 : s.length ≤ 100000000) :
    Calls Try.prog 3 #[.string ⟨t.toArray⟩, .slice a1 h.length c1, .slice a2 p.length c2, .slice a3 s.length c3] w fun e w' => e = .returned (.bool true) ∧ Below w.heap.size w w' := by
  have C1 := split_any t w
  have C2 : Hid (∀ w, Calls Try.prog 5 #[.string ⟨t.toArray⟩] w fun e w' => e = .returned (.tuple #[.string ⟨(splF t).1.1.toArray⟩, .string ⟨(splF t).1.2.1.toArray⟩, .string ⟨(splF t).1.2.2.toArray⟩, .int .i64 ((splF t).2 : Nat)]) ∧ Below w.heap.size w w') := rsplit_any t
  have C3 : Hid (∀ w, Calls Try.prog 6 #[.string ⟨t.toArray⟩] w fun e w' => ∃ v1 v2 v3, e = .returned (.tuple #[v1, v2, v3, .int .i64 ((dcF t).2 : Nat)]) ∧
    Owb w' w.heap.size v1 (dcF t).1.1 ∧ Owb w' w.heap.size v2 (dcF t).1.2.1 ∧ Owb w' w.heap.size v3 (dcF t).1.2.2 ∧ Below w.heap.size w w') := fun w => (jdecode_any t w).mono fun e w' ⟨v1, v2, v3, e1, o1, o2, o3, b, _⟩ => ⟨v1, v2, v3, e1, o1, o2, o3, b⟩
  have C4 : Hid (∀ w, Calls Try.prog 7 #[.string ⟨t.toArray⟩] w fun e w' => ∃ v1 v2 v3, e = .returned (.tuple #[v1, v2, v3, .int .i64 ((dcF t).2 : Nat)]) ∧
    Owb w' w.heap.size v1 (dcF t).1.1 ∧ Owb w' w.heap.size v2 (dcF t).1.2.1 ∧ Owb w' w.heap.size v3 (dcF t).1.2.2 ∧ Below w.heap.size w w') := rjdecode_any t
  have HL : Hid ((dcF t).1.1.length ≤ 100000000 ∧ (dcF t).1.2.1.length ≤ 100000000 ∧ (dcF t).1.2.2.length ≤ 100000000) := dcF_len t
  generalize dcF t = D at *
  generalize splF t = S at *
  obtain ⟨⟨x1, x2, x3⟩, n⟩ := S
  obtain ⟨⟨y1, y2, y3⟩, d⟩ := D
  simp only at C1 C2 C3 C4 HL
  have HR : Hid (∀ w', Below w.heap.size w w' → Rd w' a1 h ∧ Rd w' a2 p ∧ Rd w' a3 s) := fun w' hb => ⟨r1.below hb (Nat.le_refl _), r2.below hb (Nat.le_refl _), r3.below hb (Nat.le_refl _)⟩
  clear r1 r2 r3
  have e1 : (x1 != x1) = false := by simp
  have e2 : (x2 != x2) = false := by simp
  have e3 : (x3 != x3) = false := by simp
  have e4 : ((n : Int) != (n : Int)) = false := by simp
  have e5 : ((d : Int) != (d : Int)) = false := by simp
  have e6 : (y1 != y1) = false := by simp
  go_enter Try.func3, Try.ntmps3
  go_wp2_with fail
  refine C1.mono ?_
  clear C1
  rintro e w1 ⟨rfl, B1⟩
  have HB1 : Hid (Below w.heap.size w w1) := B1
  clear B1
  go_wp2_with fail
  refine (C2.out _).mono ?_
  clear C2
  rintro e w2 ⟨rfl, B2⟩
  have HB2 : Hid (Below w.heap.size w w2) := HB1.out.trans (B2.mono HB1.out.size)
  clear B2 HB1
  go_wp2_with fail
  refine (C3.out _).mono ?_
  clear C3
  rintro e w3 ⟨v1, v2, v3, rfl, o1, o2, o3, B3⟩
  have HB3 : Hid (Below w.heap.size w w3) := HB2.out.trans (B3.mono HB2.out.size)
  obtain ⟨f1, k1, rfl, _, q1⟩ := o1.nb
  obtain ⟨f2, k2, rfl, _, q2⟩ := o2.nb
  obtain ⟨f3, k3, rfl, _, q3⟩ := o3.nb
  have HQ3 : Hid (∀ w', Below w3.heap.size w3 w' → Rd w' f1 y1 ∧ Rd w' f2 y2 ∧ Rd w' f3 y3) := fun w' hb => ⟨q1.below hb (Nat.le_refl _), q2.below hb (Nat.le_refl _), q3.below hb (Nat.le_refl _)⟩
  clear B3 HB2 o1 o2 o3 q1 q2 q3
  go_wp2_with fail
  refine (C4.out _).mono ?_
  clear C4
  rintro e w4 ⟨u1, u2, u3, rfl, o1, o2, o3, B4⟩
  have HB4 : Hid (Below w.heap.size w w4) := HB3.out.trans (B4.mono HB3.out.size)
  obtain ⟨f4, k4, rfl, _, q1⟩ := o1.nb
  obtain ⟨f5, k5, rfl, _, q2⟩ := o2.nb
  obtain ⟨f6, k6, rfl, _, q3⟩ := o3.nb
  obtain ⟨z1, z2, z3⟩ := HQ3.out w4 B4
  have S1 := lsame_any f1 f4 k1 k4 y1 y1 w4 z1 q1 (by have := HL.out.1; omega)
  have S2 : Hid (∀ q, Calls Try.prog 8 #[.slice f2 y2.length k2, .slice f5 y2.length k5] (w4.drewN q) fun e w' => e = .returned (.bool true) ∧ ∃ q', w' = (w4.drewN q).drewN q') := fun q => by
    have := lsame_any f2 f5 k2 k5 y2 y2 (w4.drewN q) z2 q2 (by have := HL.out.2.1; omega)
    rwa [decide_eq_true rfl] at this
  have S3 : Hid (∀ q, Calls Try.prog 8 #[.slice f3 y3.length k3, .slice f6 y3.length k6] (w4.drewN q) fun e w' => e = .returned (.bool true) ∧ ∃ q', w' = (w4.drewN q).drewN q') := fun q => by
    have := lsame_any f3 f6 k3 k6 y3 y3 (w4.drewN q) z3 q3 (by have := HL.out.2.2; omega)
    rwa [decide_eq_true rfl] at this
  clear B4 HB3 o1 o2 o3 q1 q2 q3 z1 z2 z3 HQ3
  rw [decide_eq_true rfl] at S1
  go_wp2_with fail
  refine S1.mono ?_
  clear S1
  rintro e w5 ⟨rfl, q5, rfl⟩
  go_wp2_with fail
  refine (S2.out _).mono ?_
  clear S2
  rintro e w6 ⟨rfl, q6, rfl⟩
  go_wp2_with fail
  refine (S3.out _).mono ?_
  clear S3
  rintro e w7 ⟨rfl, q7, rfl⟩
  clear HL
  obtain ⟨w8, hw8⟩ : ∃ w8, (w4.drewN (q5 + q6)).drewN q7 = w8 := ⟨_, rfl⟩
  have HB8 : Hid (Below w.heap.size w w8) := by rw [← hw8]; exact below_drewN (below_drewN HB4.out _) _
  clear HB4
  rw [hw8]
  clear hw8
  have L1 := lent_any a1 c1 h w8 (HR.out w8 HB8.out).1 n1 l1
  go_wp2_with fail
  refine L1.mono ?_
  clear L1
  rintro e w9 ⟨g1, m1, rfl, L1, B9⟩
  have HL1 : Hid (Ln w9 w8.heap.size g1 m1 h) := L1
  have HB9 : Hid (Below w.heap.size w w9) := HB8.out.trans (B9.mono HB8.out.size)
  clear B9 L1
  have L2 := lent_any a2 c2 p w9 (HR.out w9 HB9.out).2.1 n2 l2
  go_wp2_with fail
  refine L2.mono ?_
  clear L2
  rintro e wa ⟨g2, m2, rfl, L2, Ba⟩
  have HL2 : Hid (Ln wa w9.heap.size g2 m2 p ∧ Ln wa w8.heap.size g1 m1 h) := ⟨L2, HL1.out.below Ba (Nat.le_refl _)⟩
  have HBa : Hid (Below w.heap.size w wa) := HB9.out.trans (Ba.mono HB9.out.size)
  have d12 : g1 ≠ g2 := by
    have x := HL1.out.parts.2.1
    have y := L2.parts.1
    omega
  clear Ba L2 HL1
  have L3 := lent_any a3 c3 s wa (HR.out wa HBa.out).2.2 n3 l3
  go_wp2_with fail
  refine L3.mono ?_
  clear L3
  rintro e wb ⟨g3, m3, rfl, L3, Bb⟩
  have HC : Hid (CI w wb g1 m1 g2 m2 g3 m3 h p s) := by
    obtain ⟨x2, x1⟩ := HL2.out
    have z1 := x1.parts
    have z2 := x2.parts
    have z3 := L3.parts
    have s8 := HB8.out.size
    have s9 := HB9.out.size
    have sa := HBa.out.size
    exact ⟨Owb.base (x1.below Bb (Nat.le_refl _)) s8, Owb.base (x2.below Bb (Nat.le_refl _)) s9, Owb.base L3 sa, HBa.out.trans (Bb.mono sa), d12, by omega, by omega⟩
  clear Bb L3 HL2 HB8 HB9 HBa d12
  have K1 := compact_any (some ⟨g1, 0, none⟩) (some ⟨g2, 0, none⟩) (some ⟨g3, 0, none⟩) m1 m2 m3 h p s wb HC.out.l1.rd HC.out.l2.rd HC.out.l3.rd (by have := HC.out.l1.parts.2.2.1; omega) (by have := HC.out.l2.parts.2.2.1; omega) (by have := HC.out.l3.parts.2.2.1; omega) l1 l2 l3
  go_wp2_with fail
  refine K1.mono ?_
  clear K1
  rintro e wc ⟨rfl, Bc⟩
  have HC2 : Hid (CI w wc g1 m1 g2 m2 g3 m3 h p s) := HC.out.lift Bc
  clear HC Bc
  obtain ⟨y1, y2, y3⟩ := HR.out wc HC2.out.bel
  have K2 := rcompact_any a1 a2 a3 c1 c2 c3 h p s wc y1 y2 y3 l1 l2 l3
  clear y1 y2 y3
  go_wp2_with fail
  refine K2.mono ?_
  clear K2
  rintro e wd ⟨rfl, Bd⟩
  have HC : Hid (CI w wd g1 m1 g2 m2 g3 m3 h p s) := HC2.out.lift Bd
  clear HC2 Bd
  generalize cmF h p s = M
  obtain ⟨M1, M2⟩ := M
  simp only
  have e7 : (M1 != M1) = false := by simp
  have e8 : ((M2 : Int) != (M2 : Int)) = false := by simp
  obtain ⟨y1, y2, y3⟩ := HR.out wd HC.out.bel
  have T1 := still_true w.heap.size g1 m1 c1 a1 h wd HC.out.l1 y1 l1
  have T2 : Hid (∀ q, Calls Try.prog 12 #[.slice (some ⟨g2, 0, none⟩) p.length m2, .slice a2 p.length c2] (wd.drewN q) fun e w' => e = .returned (.bool true) ∧ ∃ q', w' = (wd.drewN q).drewN q') := fun q => still_true w.heap.size g2 m2 c2 a2 p (wd.drewN q) (HC.out.l2.drewN q) (y2.drewN q) l2
  have T3 : Hid (∀ q, Calls Try.prog 12 #[.slice (some ⟨g3, 0, none⟩) s.length m3, .slice a3 s.length c3] (wd.drewN q) fun e w' => e = .returned (.bool true) ∧ ∃ q', w' = (wd.drewN q).drewN q') := fun q => still_true w.heap.size g3 m3 c3 a3 s (wd.drewN q) (HC.out.l3.drewN q) (y3.drewN q) l3
  clear y1 y2 y3
  go_wp2_with fail
  refine T1.mono ?_
  clear T1
  rintro e wx ⟨rfl, qa, rfl⟩
  go_wp2_with fail
  refine (T2.out _).mono ?_
  clear T2
  rintro e wx ⟨rfl, qb, rfl⟩
  go_wp2_with fail
  refine (T3.out _).mono ?_
  clear T3
  rintro e wx ⟨rfl, qc, rfl⟩
  obtain ⟨we, hwe⟩ : ∃ we, (wd.drewN (qa + qb)).drewN qc = we := ⟨_, rfl⟩
  have HE : Hid (CI w we g1 m1 g2 m2 g3 m3 h p s) := by rw [← hwe]; exact (HC.out.drewN _).drewN _
  rw [hwe]
  clear HC hwe e7 e8
  go_wp2
  go_loopw [32] (fun s32 wr => ∃ (k : Nat) (m : List UInt8), s32 = .int .i64 (k : Int) ∧ k ≤ h.length ∧ m.length = h.length ∧ Hid (CI w wr g1 m1 g2 m2 g3 m3 m p s)) (fun s _ => h.length - (intOf s).toNat)
  case atStart => exact ⟨0, h, rfl, by omega, rfl, HE⟩
  case round =>
    clear HE
    obtain ⟨k, m, rfl, hk, hm, HE⟩ := hrel
    by_cases hlt : k < h.length
    · have d1 : decide ((k : Int) < (h.length : Int)) = true := decide_eq_true (by omega)
      have hcap := HE.out.l1.parts.2.2.1
      obtain ⟨x, hx⟩ : ∃ x, m.getD k 0 = x := ⟨_, rfl⟩
      have k0 : wr.cell? ⟨g1, k, none⟩ = some (.int .u8 (x.toNat : Int)) := by rw [← hx]; exact HE.out.l1.cell k (by omega)
      have f0 : wr.frozen? ⟨g1, k, none⟩ = false := by obtain ⟨_, _, _, _, r, hb, _⟩ := HE.out.l1.parts; exact hb.frozen k
      have HE2 : Hid (CI w (wr.setCell ⟨g1, k, none⟩ (.int .u8 (((x.toNat : Int) + 1) % 256))) g1 m1 g2 m2 g3 m3 (m.set k (x + 1)) p s) := by
        rw [inc_b]
        exact HE.out.set1 k (by omega) _
      clear HE
      go_wp2
      go_roundw
      case rel => exact ⟨k + 1, m.set k (x + 1), by go_num, by omega, by rw [List.length_set]; exact hm, HE2⟩
      case measure => simp [intOf]; omega
    · have d1 : decide ((k : Int) < (h.length : Int)) = false := decide_eq_false (by omega)
      have l1' : m.length ≤ 100000000 := by omega
      go_wp2
      go_loopw [33] (fun s33 wr => ∃ (k : Nat) (o : List UInt8), s33 = .int .i64 (k : Int) ∧ k ≤ s.length ∧ o.length = s.length ∧ Hid (CI w wr g1 m1 g2 m2 g3 m3 m p o)) (fun v _ => s.length - (intOf v).toNat)
      case atStart => exact ⟨0, s, rfl, by omega, rfl, HE⟩
      case round =>
        clear HE
        obtain ⟨j, o, rfl, hj, ho, HE⟩ := hrel
        by_cases hlt2 : j < s.length
        · have d2 : decide ((j : Int) < (s.length : Int)) = true := decide_eq_true (by omega)
          have hcap := HE.out.l3.parts.2.2.1
          obtain ⟨x, hx⟩ : ∃ x, o.getD j 0 = x := ⟨_, rfl⟩
          have k0 : wr.cell? ⟨g3, j, none⟩ = some (.int .u8 (x.toNat : Int)) := by rw [← hx]; exact HE.out.l3.cell j (by omega)
          have f0 : wr.frozen? ⟨g3, j, none⟩ = false := by obtain ⟨_, _, _, _, r, hb, _⟩ := HE.out.l3.parts; exact hb.frozen j
          have HE2 : Hid (CI w (wr.setCell ⟨g3, j, none⟩ (.int .u8 ((255 - (x.toNat : Int)) % 256))) g1 m1 g2 m2 g3 m3 m p (o.set j (255 - x))) := by
            rw [flip_b]
            exact HE.out.set3 j (by omega) _
          clear HE
          go_wp2
          go_roundw
          case rel => exact ⟨j + 1, o.set j (255 - x), by go_num, by omega, by rw [List.length_set]; exact ho, HE2⟩
          case measure => simp [intOf]; omega
        · have d2 : decide ((j : Int) < (s.length : Int)) = false := decide_eq_false (by omega)
          have l3' : o.length ≤ 100000000 := by omega
          have HR2 : Hid (Rd wr (some ⟨g1, 0, none⟩) m) := HE.out.l1.rd
          go_upto_region 26 with (at_builtin; refine append_rdb rfl (.tmp 177) (.tmp 178) rfl w.heap.size _ [] rfl (Owb.nil _ _) (some ⟨g1, 0, none⟩) h.length m1 m rfl hm (fun e => by cases e) HR2.out (by rw [List.length_nil]; omega) HE.out.bel.size ?_; intro vp wp hp1 hp2)
          have HP : Hid (Owb wp w.heap.size vp m) := (by simpa using hp1 : Owb wp w.heap.size vp m)
          have HEp : Hid (CI w wp g1 m1 g2 m2 g3 m3 m p o) := HE.out.lift (below_grown hp2)
          clear hp1 hp2 HE HR2
          obtain ⟨ap, cp, ep⟩ : ∃ a c, vp = .slice a h.length c := by obtain ⟨a, c, e, _⟩ := HP.out.nb; rw [hm] at e; exact ⟨a, c, e⟩
          subst ep
          go_upto_region 27 with (at_builtin; refine append_rdb rfl (.tmp 180) (.tmp 181) rfl w.heap.size _ [] rfl (Owb.nil _ _) (some ⟨g3, 0, none⟩) s.length m3 o rfl ho (fun e => by cases e) HEp.out.l3.rd (by rw [List.length_nil]; omega) HEp.out.bel.size ?_; intro vq wq hq1 hq2)
          have HQ : Hid (Owb wq w.heap.size vq o) := (by simpa using hq1 : Owb wq w.heap.size vq o)
          have HEq : Hid (CI w wq g1 m1 g2 m2 g3 m3 m p o) := HEp.out.lift (below_grown hq2)
          have HP2 : Hid (Owb wq w.heap.size (.slice ap h.length cp) m) := HP.out.below (below_grown hq2) (Nat.le_refl _)
          clear hq1 hq2 HEp HP
          obtain ⟨aq, cq, eq⟩ : ∃ a c, vq = .slice a s.length c := by obtain ⟨a, c, e, _⟩ := HQ.out.nb; rw [ho] at e; exact ⟨a, c, e⟩
          subst eq
          have K3 := compact_any (some ⟨g1, 0, none⟩) (some ⟨g2, 0, none⟩) (some ⟨g3, 0, none⟩) m1 m2 m3 m p o wq HEq.out.l1.rd HEq.out.l2.rd HEq.out.l3.rd (by have := HEq.out.l1.parts.2.2.1; omega) (by have := HEq.out.l2.parts.2.2.1; omega) (by have := HEq.out.l3.parts.2.2.1; omega) l1' l2 l3'
          rw [hm, ho] at K3
          go_wp2_with fail
          refine K3.mono ?_
          clear K3
          rintro e wc ⟨rfl, Bc⟩
          have HE3 : Hid (CI w wc g1 m1 g2 m2 g3 m3 m p o) := HEq.out.lift Bc
          have HP3 : Hid (Owb wc w.heap.size (.slice ap h.length cp) m) := HP2.out.below Bc (Nat.le_refl _)
          have HQ3 : Hid (Owb wc w.heap.size (.slice aq s.length cq) o) := HQ.out.below Bc (Nat.le_refl _)
          clear HEq HP2 HQ Bc
          have K4 := rcompact_any ap a2 aq cp c2 cq m p o wc (owb_rd HP3.out) (HR.out wc HE3.out.bel).2.1 (owb_rd HQ3.out) l1' l2 l3'
          rw [hm, ho] at K4
          go_wp2_with fail
          refine K4.mono ?_
          clear K4
          rintro e wd ⟨rfl, Bd⟩
          have HE4 : Hid (CI w wd g1 m1 g2 m2 g3 m3 m p o) := HE3.out.lift Bd
          have HP4 : Hid (Rd wd ap m) := owb_rd (HP3.out.below Bd (Nat.le_refl _))
          have HQ4 : Hid (Rd wd aq o) := owb_rd (HQ3.out.below Bd (Nat.le_refl _))
          clear HE3 HP3 HQ3 Bd
          generalize cmF m p o = M
          obtain ⟨M1, M2⟩ := M
          simp only
          have e7 : (M1 == M1) = true := by simp
          have e8 : ((M2 : Int) == (M2 : Int)) = true := by simp
          have T1 := still_true w.heap.size g1 m1 cp ap m wd HE4.out.l1 HP4.out l1'
          rw [hm] at T1
          have T2 : Hid (∀ q, Calls Try.prog 12 #[.slice (some ⟨g2, 0, none⟩) p.length m2, .slice a2 p.length c2] (wd.drewN q) fun e w' => e = .returned (.bool true) ∧ ∃ q', w' = (wd.drewN q).drewN q') := fun q => still_true w.heap.size g2 m2 c2 a2 p (wd.drewN q) (HE4.out.l2.drewN q) ((HR.out wd HE4.out.bel).2.1.drewN q) l2
          have T3 : Hid (∀ q, Calls Try.prog 12 #[.slice (some ⟨g3, 0, none⟩) s.length m3, .slice aq s.length cq] (wd.drewN q) fun e w' => e = .returned (.bool true) ∧ ∃ q', w' = (wd.drewN q).drewN q') := fun q => by
            have := still_true w.heap.size g3 m3 cq aq o (wd.drewN q) (HE4.out.l3.drewN q) (HQ4.out.drewN q) l3'
            rwa [ho] at this
          go_wp2_with fail
          refine T1.mono ?_
          clear T1
          rintro e wx ⟨rfl, qa, rfl⟩
          go_wp2_with fail
          refine (T2.out _).mono ?_
          clear T2
          rintro e wx ⟨rfl, qb, rfl⟩
          go_wp2_with fail
          refine (T3.out _).mono ?_
          clear T3
          rintro e wx ⟨rfl, qc, rfl⟩
          go_wp2
          go_ret
          exact ⟨rfl, below_drewN HE4.out.bel _⟩

end Go.Proofs.Ytbgooffhikchmaa
