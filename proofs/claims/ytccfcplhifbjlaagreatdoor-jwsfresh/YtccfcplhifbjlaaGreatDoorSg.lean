import Derived.Test.YtccfcplhifbjlaaGreatDoorSd
namespace Go.Proofs.YtccfcplhifbjlaaGreatDoor
open Go.RowKit Go.Shelf
set_option maxRecDepth 100000

/-- Two rows that are not one. -/
def Apt (v u : Value) : Prop := ∀ g, v.ownBlock = some g → u.ownBlock ≠ some g

theorem Apt.nil (v : Value) : Apt (.slice none 0 0) v := fun _ h => by cases h
theorem Owb.set {w : World} {B0 g j : Nat} {t : TypeId} {v x : Value} {l : List UInt8} {vs : List Value} (h : Owb w B0 v l) (hb : Bl t w g vs) (hne : 5 ≠ t) : Owb (w.setCell ⟨g, j, none⟩ x) B0 v l :=
  own_keep h fun g' hg => heap_setCell_other w ⟨g, j, none⟩ g' x (fun e => block_apart h hb hne (by rw [hg, e]))
theorem Owb.apt {w w' : World} {B0 : Nat} {v u : Value} {l m : List UInt8} (h : Owb w B0 v l) (h2 : Owb w' w.heap.size u m) : Apt v u := fun g hg hu => by
  have a := (World.ownsRow.lt h g hg).2
  have b := (World.ownsRow.lt h2 g hu).1
  omega

theorem ix3 (k : Nat) (hk : k < 3) (x y z : Value) (w : World) : (Instr.index 67 (.agg #[x, y, z]) (.int .i64 (k : Int))).run Tryz.prog w = .ok ([x, y, z].getD k undef) w := by
  rcases (show k = 0 ∨ k = 1 ∨ k = 2 by omega) with rfl | rfl | rfl <;> first | kernel_rfl | (simp [Instr.index, run_underlying Tryz.underlying67, asIntOf, go_sem]; done)

/-- What stands when k of the three texts are decoded. -/
structure DI (w wr : World) (g : Nat) (a b c : List UInt8) (k : Nat) (v1 v2 v3 : Value) : Prop where
  blk : Bl 66 wr g [v1, v2, v3]
  ge : w.heap.size ≤ g
  o1 : Owb wr w.heap.size v1 (if 0 < k then dbF a else [])
  o2 : Owb wr w.heap.size v2 (if 1 < k then dbF b else [])
  o3 : Owb wr w.heap.size v3 (if 2 < k then dbF c else [])
  bel : Below w.heap.size w wr
  z1 : 0 < k → dcN a = 0
  z2 : 1 < k → dcN b = 0
  z3 : 2 < k → dcN c = 0
  t1 : 1 < k → Apt v1 v2
  t2 : 2 < k → Apt v1 v3
  t3 : 2 < k → Apt v2 v3
theorem DI.lift {w wr w1 : World} {g k : Nat} {a b c : List UInt8} {v1 v2 v3 : Value} (h : DI w wr g a b c k v1 v2 v3) (hb : Below wr.heap.size wr w1) : DI w w1 g a b c k v1 v2 v3 :=
  ⟨h.blk.below hb h.blk.lt, h.ge, h.o1.below hb (Nat.le_refl _), h.o2.below hb (Nat.le_refl _), h.o3.below hb (Nat.le_refl _), h.bel.trans (hb.mono h.bel.size), h.z1, h.z2, h.z3, h.t1, h.t2, h.t3⟩
theorem DI.apt1 {w wr w1 : World} {g k : Nat} {a b c m : List UInt8} {v1 v2 v3 v : Value} (h : DI w wr g a b c k v1 v2 v3) (hv : Owb w1 wr.heap.size v m) : Apt v1 v := h.o1.apt hv
theorem DI.apt2 {w wr w1 : World} {g k : Nat} {a b c m : List UInt8} {v1 v2 v3 v : Value} (h : DI w wr g a b c k v1 v2 v3) (hv : Owb w1 wr.heap.size v m) : Apt v2 v := h.o2.apt hv
theorem DI.put1 {w wr w1 : World} {g : Nat} {a b c : List UInt8} {v1 v2 v3 v : Value} (h : DI w w1 g a b c 0 v1 v2 v3) (hs : Owb w1 wr.heap.size v (dbF a)) (hq : dcN a = 0) (hw : w.heap.size ≤ wr.heap.size) : DI w (w1.setCell ⟨g, 0, none⟩ v) g a b c 1 v v2 v3 :=
  ⟨h.blk.set 0 v, h.ge, (hs.base hw).set h.blk (by decide), h.o2.set h.blk (by decide), h.o3.set h.blk (by decide), h.bel.setCell h.ge _, fun _ => hq, fun e => by omega, fun e => by omega, fun e => by omega, fun e => by omega, fun e => by omega⟩
theorem DI.put2 {w wr w1 : World} {g : Nat} {a b c : List UInt8} {v1 v2 v3 v : Value} (h : DI w w1 g a b c 1 v1 v2 v3) (hs : Owb w1 wr.heap.size v (dbF b)) (hq : dcN b = 0) (ha : Apt v1 v) (hw : w.heap.size ≤ wr.heap.size) : DI w (w1.setCell ⟨g, 1, none⟩ v) g a b c 2 v1 v v3 :=
  ⟨h.blk.set 1 v, h.ge, h.o1.set h.blk (by decide), (hs.base hw).set h.blk (by decide), h.o3.set h.blk (by decide), h.bel.setCell h.ge _, fun _ => h.z1 (by omega), fun _ => hq, fun e => by omega, fun _ => ha, fun e => by omega, fun e => by omega⟩
theorem DI.put3 {w wr w1 : World} {g : Nat} {a b c : List UInt8} {v1 v2 v3 v : Value} (h : DI w w1 g a b c 2 v1 v2 v3) (hs : Owb w1 wr.heap.size v (dbF c)) (hq : dcN c = 0) (ha : Apt v1 v ∧ Apt v2 v) (hw : w.heap.size ≤ wr.heap.size) : DI w (w1.setCell ⟨g, 2, none⟩ v) g a b c 3 v1 v2 v :=
  ⟨h.blk.set 2 v, h.ge, h.o1.set h.blk (by decide), h.o2.set h.blk (by decide), (hs.base hw).set h.blk (by decide), h.bel.setCell h.ge _, fun _ => h.z1 (by omega), fun _ => h.z2 (by omega), fun _ => hq, fun _ => h.t1 (by omega), fun _ => ha.1, fun _ => ha.2⟩
theorem DI.bad1 {w w1 : World} {g : Nat} {t a b c : List UInt8} {v1 v2 v3 : Value} (_ : DI w w1 g a b c 0 v1 v2 v3) (hs : splF t = ((a, b, c), 0)) (hq : ¬ dcN a = 0) : dcF t = (([], [], []), dcN a) := by
  unfold dcF
  rw [hs, if_neg (by simp), if_pos hq]
theorem DI.bad2 {w w1 : World} {g : Nat} {t a b c : List UInt8} {v1 v2 v3 : Value} (h : DI w w1 g a b c 1 v1 v2 v3) (hs : splF t = ((a, b, c), 0)) (hq : ¬ dcN b = 0) : dcF t = (([], [], []), dcN b) := by
  unfold dcF
  rw [hs, if_neg (by simp), if_neg (by simpa using h.z1 (by omega)), if_pos hq]
theorem DI.bad3 {w w1 : World} {g : Nat} {t a b c : List UInt8} {v1 v2 v3 : Value} (h : DI w w1 g a b c 2 v1 v2 v3) (hs : splF t = ((a, b, c), 0)) (hq : ¬ dcN c = 0) : dcF t = (([], [], []), dcN c) := by
  unfold dcF
  rw [hs, if_neg (by simp), if_neg (by simpa using h.z1 (by omega)), if_neg (by simpa using h.z2 (by omega)), if_pos hq]
theorem DI.good {w w1 : World} {g : Nat} {t a b c : List UInt8} {v1 v2 v3 : Value} (h : DI w w1 g a b c 3 v1 v2 v3) (hs : splF t = ((a, b, c), 0)) : dcF t = ((dbF a, dbF b, dbF c), 0) := by
  unfold dcF
  rw [hs, if_neg (by simp), if_neg (by simpa using h.z1 (by omega)), if_neg (by simpa using h.z2 (by omega)), if_neg (by simpa using h.z3 (by omega))]
theorem dcF_spl {t : List UInt8} (h : (splF t).2 ≠ 0) : dcF t = (([], [], []), (splF t).2) := if_pos h

set_option maxRecDepth 100000 in
set_option maxHeartbeats 4000000 in
theorem jdecode_any (t : List UInt8) (w : World) : Calls Tryz.prog 14 #[.string ⟨t.toArray⟩] w fun e w' => ∃ v1 v2 v3, e = .returned (.tuple #[v1, v2, v3, .int .i64 ((dcF t).2 : Nat)]) ∧
    Owb w' w.heap.size v1 (dcF t).1.1 ∧ Owb w' w.heap.size v2 (dcF t).1.2.1 ∧ Owb w' w.heap.size v3 (dcF t).1.2.2 ∧ Below w.heap.size w w' ∧ Apt v1 v2 ∧ Apt v1 v3 ∧ Apt v2 v3 := by
  have C1 := split_any t w
  obtain ⟨l1, l2, l3⟩ := splF_len t
  by_cases h0 : (splF t).2 = 0
  · obtain ⟨a, b, c, HS⟩ : ∃ a b c, Hid (splF t = ((a, b, c), 0)) := ⟨(splF t).1.1, (splF t).1.2.1, (splF t).1.2.2, by rw [← h0]; rfl⟩
    rw [HS.out] at C1 l1 l2 l3
    simp only at C1 l1 l2 l3
    clear h0
    go_enter Tryz.func14, Tryz.ntmps14
    go_wp2_with fail
    refine C1.mono ?_
    clear C1
    rintro e w1 ⟨rfl, B1⟩
    obtain ⟨g, hg⟩ : ∃ g, w1.heap.size = g := ⟨_, rfl⟩
    have HD0 : Hid (DI w (w1.alloc (.cells #[.slice none 0 0, .slice none 0 0, .slice none 0 0] 66)) w1.heap.size a b c 0 (.slice none 0 0) (.slice none 0 0) (.slice none 0 0)) :=
      ⟨alloc_bl w1 [.slice none 0 0, .slice none 0 0, .slice none 0 0] 66, B1.size, Owb.nil _ _, Owb.nil _ _, Owb.nil _ _, B1.trans ((alloc_below w1 _).mono B1.size), fun e => by omega, fun e => by omega, fun e => by omega, fun e => by omega, fun e => by omega, fun e => by omega⟩
    go_wp2
    rw [hg] at *
    clear B1 hg
    have i0 : ∀ w, (Instr.index 67 (.agg #[.string ⟨a.toArray⟩, .string ⟨b.toArray⟩, .string ⟨c.toArray⟩]) (.int .i64 0)).run Tryz.prog w = .ok (.string ⟨a.toArray⟩) w := fun w => ix3 0 (by omega) _ _ _ w
    have i1 : ∀ w, (Instr.index 67 (.agg #[.string ⟨a.toArray⟩, .string ⟨b.toArray⟩, .string ⟨c.toArray⟩]) (.int .i64 1)).run Tryz.prog w = .ok (.string ⟨b.toArray⟩) w := fun w => ix3 1 (by omega) _ _ _ w
    have i2 : ∀ w, (Instr.index 67 (.agg #[.string ⟨a.toArray⟩, .string ⟨b.toArray⟩, .string ⟨c.toArray⟩]) (.int .i64 2)).run Tryz.prog w = .ok (.string ⟨c.toArray⟩) w := fun w => ix3 2 (by omega) _ _ _ w
    go_loopw [27] (fun s wr => ∃ k v1 v2 v3, s = .int .i64 ((k : Nat) : Int) ∧ k ≤ 3 ∧ Hid (DI w wr g a b c k v1 v2 v3)) (fun s _ => 3 - (intOf s).toNat)
    case atStart => exact ⟨0, _, _, _, rfl, by omega, HD0⟩
    case round =>
      clear HD0
      obtain ⟨k, v1, v2, v3, rfl, hk, HD⟩ := hrel
      have hk4 : k = 0 ∨ k = 1 ∨ k = 2 ∨ k = 3 := by omega
      have HW : Hid (w.heap.size ≤ wr.heap.size) := HD.out.bel.size
      rcases hk4 with rfl | rfl | rfl | rfl
      · have C := B64.decode_any a wr (by omega)
        rw [decU_code a] at C
        go_wp2_with fail
        refine C.mono ?_
        clear C
        rintro e w1 ⟨v, rfl, hv, B1⟩
        have HV : Hid (Owb w1 wr.heap.size v (dbF a)) := ans_own hv
        have HD1 : Hid (DI w w1 g a b c 0 v1 v2 v3) := HD.out.lift B1
        have HA1 : Hid (True) := trivial
        clear hv B1 HD
        obtain ⟨av, nv, cv, ev⟩ : ∃ a n c, v = .slice a n c := by obtain ⟨a, c, e, _⟩ := HV.out.nb; exact ⟨a, _, c, e⟩
        subst ev
        have k0 : w1.cell? ⟨g, 0, none⟩ = some v1 := HD1.out.blk.cell 0 (by simp)
        have k1 : w1.cell? ⟨g, 1, none⟩ = some v2 := HD1.out.blk.cell 1 (by simp)
        have k2 : w1.cell? ⟨g, 2, none⟩ = some v3 := HD1.out.blk.cell 2 (by simp)
        have f0 : w1.frozen? ⟨g, 0, none⟩ = false := HD1.out.blk.frozen 0
        by_cases hq : dcN a = 0
        · rw [hq]
          have HD2 : Hid (DI w (w1.setCell ⟨g, 0, none⟩ (.slice av nv cv)) g a b c 1 (.slice av nv cv) v2 v3) := HD1.out.put1 HV.out hq HW.out
          clear HD1 HV HA1
          go_wp2
          go_roundw
          case rel => exact ⟨1, (.slice av nv cv), v2, v3, by first | rfl | go_num, by omega, HD2⟩
          case measure => simp [intOf]
        · have c2 : (((dcN a : Nat) : Int) != 0) = true := by simp; omega
          have HF : Hid (dcF t = (([], [], []), dcN a)) := HD1.out.bad1 HS.out hq
          have HB : Hid (Below w.heap.size w (w1.setCell ⟨g, 0, none⟩ (.slice av nv cv))) := (HD1.out.bel).setCell HD1.out.ge _
          clear HD1 HV HA1
          generalize dcN a = n at *
          go_wp2
          ((try simp only [Exit.inBlock, Exit.then]); refine bodyPost_ret (results_tmp4 rfl _ _ _) rfl ?_)
          rw [HF.out]
          exact ⟨.slice none 0 0, .slice none 0 0, .slice none 0 0, rfl, Owb.nil _ _, Owb.nil _ _, Owb.nil _ _, HB.out, Apt.nil _, Apt.nil _, Apt.nil _⟩
      · have C := B64.decode_any b wr (by omega)
        rw [decU_code b] at C
        go_wp2_with fail
        refine C.mono ?_
        clear C
        rintro e w1 ⟨v, rfl, hv, B1⟩
        have HV : Hid (Owb w1 wr.heap.size v (dbF b)) := ans_own hv
        have HD1 : Hid (DI w w1 g a b c 1 v1 v2 v3) := HD.out.lift B1
        have HA1 : Hid (Apt v1 v) := HD.out.apt1 HV.out
        clear hv B1 HD
        obtain ⟨av, nv, cv, ev⟩ : ∃ a n c, v = .slice a n c := by obtain ⟨a, c, e, _⟩ := HV.out.nb; exact ⟨a, _, c, e⟩
        subst ev
        have k0 : w1.cell? ⟨g, 0, none⟩ = some v1 := HD1.out.blk.cell 0 (by simp)
        have k1 : w1.cell? ⟨g, 1, none⟩ = some v2 := HD1.out.blk.cell 1 (by simp)
        have k2 : w1.cell? ⟨g, 2, none⟩ = some v3 := HD1.out.blk.cell 2 (by simp)
        have f0 : w1.frozen? ⟨g, 1, none⟩ = false := HD1.out.blk.frozen 1
        by_cases hq : dcN b = 0
        · rw [hq]
          have HD2 : Hid (DI w (w1.setCell ⟨g, 1, none⟩ (.slice av nv cv)) g a b c 2 v1 (.slice av nv cv) v3) := HD1.out.put2 HV.out hq HA1.out HW.out
          clear HD1 HV HA1
          go_wp2
          go_roundw
          case rel => exact ⟨2, v1, (.slice av nv cv), v3, by first | rfl | go_num, by omega, HD2⟩
          case measure => simp [intOf]
        · have c2 : (((dcN b : Nat) : Int) != 0) = true := by simp; omega
          have HF : Hid (dcF t = (([], [], []), dcN b)) := HD1.out.bad2 HS.out hq
          have HB : Hid (Below w.heap.size w (w1.setCell ⟨g, 1, none⟩ (.slice av nv cv))) := (HD1.out.bel).setCell HD1.out.ge _
          clear HD1 HV HA1
          generalize dcN b = n at *
          go_wp2
          ((try simp only [Exit.inBlock, Exit.then]); refine bodyPost_ret (results_tmp4 rfl _ _ _) rfl ?_)
          rw [HF.out]
          exact ⟨.slice none 0 0, .slice none 0 0, .slice none 0 0, rfl, Owb.nil _ _, Owb.nil _ _, Owb.nil _ _, HB.out, Apt.nil _, Apt.nil _, Apt.nil _⟩
      · have C := B64.decode_any c wr (by omega)
        rw [decU_code c] at C
        go_wp2_with fail
        refine C.mono ?_
        clear C
        rintro e w1 ⟨v, rfl, hv, B1⟩
        have HV : Hid (Owb w1 wr.heap.size v (dbF c)) := ans_own hv
        have HD1 : Hid (DI w w1 g a b c 2 v1 v2 v3) := HD.out.lift B1
        have HA1 : Hid (Apt v1 v ∧ Apt v2 v) := ⟨HD.out.apt1 HV.out, HD.out.apt2 HV.out⟩
        clear hv B1 HD
        obtain ⟨av, nv, cv, ev⟩ : ∃ a n c, v = .slice a n c := by obtain ⟨a, c, e, _⟩ := HV.out.nb; exact ⟨a, _, c, e⟩
        subst ev
        have k0 : w1.cell? ⟨g, 0, none⟩ = some v1 := HD1.out.blk.cell 0 (by simp)
        have k1 : w1.cell? ⟨g, 1, none⟩ = some v2 := HD1.out.blk.cell 1 (by simp)
        have k2 : w1.cell? ⟨g, 2, none⟩ = some v3 := HD1.out.blk.cell 2 (by simp)
        have f0 : w1.frozen? ⟨g, 2, none⟩ = false := HD1.out.blk.frozen 2
        by_cases hq : dcN c = 0
        · rw [hq]
          have HD2 : Hid (DI w (w1.setCell ⟨g, 2, none⟩ (.slice av nv cv)) g a b c 3 v1 v2 (.slice av nv cv)) := HD1.out.put3 HV.out hq HA1.out HW.out
          clear HD1 HV HA1
          go_wp2
          go_roundw
          case rel => exact ⟨3, v1, v2, (.slice av nv cv), by first | rfl | go_num, by omega, HD2⟩
          case measure => simp [intOf]
        · have c2 : (((dcN c : Nat) : Int) != 0) = true := by simp; omega
          have HF : Hid (dcF t = (([], [], []), dcN c)) := HD1.out.bad3 HS.out hq
          have HB : Hid (Below w.heap.size w (w1.setCell ⟨g, 2, none⟩ (.slice av nv cv))) := (HD1.out.bel).setCell HD1.out.ge _
          clear HD1 HV HA1
          generalize dcN c = n at *
          go_wp2
          ((try simp only [Exit.inBlock, Exit.then]); refine bodyPost_ret (results_tmp4 rfl _ _ _) rfl ?_)
          rw [HF.out]
          exact ⟨.slice none 0 0, .slice none 0 0, .slice none 0 0, rfl, Owb.nil _ _, Owb.nil _ _, Owb.nil _ _, HB.out, Apt.nil _, Apt.nil _, Apt.nil _⟩
      · have k0 : wr.cell? ⟨g, 0, none⟩ = some v1 := HD.out.blk.cell 0 (by simp)
        have k1 : wr.cell? ⟨g, 1, none⟩ = some v2 := HD.out.blk.cell 1 (by simp)
        have k2 : wr.cell? ⟨g, 2, none⟩ = some v3 := HD.out.blk.cell 2 (by simp)
        have HF : Hid (dcF t = ((dbF a, dbF b, dbF c), 0)) := HD.out.good HS.out
        go_wp2
        go_quiet (fail)
        go_wp2
        ((try simp only [Exit.inBlock, Exit.then]); refine bodyPost_ret (results_tmp4 rfl _ _ _) rfl ?_)
        rw [HF.out]
        exact ⟨v1, v2, v3, rfl, HD.out.o1, HD.out.o2, HD.out.o3, below_drewN HD.out.bel _, HD.out.t1 (by omega), HD.out.t2 (by omega), HD.out.t3 (by omega)⟩
  · have c1 : (((((splF t).2 : Nat)) : Int) != 0) = true := by simp; omega
    have HF : Hid (dcF t = (([], [], []), (splF t).2)) := dcF_spl h0
    generalize splF t = S at *
    obtain ⟨⟨a, b, c⟩, n⟩ := S
    simp only at *
    go_enter Tryz.func14, Tryz.ntmps14
    go_wp2_with fail
    refine C1.mono ?_
    clear C1
    rintro e w1 ⟨rfl, B1⟩
    have HB : Hid (Below w.heap.size w w1) := B1
    clear B1
    go_wp2
    ((try simp only [Exit.inBlock, Exit.then]); refine bodyPost_ret (results_tmp4 rfl _ _ _) rfl ?_)
    rw [HF.out]
    exact ⟨.slice none 0 0, .slice none 0 0, .slice none 0 0, rfl, Owb.nil _ _, Owb.nil _ _, Owb.nil _ _, HB.out, Apt.nil _, Apt.nil _, Apt.nil _⟩

end Go.Proofs.YtccfcplhifbjlaaGreatDoor
