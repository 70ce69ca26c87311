import Derived.Test.YtlapkbdjipocoaaDoorYZ
import Derived.Test.YtlapkbdjipocoaaDoorXZ
import Derived.Test.YtlapkbdjipocoaaDoorWb
namespace Go.Proofs.YtlapkbdjipocoaaDoor
open Go.RowKit Go.Shelf

set_option maxRecDepth 100000 in
set_option maxHeartbeats 16000000 in
theorem back_any (v : Value) (l : List Nd) (ao : Option Addr) (cap : Nat) (t : List UInt8) (w : World) (h : NR w v l ao cap) (hG : GL w.heap.size w) (ht : TB l) (hl : l.length ≤ 1000000000) (_htl : t.length ≤ 1000000000) :
    Calls Tryd.prog 6 #[v, .string ⟨t.toArray⟩] w fun e w' => e = .returned (.bool true) ∧ Below w.heap.size w w' := by
  have CA := alive_any w hG
  obtain ⟨rfl, hcap, _⟩ := id h
  have HNq : Hid (∀ wq, Below w.heap.size w wq → NR wq (.slice ao l.length cap) l ao cap) := fun wq hq => h.below hq (Nat.le_refl _)
  have HGq : Hid (∀ wq, Below w.heap.size w wq → GL wq.heap.size wq) := fun wq hq => (hG.below hq).up hq.size
  have HY : Hid (∀ wq, Below w.heap.size w wq → Calls Tryd.prog 10 #[.slice ao l.length cap] wq fun e w' => Below wq.heap.size wq w' ∧ ∃ b, e = .returned (.bool b)) := fun wq hq => beyond_any _ l ao cap wq (HNq.out wq hq) hl
  have HS : Hid (∀ wq, Below w.heap.size w wq → Calls Tryd.prog 23 #[.slice ao l.length cap] wq fun e w' => e = .returned (.bool (shapedF l)) ∧ Below wq.heap.size wq w') := fun wq hq => shaped_any _ l ao cap wq (HNq.out wq hq) (HGq.out wq hq) ht hl
  have HP : Hid (∀ wq, Below w.heap.size w wq → Calls Tryd.prog 24 #[.slice ao l.length cap] wq fun e w' => e = .returned (.tuple #[.string ⟨(printF l).1.toArray⟩, .int .i64 ((printF l).2 : Int)]) ∧ Below wq.heap.size wq w') := fun wq hq => print_any _ l ao cap wq (HNq.out wq hq) (HGq.out wq hq) ht hl
  have hpf := print_facts l
  have HR : Hid (∀ wq, Below w.heap.size w wq → Calls Tryd.prog 27 #[.string ⟨t.toArray⟩] wq fun e w' => Below wq.heap.size wq w' ∧ ∃ v, e = .returned (.tuple #[v, .int .i64 ((parseF t).2.1 : Int), .int .i64 ((parseF t).2.2 : Int)]) ∧ NO wq.heap.size w' v (parseF t).1) := fun wq hq => parse_all t wq (HGq.out wq hq)
  have hqf := parse_facts t
  have hbd := parse_bd t
  generalize parseF t = pf at hqf hbd HR
  obtain ⟨X, c, p⟩ := pf
  simp only at hqf hbd HR
  have HXl : Hid (X.length ≤ 262144) := hbd.1
  have HXt : Hid (TB X) := hbd.2
  have HQ : Hid ((c ≠ 0 ∧ X = [] ∧ p ≤ t.length) ∨ (c = 0 ∧ p = 0 ∧ shapedF X = true ∧ (printF X).2 = 0 ∧ (printF X).1.length ≤ t.length ∧ parseF (printF X).1 = (X, 0, 0))) := hqf
  clear hqf hbd h hG ht
  generalize printF l = pr at hpf HP
  obtain ⟨P, pc⟩ := pr
  simp only at hpf HP
  go_enter Tryd.func6, Tryd.ntmps6
  go_wp2_with fail
  refine CA.mono ?_
  clear CA
  rintro e w1 ⟨rfl, hB1⟩
  have C1 := HY.out w1 hB1
  have HB1 : Hid (Below w.heap.size w w1) := hB1
  clear hB1 HY
  go_wp2_with fail
  refine C1.mono ?_
  clear C1
  rintro e w2 ⟨hB2, b, rfl⟩
  have HB2 : Hid (Below w.heap.size w w2) := HB1.out.trans (hB2.mono HB1.out.size)
  clear hB2 HB1
  cases b
  case true =>
    go_wp2
    go_ret
    exact ⟨rfl, HB2.out⟩
  case false =>
    have C2 := HS.out w2 HB2.out
    go_wp2_with fail
    refine C2.mono ?_
    clear C2
    rintro e w3 ⟨rfl, hB3⟩
    have HB3 : Hid (Below w.heap.size w w3) := HB2.out.trans (hB3.mono HB2.out.size)
    clear hB3 HB2
    have C3 := HP.out w3 HB3.out
    go_wp2_with fail
    refine C3.mono ?_
    clear C3 HP
    rintro e w4 ⟨rfl, hB4⟩
    have HB4 : Hid (Below w.heap.size w w4) := HB3.out.trans (hB4.mono HB3.out.size)
    clear hB4 HB3
    rcases hpf with ⟨hs, hp⟩ | ⟨hs, hp⟩ | ⟨hs, hpc, hPl, hpb⟩
    · obtain ⟨rfl, rfl⟩ := Prod.mk.inj hp
      clear hp
      rw [hs]
      have C5 := HR.out w4 HB4.out
      go_wp2_with fail
      refine C5.mono ?_
      clear C5 HR
      rintro e w6 ⟨hB6, vx, rfl, hO⟩
      have HB6 : Hid (Below w.heap.size w w6) := HB4.out.trans (hB6.mono HB4.out.size)
      obtain ⟨ax, cx, hN⟩ := hO.nr
      obtain ⟨rfl, hcx, _⟩ := id hN
      have HN6 : Hid (NR w6 (.slice ax X.length cx) X ax cx) := hN
      clear hO hN hB6 HB4
      rcases HQ.out with ⟨hc, hX, hp⟩ | ⟨hc, hp, hsh, hpr, hle, hpp⟩
      · have hc' : (c : Int) ≠ 0 := by omega
        have qc : ((c : Int) != 0) = true := by simp; omega
        have qp : decide ((p : Int) ≥ 0) = true := decide_eq_true (by omega)
        have qt : decide ((p : Int) ≤ (t.length : Int)) = true := decide_eq_true (by omega)
        subst hX
        simp only [List.length_nil] at *
        clear HQ HN6 hc
        go_wp2
        go_ret
        exact ⟨rfl, HB6.out⟩
      · subst hc hp
        have HNx : Hid (∀ wq, Below w6.heap.size w6 wq → NR wq (.slice ax X.length cx) X ax cx) := fun wq hq => HN6.out.below hq (Nat.le_refl _)
        have HG6 : Hid (∀ wq, Below w6.heap.size w6 wq → GL wq.heap.size wq) := fun wq hq => ((HGq.out w6 HB6.out).below hq).up hq.size
        have C6 := print_any _ X ax cx w6 (HNx.out w6 (Below.refl _ _)) (HG6.out w6 (Below.refl _ _)) HXt.out (by have := HXl.out; omega)
        obtain ⟨U, hU⟩ : ∃ U, printF X = (U, 0) := ⟨(printF X).1, by rw [← hpr]⟩
        rw [hU] at C6 hle hpp
        simp only at C6 hle hpp
        have HPP : Hid (True → parseF U = (X, 0, 0)) := fun _ => hpp
        have HSH : Hid (shapedF X = true) := hsh
        have qu : decide ((U.length : Int) ≤ (t.length : Int)) = true := decide_eq_true (by omega)
        clear HQ HN6 hpp hU hpr hsh
        go_wp2_with fail
        refine C6.mono ?_
        clear C6
        rintro e w7 ⟨rfl, hB7⟩
        have C7 := parse_all U w7 (HG6.out w7 hB7)
        rw [HPP.out trivial] at C7
        simp only at C7
        have HB7 : Hid (Below w6.heap.size w6 w7) := hB7
        clear hB7 HPP
        go_wp2_with fail
        refine C7.mono ?_
        clear C7
        rintro e w8 ⟨hB8, vy, rfl, hOy⟩
        have HB8 : Hid (Below w6.heap.size w6 w8) := HB7.out.trans (hB8.mono HB7.out.size)
        obtain ⟨ay, cy, hNy⟩ := hOy.nr
        obtain ⟨rfl, hcy, _⟩ := id hNy
        have HNy : Hid (∀ wq, Below w8.heap.size w8 wq → NR wq (.slice ay X.length cy) X ay cy) := fun wq hq => hNy.below hq (Nat.le_refl _)
        clear hOy hNy hB8 HB7
        have C8 := shaped_any _ X ax cx w8 (HNx.out w8 HB8.out) (HG6.out w8 HB8.out) HXt.out (by have := HXl.out; omega)
        rw [HSH.out] at C8
        clear HSH
        go_wp2_with fail
        refine C8.mono ?_
        clear C8
        rintro e w9 ⟨rfl, hB9⟩
        have HB9 : Hid (Below w8.heap.size w8 w9) := hB9
        have C9 := same_any _ _ X X ax ay cx cy w9 (HNx.out w9 (HB8.out.trans (hB9.mono HB8.out.size))) (HNy.out w9 hB9) (by have := HXl.out; omega)
        rw [decide_eq_true rfl] at C9
        clear hB9
        go_wp2_with fail
        refine C9.mono ?_
        clear C9
        rintro e w10 ⟨rfl, q10, rfl⟩
        go_wp2
        go_ret
        exact ⟨rfl, below_drewN (HB6.out.trans ((HB8.out.trans (HB9.out.mono HB8.out.size)).mono HB6.out.size)) q10⟩
    · obtain ⟨rfl, rfl⟩ := Prod.mk.inj hp
      clear hp
      rw [hs]
      have C5 := HR.out w4 HB4.out
      go_wp2_with fail
      refine C5.mono ?_
      clear C5 HR
      rintro e w6 ⟨hB6, vx, rfl, hO⟩
      have HB6 : Hid (Below w.heap.size w w6) := HB4.out.trans (hB6.mono HB4.out.size)
      obtain ⟨ax, cx, hN⟩ := hO.nr
      obtain ⟨rfl, hcx, _⟩ := id hN
      have HN6 : Hid (NR w6 (.slice ax X.length cx) X ax cx) := hN
      clear hO hN hB6 HB4
      rcases HQ.out with ⟨hc, hX, hp⟩ | ⟨hc, hp, hsh, hpr, hle, hpp⟩
      · have hc' : (c : Int) ≠ 0 := by omega
        have qc : ((c : Int) != 0) = true := by simp; omega
        have qp : decide ((p : Int) ≥ 0) = true := decide_eq_true (by omega)
        have qt : decide ((p : Int) ≤ (t.length : Int)) = true := decide_eq_true (by omega)
        subst hX
        simp only [List.length_nil] at *
        clear HQ HN6 hc
        go_wp2
        go_ret
        exact ⟨rfl, HB6.out⟩
      · subst hc hp
        have HNx : Hid (∀ wq, Below w6.heap.size w6 wq → NR wq (.slice ax X.length cx) X ax cx) := fun wq hq => HN6.out.below hq (Nat.le_refl _)
        have HG6 : Hid (∀ wq, Below w6.heap.size w6 wq → GL wq.heap.size wq) := fun wq hq => ((HGq.out w6 HB6.out).below hq).up hq.size
        have C6 := print_any _ X ax cx w6 (HNx.out w6 (Below.refl _ _)) (HG6.out w6 (Below.refl _ _)) HXt.out (by have := HXl.out; omega)
        obtain ⟨U, hU⟩ : ∃ U, printF X = (U, 0) := ⟨(printF X).1, by rw [← hpr]⟩
        rw [hU] at C6 hle hpp
        simp only at C6 hle hpp
        have HPP : Hid (True → parseF U = (X, 0, 0)) := fun _ => hpp
        have HSH : Hid (shapedF X = true) := hsh
        have qu : decide ((U.length : Int) ≤ (t.length : Int)) = true := decide_eq_true (by omega)
        clear HQ HN6 hpp hU hpr hsh
        go_wp2_with fail
        refine C6.mono ?_
        clear C6
        rintro e w7 ⟨rfl, hB7⟩
        have C7 := parse_all U w7 (HG6.out w7 hB7)
        rw [HPP.out trivial] at C7
        simp only at C7
        have HB7 : Hid (Below w6.heap.size w6 w7) := hB7
        clear hB7 HPP
        go_wp2_with fail
        refine C7.mono ?_
        clear C7
        rintro e w8 ⟨hB8, vy, rfl, hOy⟩
        have HB8 : Hid (Below w6.heap.size w6 w8) := HB7.out.trans (hB8.mono HB7.out.size)
        obtain ⟨ay, cy, hNy⟩ := hOy.nr
        obtain ⟨rfl, hcy, _⟩ := id hNy
        have HNy : Hid (∀ wq, Below w8.heap.size w8 wq → NR wq (.slice ay X.length cy) X ay cy) := fun wq hq => hNy.below hq (Nat.le_refl _)
        clear hOy hNy hB8 HB7
        have C8 := shaped_any _ X ax cx w8 (HNx.out w8 HB8.out) (HG6.out w8 HB8.out) HXt.out (by have := HXl.out; omega)
        rw [HSH.out] at C8
        clear HSH
        go_wp2_with fail
        refine C8.mono ?_
        clear C8
        rintro e w9 ⟨rfl, hB9⟩
        have HB9 : Hid (Below w8.heap.size w8 w9) := hB9
        have C9 := same_any _ _ X X ax ay cx cy w9 (HNx.out w9 (HB8.out.trans (hB9.mono HB8.out.size))) (HNy.out w9 hB9) (by have := HXl.out; omega)
        rw [decide_eq_true rfl] at C9
        clear hB9
        go_wp2_with fail
        refine C9.mono ?_
        clear C9
        rintro e w10 ⟨rfl, q10, rfl⟩
        go_wp2
        go_ret
        exact ⟨rfl, below_drewN (HB6.out.trans ((HB8.out.trans (HB9.out.mono HB8.out.size)).mono HB6.out.size)) q10⟩
    · subst hpc
      rw [hs]
      have qP : decide ((P.length : Int) > 262144) = false := decide_eq_false (by omega)
      have C4 := parse_all P w4 (HGq.out w4 HB4.out)
      rw [hpb] at C4
      simp only at C4
      clear hpb hs
      go_wp2_with fail
      refine C4.mono ?_
      clear C4
      rintro e w5 ⟨hB5, vw, rfl, hOw⟩
      have HB5 : Hid (Below w.heap.size w w5) := HB4.out.trans (hB5.mono HB4.out.size)
      obtain ⟨aw, cw, hNw⟩ := hOw.nr
      obtain ⟨rfl, hcw, _⟩ := id hNw
      have C5 := same_any _ _ l l ao aw cap cw w5 (HNq.out w5 HB5.out) hNw hl
      rw [decide_eq_true rfl] at C5
      clear hOw hNw hB5 HB4
      go_wp2_with fail
      refine C5.mono ?_
      clear C5
      rintro e w5b ⟨rfl, q5, rfl⟩
      have HB5d : Hid (Below w.heap.size w (w5.drewN q5)) := below_drewN HB5.out q5
      generalize w5.drewN q5 = w5d at *
      clear HB5
      have C5 := HR.out w5d HB5d.out
      go_wp2_with fail
      refine C5.mono ?_
      clear C5 HR
      rintro e w6 ⟨hB6, vx, rfl, hO⟩
      have HB6 : Hid (Below w.heap.size w w6) := HB5d.out.trans (hB6.mono HB5d.out.size)
      obtain ⟨ax, cx, hN⟩ := hO.nr
      obtain ⟨rfl, hcx, _⟩ := id hN
      have HN6 : Hid (NR w6 (.slice ax X.length cx) X ax cx) := hN
      clear hO hN hB6 HB5d
      rcases HQ.out with ⟨hc, hX, hp⟩ | ⟨hc, hp, hsh, hpr, hle, hpp⟩
      · have hc' : (c : Int) ≠ 0 := by omega
        have qc : ((c : Int) != 0) = true := by simp; omega
        have qp : decide ((p : Int) ≥ 0) = true := decide_eq_true (by omega)
        have qt : decide ((p : Int) ≤ (t.length : Int)) = true := decide_eq_true (by omega)
        subst hX
        simp only [List.length_nil] at *
        clear HQ HN6 hc
        go_wp2
        go_ret
        exact ⟨rfl, HB6.out⟩
      · subst hc hp
        have HNx : Hid (∀ wq, Below w6.heap.size w6 wq → NR wq (.slice ax X.length cx) X ax cx) := fun wq hq => HN6.out.below hq (Nat.le_refl _)
        have HG6 : Hid (∀ wq, Below w6.heap.size w6 wq → GL wq.heap.size wq) := fun wq hq => ((HGq.out w6 HB6.out).below hq).up hq.size
        have C6 := print_any _ X ax cx w6 (HNx.out w6 (Below.refl _ _)) (HG6.out w6 (Below.refl _ _)) HXt.out (by have := HXl.out; omega)
        obtain ⟨U, hU⟩ : ∃ U, printF X = (U, 0) := ⟨(printF X).1, by rw [← hpr]⟩
        rw [hU] at C6 hle hpp
        simp only at C6 hle hpp
        have HPP : Hid (True → parseF U = (X, 0, 0)) := fun _ => hpp
        have HSH : Hid (shapedF X = true) := hsh
        have qu : decide ((U.length : Int) ≤ (t.length : Int)) = true := decide_eq_true (by omega)
        clear HQ HN6 hpp hU hpr hsh
        go_wp2_with fail
        refine C6.mono ?_
        clear C6
        rintro e w7 ⟨rfl, hB7⟩
        have C7 := parse_all U w7 (HG6.out w7 hB7)
        rw [HPP.out trivial] at C7
        simp only at C7
        have HB7 : Hid (Below w6.heap.size w6 w7) := hB7
        clear hB7 HPP
        go_wp2_with fail
        refine C7.mono ?_
        clear C7
        rintro e w8 ⟨hB8, vy, rfl, hOy⟩
        have HB8 : Hid (Below w6.heap.size w6 w8) := HB7.out.trans (hB8.mono HB7.out.size)
        obtain ⟨ay, cy, hNy⟩ := hOy.nr
        obtain ⟨rfl, hcy, _⟩ := id hNy
        have HNy : Hid (∀ wq, Below w8.heap.size w8 wq → NR wq (.slice ay X.length cy) X ay cy) := fun wq hq => hNy.below hq (Nat.le_refl _)
        clear hOy hNy hB8 HB7
        have C8 := shaped_any _ X ax cx w8 (HNx.out w8 HB8.out) (HG6.out w8 HB8.out) HXt.out (by have := HXl.out; omega)
        rw [HSH.out] at C8
        clear HSH
        go_wp2_with fail
        refine C8.mono ?_
        clear C8
        rintro e w9 ⟨rfl, hB9⟩
        have HB9 : Hid (Below w8.heap.size w8 w9) := hB9
        have C9 := same_any _ _ X X ax ay cx cy w9 (HNx.out w9 (HB8.out.trans (hB9.mono HB8.out.size))) (HNy.out w9 hB9) (by have := HXl.out; omega)
        rw [decide_eq_true rfl] at C9
        clear hB9
        go_wp2_with fail
        refine C9.mono ?_
        clear C9
        rintro e w10 ⟨rfl, q10, rfl⟩
        go_wp2
        go_ret
        exact ⟨rfl, below_drewN (HB6.out.trans ((HB8.out.trans (HB9.out.mono HB8.out.size)).mono HB6.out.size)) q10⟩

end Go.Proofs.YtlapkbdjipocoaaDoor
