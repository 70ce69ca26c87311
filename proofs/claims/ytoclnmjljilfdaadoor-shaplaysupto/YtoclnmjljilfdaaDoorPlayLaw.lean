import Derived.Test.YtoclnmjljilfdaaDoorPlayC
import Derived.Test.YtoclnmjljilfdaaDoorHmU
namespace Go.Proofs.YtoclnmjljilfdaaDoor
open Go.RowKit

/-- A step of the script. -/
structure Stp where
  k : Int
  i : Int
  p : Prt
/-- The script lies there. -/
def Ops (w : World) (sa : Option Addr) (os : List Stp) : Prop :=
  (os = [] ∨ ∃ g off : Nat, sa = some ⟨g, off, none⟩ ∧ ∀ j, (hj : j < os.length) → w.cell? ⟨g, off + j * 3, none⟩ = some (.int .i64 os[j].k) ∧ w.cell? ⟨g, off + j * 3 + 1, none⟩ = some (.int .i64 os[j].i) ∧ w.cell? ⟨g, off + j * 3 + 2, none⟩ = some (prV os[j].p)) ∧
  ∀ o ∈ os, prOk w o.p ∧ (o.p.a = none → o.p.l.length = 0 ∧ o.p.c = 0) ∧ -9223372036854775808 ≤ o.i ∧ o.i ≤ 9223372036854775807
/-- How many bytes the first steps write. -/
def tot (os : List Stp) (n : Nat) : Nat := ((os.take n).map fun o => o.p.l.length).sum
theorem tot_succ (os : List Stp) (n : Nat) (h : n < os.length) : tot os (n + 1) = tot os n + os[n].p.l.length := by
  unfold tot
  rw [List.take_succ_eq_append_getElem h, List.map_append, List.sum_append]
  simp
theorem tot_le (os : List Stp) (n : Nat) : tot os n ≤ tot os os.length := by
  unfold tot
  have h := congrArg (fun l => (l.map fun o : Stp => o.p.l.length).sum) (List.take_append_drop n os)
  simp only [List.map_append, List.sum_append] at h
  rw [List.take_length]
  omega
theorem pw_row (w : World) (t : TypeId) (v : Value) (base : Nat) (hb : base ≤ w.heap.size) : (w.alloc (.cells #[v] t)).ownsRow base t 1 (.slice (some ⟨w.heap.size, 0, none⟩) 1 1) 1 [v] :=
  ⟨rfl, .inr ⟨w.heap.size, 1, #[v], rfl, hb, alloc_last _ _, Nat.le_refl _, by unfold maxLen; omega, rfl, rfl⟩⟩

set_option maxRecDepth 100000 in
set_option maxHeartbeats 16000000 in
theorem plays_core (h : Int) (sa : Option Addr) (sc : Nat) (os : List Stp) (w : World) (T : Tb w) (R : Rt w) (ho : Ops w sa os) (hn : os.length ≤ 1048576) (hm : tot os os.length ≤ 1048576) (hh : isH h) :
    Calls Tryd.prog 6 #[.int .i64 h, .slice sa os.length sc] w fun e w' => e = .returned (.bool true) ∧ Below w.heap.size w w' := by
  obtain ⟨j0, hj, hy0, hy1, hy2⟩ := info_parts infoPs
  obtain ⟨k0, hk, hx0, hx1, hx2⟩ := info_parts infoBs
  obtain ⟨i0, hi, hz0, hz1, hz2⟩ := info_parts infoB
  have HT : Hid (Tb w) := T
  have HRt : Hid (Rt w) := R
  have HO : Hid (Ops w sa os) := ho
  have hsl := siz_le h
  have hg7 : 7 ≤ w.heap.size := by have := cell_lt (T.k 0 (by omega)); omega
  have hs0 : 0 < siz h := by rcases hh with rfl | rfl | rfl <;> decide
  have CS := fun w => rsize_any h w
  obtain ⟨S, hS⟩ : ∃ S, siz h = S := ⟨_, rfl⟩
  rw [hS] at hsl hs0 CS
  have HS : Hid (True → siz h = S) := fun _ => hS
  clear T R ho hS
  go_enter Tryd.func6, Tryd.ntmps6
  go_wp2_with fail
  refine (new_any h w hh HT.out).mono ?_
  rintro e w1 ⟨rfl, hs1, hb1⟩
  have HS1 : Hid (Sta w1 w.heap.size h []) := hs1
  have HB1 : Hid (Below w.heap.size w w1) := hb1
  have hgw1 : w.heap.size < w1.heap.size := hs1.lt
  clear hs1 hb1
  have hS0I : ((S : Int) == 0) = false := by simp; omega
  go_wp2_with fail
  refine (CS w1).mono ?_
  rintro e w2 ⟨rfl, hw2⟩
  subst w2
  have HA2 := alloc_below w1 (.cells #[pV w.heap.size] 25)
  have hA2 := alloc_size w1 (.cells #[pV w.heap.size] 25)
  have hR2 := pw_row w1 25 (pV w.heap.size) w.heap.size (by omega)
  obtain ⟨w2, hw2⟩ : ∃ w2, w2 = w1.alloc (.cells #[pV w.heap.size] 25) := ⟨_, rfl⟩
  rw [← hw2] at HA2 hA2 hR2
  have HA3 := alloc_below w2 (.cells #[.slice none 0 0] 23)
  have hA3 := alloc_size w2 (.cells #[.slice none 0 0] 23)
  have hR3 := pw_row w2 23 (.slice none 0 0) w.heap.size (by omega)
  obtain ⟨w3, hw3⟩ : ∃ w3, w3 = w2.alloc (.cells #[.slice none 0 0] 23) := ⟨_, rfl⟩
  rw [← hw3] at HA3 hA3 hR3
  have HBk0 : Hid (Bk w.heap.size h w3 w1.heap.size 1 w2.heap.size 1 1 [⟨w.heap.size, [], ⟨none, 0, []⟩⟩]) :=
    ⟨⟨by simp, fun e he => (by obtain rfl := List.mem_singleton.1 he; exact ⟨Nat.le_refl _, (HS1.out.below HA2 hgw1).below HA3 (by omega)⟩), fun e he => (by obtain rfl := List.mem_singleton.1 he; exact ⟨.inl rfl, fun _ => ⟨rfl, rfl⟩⟩)⟩, own_below hR2 HA3 (Nat.le_refl _), hR3, by omega⟩
  have HBe0 : Hid (Below w.heap.size w w3) := (HB1.out.trans (HA2.mono HB1.out.size)).trans (HA3.mono (by omega))
  have HEq0 : Hid (∀ e ∈ ([⟨w.heap.size, [], ⟨none, 0, []⟩⟩] : List En), e.p.l = e.m ∧ e.m.length ≤ 2 * tot os 0) := fun e he => by obtain rfl := List.mem_singleton.1 he; exact ⟨rfl, Nat.zero_le _⟩
  rw [hw2] at hw3
  unfold pV at hw3
  go_wp2
  rw [← hw3]
  have hgs1 : (w1.alloc (.cells #[Value.pointer (some ⟨w.heap.size, 0, none⟩)] 25)).heap.size = w2.heap.size := by rw [hw2]; rfl
  clear hw2 hw3 HA2 HA3 hR2 hR3 HS1 HB1 CS
  rw [hA2] at HBk0
  clear hgs1 hA2 hA3
  generalize w1.heap.size = g1 at *
  go_loopw [6, 7, 8] (fun s6 s7 s8 ws => ∃ (n gs cs gt ct N : Nat) (es : List En), s8 = .int .i64 (n : Int) ∧ n ≤ os.length ∧ s6 = .slice (some ⟨gs, 0, none⟩) N cs ∧ s7 = .slice (some ⟨gt, 0, none⟩) N ct ∧ N ≤ n + 1 ∧ Hid (Bk w.heap.size h ws gs cs gt ct N es) ∧ Hid (∀ e ∈ es, e.p.l = e.m ∧ e.m.length ≤ 2 * tot os n) ∧ Hid (Below w.heap.size w ws)) (fun _ _ s _ => os.length - (intOf s).toNat)
  case atStart => exact ⟨0, g1, 1, g1 + 1, 1, 1, _, rfl, by omega, rfl, rfl, by omega, HBk0, HEq0, HBe0⟩
  case round =>
  clear HBk0 HEq0 HBe0
  obtain ⟨n, gs, cs, gt, ct, N, es, rfl, hnn, rfl, rfl, hNn, HBk, HEq, hbel⟩ := hrel
  have hN0 : 0 < N := HBk.out.n0
  by_cases hlt : n < os.length
  · have HTot : Hid (True → tot os (n + 1) = tot os n + os[n].p.l.length) := fun _ => tot_succ os n hlt
    have htn := tot_le os (n + 1)
    rw [HTot.out trivial] at htn
    have hol := HO.out.2 os[n] (List.getElem_mem hlt)
    obtain ⟨g, off, rfl, hc⟩ : ∃ g off : Nat, sa = some ⟨g, off, none⟩ ∧ ∀ j, (hj : j < os.length) → w.cell? ⟨g, off + j * 3, none⟩ = some (.int .i64 os[j].k) ∧ w.cell? ⟨g, off + j * 3 + 1, none⟩ = some (.int .i64 os[j].i) ∧ w.cell? ⟨g, off + j * 3 + 2, none⟩ = some (prV os[j].p) := by
      rcases HO.out.1 with h1 | h1
      · subst h1; simp at hlt
      · exact h1
    have hcn := hc n hlt
    have q0 := cell_but hcn.1 fun hg => hbel.out.block g hg
    have q1 := cell_but hcn.2.1 fun hg => hbel.out.block g hg
    have q2 := cell_but hcn.2.2 fun hg => hbel.out.block g hg
    have HRo0 : Hid (Rd w os[n].p.a os[n].p.l) := hol.1.1
    have hoc1 := hol.1.2.1
    have hoc2 := hol.1.2.2
    have Hon : Hid (os[n].p.a = none → os[n].p.l.length = 0 ∧ os[n].p.c = 0) := hol.2.1
    have hoi1 := hol.2.2.1
    have hoi2 := hol.2.2.2
    unfold prV at q2
    clear hc hcn hol
    generalize os[n] = o at *
    have CP := fun w => pick_any o.i N w hN0 (by omega) hoi1 hoi2
    have HRw : Hid (Rd w o.p.a o.p.l) := HRo0
    go_wp2_with fail
    have HA := alloc_below wr (.cells #[.int .i64 o.k, .int .i64 o.i, .slice o.p.a o.p.l.length o.p.c] 45)
    have hA := alloc_size wr (.cells #[.int .i64 o.k, .int .i64 o.i, .slice o.p.a o.p.l.length o.p.c] 45)
    have hAc : Cl (wr.alloc (.cells #[.int .i64 o.k, .int .i64 o.i, .slice o.p.a o.p.l.length o.p.c] 45)) wr.heap.size [.int .i64 o.k, .int .i64 o.i, .slice o.p.a o.p.l.length o.p.c] := alloc_cl wr [.int .i64 o.k, .int .i64 o.i, .slice o.p.a o.p.l.length o.p.c] 45
    obtain ⟨w1, hw1⟩ : ∃ w1, w1 = wr.alloc (.cells #[.int .i64 o.k, .int .i64 o.i, .slice o.p.a o.p.l.length o.p.c] 45) := ⟨_, rfl⟩
    rw [← hw1] at HA hA hAc ⊢
    have f0 := hAc.cell 0 (by simp)
    have f2 := hAc.cell 2 (by simp)
    have f1 := hAc.cell 1 (by simp)
    simp only [List.getElem_cons_zero, List.getElem_cons_succ] at f0 f1 f2
    have HBk1 : Hid (Bk w.heap.size h w1 gs cs gt ct N es) := HBk.out.below HA (Nat.le_refl _)
    have HB1 : Hid (Below w.heap.size w w1) := hbel.out.trans (HA.mono hbel.out.size)
    have hsz1 : w.heap.size ≤ wr.heap.size := hbel.out.size
    have hlen : es.length = N := HBk.out.len
    have HF : Hid (∀ x, wr.heap.size ≤ x → Fr es gs gt x) := fun x hx => HBk.out.fr x hx
    have hA1 : wr.heap.size < w1.heap.size := by omega
    clear hw1 hAc HA hA HBk hbel q0 q1 q2
    generalize hbo : wr.heap.size = bo at *
    refine (CP w1).mono ?_
    rintro e w2 ⟨rfl, hw2⟩
    subst w2
    have hpk := pk_lt o.i N hN0
    generalize pk o.i N = i at *
    clear CP f1 hoi1 hoi2
    have hil : i < es.length := by omega
    obtain ⟨b, m, p, he⟩ : ∃ b m p, es[i] = ⟨b, m, p⟩ := ⟨_, _, _, rfl⟩
    have hAt := HBk1.out.at i b m p hil he
    have hb0 := hAt.1
    have HSt1 : Hid (Sta w1 b h m) := hAt.2.1
    have HTx1 : Hid (Txt w1 p) := hAt.2.2.1
    have cs1 := hAt.2.2.2.1
    have ct1 := hAt.2.2.2.2.1
    have hee := HEq.out es[i] (List.getElem_mem hil)
    rw [he] at hee
    have Hpm : Hid (True → p.l = m) := fun _ => hee.1
    have hml : m.length ≤ 2 * tot os n := hee.2
    have hpl : p.l.length ≤ 2 * tot os n := by rw [Hpm.out trivial]; exact hml
    have htot : tot os n + o.p.l.length ≤ 1048576 := by omega
    have HTn : Hid (∀ e ∈ es, e.p.l = e.m ∧ e.m.length ≤ 2 * tot os (n + 1)) := fun e hh => ⟨(HEq.out e hh).1, by have := (HEq.out e hh).2; rw [HTot.out trivial]; omega⟩
    have hbbo : b < bo := by
      have h1 := (HF.out b)
      rcases Nat.lt_or_ge b bo with hx | hx
      · exact hx
      · exact absurd (by rw [he] : es[i].b = b) ((h1 hx).2.2 es[i] (List.getElem_mem hil)).1
    have He : Hid (True → es[i] = ⟨b, m, p⟩) := fun _ => he
    clear hAt hee he
    by_cases hk1 : o.k = 1
    · rw [hk1] at f0
      clear hk1
      have C1 := roomy_any o.p.a o.p.c o.p.l w1 (HRw.out.below HB1.out (Nat.le_refl _)) (by omega)
      go_wp2_with fail
      refine C1.mono ?_
      rintro e w2 ⟨rfl, hc2, hb2⟩
      have HBk2 : Hid (Bk w.heap.size h w2 gs cs gt ct N es) := HBk1.out.below hb2 (Nat.le_refl _)
      have HB2 : Hid (Below w.heap.size w w2) := HB1.out.trans (hb2.mono HB1.out.size)
      have hAt2 := HBk2.out.at i b m p hil (He.out trivial)
      have cs2 := hAt2.2.2.2.1
      have HSt2 : Hid (Sta w2 b h m) := hAt2.2.1
      have f22 := cell_but f2 fun hg => hb2.block bo (by omega)
      have HG2 : Hid (Cl w2 w1.heap.size ((o.p.l ++ List.replicate 9 165).map B)) := hc2
      have hgv2 : w1.heap.size < w2.heap.size := hc2.lt
      clear C1 hc2 hb2 HBk1 HB1 HSt1 HTx1 cs1 ct1 f0 f2 hAt2
      generalize hgv : w1.heap.size = gv at *
      have C2 := write_any b h m o.p.l (some ⟨gv, 0, none⟩) (o.p.l.length + 9) w2 HSt2.out hh (HT.out.below HB2.out) (by omega) (cl_head HG2.out) (fun a _ e => by cases e; show gv ≠ b; omega) (by omega) (by omega) (by omega) (by omega)
      go_wp2_with fail
      refine C2.mono ?_
      rintro e w3 ⟨rfl, hs3, hb3⟩
      have HBk3 : Hid (Bk w.heap.size h w3 gs cs gt ct N (es.set i ⟨b, m ++ o.p.l, p⟩)) := HBk2.out.write' i b m p hil (He.out trivial) hb3 _ hs3
      have HB3 : Hid (Below w.heap.size w w3) := HB2.out.trans (hb3.below HB2.out.size hb0)
      have HG3 : Hid (Cl w3 gv ((o.p.l ++ List.replicate 9 165).map B)) := hb3.other HG2.out (by omega)
      have f23 := cell_but f22 fun hg => hb3.block bo hg (by omega)
      have hw3 : w2.heap.size ≤ w3.heap.size := hb3.size
      have C3 := spared_any gv o.p.c o.p.l.length o.p.a o.p.l w3 rfl HG3.out (HRw.out.below HB3.out (Nat.le_refl _)) (by omega)
      clear C2 hs3 hb3 HBk2 HB2 HSt2 HG2 cs2 f22
      go_wp2_with fail
      refine C3.mono ?_
      rintro e w4 ⟨rfl, q, hq⟩
      have HBk4 : Hid (Bk w.heap.size h w4 gs cs gt ct N (es.set i ⟨b, m ++ o.p.l, p⟩)) := by rw [hq]; exact HBk3.out.drewN q
      have HB4 : Hid (Below w.heap.size w w4) := by rw [hq]; exact below_drewN HB3.out q
      have HG4 : Hid (Cl w4 gv ((List.replicate 0 77 ++ o.p.l.drop 0 ++ List.replicate 9 165).map B)) := by rw [hq]; exact HG3.out
      have f24 : w4.cell? ⟨bo, 2, none⟩ = some (.slice o.p.a o.p.l.length o.p.c) := by rw [hq]; exact f23
      clear C3 hq HBk3 HB3 HG3 f23
      have HFs : Hid (∀ x, bo ≤ x → Fr (es.set i ⟨b, m ++ o.p.l, p⟩) gs gt x) := fun x hx => (HF.out x hx).set' i b m p hil (He.out trivial) _
      have Hil : i < (es.set i ⟨b, m ++ o.p.l, p⟩).length := by rw [List.length_set]; exact hil
      have Hes : Hid (True → (es.set i ⟨b, m ++ o.p.l, p⟩)[i] = ⟨b, m ++ o.p.l, p⟩) := fun _ => List.getElem_set_self _
      have Hst3 : Hid (∀ e, (es.set i ⟨b, m ++ o.p.l, p⟩).set i e = es.set i e) := fun e => List.set_set ..
      generalize es.set i ⟨b, m ++ o.p.l, p⟩ = es1 at *
      go_wp2
      go_loopw [12] (fun s ws => ∃ k : Nat, s = .int .i64 (k : Int) ∧ k ≤ o.p.l.length ∧ Hid (Cl ws gv ((List.replicate k 77 ++ o.p.l.drop k ++ List.replicate 9 165).map B)) ∧ Hid (But w4 ws gv)) (fun s _ => o.p.l.length - (intOf s).toNat)
      case atStart => exact ⟨0, rfl, by omega, HG4, But.refl _ _⟩
      case round =>
      clear HG4
      obtain ⟨k, rfl, hkl, hcl, hbut⟩ := hrel
      by_cases hklt : k < o.p.l.length
      · have gf := hcl.out.frozen k
        obtain ⟨old, gc⟩ : ∃ v, wr.cell? ⟨gv, k, none⟩ = some v := ⟨_, hcl.out.cell k (by first | (simp; done) | (simp; omega))⟩
        have Hs : Hid (True → ((List.replicate k 77 ++ o.p.l.drop k ++ List.replicate 9 165).map B).set k (B 77) = (List.replicate (k + 1) 77 ++ o.p.l.drop (k + 1) ++ List.replicate 9 165).map B) := fun _ => fill77 o.p.l _ k hklt
        go_wp2
        refine ⟨⟨k + 1, by go_num, by omega, ?_, hbut.out.set _ _⟩, by simp [intOf]; omega⟩
        have h1 := hcl.out.set k (B 77)
        rw [Hs.out trivial] at h1
        exact h1
      · obtain rfl : k = o.p.l.length := by omega
        have HG5 : Hid (Cl wr gv ((List.replicate o.p.l.length (77 : UInt8) ++ List.replicate 9 165).map B)) := by
          have h1 := hcl.out
          rw [List.drop_of_length_le (Nat.le_refl _), List.append_nil] at h1
          exact h1
        have HBk5 : Hid (Bk w.heap.size h wr gs cs gt ct N es1) := HBk4.out.but hbut.out (HFs.out gv (by omega))
        have HB5 : Hid (Below w.heap.size w wr) := HB4.out.trans (hbut.out.below HB4.out.size (by omega))
        have f25 := cell_but f24 fun hg => hbut.out.block bo hg (by omega)
        have hw5 : w4.heap.size ≤ wr.heap.size := hbut.out.size
        have hgv5 : gv < wr.heap.size := HG5.out.lt
        have hAt5 := HBk5.out.at i b (m ++ o.p.l) p Hil (Hes.out trivial)
        have ct5 := hAt5.2.2.2.2.1
        have HTx5 : Hid (Txt wr p) := hAt5.2.2.1
        clear hcl hbut HBk4 HB4 f24 hkl hklt hAt5
        rename World => w5
        go_wp2_with (first
          | (at_builtin; refine append_rd rfl (.tmp 82) (.tmp 86) rfl w5.heap.size i0 hi hz0 hz1 hz2 _ 0 [] rfl (World.ownsRow_nil _ _ _ _) p.a p.l.length p.c p.l (by simp [Act.eval]) rfl HTx5.out.2 HTx5.out.rd (by omega) (by omega) ?_; intro v6 w6 hown6 hgrow6; have hB6 := below_grown hgrow6; have f26 := cell_but f25 fun hg => hB6.block bo hg; have hs6 := hB6.size)
          | (at_builtin; refine append_rd rfl (.tmp 88) (.tmp 90) rfl w5.heap.size i0 hi hz0 hz1 hz2 _ (0 + p.l.length) ([] ++ p.l) rfl hown6 o.p.a o.p.l.length o.p.c o.p.l (by simp [Act.eval]) rfl Hon.out ((HRw.out.below HB5.out (Nat.le_refl _)).below hB6 (Nat.le_refl _)) (by omega) (by omega) ?_; intro v7 w7 hown7 hgrow7; have cs7 : w7.cell? ⟨gs, i, none⟩ = some (.pointer (some ⟨b, 0, none⟩)) := (((HBk5.out.below hB6 (Nat.le_refl _)).grown hgrow7 (fun x hx => HBk5.out.fr x (own_block hown6 x hx))).at i b (m ++ o.p.l) p Hil (Hes.out trivial)).2.2.2.1)
          | fail)
        have HBk7 : Hid (Bk w.heap.size h w7 gs cs gt ct N es1) := (HBk5.out.below hB6 (Nat.le_refl _)).grown hgrow7 (fun x hx => HBk5.out.fr x (own_block hown6 x hx))
        have HFx : Hid (∀ x, w5.heap.size ≤ x → Fr es1 gs gt x) := fun x hx => HBk5.out.fr x hx
        have HB57 : Hid (Below w5.heap.size w5 w7) := hB6.trans ((Below.refl _ _).grown hgrow7 (by omega) (own_block hown6))
        have HB7 : Hid (Below w.heap.size w w7) := HB5.out.trans (HB57.out.mono HB5.out.size)
        have HG7 : Hid (Cl w7 gv ((List.replicate o.p.l.length (77 : UInt8) ++ List.replicate 9 165).map B)) := HG5.out.below HB57.out hgv5
        have HO7 : Hid (w7.ownsRow w5.heap.size 5 1 v7 (p.l.length + o.p.l.length) ((p.l ++ o.p.l).map B)) := by
          have h1 := hown7
          rw [Nat.zero_add, List.nil_append] at h1
          exact h1
        have HSt7 : Hid (Sta w7 b h (m ++ o.p.l)) := (HBk7.out.at i b (m ++ o.p.l) p Hil (Hes.out trivial)).2.1
        have hs57 : w5.heap.size ≤ w7.heap.size := HB57.out.size
        have C7 := write_any b h (m ++ o.p.l) (List.replicate o.p.l.length 77) (some ⟨gv, 0, none⟩) (o.p.l.length + 9) w7 HSt7.out hh (HT.out.below HB7.out) (by omega) (cl_head HG7.out) (fun a _ e => by cases e; show gv ≠ b; omega) (by simp) (by rw [List.length_append]; omega) (by simp; omega) (by omega)
        rw [List.length_replicate] at C7
        clear hown6 hgrow6 hB6 f26 hs6 hown7 hgrow7 HBk5 HB5 HG5 HTx5 ct5 f25 HB57 hw5
        refine C7.mono ?_
        rintro e w8 ⟨rfl, hs8, hb8⟩
        have HBk8 : Hid (Bk w.heap.size h w8 gs cs gt ct N (es.set i ⟨b, m ++ o.p.l ++ List.replicate o.p.l.length 77, p⟩)) := by
          have h1 := HBk7.out.write' i b _ p Hil (Hes.out trivial) hb8 _ hs8
          rw [Hst3.out] at h1
          exact h1
        have HB8 : Hid (Below w.heap.size w w8) := HB7.out.trans (hb8.below HB7.out.size hb0)
        have HG8 : Hid (∃ l : List UInt8, l.length = o.p.l.length ∧ Cl w8 gv ((l ++ List.replicate 9 165).map B)) := ⟨List.replicate o.p.l.length 77, by simp, hb8.other HG7.out (by omega)⟩
        have HO8 : Hid (w8.ownsRow w5.heap.size 5 1 v7 (p.l.length + o.p.l.length + 0) ((p.l ++ o.p.l ++ List.replicate 0 77).map B)) := by
          have h1 := own_but' HO7.out hb8 (fun e => by have := own_block HO7.out b e; omega)
          show World.ownsRow _ _ _ _ _ _ _
          simpa using h1
        have HFy : Hid (∀ x, w5.heap.size ≤ x ∨ x = gv → Fr (es.set i ⟨b, m ++ o.p.l ++ List.replicate o.p.l.length 77, p⟩) gs gt x) := fun x hx => (HF.out x (by omega)).set' i b m p hil (He.out trivial) _
        have hs8w : w7.heap.size ≤ w8.heap.size := hb8.size
        clear C7 hs8 hb8 HBk7 HB7 HG7 HO7 HSt7 cs7 HFx HFs
        obtain ⟨MM, hMM⟩ : ∃ MM, MM = m ++ o.p.l ++ List.replicate o.p.l.length 77 := ⟨_, rfl⟩
        rw [← hMM] at HBk8 HFy
        have HMM : Hid (True → MM = m ++ o.p.l ++ List.replicate o.p.l.length 77) := fun _ => hMM
        clear hMM
        go_wp2
        go_loopw [13, 14] (fun s13 s14 ws => ∃ k : Nat, s14 = .int .i64 (k : Int) ∧ k ≤ o.p.l.length ∧ Hid (ws.ownsRow w5.heap.size 5 1 s13 (p.l.length + o.p.l.length + k) ((p.l ++ o.p.l ++ List.replicate k 77).map B)) ∧ Hid (∃ l : List UInt8, l.length = o.p.l.length ∧ Cl ws gv ((l ++ List.replicate 9 165).map B)) ∧ Hid (Bk w.heap.size h ws gs cs gt ct N (es.set i ⟨b, MM, p⟩)) ∧ Hid (Below w.heap.size w ws) ∧ w5.heap.size ≤ ws.heap.size) (fun _ s _ => o.p.l.length - (intOf s).toNat)
        case atStart => exact ⟨0, rfl, by omega, HO8, HG8, HBk8, HB8, by omega⟩
        case round =>
        clear HO8 HG8 HBk8 HB8
        obtain ⟨k, rfl, hkl, hown, hg, hbk, hbel, hsz⟩ := hrel
        by_cases hklt : k < o.p.l.length
        · obtain ⟨l', hl', hc'⟩ := hg.out
          have hgvl : gv < wr.heap.size := hc'.lt
          have HT8 : Hid (True → p.l ++ o.p.l ++ List.replicate (k + 1) 77 = p.l ++ o.p.l ++ List.replicate k 77 ++ [77]) := fun _ => by rw [List.replicate_succ', ← List.append_assoc]
          go_wp2_with (at_builtin; refine append_rd rfl (.tmp 104) (.tmp 105) rfl w5.heap.size i0 hi hz0 hz1 hz2 _ (p.l.length + o.p.l.length + k) (p.l ++ o.p.l ++ List.replicate k 77) rfl (hown.out.alloc _) (some ⟨wr.heap.size, 0, none⟩) 1 1 [77] rfl rfl (fun e => by cases e) (.inr ⟨wr.heap.size, 0, rfl, by simp, fun j hj => by (have : j = 0 := by simpa using hj); subst this; simp [B]⟩) (by omega) (by simp; omega) ?_; intro v9 w9 hown9 hgrow9; have hb9 : Below w5.heap.size wr w9 := ((alloc_below wr _).mono hsz).grown hgrow9 (by rw [alloc_size]; omega) (own_block hown.out); have hc9 : Cl w9 gv ((l' ++ List.replicate 9 165).map B) := hc'.below hb9 (by omega); have gf := hc9.frozen k; have gc := hc9.cell k (by simp; omega))
          have HO9 : Hid ((w9.setCell ⟨gv, k, none⟩ (B 79)).ownsRow w5.heap.size 5 1 v9 (p.l.length + o.p.l.length + (k + 1)) ((p.l ++ o.p.l ++ List.replicate (k + 1) 77).map B)) := by
            rw [HT8.out trivial]
            exact own_but' hown9 ((But.refl _ _).set k (B 79)) (fun e => by have := own_block hown9 gv e; omega)
          have HG9 : Hid (∃ l : List UInt8, l.length = o.p.l.length ∧ Cl (w9.setCell ⟨gv, k, none⟩ (B 79)) gv ((l ++ List.replicate 9 165).map B)) := ⟨l'.set k 79, by rw [List.length_set]; exact hl', by
            have h1 := hc9.set k (B 79)
            rw [← List.map_set, List.set_append_left _ _ (by omega)] at h1
            exact h1⟩
          have HBk9 : Hid (Bk w.heap.size h (w9.setCell ⟨gv, k, none⟩ (B 79)) gs cs gt ct N (es.set i ⟨b, MM, p⟩)) := ((hbk.out.below (alloc_below wr _) (Nat.le_refl _)).grown hgrow9 (fun x hx => HFy.out x (.inl (own_block hown.out x hx)))).but ((But.refl _ _).set k (B 79)) (HFy.out gv (.inr rfl))
          have HB9 : Hid (Below w.heap.size w (w9.setCell ⟨gv, k, none⟩ (B 79))) := (hbel.out.trans (hb9.mono (by omega))).setCell (show w.heap.size ≤ gv by omega) _
          have hsz9 : w5.heap.size ≤ (w9.setCell ⟨gv, k, none⟩ (B 79)).heap.size := by have := hb9.size; simp; omega
          clear gc gf hown9 hgrow9 hb9 hc9 hc' hl' hown hg hbk hbel HT8
          unfold B at HO9 HG9 HBk9 HB9 hsz9
          go_wp2
          exact ⟨⟨k + 1, by go_num, by omega, HO9, HG9, HBk9, HB9, hsz9⟩, by simp [intOf]; omega⟩
        · obtain rfl : k = o.p.l.length := by omega
          obtain ⟨aF, cF, rfl, hlF, hTF⟩ := Txt.of_own hown.out
          have HilE : i < (es.set i ⟨b, MM, p⟩).length := by rw [List.length_set]; exact hil
          have HesE : (es.set i ⟨b, MM, p⟩)[i] = ⟨b, MM, p⟩ := List.getElem_set_self _
          have hAtE := hbk.out.at i b MM p HilE HesE
          have gc := hAtE.2.2.2.2.1
          have gf := hAtE.2.2.2.2.2
          have HBkE : Hid (Bk w.heap.size h (wr.setCell ⟨gt, i, none⟩ (.slice aF (p.l.length + o.p.l.length + o.p.l.length) cF)) gs cs gt ct N (es.set i ⟨b, MM, ⟨aF, cF, p.l ++ o.p.l ++ List.replicate o.p.l.length 77⟩⟩)) := by
            have h1 := hbk.out.text' i b MM p HilE HesE ⟨aF, cF, p.l ++ o.p.l ++ List.replicate o.p.l.length 77⟩ hTF (fun g _ ha => by
              have h2 := own_block hown.out g (by rw [show aF = some ⟨g, 0, none⟩ from ha]; rfl)
              have h3 := (HFy.out g (.inl h2)).2.1
              exact fun e => h3 e.symm)
            rw [List.set_set] at h1
            unfold prV at h1
            simp only at h1
            rw [← hlF] at h1
            exact h1
          have HBE : Hid (Below w.heap.size w (wr.setCell ⟨gt, i, none⟩ (.slice aF (p.l.length + o.p.l.length + o.p.l.length) cF))) := hbel.out.setCell (hbk.out.rt.lt gt rfl).1 _
          have HTnE : Hid (∀ e ∈ es.set i ⟨b, MM, ⟨aF, cF, p.l ++ o.p.l ++ List.replicate o.p.l.length 77⟩⟩, e.p.l = e.m ∧ e.m.length ≤ 2 * tot os (n + 1)) := fun e he => by
            rcases List.mem_or_eq_of_mem_set he with h1 | rfl
            · exact HTn.out e h1
            · refine ⟨by show p.l ++ _ ++ _ = MM; rw [HMM.out trivial, Hpm.out trivial], ?_⟩
              show MM.length ≤ _
              rw [HMM.out trivial, HTot.out trivial, List.length_append, List.length_append, List.length_replicate]
              omega
          rw [show p.l.length + o.p.l.length + o.p.l.length = p.l.length + (o.p.l.length + o.p.l.length) from Nat.add_assoc _ _ _] at HBkE HBE
          clear hown hg hbk hbel hTF hAtE HesE hkl hklt
          go_wp2
          exact ⟨⟨n + 1, gs, cs, gt, ct, N, _, by go_num, by omega, rfl, rfl, by omega, HBkE, HTnE, HBE⟩, by simp [intOf]; omega⟩
    by_cases hk2 : o.k = 2
    · rw [hk2] at f0
      clear hk1 hk2
      have C1 := sum_any b h m w1 HSt1.out hh (HT.out.below HB1.out) (by omega)
      rw [HS.out trivial] at C1
      go_wp2_with fail
      refine C1.mono ?_
      rintro e w2 ⟨g5, rfl, hg5, hc5, hb5⟩
      have HC2 : Hid (Bl 5 w2 g5 ((sumF h m).map B)) := hc5
      have hg5l : g5 < w2.heap.size := hc5.lt
      have HBk2 : Hid (Bk w.heap.size h w2 gs cs gt ct N es) := HBk1.out.below hb5 (Nat.le_refl _)
      have HB2 : Hid (Below w.heap.size w w2) := HB1.out.trans (hb5.mono HB1.out.size)
      have ct2 : w2.cell? ⟨gt, i, none⟩ = some (.slice p.a p.l.length p.c) := (HBk2.out.at i b m p hil (He.out trivial)).2.2.2.2.1
      have C2 := rsum_any h p.a p.c p.l w2 (HRt.out.below HB2.out (Nat.le_refl _)) (HTx1.out.below hb5 (Nat.le_refl _)).rd HTx1.out.2 (by omega)
      rw [HS.out trivial, show sumF h p.l = sumF h m by rw [Hpm.out trivial]] at C2
      clear C1 hc5 hb5 HBk1 HB1 HSt1 HTx1 cs1 ct1 f0 f2
      go_wp2_with fail
      refine C2.mono ?_
      rintro e w3 ⟨a3, c3, rfl, hc3, hm3, hn3, hr3, hbl3, hb3⟩
      have HC3 : Hid (Bl 5 w3 g5 ((sumF h m).map B)) := HC2.out.below hb3 hg5l
      have HBk3 : Hid (Bk w.heap.size h w3 gs cs gt ct N es) := HBk2.out.below hb3 (Nat.le_refl _)
      have HB3 : Hid (Below w.heap.size w w3) := HB2.out.trans (hb3.mono HB2.out.size)
      have C3 := same_any (some ⟨g5, 0, none⟩) a3 S c3 (sumF h m) (sumF h m) w3 (bl_rd HC3.out) hr3 (by rw [sumF_length, HS.out trivial]; omega)
      rw [sumF_length, HS.out trivial, decide_eq_true rfl] at C3
      clear C2 hc3 hm3 hn3 hr3 hbl3 hb3 HC2 HBk2 HB2 ct2
      go_wp2_with fail
      refine C3.mono ?_
      rintro e w4 ⟨rfl, q, hq⟩
      have HC4 : Hid (∃ l : List UInt8, l.length = S ∧ Bl 5 w4 g5 (l.map B)) := ⟨sumF h m, by rw [sumF_length, HS.out trivial], by rw [hq]; exact HC3.out⟩
      have HBk4 : Hid (Bk w.heap.size h w4 gs cs gt ct N es) := by rw [hq]; exact HBk3.out.drewN q
      have HB4 : Hid (Below w.heap.size w w4) := by rw [hq]; exact below_drewN HB3.out q
      clear C3 hq HC3 HBk3 HB3
      go_wp2
      go_loopw [16] (fun s ws => ∃ k : Nat, s = .int .i64 (k : Int) ∧ k ≤ S ∧ Hid (∃ l : List UInt8, l.length = S ∧ Bl 5 ws g5 (l.map B)) ∧ Hid (But w4 ws g5)) (fun s _ => S - (intOf s).toNat)
      case atStart => exact ⟨0, rfl, by omega, HC4, But.refl _ _⟩
      case round =>
        clear HC4
        obtain ⟨k, rfl, hk, hcl, hbut⟩ := hrel
        by_cases hkS : k < S
        · obtain ⟨l, hl, hc⟩ := hcl.out
          have gf := hc.frozen k
          obtain ⟨old, gc⟩ : ∃ v, wr.cell? ⟨g5, k, none⟩ = some v := ⟨_, hc.cell k (by simp; omega)⟩
          have Hs : Hid (∃ l : List UInt8, l.length = S ∧ Bl 5 (wr.setCell ⟨g5, k, none⟩ (B 78)) g5 (l.map B)) := ⟨l.set k 78, by rw [List.length_set]; exact hl, by rw [List.map_set]; exact hc.set k (B 78)⟩
          clear hc hl hcl
          go_wp2
          exact ⟨⟨k + 1, by go_num, by omega, Hs, hbut.out.set _ _⟩, by simp [intOf]; omega⟩
        · obtain rfl : k = S := by omega
          have HBk5 : Hid (Bk w.heap.size h wr gs cs gt ct N es) := HBk4.out.but hbut.out (HF.out g5 (by omega))
          have HB5 : Hid (Below w.heap.size w wr) := HB4.out.trans (hbut.out.below HB4.out.size (by omega))
          clear hcl hbut HBk4 HB4
          go_wp2
          exact ⟨⟨n + 1, gs, cs, gt, ct, N, es, by go_num, by omega, rfl, rfl, by omega, HBk5, HTn, HB5⟩, by simp [intOf]; omega⟩
    by_cases hk3 : o.k = 3
    · rw [hk3] at f0
      clear hk1 hk2 hk3
      have C1 := copy_any b h m w1 HSt1.out hh
      go_wp2_with fail
      refine C1.mono ?_
      rintro e w2 ⟨rfl, hs2, hb2⟩
      have HBk2 : Hid (Bk w.heap.size h w2 gs cs gt ct N es) := HBk1.out.below hb2 (Nat.le_refl _)
      have HB2 : Hid (Below w.heap.size w w2) := HB1.out.trans (hb2.mono HB1.out.size)
      have HS2 : Hid (Sta w2 w1.heap.size h m) := hs2
      have hw2 : w1.heap.size < w2.heap.size := hs2.lt
      have HTx2 : Hid (Txt w2 p) := HTx1.out.below hb2 (Nat.le_refl _)
      have hgg := HBk2.out.gsgt
      have hgtl := HBk2.out.gtlt
      have hctx : ∀ (w3 : World) o, (w2.alloc o).grownBy w3 (some gs) → w3.cell? ⟨gt, i, none⟩ = some (.slice p.a p.l.length p.c) ∧ w3.ownsRow w.heap.size 23 1 (.slice (some ⟨gt, 0, none⟩) N ct) N (es.map fun e => prV e.p) := fun w3 o hg =>
        ⟨cell_but (cell_but (HBk2.out.at i b m p hil (He.out trivial)).2.2.2.2.1 fun hg => (alloc_below w2 o).block gt hg) fun h3 => (but_grown hg).block gt h3 (fun e => hgg e.symm), own_but' (HBk2.out.rt.alloc o) (but_grown hg) (fun e => hgg (by cases e; rfl))⟩
      have Hctx : Hid (∀ (w3 : World) o, (w2.alloc o).grownBy w3 (some gs) → w3.cell? ⟨gt, i, none⟩ = some (.slice p.a p.l.length p.c) ∧ w3.ownsRow w.heap.size 23 1 (.slice (some ⟨gt, 0, none⟩) N ct) N (es.map fun e => prV e.p)) := hctx
      clear hctx C1 hs2 hb2 HBk1 HB1 HSt1 HTx1 cs1 ct1 f0 f2
      generalize hbn : w1.heap.size = bn at *
      go_wp2_with (first
        | (at_builtin; refine wpList_append_own_wide _ rfl (.tmp 148) (.tmp 150) 43 rfl w.heap.size 25 j0 (.pointer none) 1 8 Tryd.underlying43 hj hy0 hy1 hy2 rfl (by decide) _ N _ rfl (HBk2.out.rs.alloc _) ⟨w2.heap.size, 0, none⟩ 1 1 [.pointer (some ⟨bn, 0, none⟩)] rfl rfl (by intro t u ht; match t, ht with | 0, ht => simp at ht; subst ht; simp [Addr.add]) (by intro u hu; simp at hu; subst hu; rfl) (by unfold maxLen; omega) (by omega) (by simp; omega) ?_; intro v3 w3 hown3 hgrow3 _; have ct3 := (Hctx.out w3 _ hgrow3).1; have hs3 := hgrow3.size; rw [alloc_size] at hs3)
        | (at_builtin; refine wpList_append_own_wide _ rfl (.tmp 152) (.tmp 157) 34 rfl w.heap.size 23 k0 (.slice none 0 0) 1 24 Tryd.underlying34 hk hx0 hx1 hx2 rfl (by decide) _ N _ rfl ((Hctx.out w3 _ hgrow3).2.alloc _) ⟨w3.heap.size, 0, none⟩ 1 1 [.slice p.a p.l.length p.c] rfl rfl (by intro t u ht; match t, ht with | 0, ht => simp at ht; subst ht; simp [Addr.add]) (by intro u hu; simp at hu; subst hu; rfl) (by unfold maxLen; omega) (by omega) (by simp; omega) ?_; intro v4 w4 hown4 hgrow4 _))
      have HB3 : Hid (Below w.heap.size w w3) := HB2.out.trans (((alloc_below w2 _).mono (by omega)).grown hgrow3 (by rw [alloc_size]; omega) (own_block HBk2.out.rs))
      have HB4 : Hid (Below w.heap.size w w4) := HB3.out.trans (((alloc_below w3 _).mono (by omega)).grown hgrow4 (by rw [alloc_size]; omega) (own_block HBk2.out.rt))
      obtain ⟨gs', cs', gt', ct', rfl, rfl, hbk⟩ := HBk2.out.push bn m p HS2.out (by omega) (fun e he => ((HF.out bn (by omega)).2.2 e he).1) HTx2.out (fun g hl ha => HBk2.out.txne es[i] (List.getElem_mem hil) g (by rw [He.out trivial]; exact hl) (by rw [He.out trivial]; exact ha)) hown3 hgrow3 hown4 hgrow4
      have HBk4 : Hid (Bk w.heap.size h w4 gs' cs' gt' ct' (N + 1) (es ++ [⟨bn, m, p⟩])) := hbk
      have HTn4 : Hid (∀ e ∈ es ++ [⟨bn, m, p⟩], e.p.l = e.m ∧ e.m.length ≤ 2 * tot os (n + 1)) := fun e he => by
        rcases List.mem_append.1 he with h1 | h1
        · exact HTn.out e h1
        · obtain rfl := List.mem_singleton.1 h1
          exact ⟨Hpm.out trivial, by show m.length ≤ _; rw [HTot.out trivial]; omega⟩
      clear hbk hown3 hgrow3 hown4 hgrow4 ct3 Hctx HBk2 HB2 HB3 HS2 HTx2
      go_wp2
      exact ⟨⟨n + 1, gs', cs', gt', ct', N + 1, _, by go_num, by omega, rfl, rfl, by omega, HBk4, HTn4, HB4⟩, by simp [intOf]; omega⟩
    by_cases hk4 : o.k = 4
    · rw [hk4] at f0
      clear hk1 hk2 hk3 hk4
      have C1 := new_any h w1 hh (HT.out.below HB1.out)
      go_wp2_with fail
      refine C1.mono ?_
      rintro e w2 ⟨rfl, hs2, hb2⟩
      have HBk2 : Hid (Bk w.heap.size h w2 gs cs gt ct N es) := HBk1.out.below hb2 (Nat.le_refl _)
      have HB2 : Hid (Below w.heap.size w w2) := HB1.out.trans (hb2.mono HB1.out.size)
      have HS2 : Hid (Sta w2 w1.heap.size h []) := hs2
      have hw2 : w1.heap.size < w2.heap.size := hs2.lt
      have HTx2 : Hid (Txt w2 ⟨none, 0, []⟩) := ⟨.inl rfl, fun _ => ⟨rfl, rfl⟩⟩
      have hgg := HBk2.out.gsgt
      have hgtl := HBk2.out.gtlt
      have hctx : ∀ (w3 : World) o, (w2.alloc o).grownBy w3 (some gs) → w3.cell? ⟨gt, i, none⟩ = some (.slice p.a p.l.length p.c) ∧ w3.ownsRow w.heap.size 23 1 (.slice (some ⟨gt, 0, none⟩) N ct) N (es.map fun e => prV e.p) := fun w3 o hg =>
        ⟨cell_but (cell_but (HBk2.out.at i b m p hil (He.out trivial)).2.2.2.2.1 fun hg => (alloc_below w2 o).block gt hg) fun h3 => (but_grown hg).block gt h3 (fun e => hgg e.symm), own_but' (HBk2.out.rt.alloc o) (but_grown hg) (fun e => hgg (by cases e; rfl))⟩
      have Hctx : Hid (∀ (w3 : World) o, (w2.alloc o).grownBy w3 (some gs) → w3.cell? ⟨gt, i, none⟩ = some (.slice p.a p.l.length p.c) ∧ w3.ownsRow w.heap.size 23 1 (.slice (some ⟨gt, 0, none⟩) N ct) N (es.map fun e => prV e.p)) := hctx
      clear hctx C1 hs2 hb2 HBk1 HB1 HSt1 HTx1 cs1 ct1 f0 f2
      generalize hbn : w1.heap.size = bn at *
      go_wp2_with (first
        | (at_builtin; refine wpList_append_own_wide _ rfl (.tmp 165) (.tmp 167) 43 rfl w.heap.size 25 j0 (.pointer none) 1 8 Tryd.underlying43 hj hy0 hy1 hy2 rfl (by decide) _ N _ rfl (HBk2.out.rs.alloc _) ⟨w2.heap.size, 0, none⟩ 1 1 [.pointer (some ⟨bn, 0, none⟩)] rfl rfl (by intro t u ht; match t, ht with | 0, ht => simp at ht; subst ht; simp [Addr.add]) (by intro u hu; simp at hu; subst hu; rfl) (by unfold maxLen; omega) (by omega) (by simp; omega) ?_; intro v3 w3 hown3 hgrow3 _; have ct3 := (Hctx.out w3 _ hgrow3).1; have hs3 := hgrow3.size; rw [alloc_size] at hs3)
        | (at_builtin; refine wpList_append_own_wide _ rfl (.tmp 169) (.tmp 170) 34 rfl w.heap.size 23 k0 (.slice none 0 0) 1 24 Tryd.underlying34 hk hx0 hx1 hx2 rfl (by decide) _ N _ rfl ((Hctx.out w3 _ hgrow3).2.alloc _) ⟨w3.heap.size, 0, none⟩ 1 1 [.slice none 0 0] rfl rfl (by intro t u ht; match t, ht with | 0, ht => simp at ht; subst ht; simp [Addr.add]) (by intro u hu; simp at hu; subst hu; rfl) (by unfold maxLen; omega) (by omega) (by simp; omega) ?_; intro v4 w4 hown4 hgrow4 _))
      have HB3 : Hid (Below w.heap.size w w3) := HB2.out.trans (((alloc_below w2 _).mono (by omega)).grown hgrow3 (by rw [alloc_size]; omega) (own_block HBk2.out.rs))
      have HB4 : Hid (Below w.heap.size w w4) := HB3.out.trans (((alloc_below w3 _).mono (by omega)).grown hgrow4 (by rw [alloc_size]; omega) (own_block HBk2.out.rt))
      obtain ⟨gs', cs', gt', ct', rfl, rfl, hbk⟩ := HBk2.out.push bn [] ⟨none, 0, []⟩ HS2.out (by omega) (fun e he => ((HF.out bn (by omega)).2.2 e he).1) HTx2.out (fun g hl ha => absurd rfl hl) hown3 hgrow3 hown4 hgrow4
      have HBk4 : Hid (Bk w.heap.size h w4 gs' cs' gt' ct' (N + 1) (es ++ [⟨bn, [], ⟨none, 0, []⟩⟩])) := hbk
      have HTn4 : Hid (∀ e ∈ es ++ [⟨bn, [], ⟨none, 0, []⟩⟩], e.p.l = e.m ∧ e.m.length ≤ 2 * tot os (n + 1)) := fun e he => by
        rcases List.mem_append.1 he with h1 | h1
        · exact HTn.out e h1
        · obtain rfl := List.mem_singleton.1 h1
          exact ⟨rfl, Nat.zero_le _⟩
      clear hbk hown3 hgrow3 hown4 hgrow4 ct3 Hctx HBk2 HB2 HB3 HS2 HTx2
      go_wp2
      exact ⟨⟨n + 1, gs', cs', gt', ct', N + 1, _, by go_num, by omega, rfl, rfl, by omega, HBk4, HTn4, HB4⟩, by simp [intOf]; omega⟩
    have d1 : (o.k == 1) = false := by simpa using hk1
    have d2 : (o.k == 2) = false := by simpa using hk2
    have d3 : (o.k == 3) = false := by simpa using hk3
    have d4 : (o.k == 4) = false := by simpa using hk4
    clear hk1 hk2 hk3 hk4
    go_wp2
    exact ⟨⟨n + 1, gs, cs, gt, ct, N, es, by go_num, by omega, rfl, rfl, by omega, HBk1, HTn, HB1⟩, by simp [intOf]; omega⟩
  ·
    obtain rfl : n = os.length := by omega
    have HEq2 : Hid (∀ e ∈ es, e.p.l = e.m ∧ e.m.length ≤ 2 * 1048576) := fun e he => ⟨(HEq.out e he).1, by have := (HEq.out e he).2; omega⟩
    have hlen : es.length = N := HBk.out.len
    clear HEq HO hnn hlt
    go_wp2
    go_loopw [19] (fun s ws => ∃ i : Nat, s = .int .i64 (i : Int) ∧ i ≤ N ∧ Hid (Bk w.heap.size h ws gs cs gt ct N es) ∧ Hid (Below w.heap.size w ws)) (fun s _ => N - (intOf s).toNat)
    case atStart => exact ⟨0, rfl, by omega, HBk, hbel⟩
    case round =>
      clear HBk hbel
      obtain ⟨i, rfl, hi2, HBk, hbel⟩ := hrel
      by_cases hlt : i < N
      · have hil : i < es.length := by omega
        obtain ⟨b, m, p, he⟩ : ∃ b m p, es[i] = ⟨b, m, p⟩ := ⟨_, _, _, rfl⟩
        have hAt := HBk.out.at i b m p hil he
        have cs1 := hAt.2.2.2.1
        have ct1 := hAt.2.2.2.2.1
        have hee := HEq2.out es[i] (List.getElem_mem hil)
        rw [he] at hee
        have Hpm : Hid (True → p.l = m) := fun _ => hee.1
        have hml : m.length ≤ 2 * 1048576 := hee.2
        have hpl : p.l.length ≤ 2 * 1048576 := by rw [Hpm.out trivial]; exact hml
        have HTx1 : Hid (Txt wr p) := hAt.2.2.1
        have He : Hid (True → es[i] = ⟨b, m, p⟩) := fun _ => he
        have C1 := sum_any b h m wr hAt.2.1 hh (HT.out.below hbel.out) (by omega)
        rw [HS.out trivial] at C1
        clear hAt hee he
        go_wp2_with fail
        refine C1.mono ?_
        rintro e w2 ⟨g5, rfl, hg5, hc5, hb5⟩
        have HC2 : Hid (Bl 5 w2 g5 ((sumF h m).map B)) := hc5
        have hg5l : g5 < w2.heap.size := hc5.lt
        have HBk2 : Hid (Bk w.heap.size h w2 gs cs gt ct N es) := HBk.out.below hb5 (Nat.le_refl _)
        have HB2 : Hid (Below w.heap.size w w2) := hbel.out.trans (hb5.mono hbel.out.size)
        have ct2 : w2.cell? ⟨gt, i, none⟩ = some (.slice p.a p.l.length p.c) := (HBk2.out.at i b m p hil (He.out trivial)).2.2.2.2.1
        have C2 := rsum_any h p.a p.c p.l w2 (HRt.out.below HB2.out (Nat.le_refl _)) (HTx1.out.below hb5 (Nat.le_refl _)).rd HTx1.out.2 (by omega)
        rw [HS.out trivial, show sumF h p.l = sumF h m by rw [Hpm.out trivial]] at C2
        clear C1 hc5 hb5 HBk hbel HTx1 cs1 ct1
        go_wp2_with fail
        refine C2.mono ?_
        rintro e w3 ⟨a3, c3, rfl, hc3, hm3, hn3, hr3, hbl3, hb3⟩
        have HBk3 : Hid (Bk w.heap.size h w3 gs cs gt ct N es) := HBk2.out.below hb3 (Nat.le_refl _)
        have HB3 : Hid (Below w.heap.size w w3) := HB2.out.trans (hb3.mono HB2.out.size)
        have C3 := same_any (some ⟨g5, 0, none⟩) a3 S c3 (sumF h m) (sumF h m) w3 (bl_rd (HC2.out.below hb3 hg5l)) hr3 (by rw [sumF_length, HS.out trivial]; omega)
        rw [sumF_length, HS.out trivial, decide_eq_true rfl] at C3
        clear C2 hc3 hm3 hn3 hr3 hbl3 hb3 HC2 HBk2 HB2 ct2
        go_wp2_with fail
        refine C3.mono ?_
        rintro e w4 ⟨rfl, q, hq⟩
        have HBk4 : Hid (Bk w.heap.size h w4 gs cs gt ct N es) := by rw [hq]; exact HBk3.out.drewN q
        have HB4 : Hid (Below w.heap.size w w4) := by rw [hq]; exact below_drewN HB3.out q
        clear C3 hq HBk3 HB3
        go_wp2
        exact ⟨⟨i + 1, by go_num, by omega, HBk4, HB4⟩, by simp [intOf]; omega⟩
      · go_wp2
        go_ret
        exact ⟨rfl, hbel.out⟩

end Go.Proofs.YtoclnmjljilfdaaDoor
