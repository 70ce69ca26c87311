import Derived.Test.YtgkbbcoagnilgaaDoorRefRd
import Derived.Test.YtgkbbcoagnilgaaDoorRefSz
namespace Go.Proofs.YtgkbbcoagnilgaaDoor
open Go.RowKit

theorem rdD_of_owns {w : World} {base n cap : Nat} {ao : Option Addr} {xs : List UInt8} (h : w.ownsRow base 3 1 (.slice ao n cap) n (xs.map DV)) : RdD w ao xs := by
  rcases Nat.eq_zero_or_pos n with h0 | h0
  · left
    have := h.1
    rw [List.length_map, h0] at this
    exact List.eq_nil_of_length_eq_zero (by omega)
  · obtain ⟨b, e, _, hb, hc⟩ := owns_some h h0
    refine .inr ⟨b, e, hb, fun j c hj => ?_⟩
    exact hc j (DV c) (by rw [List.getElem?_map, hj]; rfl)

theorem rread_some {l : List UInt8} {m p : Bool} {g f d : List UInt8} (h : pcut l = some (m, g, f, p, d)) (w : World) (hlen : l.length ≤ 1099511627776) :
    Calls Tryd.prog 21 #[.string ⟨l.toArray⟩] w fun e w' => ∃ a1 c1 a2 c2, e = .returned (.tuple #[.agg #[.bool m, .slice a1 (tr (tl (g ++ f))).length c1, .int .i64 (aheadN g f), .bool p, .slice a2 (tl d).length c2, .bool (f.isEmpty && d.isEmpty), .string ⟨g.toArray⟩], .bool true]) ∧
      RdD w' a1 (tr (tl (g ++ f))) ∧ RdD w' a2 (tl d) ∧ Below w.heap.size w w' := by
  refine (rread_any l w hlen).mono ?_
  rintro e w' ⟨h1 | ⟨m', g', f', p', d', s1, s2, h1, rfl, o1, o2⟩, hB⟩
  · rw [h] at h1; cases h1.1
  · rw [h] at h1
    cases h1
    obtain ⟨a1, c1, rfl, _, _⟩ := owns_shape o1
    obtain ⟨a2, c2, rfl, _, _⟩ := owns_shape o2
    exact ⟨a1, c1, a2, c2, rfl, rdD_of_owns o1, rdD_of_owns o2, hB⟩

theorem rread_none {l : List UInt8} (h : pcut l = none) (w : World) (hlen : l.length ≤ 1099511627776) :
    Calls Tryd.prog 21 #[.string ⟨l.toArray⟩] w fun e w' => ∃ (m : Bool) (a1 : Option Addr) (n1 c1 : Nat) (o : Int) (p : Bool) (a2 : Option Addr) (n2 c2 : Nat) (pl : Bool) (t : ByteArray), e = .returned (.tuple #[.agg #[.bool m, .slice a1 n1 c1, .int .i64 o, .bool p, .slice a2 n2 c2, .bool pl, .string t], .bool false]) ∧ Below w.heap.size w w' := by
  refine (rread_any l w hlen).mono ?_
  rintro e w' ⟨⟨_, m, a1, n1, c1, o, p, a2, n2, c2, pl, t, rfl⟩ | ⟨m', g', f', p', d', s1, s2, h1, _⟩, hB⟩
  · exact ⟨m, a1, n1, c1, o, p, a2, n2, c2, pl, t, rfl, hB⟩
  · rw [h] at h1; cases h1

/-- Whatever Read answers. -/
theorem rread_some_or (l : List UInt8) (w : World) (hlen : l.length ≤ 1099511627776) :
    Calls Tryd.prog 21 #[.string ⟨l.toArray⟩] w fun e w' => ∃ (m : Bool) (a1 : Option Addr) (n1 c1 : Nat) (o : Int) (p : Bool) (a2 : Option Addr) (n2 c2 : Nat) (pl : Bool) (t : ByteArray), e = .returned (.tuple #[.agg #[.bool m, .slice a1 n1 c1, .int .i64 o, .bool p, .slice a2 n2 c2, .bool pl, .string t], .bool (pcut l).isSome]) ∧ Below w.heap.size w w' := by
  rcases h : pcut l with _ | ⟨m, g, f, p, d⟩
  · exact rread_none h w hlen
  · refine (rread_some h w hlen).mono ?_
    rintro e w' ⟨a1, c1, a2, c2, rfl, _, _, hB⟩
    exact ⟨_, _, _, _, _, _, _, _, _, _, _, rfl, hB⟩

set_option maxHeartbeats 1000000 in
theorem rcompare_noneA (a b : List UInt8) (okb : Bool) (w : World)
    (Ha : Hid (∀ w : World, Calls Tryd.prog 21 #[.string ⟨a.toArray⟩] w fun e w' => ∃ (m : Bool) (a1 : Option Addr) (n1 c1 : Nat) (o : Int) (p : Bool) (a2 : Option Addr) (n2 c2 : Nat) (pl : Bool) (t : ByteArray), e = .returned (.tuple #[.agg #[.bool m, .slice a1 n1 c1, .int .i64 o, .bool p, .slice a2 n2 c2, .bool pl, .string t], .bool false]) ∧ Below w.heap.size w w'))
    (Hb : Hid (∀ w : World, Calls Tryd.prog 21 #[.string ⟨b.toArray⟩] w fun e w' => ∃ (m : Bool) (a1 : Option Addr) (n1 c1 : Nat) (o : Int) (p : Bool) (a2 : Option Addr) (n2 c2 : Nat) (pl : Bool) (t : ByteArray), e = .returned (.tuple #[.agg #[.bool m, .slice a1 n1 c1, .int .i64 o, .bool p, .slice a2 n2 c2, .bool pl, .string t], .bool okb]) ∧ Below w.heap.size w w')) :
    Calls Tryd.prog 13 #[.string ⟨a.toArray⟩, .string ⟨b.toArray⟩] w fun e w' => e = .returned (.tuple #[.int .i64 0, .int .i64 30]) ∧ Below w.heap.size w w' := by
  go_enter Tryd.func13, Tryd.ntmps13
  go_wp2_with fail
  refine (Ha.out _).mono ?_
  rintro e w2 ⟨m, a1, n1, c1, o, p, a2, n2, c2, pl, t, rfl, hB2⟩
  go_wp2_with fail
  refine (Hb.out _).mono ?_
  rintro e w3 ⟨m', a1', n1', c1', o', p', a2', n2', c2', pl', t', rfl, hB3⟩
  have h1 : w.heap.size ≤ w2.heap.size := hB2.size
  have h2 : w2.heap.size + 1 ≤ w3.heap.size := by have := hB3.size; simpa using this
  have hL : Below w.heap.size w w3 := by
    refine Below.trans hB2 (Below.trans ?_ (Below.mono hB3 (by simp; omega)))
    (repeat' (first | with_reducible assumption | with_reducible exact Below.refl _ _ | with_reducible exact Nat.le_refl _ | with_reducible refine Below.setCell ?_ ?_ _ | with_reducible refine Below.alloc ?_ ?_ _ | with_reducible apply Below.drew | with_reducible apply below_drewN | omega | (simp; done) | (simp; omega)))
  clear hB2 hB3
  go_wp2
  go_ret2
  refine ⟨rfl, ?_⟩
  (repeat' (first | with_reducible assumption | with_reducible exact Below.refl _ _ | with_reducible exact Nat.le_refl _ | with_reducible refine Below.setCell ?_ ?_ _ | with_reducible refine Below.alloc ?_ ?_ _ | with_reducible apply Below.drew | with_reducible apply below_drewN | omega | (simp; done) | (simp; omega)))

set_option maxHeartbeats 1000000 in
theorem rcompare_noneB (a b : List UInt8) (w : World)
    (Ha : Hid (∀ w : World, Calls Tryd.prog 21 #[.string ⟨a.toArray⟩] w fun e w' => ∃ (m : Bool) (a1 : Option Addr) (n1 c1 : Nat) (o : Int) (p : Bool) (a2 : Option Addr) (n2 c2 : Nat) (pl : Bool) (t : ByteArray), e = .returned (.tuple #[.agg #[.bool m, .slice a1 n1 c1, .int .i64 o, .bool p, .slice a2 n2 c2, .bool pl, .string t], .bool true]) ∧ Below w.heap.size w w'))
    (Hb : Hid (∀ w : World, Calls Tryd.prog 21 #[.string ⟨b.toArray⟩] w fun e w' => ∃ (m : Bool) (a1 : Option Addr) (n1 c1 : Nat) (o : Int) (p : Bool) (a2 : Option Addr) (n2 c2 : Nat) (pl : Bool) (t : ByteArray), e = .returned (.tuple #[.agg #[.bool m, .slice a1 n1 c1, .int .i64 o, .bool p, .slice a2 n2 c2, .bool pl, .string t], .bool false]) ∧ Below w.heap.size w w')) :
    Calls Tryd.prog 13 #[.string ⟨a.toArray⟩, .string ⟨b.toArray⟩] w fun e w' => e = .returned (.tuple #[.int .i64 0, .int .i64 30]) ∧ Below w.heap.size w w' := by
  go_enter Tryd.func13, Tryd.ntmps13
  go_wp2_with fail
  refine (Ha.out _).mono ?_
  rintro e w2 ⟨m, a1, n1, c1, o, p, a2, n2, c2, pl, t, rfl, hB2⟩
  go_wp2_with fail
  refine (Hb.out _).mono ?_
  rintro e w3 ⟨m', a1', n1', c1', o', p', a2', n2', c2', pl', t', rfl, hB3⟩
  have h1 : w.heap.size ≤ w2.heap.size := hB2.size
  have h2 : w2.heap.size + 1 ≤ w3.heap.size := by have := hB3.size; simpa using this
  have hL : Below w.heap.size w w3 := by
    refine Below.trans hB2 (Below.trans ?_ (Below.mono hB3 (by simp; omega)))
    (repeat' (first | with_reducible assumption | with_reducible exact Below.refl _ _ | with_reducible exact Nat.le_refl _ | with_reducible refine Below.setCell ?_ ?_ _ | with_reducible refine Below.alloc ?_ ?_ _ | with_reducible apply Below.drew | with_reducible apply below_drewN | omega | (simp; done) | (simp; omega)))
  clear hB2 hB3
  go_wp2
  go_ret2
  refine ⟨rfl, ?_⟩
  (repeat' (first | with_reducible assumption | with_reducible exact Below.refl _ _ | with_reducible exact Nat.le_refl _ | with_reducible refine Below.setCell ?_ ?_ _ | with_reducible refine Below.alloc ?_ ?_ _ | with_reducible apply Below.drew | with_reducible apply below_drewN | omega | (simp; done) | (simp; omega)))

/-- What the document's Compare answers of two numbers. -/
def cmpRV (up dn : Bool) (s : Int) : Int := if up = dn then (if up then -s else s) else (if up then -1 else 1)

theorem sizeV_bd (za zb : List UInt8) (ap : Int) : -1 ≤ sizeV za zb ap ∧ sizeV za zb ap ≤ 1 := by
  have hb : ∀ a b : List UInt8, -1 ≤ Lib.compareBytes a b ∧ Lib.compareBytes a b ≤ 1 := by
    intro a
    induction a with
    | nil => intro b; cases b <;> simp [Lib.compareBytes]
    | cons x y ih =>
      intro b
      cases b with
      | nil => simp [Lib.compareBytes]
      | cons u v =>
        unfold Lib.compareBytes
        split
        · omega
        · split
          · omega
          · exact ih v
  have := hb za zb
  unfold sizeV
  repeat' split
  all_goals omega

set_option maxHeartbeats 2000000 in
theorem rcompare_some (a b : List UInt8) (ma pa pla mb pb plb : Bool) (za zb xa xb ga gb : List UInt8) (oa ob S : Int) (w : World) (hS1 : -1 ≤ S) (hS2 : S ≤ 1)
    (Ha : Hid (∀ w : World, Calls Tryd.prog 21 #[.string ⟨a.toArray⟩] w fun e w' => ∃ a1 c1 a2 c2, e = .returned (.tuple #[.agg #[.bool ma, .slice a1 za.length c1, .int .i64 oa, .bool pa, .slice a2 xa.length c2, .bool pla, .string ⟨ga.toArray⟩], .bool true]) ∧ RdD w' a1 za ∧ RdD w' a2 xa ∧ Below w.heap.size w w'))
    (Hb : Hid (∀ w : World, Calls Tryd.prog 21 #[.string ⟨b.toArray⟩] w fun e w' => ∃ a1 c1 a2 c2, e = .returned (.tuple #[.agg #[.bool mb, .slice a1 zb.length c1, .int .i64 ob, .bool pb, .slice a2 xb.length c2, .bool plb, .string ⟨gb.toArray⟩], .bool true]) ∧ RdD w' a1 zb ∧ RdD w' a2 xb ∧ Below w.heap.size w w'))
    (Hs : Hid (∀ (da db ea eb : Option Addr) (ca1 cb1 ca cb : Nat) (W : World), RdD W ea xa → RdD W eb xb → RdD W da za → RdD W db zb → Calls Tryd.prog 27 #[.agg #[.bool ma, .slice da za.length ca1, .int .i64 oa, .bool pa, .slice ea xa.length ca, .bool pla, .string ⟨ga.toArray⟩], .agg #[.bool mb, .slice db zb.length cb1, .int .i64 ob, .bool pb, .slice eb xb.length cb, .bool plb, .string ⟨gb.toArray⟩]] W fun e w' =>
      e = .returned (.int .i64 S) ∧ Below W.heap.size W w')) :
    Calls Tryd.prog 13 #[.string ⟨a.toArray⟩, .string ⟨b.toArray⟩] w fun e w' => e = .returned (.tuple #[.int .i64 (cmpRV (ma && !za.isEmpty) (mb && !zb.isEmpty) S), .int .i64 0]) ∧ Below w.heap.size w w' := by
  have hda : decide (0 < (za.length : Int)) = !za.isEmpty := by cases za <;> simp <;> omega
  have hdb : decide (0 < (zb.length : Int)) = !zb.isEmpty := by cases zb <;> simp <;> omega
  generalize (!za.isEmpty) = ua at hda ⊢
  generalize (!zb.isEmpty) = ub at hdb ⊢
  have hda2 : decide (0 < za.length) = ua := by rw [← hda]; simp
  have hdb2 : decide (0 < zb.length) = ub := by rw [← hdb]; simp
  obtain ⟨R, hR⟩ : ∃ R, R = cmpRV (ma && ua) (mb && ub) S := ⟨_, rfl⟩
  rw [← hR]
  have HR : Hid (R = cmpRV (ma && ua) (mb && ub) S) := hR
  clear hR
  have hw : IntKind.i64.wrap (-S) = -S := by rw [IntKind.wrap_i64]; omega
  go_enter Tryd.func13, Tryd.ntmps13
  go_wp2_with fail
  refine (Ha.out _).mono ?_
  rintro e w2 ⟨a1, c1, a2, c2, rfl, r1, r2, hB2⟩
  go_wp2_with fail
  refine (Hb.out _).mono ?_
  rintro e w3 ⟨b1, d1, b2, d2, rfl, q1, q2, hB3⟩
  have h1 : w.heap.size ≤ w2.heap.size := hB2.size
  have h2 : w2.heap.size + 1 ≤ w3.heap.size := by have := hB3.size; simpa using this
  have hL : Below w.heap.size w (w3.alloc (boxR mb b1 zb.length d1 ob pb b2 xb.length d2 plb gb)) := by
    refine Below.alloc (Below.trans hB2 (Below.trans ?_ (Below.mono hB3 (by simp; omega)))) (by omega) _
    (repeat' (first | with_reducible assumption | with_reducible exact Below.refl _ _ | with_reducible exact Nat.le_refl _ | with_reducible refine Below.setCell ?_ ?_ _ | with_reducible refine Below.alloc ?_ ?_ _ | with_reducible apply Below.drew | with_reducible apply below_drewN | omega | (simp; done) | (simp; omega)))
  have bx : Below w2.heap.size w2 (w2.alloc (boxR ma a1 za.length c1 oa pa a2 xa.length c2 pla ga)) := (Below.refl _ _).alloc (Nat.le_refl _) _
  have by3 : Below w3.heap.size w3 (w3.alloc (boxR mb b1 zb.length d1 ob pb b2 xb.length d2 plb gb)) := (Below.refl _ _).alloc (Nat.le_refl _) _
  have R1 := ((r1.below bx).below hB3).below by3
  have R2 := ((r2.below bx).below hB3).below by3
  have Q1 := q1.below by3
  have Q2 := q2.below by3
  have HRd : Hid (RdD _ a2 xa ∧ RdD _ b2 xb ∧ RdD _ a1 za ∧ RdD _ b1 zb) := ⟨R2, Q2, R1, Q1⟩
  have x0 : w3.cell? ⟨w2.heap.size, 0, none⟩ = some (.bool ma) := (hB3.cell (by go_simp)).trans (by go_simp)
  have x1 : w3.cell? ⟨w2.heap.size, 1, none⟩ = some (.slice a1 za.length c1) := (hB3.cell (by go_simp)).trans (by go_simp)
  have x2 : w3.cell? ⟨w2.heap.size, 2, none⟩ = some (.int .i64 oa) := (hB3.cell (by go_simp)).trans (by go_simp)
  have x3 : w3.cell? ⟨w2.heap.size, 3, none⟩ = some (.bool pa) := (hB3.cell (by go_simp)).trans (by go_simp)
  have x4 : w3.cell? ⟨w2.heap.size, 4, none⟩ = some (.slice a2 xa.length c2) := (hB3.cell (by go_simp)).trans (by go_simp)
  have x5 : w3.cell? ⟨w2.heap.size, 5, none⟩ = some (.bool pla) := (hB3.cell (by go_simp)).trans (by go_simp)
  have x6 : w3.cell? ⟨w2.heap.size, 6, none⟩ = some (.string ⟨ga.toArray⟩) := (hB3.cell (by go_simp)).trans (by go_simp)
  have X : ∀ k u, w3.cell? ⟨w2.heap.size, k, none⟩ = some u → ∀ o, (w3.alloc o).cell? ⟨w2.heap.size, k, none⟩ = some u := fun k u h o => (World.cell?_alloc_lt _ _ _ (by show w2.heap.size < _; omega)).trans h
  have y0 := X _ _ x0
  have y1 := X _ _ x1
  have y2 := X _ _ x2
  have y3 := X _ _ x3
  have y4 := X _ _ x4
  have y5 := X _ _ x5
  have y6 := X _ _ x6
  clear hB2 hB3 X bx by3 R1 R2 Q1 Q2 r1 r2 q1 q2
  go_wp2_with fail
  refine (Hs.out a1 b1 a2 b2 c1 d1 c2 d2 _ HRd.out.1 HRd.out.2.1 HRd.out.2.2.1 HRd.out.2.2.2).mono ?_
  rintro e w5 ⟨rfl, hB5⟩
  have z0 : w5.cell? ⟨w2.heap.size, 0, none⟩ = some (.bool ma) := (hB5.cell (by simp; omega)).trans (y0 _)
  have z1 : w5.cell? ⟨w2.heap.size, 1, none⟩ = some (.slice a1 za.length c1) := (hB5.cell (by simp; omega)).trans (y1 _)
  have v0 : w5.cell? ⟨w3.heap.size, 0, none⟩ = some (.bool mb) := (hB5.cell (by simp)).trans (by go_simp)
  have v1 : w5.cell? ⟨w3.heap.size, 1, none⟩ = some (.slice b1 zb.length d1) := (hB5.cell (by simp)).trans (by go_simp)
  have hL5 : Below w.heap.size w w5 := Below.trans hL (Below.mono hB5 (by simp; omega))
  clear hB5 HRd hL
  cases ma <;> cases mb <;> cases ua <;> cases ub
  all_goals
    have Hf := HR.out
    simp only [cmpRV, Bool.and_true, Bool.and_false, if_true, if_false, Bool.false_eq_true, reduceCtorEq] at Hf
    have Hf' : Hid (R = _) := Hf
    clear Hf HR
    go_wp2
    go_ret2
    rw [Hf'.out]
    exact ⟨rfl, hL5⟩

end Go.Proofs.YtgkbbcoagnilgaaDoor
