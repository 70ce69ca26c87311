import Derived.Test.YtkfchdmlemcjhaaDoorKf0
import Derived.Test.YtkfchdmlemcjhaaDoorKa
import Derived.Test.YtkfchdmlemcjhaaDoorTY
import Derived.Test.YtkfchdmlemcjhaaDoorGd
import Derived.Test.YtkfchdmlemcjhaaDoorGw
import Derived.Deep.RegionWith
namespace Go.Proofs.YtkfchdmlemcjhaaDoor
open Go.RowKit Go.Shelf
set_option maxRecDepth 100000

theorem mem_ltB (v : List Nd) (a : Int) (key : List UInt8) : memF v a key = -1 ∨ ∃ k : Nat, k < v.length ∧ memF v a key = (k : Int) := by
  unfold memF
  split
  · rcases memL_in v key (kidsF v a) with h | ⟨k, hk, e, _⟩
    · exact .inl h
    · exact .inr ⟨k, kidsF_lt k hk, e⟩
  · exact .inl rfl
def crvT : List UInt8 := [99, 114, 118]
def sigT : List UInt8 := [115, 105, 103]
def verT : List UInt8 := [118, 101, 114, 105, 102, 121]
def memN (v : List Nd) (nm : List UInt8) : Nd := v.getD (memF v 0 nm).toNat (nd0 0)
/-- Is the value an object with that member, a string of that text? -/
def saysE (v : List Nd) (nm tx : List UInt8) : Bool := shapedF v && (decide (memF v 0 nm ≥ 0) && ((memN v nm).kind == 5 && ((memN v nm).text == tx)))

set_option maxHeartbeats 8000000 in
theorem saysK_any (ao : Option Addr) (cap : Nat) (l : List Nd) (nm tx : List UInt8) (w : World) (h : NR w (.slice ao l.length cap) l ao cap) (hG : GL w.heap.size w) (ht : TB l) (hl : l.length ≤ 1000000000) :
    Calls Tryd.prog 19 #[.slice ao l.length cap, .string ⟨nm.toArray⟩, .string ⟨tx.toArray⟩] w fun r w' => r = .returned (.bool (saysE l nm tx)) ∧ Below w.heap.size w w' := by
  have CS := shaped_any (.slice ao l.length cap) l ao cap w h hG ht hl
  have H : Hid (∀ wq, Below w.heap.size w wq → NR wq (.slice ao l.length cap) l ao cap) := fun wq hq => h.below hq (Nat.le_refl _)
  have HM : Hid (∀ wq, Below w.heap.size w wq → Calls Tryd.prog 28 #[.slice ao l.length cap, .int .i64 0, .string ⟨nm.toArray⟩] wq fun e w' => e = .returned (.int .i64 (memF l 0 nm)) ∧ Below wq.heap.size wq w') := fun wq hq => member_any _ l ao cap 0 nm wq (h.below hq (Nat.le_refl _)) hl
  obtain ⟨sh, hsh⟩ : ∃ b, shapedF l = b := ⟨_, rfl⟩
  have HSH : Hid (shapedF l = sh) := hsh
  rw [hsh] at CS
  clear h hG ht hsh
  go_enter Tryd.func19, Tryd.ntmps19
  go_wp2_with fail
  refine CS.mono ?_
  clear CS
  rintro r w1 ⟨rfl, hb⟩
  have HB1 : Hid (Below w.heap.size w w1) := hb
  clear hb
  cases sh
  · go_wp2
    go_ret
    exact ⟨by rw [saysE, HSH.out]; rfl, HB1.out⟩
  · have CM := HM.out w1 HB1.out
    rcases mem_ltB l 0 nm with hm | ⟨k, hk, hm⟩
    · have HA : Hid (saysE l nm tx = false) := by show _ = _; unfold saysE; rw [hm]; simp
      rw [hm] at CM
      clear hm
      go_wp2_with fail
      refine CM.mono ?_
      clear CM
      rintro r w2 ⟨rfl, hb⟩
      have HB2 : Hid (Below w.heap.size w w2) := HB1.out.trans (hb.mono HB1.out.size)
      clear hb
      go_wp2
      go_ret
      exact ⟨by rw [HA.out]; rfl, HB2.out⟩
    · obtain ⟨nd, hnd⟩ : ∃ n, l.getD k (nd0 0) = n := ⟨_, rfl⟩
      have HA : Hid (saysE l nm tx = ((nd.kind == 5) && (nd.text == tx))) := by
        show _ = _
        unfold saysE memN
        rw [HSH.out, hm, Int.toNat_natCast, hnd, decide_eq_true (by omega), Bool.true_and, Bool.true_and]
      rw [hm] at CM
      have HKN : Hid (l.getD k (nd0 0) = nd) := hnd
      have q0 : decide ((k : Int) ≥ 0) = true := decide_eq_true (by omega)
      have q1 : (k : Int) < (l.length : Int) := by omega
      clear hm hnd
      go_wp2_with fail
      refine CM.mono ?_
      clear CM
      rintro r w2 ⟨rfl, hb⟩
      have HB2 : Hid (Below w.heap.size w w2) := HB1.out.trans (hb.mono HB1.out.size)
      obtain ⟨g, off, rfl, hc⟩ := (H.out w2 HB2.out).at hk
      rw [HKN.out] at hc
      have c0 := hc 0 _ (by decide) rfl
      have c2 := hc 2 _ (by decide) rfl
      rw [Nat.add_zero] at c0
      clear hb hc
      by_cases h5 : nd.kind = 5
      · have q5 : (nd.kind == (5 : Int)) = true := by simp [h5]
        go_wp2
        go_ret
        exact ⟨by rw [HA.out, q5, Bool.true_and]; rfl, HB2.out⟩
      · have q5 : (nd.kind == (5 : Int)) = false := by simpa using h5
        go_wp2
        go_ret
        exact ⟨by rw [HA.out, q5, Bool.false_and]; rfl, HB2.out⟩

/-- Is the key of the algorithm's type, and on its curve? -/
def fitsE (kty : Int) (crv : List UInt8) (e : En) : Bool := (e.kty == kty) && ((crv == []) || saysE e.val crvT crv)

set_option maxHeartbeats 8000000 in
theorem fitsK_any (nm : List UInt8) (kty : Int) (crv : List UInt8) (x : Ex) (w : World) (h : XR w x) (hG : GL w.heap.size w) (ht : TB x.e.val) (hl : x.e.val.length ≤ 1000000000) :
    Calls Tryd.prog 12 #[.agg #[.string ⟨nm.toArray⟩, .int .i64 kty, .string ⟨crv.toArray⟩], .agg #[.slice x.va x.e.val.length x.vc, .int .i64 x.e.kty, .string ⟨x.e.kid.toArray⟩, .bool x.e.hKid, .string ⟨x.e.use.toArray⟩, .bool x.e.hUse, .string ⟨x.e.alg.toArray⟩, .bool x.e.hAlg, .slice x.aa x.e.ops.length x.ac, .bool x.e.hOps]] w fun r w' => r = .returned (.bool (fitsE kty crv x.e)) ∧ Below w.heap.size w w' := by
  obtain ⟨W, hW⟩ : ∃ y, (w.alloc (.cells #[.string ⟨nm.toArray⟩, .int .i64 kty, .string ⟨crv.toArray⟩] 42)).alloc (.cells #[.slice x.va x.e.val.length x.vc, .int .i64 x.e.kty, .string ⟨x.e.kid.toArray⟩, .bool x.e.hKid, .string ⟨x.e.use.toArray⟩, .bool x.e.hUse, .string ⟨x.e.alg.toArray⟩, .bool x.e.hAlg, .slice x.aa x.e.ops.length x.ac, .bool x.e.hOps] 26) = y := ⟨_, rfl⟩
  have x1 := alloc_below w (.cells #[.string ⟨nm.toArray⟩, .int .i64 kty, .string ⟨crv.toArray⟩] 42)
  have x2 := alloc_below (w.alloc (.cells #[.string ⟨nm.toArray⟩, .int .i64 kty, .string ⟨crv.toArray⟩] 42)) (.cells #[.slice x.va x.e.val.length x.vc, .int .i64 x.e.kty, .string ⟨x.e.kid.toArray⟩, .bool x.e.hKid, .string ⟨x.e.use.toArray⟩, .bool x.e.hUse, .string ⟨x.e.alg.toArray⟩, .bool x.e.hAlg, .slice x.aa x.e.ops.length x.ac, .bool x.e.hOps] 26)
  have x3 : Bl 42 _ _ [.string ⟨nm.toArray⟩, .int .i64 kty, .string ⟨crv.toArray⟩] := alloc_bl w [.string ⟨nm.toArray⟩, .int .i64 kty, .string ⟨crv.toArray⟩] 42
  have x4 : Bl 26 _ _ [.slice x.va x.e.val.length x.vc, .int .i64 x.e.kty, .string ⟨x.e.kid.toArray⟩, .bool x.e.hKid, .string ⟨x.e.use.toArray⟩, .bool x.e.hUse, .string ⟨x.e.alg.toArray⟩, .bool x.e.hAlg, .slice x.aa x.e.ops.length x.ac, .bool x.e.hOps] := alloc_bl (w.alloc (.cells #[.string ⟨nm.toArray⟩, .int .i64 kty, .string ⟨crv.toArray⟩] 42)) [.slice x.va x.e.val.length x.vc, .int .i64 x.e.kty, .string ⟨x.e.kid.toArray⟩, .bool x.e.hKid, .string ⟨x.e.use.toArray⟩, .bool x.e.hUse, .string ⟨x.e.alg.toArray⟩, .bool x.e.hAlg, .slice x.aa x.e.ops.length x.ac, .bool x.e.hOps] 26
  have x5 : Bl 42 W w.heap.size [.string ⟨nm.toArray⟩, .int .i64 kty, .string ⟨crv.toArray⟩] := by rw [← hW]; exact x3.below x2 x3.lt
  have x6 : Bl 26 W (w.heap.size + 1) [.slice x.va x.e.val.length x.vc, .int .i64 x.e.kty, .string ⟨x.e.kid.toArray⟩, .bool x.e.hKid, .string ⟨x.e.use.toArray⟩, .bool x.e.hUse, .string ⟨x.e.alg.toArray⟩, .bool x.e.hAlg, .slice x.aa x.e.ops.length x.ac, .bool x.e.hOps] := by rw [alloc_size] at x4; rw [← hW]; exact x4
  have hB : Below w.heap.size w W := by rw [← hW]; exact x1.trans (x2.mono x1.size)
  have HW : Hid ((w.alloc (.cells #[.string ⟨nm.toArray⟩, .int .i64 kty, .string ⟨crv.toArray⟩] 42)).alloc (.cells #[.slice x.va x.e.val.length x.vc, .int .i64 x.e.kty, .string ⟨x.e.kid.toArray⟩, .bool x.e.hKid, .string ⟨x.e.use.toArray⟩, .bool x.e.hUse, .string ⟨x.e.alg.toArray⟩, .bool x.e.hAlg, .slice x.aa x.e.ops.length x.ac, .bool x.e.hOps] 26) = W) := hW
  have a1 := x5.cell 1 (by simp)
  have a2 := x5.cell 2 (by simp)
  have b0 := x6.cell 0 (by simp)
  have b1 := x6.cell 1 (by simp)
  dsimp only [List.getElem_cons_zero, List.getElem_cons_succ] at a1 a2 b0 b1
  have C := saysK_any x.va x.vc x.e.val crvT crv W (h.below hB).nr ((hG.below hB).up hB.size) ht hl
  have HB : Hid (Below w.heap.size w W) := hB
  clear h hG ht x1 x2 x3 x4 x5 x6 hB hW
  unfold crvT at C
  go_enter Tryd.func12, Tryd.ntmps12
  go_upto_region 1 with fail
  rw [HW.out]
  clear HW
  by_cases hk : x.e.kty = kty
  · have q1 : (x.e.kty != kty) = false := by simp [hk]
    by_cases hc : crv = []
    · have HA : Hid (fitsE kty crv x.e = true) := by show _ = _; unfold fitsE; rw [hk, hc]; simp
      subst hc
      clear hk
      go_wp2
      go_ret
      exact ⟨by rw [HA.out]; rfl, HB.out⟩
    · have q2 : (crv == []) = false := by simpa using hc
      have HA : Hid (fitsE kty crv x.e = saysE x.e.val crvT crv) := by show _ = _; unfold fitsE; rw [hk, q2]; simp
      clear hk hc
      go_wp2_with fail
      refine C.mono ?_
      clear C
      rintro r w1 ⟨rfl, hb⟩
      have HB1 : Hid (Below w.heap.size w w1) := HB.out.trans (hb.mono HB.out.size)
      clear hb
      go_wp2
      go_ret
      exact ⟨by rw [HA.out]; rfl, HB1.out⟩
  · have q1 : (x.e.kty != kty) = true := by simpa using hk
    have HA : Hid (fitsE kty crv x.e = false) := by
      have h1 : (x.e.kty == kty) = false := by simpa using hk
      show _ = _
      unfold fitsE
      rw [h1, Bool.false_and]
    clear hk
    go_wp2
    go_ret
    exact ⟨by rw [HA.out]; rfl, HB.out⟩

end Go.Proofs.YtkfchdmlemcjhaaDoor

namespace Go.Proofs.YtkfchdmlemcjhaaDoor
open Go.RowKit Go.Shelf
set_option maxRecDepth 100000

/-- Do use, alg and key_ops leave the key to that algorithm's signatures? -/
def allowsE (e : En) (name : List UInt8) : Bool := !(e.hUse && (e.use != sigT)) && (!(e.hAlg && (e.alg != name)) && (!e.hOps || decide (verT ∈ e.ops)))
set_option maxHeartbeats 8000000 in
theorem allowsK_any (x : Ex) (name : List UInt8) (w : World) (h : XR w x) (hl : x.e.ops.length ≤ 1000000000) :
    Calls Tryd.prog 13 #[.agg #[.slice x.va x.e.val.length x.vc, .int .i64 x.e.kty, .string ⟨x.e.kid.toArray⟩, .bool x.e.hKid, .string ⟨x.e.use.toArray⟩, .bool x.e.hUse, .string ⟨x.e.alg.toArray⟩, .bool x.e.hAlg, .slice x.aa x.e.ops.length x.ac, .bool x.e.hOps], .string ⟨name.toArray⟩] w fun r w' => r = .returned (.bool (allowsE x.e name)) ∧ Below w.heap.size w w' := by
  obtain ⟨W, hW⟩ : ∃ y, w.alloc (.cells #[.slice x.va x.e.val.length x.vc, .int .i64 x.e.kty, .string ⟨x.e.kid.toArray⟩, .bool x.e.hKid, .string ⟨x.e.use.toArray⟩, .bool x.e.hUse, .string ⟨x.e.alg.toArray⟩, .bool x.e.hAlg, .slice x.aa x.e.ops.length x.ac, .bool x.e.hOps] 26) = y := ⟨_, rfl⟩
  have x1 := alloc_below w (.cells #[.slice x.va x.e.val.length x.vc, .int .i64 x.e.kty, .string ⟨x.e.kid.toArray⟩, .bool x.e.hKid, .string ⟨x.e.use.toArray⟩, .bool x.e.hUse, .string ⟨x.e.alg.toArray⟩, .bool x.e.hAlg, .slice x.aa x.e.ops.length x.ac, .bool x.e.hOps] 26)
  have x3 : Bl 26 _ _ [.slice x.va x.e.val.length x.vc, .int .i64 x.e.kty, .string ⟨x.e.kid.toArray⟩, .bool x.e.hKid, .string ⟨x.e.use.toArray⟩, .bool x.e.hUse, .string ⟨x.e.alg.toArray⟩, .bool x.e.hAlg, .slice x.aa x.e.ops.length x.ac, .bool x.e.hOps] := alloc_bl w [.slice x.va x.e.val.length x.vc, .int .i64 x.e.kty, .string ⟨x.e.kid.toArray⟩, .bool x.e.hKid, .string ⟨x.e.use.toArray⟩, .bool x.e.hUse, .string ⟨x.e.alg.toArray⟩, .bool x.e.hAlg, .slice x.aa x.e.ops.length x.ac, .bool x.e.hOps] 26
  rw [hW] at x1 x3
  have HW : Hid (w.alloc (.cells #[.slice x.va x.e.val.length x.vc, .int .i64 x.e.kty, .string ⟨x.e.kid.toArray⟩, .bool x.e.hKid, .string ⟨x.e.use.toArray⟩, .bool x.e.hUse, .string ⟨x.e.alg.toArray⟩, .bool x.e.hAlg, .slice x.aa x.e.ops.length x.ac, .bool x.e.hOps] 26) = W) := hW
  have b4 := x3.cell 4 (by simp)
  have b5 := x3.cell 5 (by simp)
  have b6 := x3.cell 6 (by simp)
  have b7 := x3.cell 7 (by simp)
  have b8 := x3.cell 8 (by simp)
  have b9 := x3.cell 9 (by simp)
  dsimp only [List.getElem_cons_zero, List.getElem_cons_succ] at b4 b5 b6 b7 b8 b9
  have C := contains_any x.aa x.ac x.e.ops verT W (h.below x1).tr (by omega)
  have HB : Hid (Below w.heap.size w W) := x1
  unfold verT at C
  obtain ⟨e, va, vc, aa, ac⟩ := x
  obtain ⟨val, kty, kid, hKid, use, hUse, alg, hAlg, ops, hOps⟩ := e
  dsimp only at *
  clear h x1 x3 hW
  go_enter Tryd.func13, Tryd.ntmps13
  go_upto_region 1 with fail
  rw [HW.out]
  clear HW
  by_cases hu : hUse = true ∧ use ≠ sigT
  · obtain ⟨rfl, hu⟩ := hu
    have q0 : (use != sigT) = true := by simpa using hu
    have q1 : (use != [115, 105, 103]) = true := q0
    have q1b : (use == [115, 105, 103]) = false := by
      have h : (use == sigT) = false := by simpa using hu
      exact h
    have q1c : ¬ (use = [115, 105, 103]) := hu
    have HA : Hid (allowsE ⟨val, kty, kid, hKid, use, true, alg, hAlg, ops, hOps⟩ name = false) := by
      show _ = _
      simp [allowsE, q0]
    clear hu C q0
    go_wp2
    go_ret
    exact ⟨by rw [HA.out]; rfl, HB.out⟩
  · have hu2 : hUse = false ∨ use = [115, 105, 103] := by
      cases hUse
      · exact .inl rfl
      · right
        by_cases h : use = sigT
        · exact h
        · exact absurd ⟨rfl, h⟩ hu
    by_cases ha : hAlg = true ∧ alg ≠ name
    · obtain ⟨rfl, ha⟩ := ha
      have q2 : (alg != name) = true := by simpa using ha
      have q2b : (alg == name) = false := by simpa using ha
      have q2c : ¬ (alg = name) := ha
      have HA : Hid (allowsE ⟨val, kty, kid, hKid, use, hUse, alg, true, ops, hOps⟩ name = false) := by
        show _ = _
        simp [allowsE, q2]
      clear ha hu C
      rcases hu2 with rfl | rfl
      · go_wp2
        go_ret
        exact ⟨by rw [HA.out]; rfl, HB.out⟩
      · cases hUse
        · go_wp2
          go_ret
          exact ⟨by rw [HA.out]; rfl, HB.out⟩
        · go_wp2
          go_ret
          exact ⟨by rw [HA.out]; rfl, HB.out⟩
    · have ha2 : hAlg = false ∨ name = alg := by
        cases hAlg
        · exact .inl rfl
        · right
          by_cases h : alg = name
          · exact h.symm
          · exact absurd ⟨rfl, h⟩ ha
      have HA : Hid (allowsE ⟨val, kty, kid, hKid, use, hUse, alg, hAlg, ops, hOps⟩ name = (!hOps || decide (verT ∈ ops))) := by
        show _ = _
        rcases hu2 with h1 | h1 <;> rcases ha2 with h2 | h2 <;> simp [allowsE, h1, h2, sigT]
      clear ha hu
      have HD : Hid (decide (verT ∈ ops) = decide (([118, 101, 114, 105, 102, 121] : List UInt8) ∈ ops)) := rfl
      have fin : ∀ (a0 : Unit), True := fun _ => trivial
      clear fin
      rcases hu2 with rfl | rfl <;> rcases ha2 with rfl | rfl
      all_goals (try cases hUse) <;> (try cases hAlg) <;> cases hOps
      all_goals first
        | (go_wp2; go_ret; exact ⟨by rw [HA.out]; rfl, HB.out⟩)
        | (go_wp2_with fail
           refine C.mono ?_
           clear C
           rintro r w1 ⟨rfl, rfl⟩
           go_wp2
           go_ret
           exact ⟨by rw [HA.out]; rfl, HB.out⟩)

end Go.Proofs.YtkfchdmlemcjhaaDoor

namespace Go.Proofs.YtkfchdmlemcjhaaDoor
open Go.RowKit Go.Shelf
set_option maxRecDepth 100000

/-- Does the entry go with the algorithm? -/
def bindE (e : En) (a : Int) : Int := if nameF' a = [] then 105 else if (fitsE (algK a.toNat) (algC a.toNat) e && allowsE e (nameF' a)) = true then 0 else 105

set_option maxHeartbeats 16000000 in
theorem bindK_any (x : Ex) (a : Int) (w : World) (h : XR w x) (hA : Alg w) (hG : GL w.heap.size w) (ht : TB x.e.val) (hl : x.e.val.length ≤ 1000000000) (hl2 : x.e.ops.length ≤ 1000000000) (hgl : 0 < w.heap.size) :
    Calls Tryd.prog 6 #[.agg #[.slice x.va x.e.val.length x.vc, .int .i64 x.e.kty, .string ⟨x.e.kid.toArray⟩, .bool x.e.hKid, .string ⟨x.e.use.toArray⟩, .bool x.e.hUse, .string ⟨x.e.alg.toArray⟩, .bool x.e.hAlg, .slice x.aa x.e.ops.length x.ac, .bool x.e.hOps], .int .i64 a] w fun r w' => r = .returned (.int .i64 (bindE x.e a)) ∧ Below w.heap.size w w' := by
  obtain ⟨W, hW⟩ : ∃ y, w.alloc (.cells #[.slice x.va x.e.val.length x.vc, .int .i64 x.e.kty, .string ⟨x.e.kid.toArray⟩, .bool x.e.hKid, .string ⟨x.e.use.toArray⟩, .bool x.e.hUse, .string ⟨x.e.alg.toArray⟩, .bool x.e.hAlg, .slice x.aa x.e.ops.length x.ac, .bool x.e.hOps] 26) = y := ⟨_, rfl⟩
  have x1 := alloc_below w (.cells #[.slice x.va x.e.val.length x.vc, .int .i64 x.e.kty, .string ⟨x.e.kid.toArray⟩, .bool x.e.hKid, .string ⟨x.e.use.toArray⟩, .bool x.e.hUse, .string ⟨x.e.alg.toArray⟩, .bool x.e.hAlg, .slice x.aa x.e.ops.length x.ac, .bool x.e.hOps] 26)
  have x3 : Bl 26 _ _ [.slice x.va x.e.val.length x.vc, .int .i64 x.e.kty, .string ⟨x.e.kid.toArray⟩, .bool x.e.hKid, .string ⟨x.e.use.toArray⟩, .bool x.e.hUse, .string ⟨x.e.alg.toArray⟩, .bool x.e.hAlg, .slice x.aa x.e.ops.length x.ac, .bool x.e.hOps] := alloc_bl w [.slice x.va x.e.val.length x.vc, .int .i64 x.e.kty, .string ⟨x.e.kid.toArray⟩, .bool x.e.hKid, .string ⟨x.e.use.toArray⟩, .bool x.e.hUse, .string ⟨x.e.alg.toArray⟩, .bool x.e.hAlg, .slice x.aa x.e.ops.length x.ac, .bool x.e.hOps] 26
  rw [hW] at x1 x3
  have HW : Hid (w.alloc (.cells #[.slice x.va x.e.val.length x.vc, .int .i64 x.e.kty, .string ⟨x.e.kid.toArray⟩, .bool x.e.hKid, .string ⟨x.e.use.toArray⟩, .bool x.e.hUse, .string ⟨x.e.alg.toArray⟩, .bool x.e.hAlg, .slice x.aa x.e.ops.length x.ac, .bool x.e.hOps] 26) = W) := hW
  have hAW : Alg W := hA.below x1 hgl
  have CN := kname_any a W hAW
  have HFq : Hid (∀ wq, Below W.heap.size W wq → Calls Tryd.prog 12 #[.agg #[.string ⟨(algN a.toNat).toArray⟩, .int .i64 (algK a.toNat), .string ⟨(algC a.toNat).toArray⟩], .agg #[.slice x.va x.e.val.length x.vc, .int .i64 x.e.kty, .string ⟨x.e.kid.toArray⟩, .bool x.e.hKid, .string ⟨x.e.use.toArray⟩, .bool x.e.hUse, .string ⟨x.e.alg.toArray⟩, .bool x.e.hAlg, .slice x.aa x.e.ops.length x.ac, .bool x.e.hOps]] wq fun r w' => r = .returned (.bool (fitsE (algK a.toNat) (algC a.toNat) x.e)) ∧ Below wq.heap.size wq w') := fun wq hq => by
    have hb := x1.trans (hq.mono x1.size)
    exact fitsK_any (algN a.toNat) (algK a.toNat) (algC a.toNat) x wq (h.below hb) ((hG.below hb).up hb.size) ht hl
  have HLq : Hid (∀ wq, Below W.heap.size W wq → Calls Tryd.prog 13 #[.agg #[.slice x.va x.e.val.length x.vc, .int .i64 x.e.kty, .string ⟨x.e.kid.toArray⟩, .bool x.e.hKid, .string ⟨x.e.use.toArray⟩, .bool x.e.hUse, .string ⟨x.e.alg.toArray⟩, .bool x.e.hAlg, .slice x.aa x.e.ops.length x.ac, .bool x.e.hOps], .string ⟨(algN a.toNat).toArray⟩] wq fun r w' => r = .returned (.bool (allowsE x.e (algN a.toNat))) ∧ Below wq.heap.size wq w') := fun wq hq => allowsK_any x (algN a.toNat) wq (h.below (x1.trans (hq.mono x1.size))) hl2
  have HB : Hid (Below w.heap.size w W) := x1
  obtain ⟨e, va, vc, aa, ac⟩ := x
  obtain ⟨val, kty, kid, hKid, use, hUse, alg, hAlg, ops, hOps⟩ := e
  dsimp only at *
  have HK : Hid (∀ wq, Below W.heap.size W wq → wq.cell? ⟨w.heap.size, 0, none⟩ = some (.slice va val.length vc) ∧ wq.cell? ⟨w.heap.size, 1, none⟩ = some (.int .i64 kty) ∧ wq.cell? ⟨w.heap.size, 2, none⟩ = some (.string ⟨kid.toArray⟩) ∧ wq.cell? ⟨w.heap.size, 3, none⟩ = some (.bool hKid) ∧ wq.cell? ⟨w.heap.size, 4, none⟩ = some (.string ⟨use.toArray⟩) ∧ wq.cell? ⟨w.heap.size, 5, none⟩ = some (.bool hUse) ∧ wq.cell? ⟨w.heap.size, 6, none⟩ = some (.string ⟨alg.toArray⟩) ∧ wq.cell? ⟨w.heap.size, 7, none⟩ = some (.bool hAlg) ∧ wq.cell? ⟨w.heap.size, 8, none⟩ = some (.slice aa ops.length ac) ∧ wq.cell? ⟨w.heap.size, 9, none⟩ = some (.bool hOps)) := fun wq hq => by
    have b := x3.below hq x3.lt
    exact ⟨b.cell 0 (by simp), b.cell 1 (by simp), b.cell 2 (by simp), b.cell 3 (by simp), b.cell 4 (by simp), b.cell 5 (by simp), b.cell 6 (by simp), b.cell 7 (by simp), b.cell 8 (by simp), b.cell 9 (by simp)⟩
  clear h hA hG x1 x3 hW
  go_enter Tryd.func6, Tryd.ntmps6
  go_upto_region 1 with fail
  rw [HW.out]
  clear HW
  go_wp2_with fail
  refine CN.mono ?_
  clear CN
  rintro r w1 ⟨rfl, hw1⟩
  obtain rfl : W = w1 := hw1.symm
  by_cases hn : nameF' a = []
  · have HA : Hid (bindE ⟨val, kty, kid, hKid, use, hUse, alg, hAlg, ops, hOps⟩ a = 105) := by show _ = _; unfold bindE; rw [if_pos hn]
    rw [hn]
    clear HFq HLq hn hAW
    go_wp2
    go_region
    all_goals (
      have HZ : Hid (Below w.heap.size w (World.drew W)) := below_drewN HB.out 1
      go_wp2
      go_ret
      exact ⟨by rw [HA.out]; rfl, HZ.out⟩)
  · have hr : 0 ≤ a ∧ a < 13 := by
      by_cases h : 0 ≤ a ∧ a < 13
      · exact h
      · exact absurd (by unfold nameF'; rw [if_neg h]) hn
    obtain ⟨k, rfl⟩ : ∃ k : Nat, a = (k : Int) := ⟨a.toNat, by omega⟩
    rw [Int.toNat_natCast] at HFq HLq
    have hk : k < 13 := by omega
    have hnk : nameF' (k : Int) = algN k := by unfold nameF'; rw [if_pos hr, Int.toNat_natCast]
    have h1k : 1 ≤ k := by
      rcases Nat.eq_zero_or_pos k with rfl | h
      · exact absurd rfl hn
      · exact h
    obtain ⟨t0, t1, t2⟩ := alg_cell hAW hk
    have qk : (k : Int) < 13 := by omega
    rw [hnk]
    obtain ⟨b0, b1, b2, b3, b4, b5, b6, b7, b8, b9⟩ := HK.out W (Below.refl _ _)
    clear hn hAW hr
    go_wp2
    cases hf : fitsE (algK k) (algC k) ⟨val, kty, kid, hKid, use, hUse, alg, hAlg, ops, hOps⟩
    · have HA : Hid (bindE ⟨val, kty, kid, hKid, use, hUse, alg, hAlg, ops, hOps⟩ (k : Int) = 105) := by
        show _ = _
        unfold bindE
        rw [if_neg (by rw [hnk]; exact alg_ne k hk h1k), hnk, Int.toNat_natCast, hf, Bool.false_and]
        rfl
      have HF : Hid (∀ wq, Below W.heap.size W wq → Calls Tryd.prog 12 #[.agg #[.string ⟨(algN k).toArray⟩, .int .i64 (algK k), .string ⟨(algC k).toArray⟩], .agg #[.slice va val.length vc, .int .i64 kty, .string ⟨kid.toArray⟩, .bool hKid, .string ⟨use.toArray⟩, .bool hUse, .string ⟨alg.toArray⟩, .bool hAlg, .slice aa ops.length ac, .bool hOps]] wq fun r w' => r = .returned (.bool false) ∧ Below wq.heap.size wq w') := fun wq hq => by
        have := HFq.out wq hq
        rw [hf] at this
        exact this
      clear hf HFq HLq
      have qn2 : (algN k == []) = false := by simpa using alg_ne k hk h1k
      generalize algN k = nk at *
      generalize algK k = kk at *
      generalize algC k = ck at *
      clear hnk
      first | (go_region_with (first | (go_at_call 12; refine (HF.out _ (by first | exact below_drewN (Below.refl _ _) 1 | exact Below.refl _ _)).mono ?_; rintro r w1 ⟨rfl, hb5⟩; have hb6 : Below W.heap.size W w1 := (below_drewN (Below.refl _ _) 1).trans hb5))) | fail
      all_goals (
        have HZ : Hid (Below w.heap.size w w1) := HB.out.trans (hb6.mono HB.out.size)
        go_wp2
        go_ret
        exact ⟨by rw [HA.out]; rfl, HZ.out⟩)
    · cases ha : allowsE ⟨val, kty, kid, hKid, use, hUse, alg, hAlg, ops, hOps⟩ (algN k)
      · have HA : Hid (bindE ⟨val, kty, kid, hKid, use, hUse, alg, hAlg, ops, hOps⟩ (k : Int) = 105) := by
          show _ = _
          unfold bindE
          rw [if_neg (by rw [hnk]; exact alg_ne k hk h1k), hnk, Int.toNat_natCast, hf, ha, Bool.true_and]
          rfl
        have HF : Hid (∀ wq, Below W.heap.size W wq → Calls Tryd.prog 12 #[.agg #[.string ⟨(algN k).toArray⟩, .int .i64 (algK k), .string ⟨(algC k).toArray⟩], .agg #[.slice va val.length vc, .int .i64 kty, .string ⟨kid.toArray⟩, .bool hKid, .string ⟨use.toArray⟩, .bool hUse, .string ⟨alg.toArray⟩, .bool hAlg, .slice aa ops.length ac, .bool hOps]] wq fun r w' => r = .returned (.bool true) ∧ Below wq.heap.size wq w') := fun wq hq => by
          have := HFq.out wq hq
          rw [hf] at this
          exact this
        have HL : Hid (∀ wq, Below W.heap.size W wq → Calls Tryd.prog 13 #[.agg #[.slice va val.length vc, .int .i64 kty, .string ⟨kid.toArray⟩, .bool hKid, .string ⟨use.toArray⟩, .bool hUse, .string ⟨alg.toArray⟩, .bool hAlg, .slice aa ops.length ac, .bool hOps], .string ⟨(algN k).toArray⟩] wq fun r w' => r = .returned (.bool false) ∧ Below wq.heap.size wq w') := fun wq hq => by
          have := HLq.out wq hq
          rw [ha] at this
          exact this
        clear hf ha HFq HLq
        have qn2 : (algN k == []) = false := by simpa using alg_ne k hk h1k
        generalize algN k = nk at *
        generalize algK k = kk at *
        generalize algC k = ck at *
        clear hnk
        first | (go_region_with (first | (go_at_call 12; refine (HF.out _ (by first | exact below_drewN (Below.refl _ _) 1 | exact Below.refl _ _)).mono ?_; rintro r w1 ⟨rfl, hb5⟩; have hb6 : Below W.heap.size W w1 := (below_drewN (Below.refl _ _) 1).trans hb5; obtain ⟨b0, b1, b2, b3, b4, b5, b6, b7, b8, b9⟩ := HK.out w1 hb6) | (go_at_call 13; refine (HL.out _ hb6).mono ?_; rintro r w2 ⟨rfl, hb8⟩))) | fail
        all_goals (
          have HZ : Hid (Below w.heap.size w w2) := (HB.out.trans (hb6.mono HB.out.size)).trans (hb8.mono (Nat.le_trans HB.out.size hb6.size))
          go_wp2
          go_ret
          exact ⟨by rw [HA.out]; rfl, HZ.out⟩)
      · have HA : Hid (bindE ⟨val, kty, kid, hKid, use, hUse, alg, hAlg, ops, hOps⟩ (k : Int) = 0) := by
          show _ = _
          unfold bindE
          rw [if_neg (by rw [hnk]; exact alg_ne k hk h1k), hnk, Int.toNat_natCast, hf, ha, Bool.true_and]
          rfl
        have HF : Hid (∀ wq, Below W.heap.size W wq → Calls Tryd.prog 12 #[.agg #[.string ⟨(algN k).toArray⟩, .int .i64 (algK k), .string ⟨(algC k).toArray⟩], .agg #[.slice va val.length vc, .int .i64 kty, .string ⟨kid.toArray⟩, .bool hKid, .string ⟨use.toArray⟩, .bool hUse, .string ⟨alg.toArray⟩, .bool hAlg, .slice aa ops.length ac, .bool hOps]] wq fun r w' => r = .returned (.bool true) ∧ Below wq.heap.size wq w') := fun wq hq => by
          have := HFq.out wq hq
          rw [hf] at this
          exact this
        have HL : Hid (∀ wq, Below W.heap.size W wq → Calls Tryd.prog 13 #[.agg #[.slice va val.length vc, .int .i64 kty, .string ⟨kid.toArray⟩, .bool hKid, .string ⟨use.toArray⟩, .bool hUse, .string ⟨alg.toArray⟩, .bool hAlg, .slice aa ops.length ac, .bool hOps], .string ⟨(algN k).toArray⟩] wq fun r w' => r = .returned (.bool true) ∧ Below wq.heap.size wq w') := fun wq hq => by
          have := HLq.out wq hq
          rw [ha] at this
          exact this
        clear hf ha HFq HLq
        have qn2 : (algN k == []) = false := by simpa using alg_ne k hk h1k
        generalize algN k = nk at *
        generalize algK k = kk at *
        generalize algC k = ck at *
        clear hnk
        first | (go_region_with (first | (go_at_call 12; refine (HF.out _ (by first | exact below_drewN (Below.refl _ _) 1 | exact Below.refl _ _)).mono ?_; rintro r w1 ⟨rfl, hb5⟩; have hb6 : Below W.heap.size W w1 := (below_drewN (Below.refl _ _) 1).trans hb5; obtain ⟨b0, b1, b2, b3, b4, b5, b6, b7, b8, b9⟩ := HK.out w1 hb6) | (go_at_call 13; refine (HL.out _ hb6).mono ?_; rintro r w2 ⟨rfl, hb8⟩))) | fail
        all_goals (
          have HZ : Hid (Below w.heap.size w w2) := (HB.out.trans (hb6.mono HB.out.size)).trans (hb8.mono (Nat.le_trans HB.out.size hb6.size))
          go_wp2
          go_ret
          exact ⟨by rw [HA.out]; rfl, HZ.out⟩)

end Go.Proofs.YtkfchdmlemcjhaaDoor

namespace Go.Proofs.YtkfchdmlemcjhaaDoor
open Go.RowKit Go.Shelf
set_option maxRecDepth 100000

def wK (a : Int) : Int := if 1 ≤ a ∧ a ≤ 12 then algK a.toNat else 0
def wC (a : Int) : List UInt8 := if 1 ≤ a ∧ a ≤ 12 then algC a.toNat else []
theorem alg_cases (a : Int) : (a = 1 ∨ a = 2 ∨ a = 3 ∨ a = 4 ∨ a = 5 ∨ a = 6 ∨ a = 7 ∨ a = 8 ∨ a = 9 ∨ a = 10 ∨ a = 11 ∨ a = 12) ∨ ¬ (1 ≤ a ∧ a ≤ 12) := by omega
set_option maxHeartbeats 8000000 in
theorem rwants_any (a : Int) (w : World) : Calls Tryd.prog 16 #[.int .i64 a] w fun r w' => r = .returned (.tuple #[.int .i64 (wK a), .string ⟨(wC a).toArray⟩]) ∧ w' = w := by
  rcases alg_cases a with h | h
  · rcases h with rfl | rfl | rfl | rfl | rfl | rfl | rfl | rfl | rfl | rfl | rfl | rfl <;>
    · go_enter Tryd.func16, Tryd.ntmps16
      go_wp2
      go_ret2
      exact ⟨rfl, rfl⟩
  · have e1 : wK a = 0 := by unfold wK; rw [if_neg h]
    have e2 : wC a = [] := by unfold wC; rw [if_neg h]
    have HE : Hid (wK a = 0 ∧ wC a = []) := ⟨e1, e2⟩
    have d1 : (a == 1) = false := by simp; omega
    have d2 : (a == 2) = false := by simp; omega
    have d3 : (a == 3) = false := by simp; omega
    have d4 : (a == 4) = false := by simp; omega
    have d5 : (a == 5) = false := by simp; omega
    have d6 : (a == 6) = false := by simp; omega
    have d7 : (a == 7) = false := by simp; omega
    have d8 : (a == 8) = false := by simp; omega
    have d9 : (a == 9) = false := by simp; omega
    have d10 : (a == 10) = false := by simp; omega
    have d11 : (a == 11) = false := by simp; omega
    have d12 : (a == 12) = false := by simp; omega
    clear e1 e2 h
    go_enter Tryd.func16, Tryd.ntmps16
    go_wp2
    go_ret2
    exact ⟨by rw [HE.out.1, HE.out.2]; rfl, rfl⟩
theorem verT_any (ops : List (List UInt8)) : decide (verT ∈ ops) = ops.any (fun s => s == [118, 101, 114, 105, 102, 121]) := by
  induction ops with
  | nil => rfl
  | cons u t ih =>
    rw [List.any_cons, ← ih]
    by_cases h : u = verT
    · subst h; simp [verT]
    · have h2 : (u == [118, 101, 114, 105, 102, 121]) = false := by
        have h3 : (u == verT) = false := by simpa using h
        exact h3
      rw [h2, Bool.false_or]
      have : verT ∈ u :: t ↔ verT ∈ t := by
        rw [List.mem_cons]
        exact ⟨fun h4 => h4.elim (fun h5 => absurd h5.symm h) id, .inr⟩
      simp only [this]

end Go.Proofs.YtkfchdmlemcjhaaDoor
