import Derived.Test.YtkfchdmlemcjhaaDoorKf0
import Derived.Deep.RegionWith
namespace Go.Proofs.YtkfchdmlemcjhaaDoor
open Go.RowKit Go.Shelf

set_option maxRecDepth 100000 in
set_option maxHeartbeats 16000000 in
theorem esame_eq (e : En) (va1 : Option Addr) (vc1 : Nat) (aa1 : Option Addr) (ac1 : Nat) (va2 : Option Addr) (vc2 : Nat) (aa2 : Option Addr) (ac2 : Nat) (w : World)
    (h1 : XR w ⟨e, va1, vc1, aa1, ac1⟩) (h2 : XR w ⟨e, va2, vc2, aa2, ac2⟩) (hl1 : e.val.length ≤ 1000000000) (hl2 : e.ops.length ≤ 1000000000000000000) :
    Calls Tryd.prog 21 #[.agg (xC ⟨e, va1, vc1, aa1, ac1⟩).toArray, .agg (xC ⟨e, va2, vc2, aa2, ac2⟩).toArray] w fun r w' => r = .returned (.bool true) ∧ Below w.heap.size w w' := by
  obtain ⟨val, kty, kid, hKid, use, hUse, alg, hAlg, ops, hOps⟩ := e
  obtain ⟨hv1, ha1, _, _⟩ := h1
  obtain ⟨hv2, ha2, _, _⟩ := h2
  unfold xC
  dsimp only at *
  obtain ⟨W, hW⟩ : ∃ W : World, (w.alloc (.cells #[.slice va1 val.length vc1, .int .i64 kty, .string ⟨kid.toArray⟩, .bool hKid, .string ⟨use.toArray⟩, .bool hUse, .string ⟨alg.toArray⟩, .bool hAlg, .slice aa1 ops.length ac1, .bool hOps] 26)).alloc (.cells #[.slice va2 val.length vc2, .int .i64 kty, .string ⟨kid.toArray⟩, .bool hKid, .string ⟨use.toArray⟩, .bool hUse, .string ⟨alg.toArray⟩, .bool hAlg, .slice aa2 ops.length ac2, .bool hOps] 26) = W := ⟨_, rfl⟩
  have x1 := alloc_below w (.cells #[.slice va1 val.length vc1, .int .i64 kty, .string ⟨kid.toArray⟩, .bool hKid, .string ⟨use.toArray⟩, .bool hUse, .string ⟨alg.toArray⟩, .bool hAlg, .slice aa1 ops.length ac1, .bool hOps] 26)
  have x2 := alloc_below (w.alloc (.cells #[.slice va1 val.length vc1, .int .i64 kty, .string ⟨kid.toArray⟩, .bool hKid, .string ⟨use.toArray⟩, .bool hUse, .string ⟨alg.toArray⟩, .bool hAlg, .slice aa1 ops.length ac1, .bool hOps] 26)) (.cells #[.slice va2 val.length vc2, .int .i64 kty, .string ⟨kid.toArray⟩, .bool hKid, .string ⟨use.toArray⟩, .bool hUse, .string ⟨alg.toArray⟩, .bool hAlg, .slice aa2 ops.length ac2, .bool hOps] 26)
  have x3 : Bl 26 _ _ [.slice va1 val.length vc1, .int .i64 kty, .string ⟨kid.toArray⟩, .bool hKid, .string ⟨use.toArray⟩, .bool hUse, .string ⟨alg.toArray⟩, .bool hAlg, .slice aa1 ops.length ac1, .bool hOps] := alloc_bl w [.slice va1 val.length vc1, .int .i64 kty, .string ⟨kid.toArray⟩, .bool hKid, .string ⟨use.toArray⟩, .bool hUse, .string ⟨alg.toArray⟩, .bool hAlg, .slice aa1 ops.length ac1, .bool hOps] 26
  have x4 : Bl 26 _ _ [.slice va2 val.length vc2, .int .i64 kty, .string ⟨kid.toArray⟩, .bool hKid, .string ⟨use.toArray⟩, .bool hUse, .string ⟨alg.toArray⟩, .bool hAlg, .slice aa2 ops.length ac2, .bool hOps] := alloc_bl (w.alloc (.cells #[.slice va1 val.length vc1, .int .i64 kty, .string ⟨kid.toArray⟩, .bool hKid, .string ⟨use.toArray⟩, .bool hUse, .string ⟨alg.toArray⟩, .bool hAlg, .slice aa1 ops.length ac1, .bool hOps] 26)) [.slice va2 val.length vc2, .int .i64 kty, .string ⟨kid.toArray⟩, .bool hKid, .string ⟨use.toArray⟩, .bool hUse, .string ⟨alg.toArray⟩, .bool hAlg, .slice aa2 ops.length ac2, .bool hOps] 26
  have x5 : Bl 26 W w.heap.size [.slice va1 val.length vc1, .int .i64 kty, .string ⟨kid.toArray⟩, .bool hKid, .string ⟨use.toArray⟩, .bool hUse, .string ⟨alg.toArray⟩, .bool hAlg, .slice aa1 ops.length ac1, .bool hOps] := by rw [← hW]; exact x3.below x2 x3.lt
  have x6 : Bl 26 W (w.heap.size + 1) [.slice va2 val.length vc2, .int .i64 kty, .string ⟨kid.toArray⟩, .bool hKid, .string ⟨use.toArray⟩, .bool hUse, .string ⟨alg.toArray⟩, .bool hAlg, .slice aa2 ops.length ac2, .bool hOps] := by rw [alloc_size] at x4; rw [← hW]; exact x4
  have hB : Below w.heap.size w W := by rw [← hW]; exact x1.trans (x2.mono x1.size)
  have HW : Hid ((w.alloc (.cells #[.slice va1 val.length vc1, .int .i64 kty, .string ⟨kid.toArray⟩, .bool hKid, .string ⟨use.toArray⟩, .bool hUse, .string ⟨alg.toArray⟩, .bool hAlg, .slice aa1 ops.length ac1, .bool hOps] 26)).alloc (.cells #[.slice va2 val.length vc2, .int .i64 kty, .string ⟨kid.toArray⟩, .bool hKid, .string ⟨use.toArray⟩, .bool hUse, .string ⟨alg.toArray⟩, .bool hAlg, .slice aa2 ops.length ac2, .bool hOps] 26) = W) := hW
  have HK : Hid (∀ wq, Below W.heap.size W wq → (wq.cell? ⟨w.heap.size, 0, none⟩ = some (.slice va1 val.length vc1) ∧ wq.cell? ⟨w.heap.size, 1, none⟩ = some (.int .i64 kty) ∧ wq.cell? ⟨w.heap.size, 2, none⟩ = some (.string ⟨kid.toArray⟩) ∧ wq.cell? ⟨w.heap.size, 3, none⟩ = some (.bool hKid) ∧ wq.cell? ⟨w.heap.size, 4, none⟩ = some (.string ⟨use.toArray⟩) ∧ wq.cell? ⟨w.heap.size, 5, none⟩ = some (.bool hUse) ∧ wq.cell? ⟨w.heap.size, 6, none⟩ = some (.string ⟨alg.toArray⟩) ∧ wq.cell? ⟨w.heap.size, 7, none⟩ = some (.bool hAlg) ∧ wq.cell? ⟨w.heap.size, 8, none⟩ = some (.slice aa1 ops.length ac1) ∧ wq.cell? ⟨w.heap.size, 9, none⟩ = some (.bool hOps)) ∧ wq.cell? ⟨w.heap.size + 1, 0, none⟩ = some (.slice va2 val.length vc2) ∧ wq.cell? ⟨w.heap.size + 1, 1, none⟩ = some (.int .i64 kty) ∧ wq.cell? ⟨w.heap.size + 1, 2, none⟩ = some (.string ⟨kid.toArray⟩) ∧ wq.cell? ⟨w.heap.size + 1, 3, none⟩ = some (.bool hKid) ∧ wq.cell? ⟨w.heap.size + 1, 4, none⟩ = some (.string ⟨use.toArray⟩) ∧ wq.cell? ⟨w.heap.size + 1, 5, none⟩ = some (.bool hUse) ∧ wq.cell? ⟨w.heap.size + 1, 6, none⟩ = some (.string ⟨alg.toArray⟩) ∧ wq.cell? ⟨w.heap.size + 1, 7, none⟩ = some (.bool hAlg) ∧ wq.cell? ⟨w.heap.size + 1, 8, none⟩ = some (.slice aa2 ops.length ac2) ∧ wq.cell? ⟨w.heap.size + 1, 9, none⟩ = some (.bool hOps)) := fun wq hq => by
    have a := x5.below hq x5.lt
    have b := x6.below hq x6.lt
    exact ⟨⟨a.cell 0 (by simp), a.cell 1 (by simp), a.cell 2 (by simp), a.cell 3 (by simp), a.cell 4 (by simp), a.cell 5 (by simp), a.cell 6 (by simp), a.cell 7 (by simp), a.cell 8 (by simp), a.cell 9 (by simp)⟩, b.cell 0 (by simp), b.cell 1 (by simp), b.cell 2 (by simp), b.cell 3 (by simp), b.cell 4 (by simp), b.cell 5 (by simp), b.cell 6 (by simp), b.cell 7 (by simp), b.cell 8 (by simp), b.cell 9 (by simp)⟩
  have CT := stexts_any ops ops aa1 aa2 ac1 ac2 W (ha1.below hB (Nat.le_refl _)) (ha2.below hB (Nat.le_refl _)) hl2
  have HCV : Hid (∀ q, Calls Tryd.prog 31 #[.slice va1 val.length vc1, .slice va2 val.length vc2] (W.drewN q) fun e w' => e = .returned (.bool (decide (val = val))) ∧ ∃ q', w' = (W.drewN q).drewN q') := fun q => snodes_any _ _ val val va1 va2 vc1 vc2 (W.drewN q) ((hv1.below hB (Nat.le_refl _)).drewN q) ((hv2.below hB (Nat.le_refl _)).drewN q) hl1
  have HB : Hid (Below w.heap.size w W) := hB
  obtain ⟨⟨k0, k1, k2, k3, k4, k5, k6, k7, k8, k9⟩, j0, j1, j2, j3, j4, j5, j6, j7, j8, j9⟩ := HK.out W (Below.refl _ _)
  clear hv1 ha1 hv2 ha2 hW x1 x2 x3 x4 x5 x6 hB
  rw [decide_eq_true rfl] at CT HCV
  go_enter Tryd.func21, Tryd.ntmps21
  go_wp2_with fail
  rw [HW.out]
  clear HW
  refine CT.mono ?_
  clear CT
  rintro e w9 ⟨rfl, q1, rfl⟩
  clear k0 k1 k2 k3 k4 k5 k6 k7 k8 k9 j0 j1 j2 j3 j4 j5 j6 j7 j8 j9
  obtain ⟨⟨k0, k1, k2, k3, k4, k5, k6, k7, k8, k9⟩, j0, j1, j2, j3, j4, j5, j6, j7, j8, j9⟩ := HK.out (W.drewN q1) (below_drewN (Below.refl _ _) q1)
  go_wp2_with fail
  refine (HCV.out q1).mono ?_
  rintro e w9 ⟨rfl, q2, rfl⟩
  clear k0 k1 k2 k3 k4 k5 k6 k7 k8 k9 j0 j1 j2 j3 j4 j5 j6 j7 j8 j9
  go_wp2
  go_ret
  exact ⟨rfl, below_drewN HB.out (q1 + q2)⟩

set_option maxRecDepth 100000 in
set_option maxHeartbeats 16000000 in
theorem esameAll_eq (a1 a2 : Option Addr) (c1 c2 : Nat) (l1 l2 : List Ex) (w : World) (h1 : LR w a1 c1 l1) (h2 : LR w a2 c2 l2) (he : l1.map Ex.e = l2.map Ex.e) (hl : l1.length ≤ 1000000000) (hb : ∀ x ∈ l1, x.e.val.length ≤ 1000000000 ∧ x.e.ops.length ≤ 1000000000) :
    Calls Tryd.prog 14 #[.slice a1 l1.length c1, .slice a2 l2.length c2] w fun r w' => r = .returned (.bool true) ∧ Below w.heap.size w w' := by
  have hlen : l1.length = l2.length := by have := congrArg List.length he; simpa using this
  have hl' : ((l1.length : Int) != (l2.length : Int)) = false := by simp; omega
  have H1 : Hid (∀ wq, Below w.heap.size w wq → LR wq a1 c1 l1) := fun wq hq => h1.below hq
  have H2 : Hid (∀ wq, Below w.heap.size w wq → LR wq a2 c2 l2) := fun wq hq => h2.below hq
  have HE : Hid (l1.map Ex.e = l2.map Ex.e) := he
  have HBd : Hid (∀ x ∈ l1, x.e.val.length ≤ 1000000000 ∧ x.e.ops.length ≤ 1000000000) := hb
  have HLEN : Hid (l1.length = l2.length) := hlen
  clear h1 h2 he hb hlen
  go_enter Tryd.func14, Tryd.ntmps14
  go_wp2
  go_loopw [5] (fun s wr => ∃ k : Nat, k ≤ l1.length ∧ s = .int .i64 k ∧ Hid (Below w.heap.size w wr)) (fun s _ => l1.length - (intOf s).toNat)
  case atStart => exact ⟨0, Nat.zero_le _, rfl, Below.refl _ _⟩
  case round =>
    obtain ⟨k, hk, rfl, HB⟩ := hrel
    by_cases hlt : k < l1.length
    · have q0 : decide ((k : Int) < (l1.length : Int)) = true := decide_eq_true (by omega)
      have q1 : (k : Int) < (l1.length : Int) := by omega
      have q2 : (k : Int) < (l2.length : Int) := by have := HLEN.out; omega
      obtain ⟨x, hx⟩ : ∃ x, l1[k]? = some x := ⟨_, List.getElem?_eq_getElem hlt⟩
      obtain ⟨y, hy⟩ : ∃ y, l2[k]? = some y := ⟨_, List.getElem?_eq_getElem (by have := HLEN.out; omega)⟩
      have exy : x.e = y.e := by
        have h := congrArg (·[k]?) HE.out
        simpa [hx, hy] using h
      have R1 := H1.out wr HB.out
      have R2 := H2.out wr HB.out
      obtain ⟨g1, o1, rfl, p0, p1, p2, p3, p4, p5, p6, p7, p8, p9⟩ := R1.at hx
      obtain ⟨g2, o2, rfl, r0, r1, r2, r3, r4, r5, r6, r7, r8, r9⟩ := R2.at hy
      obtain ⟨e, va1, vc1, aa1, ac1⟩ := x
      obtain ⟨e2, va2, vc2, aa2, ac2⟩ := y
      dsimp only at exy
      subst exy
      have hbx := HBd.out _ (List.mem_of_getElem? hx)
      have C : Hid (∀ wq, Below wr.heap.size wr wq → Calls Tryd.prog 21 #[.agg (xC ⟨e, va1, vc1, aa1, ac1⟩).toArray, .agg (xC ⟨e, va2, vc2, aa2, ac2⟩).toArray] wq fun r w' => r = .returned (.bool true) ∧ Below wq.heap.size wq w') := fun wq hq => esame_eq e va1 vc1 aa1 ac1 va2 vc2 aa2 ac2 wq ((R1.rd _ (List.mem_of_getElem? hx)).below hq) ((R2.rd _ (List.mem_of_getElem? hy)).below hq) hbx.1 (Nat.le_trans hbx.2 (by decide))
      clear hx hy R1 R2 hbx
      dsimp only at *
      go_wp2
      refine wp_region_tail 8 (by kernel_rfl) (by kernel_rfl) ?_
      simp only [List.take_succ_cons, List.take_zero, List.drop_succ_cons, List.drop_zero]
      repeat (first | go_big_quiet_skip | (go_big_quiet_want; go_big_quiet_op; go_big_quiet_on))
      refine wpQuiet_nil ?_
      have C2 := C.out (wr.drewN 1) (below_drewN (Below.refl _ _) 1)
      have HB1 : Hid (Below w.heap.size w (wr.drewN 1)) := below_drewN HB.out 1
      clear C p0 p1 p2 p3 p4 p5 p6 p7 p8 p9 r0 r1 r2 r3 r4 r5 r6 r7 r8 r9
      unfold xC at C2
      dsimp only at C2
      generalize wr.drewN 1 = w4 at *
      go_wp2_with fail
      refine C2.mono ?_
      rintro r w5 ⟨rfl, hB5⟩
      have HB5 : Hid (Below w.heap.size w w5) := HB1.out.trans (hB5.mono HB1.out.size)
      clear C2 hB5 HB1
      go_wp2
      go_roundw
      case rel => exact ⟨k + 1, by omega, by go_num, HB5⟩
      case measure => simp [intOf]; omega
    · have q0 : decide ((k : Int) < (l1.length : Int)) = false := decide_eq_false (by omega)
      go_wp2
      go_ret
      exact ⟨rfl, HB.out⟩

end Go.Proofs.YtkfchdmlemcjhaaDoor

namespace Go.Proofs.YtkfchdmlemcjhaaDoor
open Go.RowKit Go.Shelf
set_option maxRecDepth 100000

def es (l : List Ex) : List En := l.map Ex.e
/-- Is it the one that is looked for? -/
def hit (k : List UInt8) (e : En) : Bool := e.hKid && (e.kid == k)
def lastE (k : List UInt8) (l : List En) : En := l.foldl (fun a e => if hit k e then e else a) zeroE
def cnt (k : List UInt8) (l : List En) : Nat := (l.filter (hit k)).length
/-- What Find answers. -/
def ansE (k : List UInt8) (l : List En) : En × Int := if cnt k l = 0 then (zeroE, 103) else if 1 < cnt k l then (zeroE, 104) else (lastE k l, 0)
end Go.Proofs.YtkfchdmlemcjhaaDoor

namespace Go.Proofs.YtkfchdmlemcjhaaDoor
open Go.RowKit Go.Shelf
set_option maxRecDepth 100000

end Go.Proofs.YtkfchdmlemcjhaaDoor

namespace Go.Proofs.YtkfchdmlemcjhaaDoor
open Go.RowKit Go.Shelf
set_option maxRecDepth 100000

end Go.Proofs.YtkfchdmlemcjhaaDoor
