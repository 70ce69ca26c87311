import Derived.Test.YtkfchdmlemcjhaaKf2
import Derived.Deep.RegionWith
namespace Go.Proofs.Ytkfchdmlemcjhaa
open Go.RowKit Go.Shelf
set_option maxRecDepth 100000

theorem own_nilF {w : World} {b n m size c : Nat} {e : TypeId} {a : Option Addr} {xs : List Value} (h : w.ownsRow b e size (.slice a n c) m xs) : a = none → c = 0 := fun ha => by
  subst ha
  rcases h.2 with ⟨hv, _⟩ | ⟨g, cap, cur, hv, _⟩
  · injection hv
  · cases hv
set_option maxHeartbeats 8000000 in
theorem clone_nd (ao : Option Addr) (cap : Nat) (l : List Nd) (w : World) (h : NR w (.slice ao l.length cap) l ao cap) (hn : ao = none → cap = 0) (hl : l.length ≤ 1000000000) :
    Calls Try.prog 13 #[.slice ao l.length cap] w fun r w' => (∃ a' c', r = .returned (.slice a' l.length c') ∧ NO w.heap.size w' (.slice a' l.length c') l) ∧ Below w.heap.size w w' := by
  cases ao with
  | none =>
    have hl0 : l = [] := by
      rcases h.cell with e | ⟨g, off, e, _⟩
      · exact e
      · cases e
    subst hl0
    obtain rfl := hn rfl
    clear h hn
    have q22 : ∀ (w : World) (a : Option Addr) (n c n' c' : Nat), (binOp .eql 24 (.slice a n c) (.slice none n' c')).run Try.prog w = .ok (.bool a.isNone) w := fun w a n c n' c' => Lib.run_eql_slice_nil w _ _ a n c n' c' Try.underlying24
    go_enter Try.func13, Try.ntmps13
    go_wp2
    go_ret
    exact ⟨⟨none, 0, rfl, World.ownsRow_nil _ _ _ _⟩, Below.refl _ _⟩
  | some ad =>
    obtain ⟨x4, hx4⟩ : ∃ x, w.alloc (.cells #[] 37) = x := ⟨_, rfl⟩
    have hA4 : Below w.heap.size w x4 := by rw [← hx4]; exact alloc_below _ _
    have HO4 : Hid (NO w.heap.size x4 (.slice (some ⟨w.heap.size, 0, none⟩) 0 0) []) := by rw [← hx4]; exact World.ownsRow_lit w #[] 0 (Nat.le_refl _) (by decide) rfl
    have HB4 : Hid (Below w.heap.size w x4) := hA4
    have hR := h.below hA4 (Nat.le_refl _)
    have HX4 : Hid (w.alloc (.cells #[] 37) = x4) := hx4
    clear hx4 hA4 h hn
    have q22 : ∀ (w : World) (a : Option Addr) (n c n' c' : Nat), (binOp .eql 24 (.slice a n c) (.slice none n' c')).run Try.prog w = .ok (.bool a.isNone) w := fun w a n c n' c' => Lib.run_eql_slice_nil w _ _ a n c n' c' Try.underlying24
    go_enter Try.func13, Try.ntmps13
    go_wp2_with (at_builtin; rw [HX4.out]; clear HX4; refine append_nds rfl (.tmp 5) (.tmp 6) rfl w.heap.size (.slice (some ⟨w.heap.size, 0, none⟩) 0 0) [] rfl HO4.out (some ad) cap l rfl hR (fun h => by cases h) (by simp only [List.length_nil]; omega) HB4.out.size ?_; intro v5 w5 ho5 hg5)
    have HB5 : Hid (Below w.heap.size w w5) := HB4.out.grown hg5 HB4.out.size (own_block HO4.out)
    have ho6 : NO w.heap.size w5 v5 l := ho5
    obtain ⟨a', c', e5, hc5, hg6⟩ := own_slice ho6
    subst e5
    have HO6 := (show Hid _ from ho6)
    clear ho5 hg5 hc5 hg6 HO4 hR ho6
    go_wp2
    go_ret
    exact ⟨⟨a', c', rfl, HO6.out⟩, HB5.out⟩

set_option maxHeartbeats 8000000 in
theorem clone_tx (ao : Option Addr) (cap : Nat) (l : List (List UInt8)) (w : World) (h : TR w (.slice ao l.length cap) l ao cap) (hn : ao = none → cap = 0) (hl : l.length ≤ 1000000000) :
    Calls Try.prog 14 #[.slice ao l.length cap] w fun r w' => (∃ a' c', r = .returned (.slice a' l.length c') ∧ OT w.heap.size w' (.slice a' l.length c') l) ∧ Below w.heap.size w w' := by
  cases ao with
  | none =>
    have hl0 : l = [] := by
      rcases h.cell with e | ⟨g, off, e, _⟩
      · exact e
      · cases e
    subst hl0
    obtain rfl := hn rfl
    clear h hn
    have q22 : ∀ (w : World) (a : Option Addr) (n c n' c' : Nat), (binOp .eql 26 (.slice a n c) (.slice none n' c')).run Try.prog w = .ok (.bool a.isNone) w := fun w a n c n' c' => Lib.run_eql_slice_nil w _ _ a n c n' c' Try.underlying26
    go_enter Try.func14, Try.ntmps14
    go_wp2
    go_ret
    exact ⟨⟨none, 0, rfl, World.ownsRow_nil _ _ _ _⟩, Below.refl _ _⟩
  | some ad =>
    obtain ⟨x4, hx4⟩ : ∃ x, w.alloc (.cells #[] 9) = x := ⟨_, rfl⟩
    have hA4 : Below w.heap.size w x4 := by rw [← hx4]; exact alloc_below _ _
    have HO4 : Hid (OT w.heap.size x4 (.slice (some ⟨w.heap.size, 0, none⟩) 0 0) []) := by rw [← hx4]; exact World.ownsRow_lit w #[] 0 (Nat.le_refl _) (by decide) rfl
    have HB4 : Hid (Below w.heap.size w x4) := hA4
    have hR := h.below hA4 (Nat.le_refl _)
    have HX4 : Hid (w.alloc (.cells #[] 9) = x4) := hx4
    clear hx4 hA4 h hn
    have q22 : ∀ (w : World) (a : Option Addr) (n c n' c' : Nat), (binOp .eql 26 (.slice a n c) (.slice none n' c')).run Try.prog w = .ok (.bool a.isNone) w := fun w a n c n' c' => Lib.run_eql_slice_nil w _ _ a n c n' c' Try.underlying26
    go_enter Try.func14, Try.ntmps14
    go_wp2_with (at_builtin; rw [HX4.out]; clear HX4; refine append_txt rfl (.tmp 5) (.tmp 6) rfl w.heap.size (.slice (some ⟨w.heap.size, 0, none⟩) 0 0) [] rfl HO4.out (some ad) cap l rfl hR (fun h => by cases h) (by simp only [List.length_nil]; omega) HB4.out.size ?_; intro v5 w5 ho5 hg5)
    have HB5 : Hid (Below w.heap.size w w5) := HB4.out.grown hg5 HB4.out.size (own_block HO4.out)
    have ho6 : OT w.heap.size w5 v5 l := ho5
    obtain ⟨a', c', e5, hc5, hg6⟩ := own_slice ho6
    subst e5
    have HO6 := (show Hid _ from ho6)
    clear ho5 hg5 hc5 hg6 HO4 hR ho6
    go_wp2
    go_ret
    exact ⟨⟨a', c', rfl, HO6.out⟩, HB5.out⟩

theorem xr_of {w : World} {x : Ex} {B1 B2 : Nat} (hn : NO B1 w (.slice x.va x.e.val.length x.vc) x.e.val) (ht : OT B2 w (.slice x.aa x.e.ops.length x.ac) x.e.ops) : XR w x := by
  obtain ⟨q1, q2, hr1⟩ := hn.nr
  obtain ⟨e1, _, _⟩ := id hr1
  injection e1 with e3 e4 e5
  subst e3
  subst e5
  obtain ⟨q3, q4, e2, hr2⟩ := ht.tr
  injection e2 with e6 e7 e8
  subst e6
  subst e8
  exact ⟨hr1, hr2, own_nilF hn, own_nilF ht⟩
theorem results_en1 {fn : Func} {p : Tmp} (h : fn.results = #[.cell p 28]) (tmps : Array Value) (w : World) (b : Nat) (x : Ex) (hp : tmps.getD p undef = .pointer (some ⟨b, 0, none⟩)) (hb : Bl 28 w b (xC x)) :
    (results fn tmps).run Try.prog w = .ok (.agg (xC x).toArray) w := by
  have hr : (loadVar 28 ⟨b, 0, none⟩).run Try.prog w = .ok (.agg (xC x).toArray) w := by
    refine run_loadVar_mid w b 0 28 (xC x) _ ?_ Try.underlying28 rfl (by kernel_rfl)
    intro j v hv
    obtain ⟨hj, e⟩ := List.getElem?_eq_some_iff.1 hv
    rw [Nat.zero_add, ← e]
    exact hb.cell j hj
  rw [results_cell h, hp]
  unfold asAddr
  simp only [Sem.run_pure, Result.andThen_ok]
  exact hr

set_option maxHeartbeats 16000000 in
theorem apart_any (x : Ex) (w : World) (h : XR w x) (hl : x.e.val.length ≤ 1000000000) (hl2 : x.e.ops.length ≤ 1000000000) :
    Calls Try.prog 9 #[.agg #[.slice x.va x.e.val.length x.vc, .int .i64 x.e.kty, .string ⟨x.e.kid.toArray⟩, .bool x.e.hKid, .string ⟨x.e.use.toArray⟩, .bool x.e.hUse, .string ⟨x.e.alg.toArray⟩, .bool x.e.hAlg, .slice x.aa x.e.ops.length x.ac, .bool x.e.hOps]] w fun r w' => (∃ y : Ex, r = .returned (.agg (xC y).toArray) ∧ y.e = x.e ∧ XR w' y ∧ (∃ B, NO B w' (.slice y.va y.e.val.length y.vc) y.e.val) ∧ ∃ B, OT B w' (.slice y.aa y.e.ops.length y.ac) y.e.ops) ∧ Below w.heap.size w w' := by
  obtain ⟨e, va, vc, aa, ac⟩ := x
  obtain ⟨val, kty, kid, hKid, use, hUse, alg, hAlg, ops, hOps⟩ := e
  dsimp only at *
  obtain ⟨W, hW⟩ : ∃ W : World, (w.alloc (.cells #[.slice va val.length vc, .int .i64 kty, .string ⟨kid.toArray⟩, .bool hKid, .string ⟨use.toArray⟩, .bool hUse, .string ⟨alg.toArray⟩, .bool hAlg, .slice aa ops.length ac, .bool hOps] 28)).alloc (.cells #[.slice none 0 0, .int .i64 0, .string ⟨#[]⟩, .bool false, .string ⟨#[]⟩, .bool false, .string ⟨#[]⟩, .bool false, .slice none 0 0, .bool false] 28) = W := ⟨_, rfl⟩
  have x1 := alloc_below w (.cells #[.slice va val.length vc, .int .i64 kty, .string ⟨kid.toArray⟩, .bool hKid, .string ⟨use.toArray⟩, .bool hUse, .string ⟨alg.toArray⟩, .bool hAlg, .slice aa ops.length ac, .bool hOps] 28)
  have x2 := alloc_below (w.alloc (.cells #[.slice va val.length vc, .int .i64 kty, .string ⟨kid.toArray⟩, .bool hKid, .string ⟨use.toArray⟩, .bool hUse, .string ⟨alg.toArray⟩, .bool hAlg, .slice aa ops.length ac, .bool hOps] 28)) (.cells #[.slice none 0 0, .int .i64 0, .string ⟨#[]⟩, .bool false, .string ⟨#[]⟩, .bool false, .string ⟨#[]⟩, .bool false, .slice none 0 0, .bool false] 28)
  have x3 : Bl 28 _ _ [.slice va val.length vc, .int .i64 kty, .string ⟨kid.toArray⟩, .bool hKid, .string ⟨use.toArray⟩, .bool hUse, .string ⟨alg.toArray⟩, .bool hAlg, .slice aa ops.length ac, .bool hOps] := alloc_bl w [.slice va val.length vc, .int .i64 kty, .string ⟨kid.toArray⟩, .bool hKid, .string ⟨use.toArray⟩, .bool hUse, .string ⟨alg.toArray⟩, .bool hAlg, .slice aa ops.length ac, .bool hOps] 28
  have x4 : Bl 28 _ _ [.slice none 0 0, .int .i64 0, .string ⟨#[]⟩, .bool false, .string ⟨#[]⟩, .bool false, .string ⟨#[]⟩, .bool false, .slice none 0 0, .bool false] := alloc_bl (w.alloc (.cells #[.slice va val.length vc, .int .i64 kty, .string ⟨kid.toArray⟩, .bool hKid, .string ⟨use.toArray⟩, .bool hUse, .string ⟨alg.toArray⟩, .bool hAlg, .slice aa ops.length ac, .bool hOps] 28)) [.slice none 0 0, .int .i64 0, .string ⟨#[]⟩, .bool false, .string ⟨#[]⟩, .bool false, .string ⟨#[]⟩, .bool false, .slice none 0 0, .bool false] 28
  have x5 : Bl 28 W w.heap.size [.slice va val.length vc, .int .i64 kty, .string ⟨kid.toArray⟩, .bool hKid, .string ⟨use.toArray⟩, .bool hUse, .string ⟨alg.toArray⟩, .bool hAlg, .slice aa ops.length ac, .bool hOps] := by rw [← hW]; exact x3.below x2 x3.lt
  have x6 : Bl 28 W (w.heap.size + 1) [.slice none 0 0, .int .i64 0, .string ⟨#[]⟩, .bool false, .string ⟨#[]⟩, .bool false, .string ⟨#[]⟩, .bool false, .slice none 0 0, .bool false] := by rw [alloc_size] at x4; rw [← hW]; exact x4
  have hB : Below w.heap.size w W := by rw [← hW]; exact x1.trans (x2.mono x1.size)
  have HW : Hid ((w.alloc (.cells #[.slice va val.length vc, .int .i64 kty, .string ⟨kid.toArray⟩, .bool hKid, .string ⟨use.toArray⟩, .bool hUse, .string ⟨alg.toArray⟩, .bool hAlg, .slice aa ops.length ac, .bool hOps] 28)).alloc (.cells #[.slice none 0 0, .int .i64 0, .string ⟨#[]⟩, .bool false, .string ⟨#[]⟩, .bool false, .string ⟨#[]⟩, .bool false, .slice none 0 0, .bool false] 28) = W) := hW
  have HX : Hid (∀ wq, Below W.heap.size W wq → Bl 28 wq w.heap.size [.slice va val.length vc, .int .i64 kty, .string ⟨kid.toArray⟩, .bool hKid, .string ⟨use.toArray⟩, .bool hUse, .string ⟨alg.toArray⟩, .bool hAlg, .slice aa ops.length ac, .bool hOps] ∧ Bl 28 wq (w.heap.size + 1) [.slice none 0 0, .int .i64 0, .string ⟨#[]⟩, .bool false, .string ⟨#[]⟩, .bool false, .string ⟨#[]⟩, .bool false, .slice none 0 0, .bool false]) := fun wq hq => ⟨x5.below hq x5.lt, x6.below hq x6.lt⟩
  have HN : Hid (∀ wq, Below W.heap.size W wq → Calls Try.prog 13 #[.slice va val.length vc] wq fun r w' => (∃ a' c', r = .returned (.slice a' val.length c') ∧ NO wq.heap.size w' (.slice a' val.length c') val) ∧ Below wq.heap.size wq w') := fun wq hq => clone_nd va vc val wq ((h.nr.below hB (Nat.le_refl _)).below hq (Nat.le_refl _)) h.vn hl
  have HS : Hid (∀ wq, Below W.heap.size W wq → Calls Try.prog 14 #[.slice aa ops.length ac] wq fun r w' => (∃ a' c', r = .returned (.slice a' ops.length c') ∧ OT wq.heap.size w' (.slice a' ops.length c') ops) ∧ Below wq.heap.size wq w') := fun wq hq => clone_tx aa ac ops wq ((h.tr.below hB (Nat.le_refl _)).below hq (Nat.le_refl _)) h.an hl2
  have HB : Hid (Below w.heap.size w W) := hB
  have k0 : W.cell? ⟨w.heap.size, 0, none⟩ = some (.slice va val.length vc) := x5.cell 0 (by simp)
  have k8 : W.cell? ⟨w.heap.size, 8, none⟩ = some (.slice aa ops.length ac) := x5.cell 8 (by simp)
  have hgi : (Try.prog.info? 28).map (·.size) = some 10 := by kernel_rfl
  clear h hW x1 x2 x3 x4 x5 x6 hB
  go_enter Try.func9, Try.ntmps9
  go_upto_region 1 with fail
  rw [HW.out]
  clear HW
  go_region_with (first
    | (go_at_call 13; refine (HN.out _ (by first | exact below_drewN (Below.refl _ _) 1 | exact Below.refl _ _)).mono ?_; rintro r w1 ⟨⟨a5, c5, rfl, hn5⟩, hb5⟩; (try have hb6 : Below W.heap.size W w1 := (below_drewN (Below.refl _ _) 1).trans (hb5)); have k0 := (HX.out w1 hb6).1.cell 0 (by simp); have k8 := (HX.out w1 hb6).1.cell 8 (by simp))
    | (go_at_call 14; refine (HS.out _ hb6).mono ?_; rintro r w2 ⟨⟨a8, c8, rfl, hn8⟩, hb8⟩; have hb9 : Below W.heap.size W w2 := hb6.trans (hb8.mono hb6.size); have kx0 := (HX.out w2 hb9).1.cell 0 (by simp); have kx8 : (w2.setCell ⟨w.heap.size, 0, none⟩ (.slice a5 val.length c5)).cell? ⟨w.heap.size, 8, none⟩ = some (.slice aa ops.length ac) := ((HX.out w2 hb9).1.set 0 _).cell 8 (by simp); have kf0 := (HX.out w2 hb9).1.frozen 0; have kf8 : (w2.setCell ⟨w.heap.size, 0, none⟩ (.slice a5 val.length c5)).frozen? ⟨w.heap.size, 8, none⟩ = false := ((HX.out w2 hb9).1.set 0 _).frozen 8))
  all_goals (
    have hbx : Bl 28 _ w.heap.size [.slice a5 val.length c5, .int .i64 kty, .string ⟨kid.toArray⟩, .bool hKid, .string ⟨use.toArray⟩, .bool hUse, .string ⟨alg.toArray⟩, .bool hAlg, .slice a8 ops.length c8, .bool hOps] := ((HX.out w2 hb9).1.set 0 (.slice a5 val.length c5)).set 8 (.slice a8 ops.length c8)
    have hbr : Bl 28 ((w2.setCell ⟨w.heap.size, 0, none⟩ (.slice a5 val.length c5)).setCell ⟨w.heap.size, 8, none⟩ (.slice a8 ops.length c8)) (w.heap.size + 1) [.slice none 0 0, .int .i64 0, .string ⟨#[]⟩, .bool false, .string ⟨#[]⟩, .bool false, .string ⟨#[]⟩, .bool false, .slice none 0 0, .bool false] := bl_oth2 (bl_oth2 (HX.out w2 hb9).2 (by omega)) (by omega)
    have hbw : Below w.heap.size w ((w2.setCell ⟨w.heap.size, 0, none⟩ (.slice a5 val.length c5)).setCell ⟨w.heap.size, 8, none⟩ (.slice a8 ops.length c8)) := ((HB.out.trans (hb9.mono HB.out.size)).setCell (Nat.le_refl _) _).setCell (Nat.le_refl _) _
    have hbl2 := (HX.out w2 hb9).1
    have hN2 := own_set (x := .slice a8 ops.length c8) (o := 8) (own_set (x := .slice a5 val.length c5) (o := 0) (own_below hn5 hb8 (Nat.le_refl _)) hbl2 (by decide)) (hbl2.set 0 (.slice a5 val.length c5)) (by decide)
    have hT2 := own_set (x := .slice a8 ops.length c8) (o := 8) (own_set (x := .slice a5 val.length c5) (o := 0) hn8 hbl2 (by decide)) (hbl2.set 0 (.slice a5 val.length c5)) (by decide)
    obtain ⟨w3, hw3⟩ : ∃ x, ((w2.setCell ⟨w.heap.size, 0, none⟩ (.slice a5 val.length c5)).setCell ⟨w.heap.size, 8, none⟩ (.slice a8 ops.length c8)) = x := ⟨_, rfl⟩
    rw [hw3] at hbx hbr hbw hN2 hT2
    have HWX : Hid (((w2.setCell ⟨w.heap.size, 0, none⟩ (.slice a5 val.length c5)).setCell ⟨w.heap.size, 8, none⟩ (.slice a8 ops.length c8)) = w3) := hw3
    have p1 := bl_rng2 hbx
    obtain ⟨w4, hw4⟩ : ∃ x, w3.setRow (w.heap.size + 1) (#[.slice a5 val.length c5, .int .i64 kty, .string ⟨kid.toArray⟩, .bool hKid, .string ⟨use.toArray⟩, .bool hUse, .string ⟨alg.toArray⟩, .bool hAlg, .slice a8 ops.length c8, .bool hOps] : Array Value) = x := ⟨_, rfl⟩
    have hb4 : Bl 28 w4 (w.heap.size + 1) [.slice a5 val.length c5, .int .i64 kty, .string ⟨kid.toArray⟩, .bool hKid, .string ⟨use.toArray⟩, .bool hUse, .string ⟨alg.toArray⟩, .bool hAlg, .slice a8 ops.length c8, .bool hOps] := by rw [← hw4]; exact set_bl2 hbr
    have HB4 : Hid (Below w.heap.size w w4) := by rw [← hw4]; exact setRow_below2 _ hbw (Nat.le_succ _)
    obtain ⟨B1, HN4⟩ : ∃ B, NO B w4 (.slice a5 val.length c5) val := ⟨_, by rw [← hw4]; exact own_setr hN2 hbr (by decide)⟩
    obtain ⟨B2, HT4⟩ : ∃ B, OT B w4 (.slice a8 ops.length c8) ops := ⟨_, by rw [← hw4]; exact own_setr hT2 hbr (by decide)⟩
    have HNX : Hid (∃ B, NO B w4 (.slice a5 val.length c5) val) := ⟨_, HN4⟩
    have HTX : Hid (∃ B, OT B w4 (.slice a8 ops.length c8) ops) := ⟨_, HT4⟩
    have HRX : Hid (XR w4 ⟨⟨val, kty, kid, hKid, use, hUse, alg, hAlg, ops, hOps⟩, a5, c5, a8, c8⟩) := xr_of HN4 HT4
    have HBZ : Hid (Bl 28 w4 (w.heap.size + 1) (xC ⟨⟨val, kty, kid, hKid, use, hUse, alg, hAlg, ops, hOps⟩, a5, c5, a8, c8⟩)) := hb4
    have HBR : Hid (Bl 28 w3 (w.heap.size + 1) [.slice none 0 0, .int .i64 0, .string ⟨#[]⟩, .bool false, .string ⟨#[]⟩, .bool false, .string ⟨#[]⟩, .bool false, .slice none 0 0, .bool false]) := hbr
    have HW4 : Hid (w3.setRow (w.heap.size + 1) (#[.slice a5 val.length c5, .int .i64 kty, .string ⟨kid.toArray⟩, .bool hKid, .string ⟨use.toArray⟩, .bool hUse, .string ⟨alg.toArray⟩, .bool hAlg, .slice a8 ops.length c8, .bool hOps] : Array Value) = w4) := hw4
    clear hw3 hw4 hb4 hbr hbx hbw hN2 hT2 HN4 HT4 hbl2 hb5 hb6 hb8 hb9 hn5 hn8 k0 k8 kx0 kx8 kf0 kf8 HN HS HX HB
    rw [HWX.out]
    clear HWX
    go_wp2_with (first | (refine wpList_load_mid rfl 28 (.tmp 1) rfl w.heap.size 0 rfl [.slice a5 val.length c5, .int .i64 kty, .string ⟨kid.toArray⟩, .bool hKid, .string ⟨use.toArray⟩, .bool hUse, .string ⟨alg.toArray⟩, .bool hAlg, .slice a8 ops.length c8, .bool hOps] _ p1 Try.underlying28 rfl hgi ?_) | (refine wpList_store_row rfl 28 (.tmp 2) (.tmp 11) rfl (w.heap.size + 1) (#[.slice a5 val.length c5, .int .i64 kty, .string ⟨kid.toArray⟩, .bool hKid, .string ⟨use.toArray⟩, .bool hUse, .string ⟨alg.toArray⟩, .bool hAlg, .slice a8 ops.length c8, .bool hOps] : Array Value) rfl rfl 28 ([.slice none 0 0, .int .i64 0, .string ⟨#[]⟩, .bool false, .string ⟨#[]⟩, .bool false, .string ⟨#[]⟩, .bool false, .slice none 0 0, .bool false] : List Value).toArray HBR.out hgi rfl (by simp [Value.oneCell']) ?_; rw [HW4.out]; clear HW4 HBR))
    (try simp only [Exit.inBlock, Exit.then])
    exact bodyPost_ret (v := .agg (xC ⟨⟨val, kty, kid, hKid, use, hUse, alg, hAlg, ops, hOps⟩, a5, c5, a8, c8⟩).toArray) (results_en1 rfl _ _ (w.heap.size + 1) ⟨⟨val, kty, kid, hKid, use, hUse, alg, hAlg, ops, hOps⟩, a5, c5, a8, c8⟩ rfl HBZ.out) rfl ⟨⟨⟨⟨val, kty, kid, hKid, use, hUse, alg, hAlg, ops, hOps⟩, a5, c5, a8, c8⟩, rfl, rfl, HRX.out, HNX.out, HTX.out⟩, HB4.out⟩)

end Go.Proofs.Ytkfchdmlemcjhaa
