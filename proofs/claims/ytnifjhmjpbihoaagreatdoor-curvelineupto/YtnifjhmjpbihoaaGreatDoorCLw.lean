import Derived.Test.YtnifjhmjpbihoaaGreatDoorCLn
namespace Go.Proofs.YtnifjhmjpbihoaaGreatDoor
open Go.RowKit

set_option maxRecDepth 100000

theorem Lf.of2 {w wN : World} {a b : List Value} {ax : List (Value × Nat)} (h : Fm w wN [(45, a), (45, b)] [] []) (ha : ∀ q ∈ ax, Nu w q.1 q.2) : Lf w wN [(w.heap.size + 1, b), (w.heap.size, a)] ax [] := by
  refine ⟨fun q hq => ?_, fun q hq => (ha q hq).below h.bel (Nat.le_refl _), fun q hq => (by cases hq), h.bel⟩
  simp only [List.mem_cons, List.not_mem_nil, or_false] at hq
  rcases hq with rfl | rfl
  · exact h.bx 1 (by simp)
  · exact h.bx 0 (by simp)
theorem Lf.drawn {w wN : World} {bs : List (Nat × List Value)} {ax rs : List (Value × Nat)} (h : Lf w wN bs ax rs) : Lf w wN.drew bs ax rs := h.below (below_drewN (Below.refl _ _) 1)
theorem row_a (w : World) (V : Nat) (hV : V < Bs) (h2 : V < pw 384) : Nk (w.alloc (.cells #[.int .u32 (V : Int)] 65)) (.slice (some ⟨w.heap.size, 0, none⟩) 1 1) V 384 :=
  ⟨⟨[V], ⟨_, _, rfl, Nat.le_refl _, (alloc_bl w [.int .u32 (V : Int)] 65 : Bl 65 _ _ ([V].map U)).rn, fun y hy => by simp at hy; subst hy; exact hV⟩, by simp [nv], by simp⟩, h2⟩
theorem onB_fin {p b X Y : Nat} (hp : Pm p) (h : onP p b (.A X Y)) : onB p b X Y false = true := (onB_iff hp).2 ⟨h, fun h => by cases h⟩
section
variable {P : Program} {ops : Array Oper} {Q : Exit → Act → World → Prop} {md : Region.Mode} {S : World → Prop} {k : Nat}
theorem wpAnyK_three (i j l : Nat) {oi oj ol : Oper} {ri rj rl : List Oper} {fuel : Nat} {listed : Array Bool} {a : Act} {w : World} (hi : ops.toList.drop i = oi :: ri) (hj : ops.toList.drop j = oj :: rj) (hl : ops.toList.drop l = ol :: rl) (hr : Region.ready md ops listed = [i, j, l])
    (h1 : ∀ K' : Act → World → Prop, Shut (∀ a w, ((listed.setIfInBounds i true).getD k true = false → S w) → wpAnyK P md ops Q k S fuel (listed.setIfInBounds i true) a w → K' a w) → if Region.wanted oi (yielded ops a.tmps) = true then Oper.wp P oi a w K' Q else K' (a.put oi.dst undef) w)
    (h2 : ∀ K' : Act → World → Prop, Shut (∀ a w, ((listed.setIfInBounds j true).getD k true = false → S w) → wpAnyK P md ops Q k S fuel (listed.setIfInBounds j true) a w → K' a w) → if Region.wanted oj (yielded ops a.tmps) = true then Oper.wp P oj a w K' Q else K' (a.put oj.dst undef) w)
    (h3 : ∀ K' : Act → World → Prop, Shut (∀ a w, ((listed.setIfInBounds l true).getD k true = false → S w) → wpAnyK P md ops Q k S fuel (listed.setIfInBounds l true) a w → K' a w) → if Region.wanted ol (yielded ops a.tmps) = true then Oper.wp P ol a w K' Q else K' (a.put ol.dst undef) w) :
    wpAnyK P md ops Q k S (fuel + 1) listed a w := by
  refine ⟨fun h0 => (by rw [hr] at h0; cases h0), fun m hm => ?_⟩
  rw [hr] at hm
  rcases List.mem_cons.1 hm with rfl | hm
  · exact wpOp_step (op_at hi) (fun K' hK => h1 K' (fun a w hS hW => hK a w ⟨hS, hW⟩))
  rcases List.mem_cons.1 hm with rfl | hm
  · exact wpOp_step (op_at hj) (fun K' hK => h2 K' (fun a w hS hW => hK a w ⟨hS, hW⟩))
  · obtain rfl : m = l := by simpa using hm
    exact wpOp_step (op_at hl) (fun K' hK => h3 K' (fun a w hS hW => hK a w ⟨hS, hW⟩))
end
set_option maxHeartbeats 40000000 in
theorem line_none (c : Int) (h1 : c ≠ 1) (h2 : c ≠ 2) (x y u v : Value) (X Y U V : Nat) (inf jnf : Bool) (w : World) (hx : Nu w x X) (hy : Nu w y Y) (hu : Nu w u U) (hv : Nu w v V)  :
    Calls Tryz.prog 11 #[.int .i64 c, .agg #[x, y, .bool inf], .agg #[u, v, .bool jnf]] w fun e w' => e = .returned (.bool true) ∧ Below w.heap.size w w' := by
  obtain ⟨x0, x1, x2, rfl⟩ := hx.shape
  obtain ⟨y0, y1, y2, rfl⟩ := hy.shape
  obtain ⟨u0, u1, u2, rfl⟩ := hu.shape
  obtain ⟨v0, v1, v2, rfl⟩ := hv.shape
  have H0 : Hid (Lf w ((w.alloc (.cells #[.slice x0 x1 x2, .slice y0 y1 y2, .bool inf] 45)).alloc (.cells #[.slice u0 u1 u2, .slice v0 v1 v2, .bool jnf] 45)) [(w.heap.size + 1, [.slice u0 u1 u2, .slice v0 v1 v2, .bool jnf]), (w.heap.size, [.slice x0 x1 x2, .slice y0 y1 y2, .bool inf])] [(.slice x0 x1 x2, X), (.slice y0 y1 y2, Y), (.slice u0 u1 u2, U), (.slice v0 v1 v2, V)] []) := Lf.of2 (((Fm.nil (w := w) (A := []) ar_nil).push (by simp) 45 [.slice x0 x1 x2, .slice y0 y1 y2, .bool inf]).push (by simp) 45 [.slice u0 u1 u2, .slice v0 v1 v2, .bool jnf]) (fun q hq => by simp only [List.mem_cons, List.not_mem_nil, or_false] at hq; rcases hq with rfl | rfl | rfl | rfl <;> assumption)
  clear hx hy hu hv
  go_enter Tryz.func11, Tryz.ntmps11
  go_wp2_with fail
  generalize ((w.alloc (.cells #[.slice x0 x1 x2, .slice y0 y1 y2, .bool inf] 45)).alloc (.cells #[.slice u0 u1 u2, .slice v0 v1 v2, .bool jnf] 45)) = wv1 at *
  refine (started_v _).mono ?_
  rintro e wa ⟨rfl, hB⟩
  have Hwa : Hid (Lf w wa [(w.heap.size + 1, [.slice u0 u1 u2, .slice v0 v1 v2, .bool jnf]), (w.heap.size, [.slice x0 x1 x2, .slice y0 y1 y2, .bool inf])] [(.slice x0 x1 x2, X), (.slice y0 y1 y2, Y), (.slice u0 u1 u2, U), (.slice v0 v1 v2, V)] []) := (H0.out.below hB)
  clear hB
  have k0_0 : wa.cell? ⟨w.heap.size, 0, none⟩ = some (.slice x0 x1 x2) := Hwa.out.cell 1 0 (Nat.le_of_ble_eq_true rfl) (Nat.le_of_ble_eq_true rfl)
  have k0_1 : wa.cell? ⟨w.heap.size, 1, none⟩ = some (.slice y0 y1 y2) := Hwa.out.cell 1 1 (Nat.le_of_ble_eq_true rfl) (Nat.le_of_ble_eq_true rfl)
  have k0_2 : wa.cell? ⟨w.heap.size, 2, none⟩ = some (.bool inf) := Hwa.out.cell 1 2 (Nat.le_of_ble_eq_true rfl) (Nat.le_of_ble_eq_true rfl)
  have k1_0 : wa.cell? ⟨w.heap.size + 1, 0, none⟩ = some (.slice u0 u1 u2) := Hwa.out.cell 0 0 (Nat.le_of_ble_eq_true rfl) (Nat.le_of_ble_eq_true rfl)
  have k1_1 : wa.cell? ⟨w.heap.size + 1, 1, none⟩ = some (.slice v0 v1 v2) := Hwa.out.cell 0 1 (Nat.le_of_ble_eq_true rfl) (Nat.le_of_ble_eq_true rfl)
  have k1_2 : wa.cell? ⟨w.heap.size + 1, 2, none⟩ = some (.bool jnf) := Hwa.out.cell 0 2 (Nat.le_of_ble_eq_true rfl) (Nat.le_of_ble_eq_true rfl)
  go_wp2_with fail
  clear k0_0 k0_1 k0_2 k1_0 k1_1 k1_2
  refine (add_none c h1 h2 _ _ _ _ inf jnf _ ⟨_, _, _, rfl⟩ ⟨_, _, _, rfl⟩ ⟨_, _, _, rfl⟩ ⟨_, _, _, rfl⟩).mono ?_
  rintro e wb ⟨rfl, hB⟩
  have Hwb : Hid (Lf w wb [(w.heap.size + 1, [.slice u0 u1 u2, .slice v0 v1 v2, .bool jnf]), (w.heap.size, [.slice x0 x1 x2, .slice y0 y1 y2, .bool inf])] [(.slice x0 x1 x2, X), (.slice y0 y1 y2, Y), (.slice u0 u1 u2, U), (.slice v0 v1 v2, V)] []) := (Hwa.out.below hB)
  clear hB
  have HB2 : Hid (Lf w (wb.alloc (.cells #[.slice none 0 0, .slice none 0 0, .bool false] 45)) [(wb.heap.size, [.slice none 0 0, .slice none 0 0, .bool false]), (w.heap.size + 1, [.slice u0 u1 u2, .slice v0 v1 v2, .bool jnf]), (w.heap.size, [.slice x0 x1 x2, .slice y0 y1 y2, .bool inf])] [(.slice x0 x1 x2, X), (.slice y0 y1 y2, Y), (.slice u0 u1 u2, U), (.slice v0 v1 v2, V)] []) := Hwb.out.box [.slice none 0 0, .slice none 0 0, .bool false]
  have k0_0 : (wb.alloc (.cells #[.slice none 0 0, .slice none 0 0, .bool false] 45)).cell? ⟨w.heap.size, 0, none⟩ = some (.slice x0 x1 x2) := HB2.out.cell 2 0 (Nat.le_of_ble_eq_true rfl) (Nat.le_of_ble_eq_true rfl)
  have k0_1 : (wb.alloc (.cells #[.slice none 0 0, .slice none 0 0, .bool false] 45)).cell? ⟨w.heap.size, 1, none⟩ = some (.slice y0 y1 y2) := HB2.out.cell 2 1 (Nat.le_of_ble_eq_true rfl) (Nat.le_of_ble_eq_true rfl)
  have k0_2 : (wb.alloc (.cells #[.slice none 0 0, .slice none 0 0, .bool false] 45)).cell? ⟨w.heap.size, 2, none⟩ = some (.bool inf) := HB2.out.cell 2 2 (Nat.le_of_ble_eq_true rfl) (Nat.le_of_ble_eq_true rfl)
  go_wp2_with fail
  clear k0_0 k0_1 k0_2
  generalize (wb.alloc (.cells #[.slice none 0 0, .slice none 0 0, .bool false] 45)) = wv4 at *
  refine (on_none c h1 h2 _ _ inf _ ⟨_, _, _, rfl⟩ ⟨_, _, _, rfl⟩).mono ?_
  rintro e wc ⟨rfl, hB⟩
  have Hwc : Hid (Lf w wc [(wb.heap.size, [.slice none 0 0, .slice none 0 0, .bool false]), (w.heap.size + 1, [.slice u0 u1 u2, .slice v0 v1 v2, .bool jnf]), (w.heap.size, [.slice x0 x1 x2, .slice y0 y1 y2, .bool inf])] [(.slice x0 x1 x2, X), (.slice y0 y1 y2, Y), (.slice u0 u1 u2, U), (.slice v0 v1 v2, V)] []) := (HB2.out.below hB)
  clear hB
  have k2_0 : wc.cell? ⟨wb.heap.size, 0, none⟩ = some (.slice none 0 0) := Hwc.out.cell 0 0 (Nat.le_of_ble_eq_true rfl) (Nat.le_of_ble_eq_true rfl)
  have k2_1 : wc.cell? ⟨wb.heap.size, 1, none⟩ = some (.slice none 0 0) := Hwc.out.cell 0 1 (Nat.le_of_ble_eq_true rfl) (Nat.le_of_ble_eq_true rfl)
  have k2_2 : wc.cell? ⟨wb.heap.size, 2, none⟩ = some (.bool false) := Hwc.out.cell 0 2 (Nat.le_of_ble_eq_true rfl) (Nat.le_of_ble_eq_true rfl)
  go_wp2_with fail
  clear k2_0 k2_1 k2_2
  refine (same_v _ _ _ _ 0 0 false _ (Mk.none _ 0 384).nm (Mk.none _ 0 384).nm (Mk.none _ 0 384).nm (Mk.none _ 0 384).nm (Mk.none w 0 384).2.1 (Mk.none w 0 384).2.1).mono ?_
  rintro e wz ⟨rfl, hB⟩
  have Hwz : Hid (Lf w wz [(wb.heap.size, [.slice none 0 0, .slice none 0 0, .bool false]), (w.heap.size + 1, [.slice u0 u1 u2, .slice v0 v1 v2, .bool jnf]), (w.heap.size, [.slice x0 x1 x2, .slice y0 y1 y2, .bool inf])] [(.slice x0 x1 x2, X), (.slice y0 y1 y2, Y), (.slice u0 u1 u2, U), (.slice v0 v1 v2, V)] []) := (Hwc.out.below hB)
  clear hB
  go_wp2
  go_ret
  exact ⟨rfl, Hwz.out.bel⟩
set_option maxHeartbeats 40000000 in
theorem line_bad1 {c s : Int} {p b n gx gy : Nat} (hk : Kv c p b n gx gy s) (x y u v : Value) (X Y U V : Nat) (inf jnf : Bool) (w : World) (hx : Nu w x X) (hy : Nu w y Y) (hu : Nu w u U) (hv : Nu w v V) (o1 : onB p b X Y inf = false) :
    Calls Tryz.prog 11 #[.int .i64 c, .agg #[x, y, .bool inf], .agg #[u, v, .bool jnf]] w fun e w' => e = .returned (.bool true) ∧ Below w.heap.size w w' := by
  obtain ⟨x0, x1, x2, rfl⟩ := hx.shape
  obtain ⟨y0, y1, y2, rfl⟩ := hy.shape
  obtain ⟨u0, u1, u2, rfl⟩ := hu.shape
  obtain ⟨v0, v1, v2, rfl⟩ := hv.shape
  have H0 : Hid (Lf w ((w.alloc (.cells #[.slice x0 x1 x2, .slice y0 y1 y2, .bool inf] 45)).alloc (.cells #[.slice u0 u1 u2, .slice v0 v1 v2, .bool jnf] 45)) [(w.heap.size + 1, [.slice u0 u1 u2, .slice v0 v1 v2, .bool jnf]), (w.heap.size, [.slice x0 x1 x2, .slice y0 y1 y2, .bool inf])] [(.slice x0 x1 x2, X), (.slice y0 y1 y2, Y), (.slice u0 u1 u2, U), (.slice v0 v1 v2, V)] []) := Lf.of2 (((Fm.nil (w := w) (A := []) ar_nil).push (by simp) 45 [.slice x0 x1 x2, .slice y0 y1 y2, .bool inf]).push (by simp) 45 [.slice u0 u1 u2, .slice v0 v1 v2, .bool jnf]) (fun q hq => by simp only [List.mem_cons, List.not_mem_nil, or_false] at hq; rcases hq with rfl | rfl | rfl | rfl <;> assumption)
  clear hx hy hu hv
  go_enter Tryz.func11, Tryz.ntmps11
  go_wp2_with fail
  generalize ((w.alloc (.cells #[.slice x0 x1 x2, .slice y0 y1 y2, .bool inf] 45)).alloc (.cells #[.slice u0 u1 u2, .slice v0 v1 v2, .bool jnf] 45)) = wv1 at *
  refine (started_v _).mono ?_
  rintro e wa ⟨rfl, hB⟩
  have Hwa : Hid (Lf w wa [(w.heap.size + 1, [.slice u0 u1 u2, .slice v0 v1 v2, .bool jnf]), (w.heap.size, [.slice x0 x1 x2, .slice y0 y1 y2, .bool inf])] [(.slice x0 x1 x2, X), (.slice y0 y1 y2, Y), (.slice u0 u1 u2, U), (.slice v0 v1 v2, V)] []) := (H0.out.below hB)
  clear hB
  have k0_0 : wa.cell? ⟨w.heap.size, 0, none⟩ = some (.slice x0 x1 x2) := Hwa.out.cell 1 0 (Nat.le_of_ble_eq_true rfl) (Nat.le_of_ble_eq_true rfl)
  have k0_1 : wa.cell? ⟨w.heap.size, 1, none⟩ = some (.slice y0 y1 y2) := Hwa.out.cell 1 1 (Nat.le_of_ble_eq_true rfl) (Nat.le_of_ble_eq_true rfl)
  have k0_2 : wa.cell? ⟨w.heap.size, 2, none⟩ = some (.bool inf) := Hwa.out.cell 1 2 (Nat.le_of_ble_eq_true rfl) (Nat.le_of_ble_eq_true rfl)
  have k1_0 : wa.cell? ⟨w.heap.size + 1, 0, none⟩ = some (.slice u0 u1 u2) := Hwa.out.cell 0 0 (Nat.le_of_ble_eq_true rfl) (Nat.le_of_ble_eq_true rfl)
  have k1_1 : wa.cell? ⟨w.heap.size + 1, 1, none⟩ = some (.slice v0 v1 v2) := Hwa.out.cell 0 1 (Nat.le_of_ble_eq_true rfl) (Nat.le_of_ble_eq_true rfl)
  have k1_2 : wa.cell? ⟨w.heap.size + 1, 2, none⟩ = some (.bool jnf) := Hwa.out.cell 0 2 (Nat.le_of_ble_eq_true rfl) (Nat.le_of_ble_eq_true rfl)
  go_wp2_with fail
  clear k0_0 k0_1 k0_2 k1_0 k1_1 k1_2
  refine (add_bad1 hk _ _ _ _ X Y U V inf jnf _ (Hwa.out.arg 0 (Nat.le_of_ble_eq_true rfl)) (Hwa.out.arg 1 (Nat.le_of_ble_eq_true rfl)) (Hwa.out.arg 2 (Nat.le_of_ble_eq_true rfl)) (Hwa.out.arg 3 (Nat.le_of_ble_eq_true rfl)) o1).mono ?_
  rintro e wb ⟨rfl, hB⟩
  have Hwb : Hid (Lf w wb [(w.heap.size + 1, [.slice u0 u1 u2, .slice v0 v1 v2, .bool jnf]), (w.heap.size, [.slice x0 x1 x2, .slice y0 y1 y2, .bool inf])] [(.slice x0 x1 x2, X), (.slice y0 y1 y2, Y), (.slice u0 u1 u2, U), (.slice v0 v1 v2, V)] []) := (Hwa.out.below hB)
  clear hB
  have HB2 : Hid (Lf w (wb.alloc (.cells #[.slice none 0 0, .slice none 0 0, .bool false] 45)) [(wb.heap.size, [.slice none 0 0, .slice none 0 0, .bool false]), (w.heap.size + 1, [.slice u0 u1 u2, .slice v0 v1 v2, .bool jnf]), (w.heap.size, [.slice x0 x1 x2, .slice y0 y1 y2, .bool inf])] [(.slice x0 x1 x2, X), (.slice y0 y1 y2, Y), (.slice u0 u1 u2, U), (.slice v0 v1 v2, V)] []) := Hwb.out.box [.slice none 0 0, .slice none 0 0, .bool false]
  have k0_0 : (wb.alloc (.cells #[.slice none 0 0, .slice none 0 0, .bool false] 45)).cell? ⟨w.heap.size, 0, none⟩ = some (.slice x0 x1 x2) := HB2.out.cell 2 0 (Nat.le_of_ble_eq_true rfl) (Nat.le_of_ble_eq_true rfl)
  have k0_1 : (wb.alloc (.cells #[.slice none 0 0, .slice none 0 0, .bool false] 45)).cell? ⟨w.heap.size, 1, none⟩ = some (.slice y0 y1 y2) := HB2.out.cell 2 1 (Nat.le_of_ble_eq_true rfl) (Nat.le_of_ble_eq_true rfl)
  have k0_2 : (wb.alloc (.cells #[.slice none 0 0, .slice none 0 0, .bool false] 45)).cell? ⟨w.heap.size, 2, none⟩ = some (.bool inf) := HB2.out.cell 2 2 (Nat.le_of_ble_eq_true rfl) (Nat.le_of_ble_eq_true rfl)
  go_wp2_with fail
  clear k0_0 k0_1 k0_2
  generalize (wb.alloc (.cells #[.slice none 0 0, .slice none 0 0, .bool false] 45)) = wv4 at *
  have C := on_v hk _ _ X Y inf _ (HB2.out.arg 0 (Nat.le_of_ble_eq_true rfl)) (HB2.out.arg 1 (Nat.le_of_ble_eq_true rfl))
  rw [o1] at C
  refine C.mono ?_
  clear C
  rintro e wc ⟨rfl, hB⟩
  have Hwc : Hid (Lf w wc [(wb.heap.size, [.slice none 0 0, .slice none 0 0, .bool false]), (w.heap.size + 1, [.slice u0 u1 u2, .slice v0 v1 v2, .bool jnf]), (w.heap.size, [.slice x0 x1 x2, .slice y0 y1 y2, .bool inf])] [(.slice x0 x1 x2, X), (.slice y0 y1 y2, Y), (.slice u0 u1 u2, U), (.slice v0 v1 v2, V)] []) := (HB2.out.below hB)
  clear hB
  have k2_0 : wc.cell? ⟨wb.heap.size, 0, none⟩ = some (.slice none 0 0) := Hwc.out.cell 0 0 (Nat.le_of_ble_eq_true rfl) (Nat.le_of_ble_eq_true rfl)
  have k2_1 : wc.cell? ⟨wb.heap.size, 1, none⟩ = some (.slice none 0 0) := Hwc.out.cell 0 1 (Nat.le_of_ble_eq_true rfl) (Nat.le_of_ble_eq_true rfl)
  have k2_2 : wc.cell? ⟨wb.heap.size, 2, none⟩ = some (.bool false) := Hwc.out.cell 0 2 (Nat.le_of_ble_eq_true rfl) (Nat.le_of_ble_eq_true rfl)
  go_wp2_with fail
  clear k2_0 k2_1 k2_2
  refine (same_v _ _ _ _ 0 0 false _ (Mk.none _ 0 384).nm (Mk.none _ 0 384).nm (Mk.none _ 0 384).nm (Mk.none _ 0 384).nm (Mk.none w 0 384).2.1 (Mk.none w 0 384).2.1).mono ?_
  rintro e wz ⟨rfl, hB⟩
  have Hwz : Hid (Lf w wz [(wb.heap.size, [.slice none 0 0, .slice none 0 0, .bool false]), (w.heap.size + 1, [.slice u0 u1 u2, .slice v0 v1 v2, .bool jnf]), (w.heap.size, [.slice x0 x1 x2, .slice y0 y1 y2, .bool inf])] [(.slice x0 x1 x2, X), (.slice y0 y1 y2, Y), (.slice u0 u1 u2, U), (.slice v0 v1 v2, V)] []) := (Hwc.out.below hB)
  clear hB
  go_wp2
  go_ret
  exact ⟨rfl, Hwz.out.bel⟩
set_option maxHeartbeats 40000000 in
theorem line_bad2 {c s : Int} {p b n gx gy : Nat} (hk : Kv c p b n gx gy s) (x y u v : Value) (X Y U V : Nat) (inf jnf : Bool) (w : World) (hx : Nu w x X) (hy : Nu w y Y) (hu : Nu w u U) (hv : Nu w v V) (o1 : onB p b X Y inf = true) (o2 : onB p b U V jnf = false) :
    Calls Tryz.prog 11 #[.int .i64 c, .agg #[x, y, .bool inf], .agg #[u, v, .bool jnf]] w fun e w' => e = .returned (.bool true) ∧ Below w.heap.size w w' := by
  obtain ⟨x0, x1, x2, rfl⟩ := hx.shape
  obtain ⟨y0, y1, y2, rfl⟩ := hy.shape
  obtain ⟨u0, u1, u2, rfl⟩ := hu.shape
  obtain ⟨v0, v1, v2, rfl⟩ := hv.shape
  have H0 : Hid (Lf w ((w.alloc (.cells #[.slice x0 x1 x2, .slice y0 y1 y2, .bool inf] 45)).alloc (.cells #[.slice u0 u1 u2, .slice v0 v1 v2, .bool jnf] 45)) [(w.heap.size + 1, [.slice u0 u1 u2, .slice v0 v1 v2, .bool jnf]), (w.heap.size, [.slice x0 x1 x2, .slice y0 y1 y2, .bool inf])] [(.slice x0 x1 x2, X), (.slice y0 y1 y2, Y), (.slice u0 u1 u2, U), (.slice v0 v1 v2, V)] []) := Lf.of2 (((Fm.nil (w := w) (A := []) ar_nil).push (by simp) 45 [.slice x0 x1 x2, .slice y0 y1 y2, .bool inf]).push (by simp) 45 [.slice u0 u1 u2, .slice v0 v1 v2, .bool jnf]) (fun q hq => by simp only [List.mem_cons, List.not_mem_nil, or_false] at hq; rcases hq with rfl | rfl | rfl | rfl <;> assumption)
  clear hx hy hu hv
  go_enter Tryz.func11, Tryz.ntmps11
  go_wp2_with fail
  generalize ((w.alloc (.cells #[.slice x0 x1 x2, .slice y0 y1 y2, .bool inf] 45)).alloc (.cells #[.slice u0 u1 u2, .slice v0 v1 v2, .bool jnf] 45)) = wv1 at *
  refine (started_v _).mono ?_
  rintro e wa ⟨rfl, hB⟩
  have Hwa : Hid (Lf w wa [(w.heap.size + 1, [.slice u0 u1 u2, .slice v0 v1 v2, .bool jnf]), (w.heap.size, [.slice x0 x1 x2, .slice y0 y1 y2, .bool inf])] [(.slice x0 x1 x2, X), (.slice y0 y1 y2, Y), (.slice u0 u1 u2, U), (.slice v0 v1 v2, V)] []) := (H0.out.below hB)
  clear hB
  have k0_0 : wa.cell? ⟨w.heap.size, 0, none⟩ = some (.slice x0 x1 x2) := Hwa.out.cell 1 0 (Nat.le_of_ble_eq_true rfl) (Nat.le_of_ble_eq_true rfl)
  have k0_1 : wa.cell? ⟨w.heap.size, 1, none⟩ = some (.slice y0 y1 y2) := Hwa.out.cell 1 1 (Nat.le_of_ble_eq_true rfl) (Nat.le_of_ble_eq_true rfl)
  have k0_2 : wa.cell? ⟨w.heap.size, 2, none⟩ = some (.bool inf) := Hwa.out.cell 1 2 (Nat.le_of_ble_eq_true rfl) (Nat.le_of_ble_eq_true rfl)
  have k1_0 : wa.cell? ⟨w.heap.size + 1, 0, none⟩ = some (.slice u0 u1 u2) := Hwa.out.cell 0 0 (Nat.le_of_ble_eq_true rfl) (Nat.le_of_ble_eq_true rfl)
  have k1_1 : wa.cell? ⟨w.heap.size + 1, 1, none⟩ = some (.slice v0 v1 v2) := Hwa.out.cell 0 1 (Nat.le_of_ble_eq_true rfl) (Nat.le_of_ble_eq_true rfl)
  have k1_2 : wa.cell? ⟨w.heap.size + 1, 2, none⟩ = some (.bool jnf) := Hwa.out.cell 0 2 (Nat.le_of_ble_eq_true rfl) (Nat.le_of_ble_eq_true rfl)
  go_wp2_with fail
  clear k0_0 k0_1 k0_2 k1_0 k1_1 k1_2
  refine (add_bad2 hk _ _ _ _ X Y U V inf jnf _ (Hwa.out.arg 0 (Nat.le_of_ble_eq_true rfl)) (Hwa.out.arg 1 (Nat.le_of_ble_eq_true rfl)) (Hwa.out.arg 2 (Nat.le_of_ble_eq_true rfl)) (Hwa.out.arg 3 (Nat.le_of_ble_eq_true rfl)) o1 o2).mono ?_
  rintro e wb ⟨rfl, hB⟩
  have Hwb : Hid (Lf w wb [(w.heap.size + 1, [.slice u0 u1 u2, .slice v0 v1 v2, .bool jnf]), (w.heap.size, [.slice x0 x1 x2, .slice y0 y1 y2, .bool inf])] [(.slice x0 x1 x2, X), (.slice y0 y1 y2, Y), (.slice u0 u1 u2, U), (.slice v0 v1 v2, V)] []) := (Hwa.out.below hB)
  clear hB
  have HB2 : Hid (Lf w (wb.alloc (.cells #[.slice none 0 0, .slice none 0 0, .bool false] 45)) [(wb.heap.size, [.slice none 0 0, .slice none 0 0, .bool false]), (w.heap.size + 1, [.slice u0 u1 u2, .slice v0 v1 v2, .bool jnf]), (w.heap.size, [.slice x0 x1 x2, .slice y0 y1 y2, .bool inf])] [(.slice x0 x1 x2, X), (.slice y0 y1 y2, Y), (.slice u0 u1 u2, U), (.slice v0 v1 v2, V)] []) := Hwb.out.box [.slice none 0 0, .slice none 0 0, .bool false]
  have k0_0 : (wb.alloc (.cells #[.slice none 0 0, .slice none 0 0, .bool false] 45)).cell? ⟨w.heap.size, 0, none⟩ = some (.slice x0 x1 x2) := HB2.out.cell 2 0 (Nat.le_of_ble_eq_true rfl) (Nat.le_of_ble_eq_true rfl)
  have k0_1 : (wb.alloc (.cells #[.slice none 0 0, .slice none 0 0, .bool false] 45)).cell? ⟨w.heap.size, 1, none⟩ = some (.slice y0 y1 y2) := HB2.out.cell 2 1 (Nat.le_of_ble_eq_true rfl) (Nat.le_of_ble_eq_true rfl)
  have k0_2 : (wb.alloc (.cells #[.slice none 0 0, .slice none 0 0, .bool false] 45)).cell? ⟨w.heap.size, 2, none⟩ = some (.bool inf) := HB2.out.cell 2 2 (Nat.le_of_ble_eq_true rfl) (Nat.le_of_ble_eq_true rfl)
  go_wp2_with fail
  clear k0_0 k0_1 k0_2
  generalize (wb.alloc (.cells #[.slice none 0 0, .slice none 0 0, .bool false] 45)) = wv4 at *
  have C := on_v hk _ _ X Y inf _ (HB2.out.arg 0 (Nat.le_of_ble_eq_true rfl)) (HB2.out.arg 1 (Nat.le_of_ble_eq_true rfl))
  rw [o1] at C
  refine C.mono ?_
  clear C
  rintro e wc ⟨rfl, hB⟩
  have Hwc : Hid (Lf w wc [(wb.heap.size, [.slice none 0 0, .slice none 0 0, .bool false]), (w.heap.size + 1, [.slice u0 u1 u2, .slice v0 v1 v2, .bool jnf]), (w.heap.size, [.slice x0 x1 x2, .slice y0 y1 y2, .bool inf])] [(.slice x0 x1 x2, X), (.slice y0 y1 y2, Y), (.slice u0 u1 u2, U), (.slice v0 v1 v2, V)] []) := (HB2.out.below hB)
  clear hB
  have k1_0 : wc.cell? ⟨w.heap.size + 1, 0, none⟩ = some (.slice u0 u1 u2) := Hwc.out.cell 1 0 (Nat.le_of_ble_eq_true rfl) (Nat.le_of_ble_eq_true rfl)
  have k1_1 : wc.cell? ⟨w.heap.size + 1, 1, none⟩ = some (.slice v0 v1 v2) := Hwc.out.cell 1 1 (Nat.le_of_ble_eq_true rfl) (Nat.le_of_ble_eq_true rfl)
  have k1_2 : wc.cell? ⟨w.heap.size + 1, 2, none⟩ = some (.bool jnf) := Hwc.out.cell 1 2 (Nat.le_of_ble_eq_true rfl) (Nat.le_of_ble_eq_true rfl)
  go_wp2_with fail
  clear k1_0 k1_1 k1_2
  have C := on_v hk _ _ U V jnf _ (Hwc.out.arg 2 (Nat.le_of_ble_eq_true rfl)) (Hwc.out.arg 3 (Nat.le_of_ble_eq_true rfl))
  rw [o2] at C
  refine C.mono ?_
  clear C
  rintro e wd ⟨rfl, hB⟩
  have Hwd : Hid (Lf w wd [(wb.heap.size, [.slice none 0 0, .slice none 0 0, .bool false]), (w.heap.size + 1, [.slice u0 u1 u2, .slice v0 v1 v2, .bool jnf]), (w.heap.size, [.slice x0 x1 x2, .slice y0 y1 y2, .bool inf])] [(.slice x0 x1 x2, X), (.slice y0 y1 y2, Y), (.slice u0 u1 u2, U), (.slice v0 v1 v2, V)] []) := (Hwc.out.below hB)
  clear hB
  have k2_0 : wd.cell? ⟨wb.heap.size, 0, none⟩ = some (.slice none 0 0) := Hwd.out.cell 0 0 (Nat.le_of_ble_eq_true rfl) (Nat.le_of_ble_eq_true rfl)
  have k2_1 : wd.cell? ⟨wb.heap.size, 1, none⟩ = some (.slice none 0 0) := Hwd.out.cell 0 1 (Nat.le_of_ble_eq_true rfl) (Nat.le_of_ble_eq_true rfl)
  have k2_2 : wd.cell? ⟨wb.heap.size, 2, none⟩ = some (.bool false) := Hwd.out.cell 0 2 (Nat.le_of_ble_eq_true rfl) (Nat.le_of_ble_eq_true rfl)
  go_wp2_with fail
  clear k2_0 k2_1 k2_2
  refine (same_v _ _ _ _ 0 0 false _ (Mk.none _ 0 384).nm (Mk.none _ 0 384).nm (Mk.none _ 0 384).nm (Mk.none _ 0 384).nm (Mk.none w 0 384).2.1 (Mk.none w 0 384).2.1).mono ?_
  rintro e wz ⟨rfl, hB⟩
  have Hwz : Hid (Lf w wz [(wb.heap.size, [.slice none 0 0, .slice none 0 0, .bool false]), (w.heap.size + 1, [.slice u0 u1 u2, .slice v0 v1 v2, .bool jnf]), (w.heap.size, [.slice x0 x1 x2, .slice y0 y1 y2, .bool inf])] [(.slice x0 x1 x2, X), (.slice y0 y1 y2, Y), (.slice u0 u1 u2, U), (.slice v0 v1 v2, V)] []) := (Hwd.out.below hB)
  clear hB
  go_wp2
  go_ret
  exact ⟨rfl, Hwz.out.bel⟩
set_option maxHeartbeats 40000000 in
theorem line_tt {c s : Int} {p b n gx gy : Nat} (hk : Kv c p b n gx gy s) (x y u v : Value) (X Y U V : Nat) (w : World) (hx : Nu w x X) (hy : Nu w y Y) (hu : Nu w u U) (hv : Nu w v V) (o1 : onB p b X Y true = true) (o2 : onB p b U V true = true) :
    Calls Tryz.prog 11 #[.int .i64 c, .agg #[x, y, .bool true], .agg #[u, v, .bool true]] w fun e w' => e = .returned (.bool true) ∧ Below w.heap.size w w' := by
  obtain ⟨x0, x1, x2, rfl⟩ := hx.shape
  obtain ⟨y0, y1, y2, rfl⟩ := hy.shape
  obtain ⟨u0, u1, u2, rfl⟩ := hu.shape
  obtain ⟨v0, v1, v2, rfl⟩ := hv.shape
  have H0 : Hid (Lf w ((w.alloc (.cells #[.slice x0 x1 x2, .slice y0 y1 y2, .bool true] 45)).alloc (.cells #[.slice u0 u1 u2, .slice v0 v1 v2, .bool true] 45)) [(w.heap.size + 1, [.slice u0 u1 u2, .slice v0 v1 v2, .bool true]), (w.heap.size, [.slice x0 x1 x2, .slice y0 y1 y2, .bool true])] [(.slice x0 x1 x2, X), (.slice y0 y1 y2, Y), (.slice u0 u1 u2, U), (.slice v0 v1 v2, V)] []) := Lf.of2 (((Fm.nil (w := w) (A := []) ar_nil).push (by simp) 45 [.slice x0 x1 x2, .slice y0 y1 y2, .bool true]).push (by simp) 45 [.slice u0 u1 u2, .slice v0 v1 v2, .bool true]) (fun q hq => by simp only [List.mem_cons, List.not_mem_nil, or_false] at hq; rcases hq with rfl | rfl | rfl | rfl <;> assumption)
  clear hx hy hu hv
  go_enter Tryz.func11, Tryz.ntmps11
  go_wp2_with fail
  generalize ((w.alloc (.cells #[.slice x0 x1 x2, .slice y0 y1 y2, .bool true] 45)).alloc (.cells #[.slice u0 u1 u2, .slice v0 v1 v2, .bool true] 45)) = wv1 at *
  refine (started_v _).mono ?_
  rintro e wa ⟨rfl, hB⟩
  have Hwa : Hid (Lf w wa [(w.heap.size + 1, [.slice u0 u1 u2, .slice v0 v1 v2, .bool true]), (w.heap.size, [.slice x0 x1 x2, .slice y0 y1 y2, .bool true])] [(.slice x0 x1 x2, X), (.slice y0 y1 y2, Y), (.slice u0 u1 u2, U), (.slice v0 v1 v2, V)] []) := (H0.out.below hB)
  clear hB
  have hpm := hk.pm
  have C0 := hk.cv
  have oP := ((onB_iff hpm).1 o1).1
  have oQ := ((onB_iff hpm).1 o2).1
  have HPM : Hid (Pm p) := hpm
  have k0_0 : wa.cell? ⟨w.heap.size, 0, none⟩ = some (.slice x0 x1 x2) := Hwa.out.cell 1 0 (Nat.le_of_ble_eq_true rfl) (Nat.le_of_ble_eq_true rfl)
  have k0_1 : wa.cell? ⟨w.heap.size, 1, none⟩ = some (.slice y0 y1 y2) := Hwa.out.cell 1 1 (Nat.le_of_ble_eq_true rfl) (Nat.le_of_ble_eq_true rfl)
  have k0_2 : wa.cell? ⟨w.heap.size, 2, none⟩ = some (.bool true) := Hwa.out.cell 1 2 (Nat.le_of_ble_eq_true rfl) (Nat.le_of_ble_eq_true rfl)
  have k1_0 : wa.cell? ⟨w.heap.size + 1, 0, none⟩ = some (.slice u0 u1 u2) := Hwa.out.cell 0 0 (Nat.le_of_ble_eq_true rfl) (Nat.le_of_ble_eq_true rfl)
  have k1_1 : wa.cell? ⟨w.heap.size + 1, 1, none⟩ = some (.slice v0 v1 v2) := Hwa.out.cell 0 1 (Nat.le_of_ble_eq_true rfl) (Nat.le_of_ble_eq_true rfl)
  have k1_2 : wa.cell? ⟨w.heap.size + 1, 2, none⟩ = some (.bool true) := Hwa.out.cell 0 2 (Nat.le_of_ble_eq_true rfl) (Nat.le_of_ble_eq_true rfl)
  go_wp2_with fail
  clear k0_0 k0_1 k0_2 k1_0 k1_1 k1_2
  refine (add_ok hk _ _ _ _ X Y U V true true _ (Hwa.out.arg 0 (Nat.le_of_ble_eq_true rfl)) (Hwa.out.arg 1 (Nat.le_of_ble_eq_true rfl)) (Hwa.out.arg 2 (Nat.le_of_ble_eq_true rfl)) (Hwa.out.arg 3 (Nat.le_of_ble_eq_true rfl)) o1 o2).mono ?_
  rintro e wb ⟨r, rfl, hPa⟩
  rw [show ptO X Y true = .O from rfl, C0.zl oQ] at hPa
  have hB := hPa.bel
  obtain ⟨r0, t0, r1, r2, t1, t2, X2, Y2, f2, rfl, m1, m2, hpt, hz⟩ := hPa.open
  have E2 : Hid (ptO X2 Y2 f2 = ptO U V true ∧ (f2 = true → X2 = 0 ∧ Y2 = 0)) := ⟨hpt, hz⟩
  have E3 : Hid (X2 = U ∧ Y2 = V ∧ f2 = true) := pt_inj (P := ptO U V true) rfl ((onB_iff hpm).1 o2).2 hpt hz
  have E4 : Hid (X2 = X ∧ Y2 = Y ∧ f2 = true) := ⟨by rw [E3.out.1, (((onB_iff hpm).1 o2).2 rfl).1, (((onB_iff hpm).1 o1).2 rfl).1], by rw [E3.out.2.1, (((onB_iff hpm).1 o2).2 rfl).2, (((onB_iff hpm).1 o1).2 rfl).2], E3.out.2.2⟩
  have Hwb : Hid (Lf w wb [(w.heap.size + 1, [.slice u0 u1 u2, .slice v0 v1 v2, .bool true]), (w.heap.size, [.slice x0 x1 x2, .slice y0 y1 y2, .bool true])] [(.slice x0 x1 x2, X), (.slice y0 y1 y2, Y), (.slice u0 u1 u2, U), (.slice v0 v1 v2, V)] [(.slice t0 t1 t2, Y2), (.slice r0 r1 r2, X2)]) := (((Hwa.out.below hB).res m1).res m2)
  clear hB m1 m2 hpt hz hpm hPa
  have HB2 : Hid (Lf w (wb.alloc (.cells #[.slice r0 r1 r2, .slice t0 t1 t2, .bool f2] 45)) [(wb.heap.size, [.slice r0 r1 r2, .slice t0 t1 t2, .bool f2]), (w.heap.size + 1, [.slice u0 u1 u2, .slice v0 v1 v2, .bool true]), (w.heap.size, [.slice x0 x1 x2, .slice y0 y1 y2, .bool true])] [(.slice x0 x1 x2, X), (.slice y0 y1 y2, Y), (.slice u0 u1 u2, U), (.slice v0 v1 v2, V)] [(.slice t0 t1 t2, Y2), (.slice r0 r1 r2, X2)]) := Hwb.out.box [.slice r0 r1 r2, .slice t0 t1 t2, .bool f2]
  have k0_0 : (wb.alloc (.cells #[.slice r0 r1 r2, .slice t0 t1 t2, .bool f2] 45)).cell? ⟨w.heap.size, 0, none⟩ = some (.slice x0 x1 x2) := HB2.out.cell 2 0 (Nat.le_of_ble_eq_true rfl) (Nat.le_of_ble_eq_true rfl)
  have k0_1 : (wb.alloc (.cells #[.slice r0 r1 r2, .slice t0 t1 t2, .bool f2] 45)).cell? ⟨w.heap.size, 1, none⟩ = some (.slice y0 y1 y2) := HB2.out.cell 2 1 (Nat.le_of_ble_eq_true rfl) (Nat.le_of_ble_eq_true rfl)
  have k0_2 : (wb.alloc (.cells #[.slice r0 r1 r2, .slice t0 t1 t2, .bool f2] 45)).cell? ⟨w.heap.size, 2, none⟩ = some (.bool true) := HB2.out.cell 2 2 (Nat.le_of_ble_eq_true rfl) (Nat.le_of_ble_eq_true rfl)
  go_wp2_with fail
  clear k0_0 k0_1 k0_2
  generalize (wb.alloc (.cells #[.slice r0 r1 r2, .slice t0 t1 t2, .bool f2] 45)) = wv4 at *
  have C := on_v hk _ _ X Y true _ (HB2.out.arg 0 (Nat.le_of_ble_eq_true rfl)) (HB2.out.arg 1 (Nat.le_of_ble_eq_true rfl))
  rw [o1] at C
  refine C.mono ?_
  clear C
  rintro e wc ⟨rfl, hB⟩
  have Hwc : Hid (Lf w wc [(wb.heap.size, [.slice r0 r1 r2, .slice t0 t1 t2, .bool f2]), (w.heap.size + 1, [.slice u0 u1 u2, .slice v0 v1 v2, .bool true]), (w.heap.size, [.slice x0 x1 x2, .slice y0 y1 y2, .bool true])] [(.slice x0 x1 x2, X), (.slice y0 y1 y2, Y), (.slice u0 u1 u2, U), (.slice v0 v1 v2, V)] [(.slice t0 t1 t2, Y2), (.slice r0 r1 r2, X2)]) := (HB2.out.below hB)
  clear hB
  have k1_0 : wc.cell? ⟨w.heap.size + 1, 0, none⟩ = some (.slice u0 u1 u2) := Hwc.out.cell 1 0 (Nat.le_of_ble_eq_true rfl) (Nat.le_of_ble_eq_true rfl)
  have k1_1 : wc.cell? ⟨w.heap.size + 1, 1, none⟩ = some (.slice v0 v1 v2) := Hwc.out.cell 1 1 (Nat.le_of_ble_eq_true rfl) (Nat.le_of_ble_eq_true rfl)
  have k1_2 : wc.cell? ⟨w.heap.size + 1, 2, none⟩ = some (.bool true) := Hwc.out.cell 1 2 (Nat.le_of_ble_eq_true rfl) (Nat.le_of_ble_eq_true rfl)
  go_wp2_with fail
  clear k1_0 k1_1 k1_2
  have C := on_v hk _ _ U V true _ (Hwc.out.arg 2 (Nat.le_of_ble_eq_true rfl)) (Hwc.out.arg 3 (Nat.le_of_ble_eq_true rfl))
  rw [o2] at C
  refine C.mono ?_
  clear C
  rintro e wd ⟨rfl, hB⟩
  have Hwd : Hid (Lf w wd [(wb.heap.size, [.slice r0 r1 r2, .slice t0 t1 t2, .bool f2]), (w.heap.size + 1, [.slice u0 u1 u2, .slice v0 v1 v2, .bool true]), (w.heap.size, [.slice x0 x1 x2, .slice y0 y1 y2, .bool true])] [(.slice x0 x1 x2, X), (.slice y0 y1 y2, Y), (.slice u0 u1 u2, U), (.slice v0 v1 v2, V)] [(.slice t0 t1 t2, Y2), (.slice r0 r1 r2, X2)]) := (Hwc.out.below hB)
  clear hB
  have k2_0 : wd.cell? ⟨wb.heap.size, 0, none⟩ = some (.slice r0 r1 r2) := Hwd.out.cell 0 0 (Nat.le_of_ble_eq_true rfl) (Nat.le_of_ble_eq_true rfl)
  have k2_1 : wd.cell? ⟨wb.heap.size, 1, none⟩ = some (.slice t0 t1 t2) := Hwd.out.cell 0 1 (Nat.le_of_ble_eq_true rfl) (Nat.le_of_ble_eq_true rfl)
  have k2_2 : wd.cell? ⟨wb.heap.size, 2, none⟩ = some (.bool f2) := Hwd.out.cell 0 2 (Nat.le_of_ble_eq_true rfl) (Nat.le_of_ble_eq_true rfl)
  go_wp2_with fail
  clear k2_0 k2_1 k2_2
  have C := on_v hk _ _ X2 Y2 f2 _ (Hwd.out.got 1 (Nat.le_of_ble_eq_true rfl)).nk.1 (Hwd.out.got 0 (Nat.le_of_ble_eq_true rfl)).nk.1
  rw [onB_of HPM.out E2.out oQ] at C
  refine C.mono ?_
  clear C
  rintro e we ⟨rfl, hB⟩
  have Hwe : Hid (Lf w we [(wb.heap.size, [.slice r0 r1 r2, .slice t0 t1 t2, .bool f2]), (w.heap.size + 1, [.slice u0 u1 u2, .slice v0 v1 v2, .bool true]), (w.heap.size, [.slice x0 x1 x2, .slice y0 y1 y2, .bool true])] [(.slice x0 x1 x2, X), (.slice y0 y1 y2, Y), (.slice u0 u1 u2, U), (.slice v0 v1 v2, V)] [(.slice t0 t1 t2, Y2), (.slice r0 r1 r2, X2)]) := (Hwd.out.below hB)
  clear hB
  have hbi : (f2 == true) = true := by rw [E4.out.2.2]; rfl
  have k0_0 : we.cell? ⟨w.heap.size, 0, none⟩ = some (.slice x0 x1 x2) := Hwe.out.cell 2 0 (Nat.le_of_ble_eq_true rfl) (Nat.le_of_ble_eq_true rfl)
  have k0_1 : we.cell? ⟨w.heap.size, 1, none⟩ = some (.slice y0 y1 y2) := Hwe.out.cell 2 1 (Nat.le_of_ble_eq_true rfl) (Nat.le_of_ble_eq_true rfl)
  have k0_2 : we.cell? ⟨w.heap.size, 2, none⟩ = some (.bool true) := Hwe.out.cell 2 2 (Nat.le_of_ble_eq_true rfl) (Nat.le_of_ble_eq_true rfl)
  have k1_0 : we.cell? ⟨w.heap.size + 1, 0, none⟩ = some (.slice u0 u1 u2) := Hwe.out.cell 1 0 (Nat.le_of_ble_eq_true rfl) (Nat.le_of_ble_eq_true rfl)
  have k1_1 : we.cell? ⟨w.heap.size + 1, 1, none⟩ = some (.slice v0 v1 v2) := Hwe.out.cell 1 1 (Nat.le_of_ble_eq_true rfl) (Nat.le_of_ble_eq_true rfl)
  have k1_2 : we.cell? ⟨w.heap.size + 1, 2, none⟩ = some (.bool true) := Hwe.out.cell 1 2 (Nat.le_of_ble_eq_true rfl) (Nat.le_of_ble_eq_true rfl)
  have k2_0 : we.cell? ⟨wb.heap.size, 0, none⟩ = some (.slice r0 r1 r2) := Hwe.out.cell 0 0 (Nat.le_of_ble_eq_true rfl) (Nat.le_of_ble_eq_true rfl)
  have k2_1 : we.cell? ⟨wb.heap.size, 1, none⟩ = some (.slice t0 t1 t2) := Hwe.out.cell 0 1 (Nat.le_of_ble_eq_true rfl) (Nat.le_of_ble_eq_true rfl)
  have k2_2 : we.cell? ⟨wb.heap.size, 2, none⟩ = some (.bool f2) := Hwe.out.cell 0 2 (Nat.le_of_ble_eq_true rfl) (Nat.le_of_ble_eq_true rfl)
  have HWq : Hid (Lf w (we.alloc (.cells #[.slice u0 u1 u2, .slice v0 v1 v2, .bool true] 45)) [(wb.heap.size, [.slice r0 r1 r2, .slice t0 t1 t2, .bool f2]), (w.heap.size + 1, [.slice u0 u1 u2, .slice v0 v1 v2, .bool true]), (w.heap.size, [.slice x0 x1 x2, .slice y0 y1 y2, .bool true])] [(.slice x0 x1 x2, X), (.slice y0 y1 y2, Y), (.slice u0 u1 u2, U), (.slice v0 v1 v2, V)] [(.slice t0 t1 t2, Y2), (.slice r0 r1 r2, X2)]) := Hwe.out.below (alloc_below _ _)
  have y0_0 : (we.alloc (.cells #[.slice u0 u1 u2, .slice v0 v1 v2, .bool true] 45)).cell? ⟨w.heap.size, 0, none⟩ = some (.slice x0 x1 x2) := HWq.out.cell 2 0 (Nat.le_of_ble_eq_true rfl) (Nat.le_of_ble_eq_true rfl)
  have y0_1 : (we.alloc (.cells #[.slice u0 u1 u2, .slice v0 v1 v2, .bool true] 45)).cell? ⟨w.heap.size, 1, none⟩ = some (.slice y0 y1 y2) := HWq.out.cell 2 1 (Nat.le_of_ble_eq_true rfl) (Nat.le_of_ble_eq_true rfl)
  have y0_2 : (we.alloc (.cells #[.slice u0 u1 u2, .slice v0 v1 v2, .bool true] 45)).cell? ⟨w.heap.size, 2, none⟩ = some (.bool true) := HWq.out.cell 2 2 (Nat.le_of_ble_eq_true rfl) (Nat.le_of_ble_eq_true rfl)
  have y1_0 : (we.alloc (.cells #[.slice u0 u1 u2, .slice v0 v1 v2, .bool true] 45)).cell? ⟨w.heap.size + 1, 0, none⟩ = some (.slice u0 u1 u2) := HWq.out.cell 1 0 (Nat.le_of_ble_eq_true rfl) (Nat.le_of_ble_eq_true rfl)
  have y1_1 : (we.alloc (.cells #[.slice u0 u1 u2, .slice v0 v1 v2, .bool true] 45)).cell? ⟨w.heap.size + 1, 1, none⟩ = some (.slice v0 v1 v2) := HWq.out.cell 1 1 (Nat.le_of_ble_eq_true rfl) (Nat.le_of_ble_eq_true rfl)
  have y1_2 : (we.alloc (.cells #[.slice u0 u1 u2, .slice v0 v1 v2, .bool true] 45)).cell? ⟨w.heap.size + 1, 2, none⟩ = some (.bool true) := HWq.out.cell 1 2 (Nat.le_of_ble_eq_true rfl) (Nat.le_of_ble_eq_true rfl)
  have y2_0 : (we.alloc (.cells #[.slice u0 u1 u2, .slice v0 v1 v2, .bool true] 45)).cell? ⟨wb.heap.size, 0, none⟩ = some (.slice r0 r1 r2) := HWq.out.cell 0 0 (Nat.le_of_ble_eq_true rfl) (Nat.le_of_ble_eq_true rfl)
  have y2_1 : (we.alloc (.cells #[.slice u0 u1 u2, .slice v0 v1 v2, .bool true] 45)).cell? ⟨wb.heap.size, 1, none⟩ = some (.slice t0 t1 t2) := HWq.out.cell 0 1 (Nat.le_of_ble_eq_true rfl) (Nat.le_of_ble_eq_true rfl)
  have y2_2 : (we.alloc (.cells #[.slice u0 u1 u2, .slice v0 v1 v2, .bool true] 45)).cell? ⟨wb.heap.size, 2, none⟩ = some (.bool f2) := HWq.out.cell 0 2 (Nat.le_of_ble_eq_true rfl) (Nat.le_of_ble_eq_true rfl)
  have HB3 : Hid (Lf w (we.alloc (.cells #[.slice x0 x1 x2, .slice y0 y1 y2, .bool true] 45)) [(we.heap.size, [.slice x0 x1 x2, .slice y0 y1 y2, .bool true]), (wb.heap.size, [.slice r0 r1 r2, .slice t0 t1 t2, .bool f2]), (w.heap.size + 1, [.slice u0 u1 u2, .slice v0 v1 v2, .bool true]), (w.heap.size, [.slice x0 x1 x2, .slice y0 y1 y2, .bool true])] [(.slice x0 x1 x2, X), (.slice y0 y1 y2, Y), (.slice u0 u1 u2, U), (.slice v0 v1 v2, V)] [(.slice t0 t1 t2, Y2), (.slice r0 r1 r2, X2)]) := Hwe.out.box [.slice x0 x1 x2, .slice y0 y1 y2, .bool true]
  have z0_0 : (we.alloc (.cells #[.slice x0 x1 x2, .slice y0 y1 y2, .bool true] 45)).cell? ⟨w.heap.size, 0, none⟩ = some (.slice x0 x1 x2) := HB3.out.cell 3 0 (Nat.le_of_ble_eq_true rfl) (Nat.le_of_ble_eq_true rfl)
  have z0_1 : (we.alloc (.cells #[.slice x0 x1 x2, .slice y0 y1 y2, .bool true] 45)).cell? ⟨w.heap.size, 1, none⟩ = some (.slice y0 y1 y2) := HB3.out.cell 3 1 (Nat.le_of_ble_eq_true rfl) (Nat.le_of_ble_eq_true rfl)
  have z0_2 : (we.alloc (.cells #[.slice x0 x1 x2, .slice y0 y1 y2, .bool true] 45)).cell? ⟨w.heap.size, 2, none⟩ = some (.bool true) := HB3.out.cell 3 2 (Nat.le_of_ble_eq_true rfl) (Nat.le_of_ble_eq_true rfl)
  have z1_0 : (we.alloc (.cells #[.slice x0 x1 x2, .slice y0 y1 y2, .bool true] 45)).cell? ⟨w.heap.size + 1, 0, none⟩ = some (.slice u0 u1 u2) := HB3.out.cell 2 0 (Nat.le_of_ble_eq_true rfl) (Nat.le_of_ble_eq_true rfl)
  have z1_1 : (we.alloc (.cells #[.slice x0 x1 x2, .slice y0 y1 y2, .bool true] 45)).cell? ⟨w.heap.size + 1, 1, none⟩ = some (.slice v0 v1 v2) := HB3.out.cell 2 1 (Nat.le_of_ble_eq_true rfl) (Nat.le_of_ble_eq_true rfl)
  have z1_2 : (we.alloc (.cells #[.slice x0 x1 x2, .slice y0 y1 y2, .bool true] 45)).cell? ⟨w.heap.size + 1, 2, none⟩ = some (.bool true) := HB3.out.cell 2 2 (Nat.le_of_ble_eq_true rfl) (Nat.le_of_ble_eq_true rfl)
  have z2_0 : (we.alloc (.cells #[.slice x0 x1 x2, .slice y0 y1 y2, .bool true] 45)).cell? ⟨wb.heap.size, 0, none⟩ = some (.slice r0 r1 r2) := HB3.out.cell 1 0 (Nat.le_of_ble_eq_true rfl) (Nat.le_of_ble_eq_true rfl)
  have z2_1 : (we.alloc (.cells #[.slice x0 x1 x2, .slice y0 y1 y2, .bool true] 45)).cell? ⟨wb.heap.size, 1, none⟩ = some (.slice t0 t1 t2) := HB3.out.cell 1 1 (Nat.le_of_ble_eq_true rfl) (Nat.le_of_ble_eq_true rfl)
  have z2_2 : (we.alloc (.cells #[.slice x0 x1 x2, .slice y0 y1 y2, .bool true] 45)).cell? ⟨wb.heap.size, 2, none⟩ = some (.bool f2) := HB3.out.cell 1 2 (Nat.le_of_ble_eq_true rfl) (Nat.le_of_ble_eq_true rfl)
  go_wp2_with fail
  clear k0_0 k0_1 k0_2 k1_0 k1_1 k1_2 k2_0 k2_1 k2_2 y0_0 y0_1 y0_2 y1_0 y1_1 y1_2 y2_0 y2_1 y2_2 z0_0 z0_1 z0_2 z1_0 z1_1 z1_2 z2_0 z2_1 z2_2
  generalize (we.alloc (.cells #[.slice x0 x1 x2, .slice y0 y1 y2, .bool true] 45)) = wf at *
  refine (vcmp _ _ X2 X _ _ _ (HB3.out.got 1 (Nat.le_of_ble_eq_true rfl)).nk.1 (HB3.out.arg 0 (Nat.le_of_ble_eq_true rfl)) (by decide) (by decide)).mono ?_
  rw [cmp3_eq (by rw [E4.out.1])]
  rintro e wg ⟨rfl, q, hq⟩
  have hB : Below wf.heap.size wf wg := (by rw [hq]; exact below_drewN (Below.refl _ _) q)
  clear hq
  have Hwg : Hid (Lf w wg [(we.heap.size, [.slice x0 x1 x2, .slice y0 y1 y2, .bool true]), (wb.heap.size, [.slice r0 r1 r2, .slice t0 t1 t2, .bool f2]), (w.heap.size + 1, [.slice u0 u1 u2, .slice v0 v1 v2, .bool true]), (w.heap.size, [.slice x0 x1 x2, .slice y0 y1 y2, .bool true])] [(.slice x0 x1 x2, X), (.slice y0 y1 y2, Y), (.slice u0 u1 u2, U), (.slice v0 v1 v2, V)] [(.slice t0 t1 t2, Y2), (.slice r0 r1 r2, X2)]) := (HB3.out.below hB)
  clear hB
  have k2_0 : wg.cell? ⟨wb.heap.size, 0, none⟩ = some (.slice r0 r1 r2) := Hwg.out.cell 1 0 (Nat.le_of_ble_eq_true rfl) (Nat.le_of_ble_eq_true rfl)
  have k2_1 : wg.cell? ⟨wb.heap.size, 1, none⟩ = some (.slice t0 t1 t2) := Hwg.out.cell 1 1 (Nat.le_of_ble_eq_true rfl) (Nat.le_of_ble_eq_true rfl)
  have k2_2 : wg.cell? ⟨wb.heap.size, 2, none⟩ = some (.bool f2) := Hwg.out.cell 1 2 (Nat.le_of_ble_eq_true rfl) (Nat.le_of_ble_eq_true rfl)
  have k3_0 : wg.cell? ⟨we.heap.size, 0, none⟩ = some (.slice x0 x1 x2) := Hwg.out.cell 0 0 (Nat.le_of_ble_eq_true rfl) (Nat.le_of_ble_eq_true rfl)
  have k3_1 : wg.cell? ⟨we.heap.size, 1, none⟩ = some (.slice y0 y1 y2) := Hwg.out.cell 0 1 (Nat.le_of_ble_eq_true rfl) (Nat.le_of_ble_eq_true rfl)
  have k3_2 : wg.cell? ⟨we.heap.size, 2, none⟩ = some (.bool true) := Hwg.out.cell 0 2 (Nat.le_of_ble_eq_true rfl) (Nat.le_of_ble_eq_true rfl)
  go_wp2_with fail
  clear k2_0 k2_1 k2_2 k3_0 k3_1 k3_2
  refine (vcmp _ _ Y2 Y _ _ _ (Hwg.out.got 0 (Nat.le_of_ble_eq_true rfl)).nk.1 (Hwg.out.arg 1 (Nat.le_of_ble_eq_true rfl)) (by decide) (by decide)).mono ?_
  rw [cmp3_eq (by rw [E4.out.2.1])]
  rintro e wh ⟨rfl, q, hq⟩
  have hB : Below wg.heap.size wg wh := (by rw [hq]; exact below_drewN (Below.refl _ _) q)
  clear hq
  have Hwh : Hid (Lf w wh [(we.heap.size, [.slice x0 x1 x2, .slice y0 y1 y2, .bool true]), (wb.heap.size, [.slice r0 r1 r2, .slice t0 t1 t2, .bool f2]), (w.heap.size + 1, [.slice u0 u1 u2, .slice v0 v1 v2, .bool true]), (w.heap.size, [.slice x0 x1 x2, .slice y0 y1 y2, .bool true])] [(.slice x0 x1 x2, X), (.slice y0 y1 y2, Y), (.slice u0 u1 u2, U), (.slice v0 v1 v2, V)] [(.slice t0 t1 t2, Y2), (.slice r0 r1 r2, X2)]) := (Hwg.out.below hB)
  clear hB
  go_wp2
  go_ret
  exact ⟨rfl, Hwh.out.bel⟩
set_option maxHeartbeats 40000000 in
theorem line_tf {c s : Int} {p b n gx gy : Nat} (hk : Kv c p b n gx gy s) (x y u v : Value) (X Y U V : Nat) (w : World) (hx : Nu w x X) (hy : Nu w y Y) (hu : Nu w u U) (hv : Nu w v V) (o1 : onB p b X Y true = true) (o2 : onB p b U V false = true) :
    Calls Tryz.prog 11 #[.int .i64 c, .agg #[x, y, .bool true], .agg #[u, v, .bool false]] w fun e w' => e = .returned (.bool true) ∧ Below w.heap.size w w' := by
  obtain ⟨x0, x1, x2, rfl⟩ := hx.shape
  obtain ⟨y0, y1, y2, rfl⟩ := hy.shape
  obtain ⟨u0, u1, u2, rfl⟩ := hu.shape
  obtain ⟨v0, v1, v2, rfl⟩ := hv.shape
  have H0 : Hid (Lf w ((w.alloc (.cells #[.slice x0 x1 x2, .slice y0 y1 y2, .bool true] 45)).alloc (.cells #[.slice u0 u1 u2, .slice v0 v1 v2, .bool false] 45)) [(w.heap.size + 1, [.slice u0 u1 u2, .slice v0 v1 v2, .bool false]), (w.heap.size, [.slice x0 x1 x2, .slice y0 y1 y2, .bool true])] [(.slice x0 x1 x2, X), (.slice y0 y1 y2, Y), (.slice u0 u1 u2, U), (.slice v0 v1 v2, V)] []) := Lf.of2 (((Fm.nil (w := w) (A := []) ar_nil).push (by simp) 45 [.slice x0 x1 x2, .slice y0 y1 y2, .bool true]).push (by simp) 45 [.slice u0 u1 u2, .slice v0 v1 v2, .bool false]) (fun q hq => by simp only [List.mem_cons, List.not_mem_nil, or_false] at hq; rcases hq with rfl | rfl | rfl | rfl <;> assumption)
  clear hx hy hu hv
  go_enter Tryz.func11, Tryz.ntmps11
  go_wp2_with fail
  generalize ((w.alloc (.cells #[.slice x0 x1 x2, .slice y0 y1 y2, .bool true] 45)).alloc (.cells #[.slice u0 u1 u2, .slice v0 v1 v2, .bool false] 45)) = wv1 at *
  refine (started_v _).mono ?_
  rintro e wa ⟨rfl, hB⟩
  have Hwa : Hid (Lf w wa [(w.heap.size + 1, [.slice u0 u1 u2, .slice v0 v1 v2, .bool false]), (w.heap.size, [.slice x0 x1 x2, .slice y0 y1 y2, .bool true])] [(.slice x0 x1 x2, X), (.slice y0 y1 y2, Y), (.slice u0 u1 u2, U), (.slice v0 v1 v2, V)] []) := (H0.out.below hB)
  clear hB
  have hpm := hk.pm
  have C0 := hk.cv
  have oP := ((onB_iff hpm).1 o1).1
  have oQ := ((onB_iff hpm).1 o2).1
  have HPM : Hid (Pm p) := hpm
  have k0_0 : wa.cell? ⟨w.heap.size, 0, none⟩ = some (.slice x0 x1 x2) := Hwa.out.cell 1 0 (Nat.le_of_ble_eq_true rfl) (Nat.le_of_ble_eq_true rfl)
  have k0_1 : wa.cell? ⟨w.heap.size, 1, none⟩ = some (.slice y0 y1 y2) := Hwa.out.cell 1 1 (Nat.le_of_ble_eq_true rfl) (Nat.le_of_ble_eq_true rfl)
  have k0_2 : wa.cell? ⟨w.heap.size, 2, none⟩ = some (.bool true) := Hwa.out.cell 1 2 (Nat.le_of_ble_eq_true rfl) (Nat.le_of_ble_eq_true rfl)
  have k1_0 : wa.cell? ⟨w.heap.size + 1, 0, none⟩ = some (.slice u0 u1 u2) := Hwa.out.cell 0 0 (Nat.le_of_ble_eq_true rfl) (Nat.le_of_ble_eq_true rfl)
  have k1_1 : wa.cell? ⟨w.heap.size + 1, 1, none⟩ = some (.slice v0 v1 v2) := Hwa.out.cell 0 1 (Nat.le_of_ble_eq_true rfl) (Nat.le_of_ble_eq_true rfl)
  have k1_2 : wa.cell? ⟨w.heap.size + 1, 2, none⟩ = some (.bool false) := Hwa.out.cell 0 2 (Nat.le_of_ble_eq_true rfl) (Nat.le_of_ble_eq_true rfl)
  go_wp2_with fail
  clear k0_0 k0_1 k0_2 k1_0 k1_1 k1_2
  refine (add_ok hk _ _ _ _ X Y U V true false _ (Hwa.out.arg 0 (Nat.le_of_ble_eq_true rfl)) (Hwa.out.arg 1 (Nat.le_of_ble_eq_true rfl)) (Hwa.out.arg 2 (Nat.le_of_ble_eq_true rfl)) (Hwa.out.arg 3 (Nat.le_of_ble_eq_true rfl)) o1 o2).mono ?_
  rintro e wb ⟨r, rfl, hPa⟩
  rw [show ptO X Y true = .O from rfl, C0.zl oQ] at hPa
  have hB := hPa.bel
  obtain ⟨r0, t0, r1, r2, t1, t2, X2, Y2, f2, rfl, m1, m2, hpt, hz⟩ := hPa.open
  have E2 : Hid (ptO X2 Y2 f2 = ptO U V false ∧ (f2 = true → X2 = 0 ∧ Y2 = 0)) := ⟨hpt, hz⟩
  have E3 : Hid (X2 = U ∧ Y2 = V ∧ f2 = false) := pt_inj (P := ptO U V false) rfl ((onB_iff hpm).1 o2).2 hpt hz
  have E4 : Hid (X2 = U ∧ Y2 = V ∧ f2 = false) := E3.out
  have Hwb : Hid (Lf w wb [(w.heap.size + 1, [.slice u0 u1 u2, .slice v0 v1 v2, .bool false]), (w.heap.size, [.slice x0 x1 x2, .slice y0 y1 y2, .bool true])] [(.slice x0 x1 x2, X), (.slice y0 y1 y2, Y), (.slice u0 u1 u2, U), (.slice v0 v1 v2, V)] [(.slice t0 t1 t2, Y2), (.slice r0 r1 r2, X2)]) := (((Hwa.out.below hB).res m1).res m2)
  clear hB m1 m2 hpt hz hpm hPa
  have HB2 : Hid (Lf w (wb.alloc (.cells #[.slice r0 r1 r2, .slice t0 t1 t2, .bool f2] 45)) [(wb.heap.size, [.slice r0 r1 r2, .slice t0 t1 t2, .bool f2]), (w.heap.size + 1, [.slice u0 u1 u2, .slice v0 v1 v2, .bool false]), (w.heap.size, [.slice x0 x1 x2, .slice y0 y1 y2, .bool true])] [(.slice x0 x1 x2, X), (.slice y0 y1 y2, Y), (.slice u0 u1 u2, U), (.slice v0 v1 v2, V)] [(.slice t0 t1 t2, Y2), (.slice r0 r1 r2, X2)]) := Hwb.out.box [.slice r0 r1 r2, .slice t0 t1 t2, .bool f2]
  have k0_0 : (wb.alloc (.cells #[.slice r0 r1 r2, .slice t0 t1 t2, .bool f2] 45)).cell? ⟨w.heap.size, 0, none⟩ = some (.slice x0 x1 x2) := HB2.out.cell 2 0 (Nat.le_of_ble_eq_true rfl) (Nat.le_of_ble_eq_true rfl)
  have k0_1 : (wb.alloc (.cells #[.slice r0 r1 r2, .slice t0 t1 t2, .bool f2] 45)).cell? ⟨w.heap.size, 1, none⟩ = some (.slice y0 y1 y2) := HB2.out.cell 2 1 (Nat.le_of_ble_eq_true rfl) (Nat.le_of_ble_eq_true rfl)
  have k0_2 : (wb.alloc (.cells #[.slice r0 r1 r2, .slice t0 t1 t2, .bool f2] 45)).cell? ⟨w.heap.size, 2, none⟩ = some (.bool true) := HB2.out.cell 2 2 (Nat.le_of_ble_eq_true rfl) (Nat.le_of_ble_eq_true rfl)
  go_wp2_with fail
  clear k0_0 k0_1 k0_2
  generalize (wb.alloc (.cells #[.slice r0 r1 r2, .slice t0 t1 t2, .bool f2] 45)) = wv4 at *
  have C := on_v hk _ _ X Y true _ (HB2.out.arg 0 (Nat.le_of_ble_eq_true rfl)) (HB2.out.arg 1 (Nat.le_of_ble_eq_true rfl))
  rw [o1] at C
  refine C.mono ?_
  clear C
  rintro e wc ⟨rfl, hB⟩
  have Hwc : Hid (Lf w wc [(wb.heap.size, [.slice r0 r1 r2, .slice t0 t1 t2, .bool f2]), (w.heap.size + 1, [.slice u0 u1 u2, .slice v0 v1 v2, .bool false]), (w.heap.size, [.slice x0 x1 x2, .slice y0 y1 y2, .bool true])] [(.slice x0 x1 x2, X), (.slice y0 y1 y2, Y), (.slice u0 u1 u2, U), (.slice v0 v1 v2, V)] [(.slice t0 t1 t2, Y2), (.slice r0 r1 r2, X2)]) := (HB2.out.below hB)
  clear hB
  have k1_0 : wc.cell? ⟨w.heap.size + 1, 0, none⟩ = some (.slice u0 u1 u2) := Hwc.out.cell 1 0 (Nat.le_of_ble_eq_true rfl) (Nat.le_of_ble_eq_true rfl)
  have k1_1 : wc.cell? ⟨w.heap.size + 1, 1, none⟩ = some (.slice v0 v1 v2) := Hwc.out.cell 1 1 (Nat.le_of_ble_eq_true rfl) (Nat.le_of_ble_eq_true rfl)
  have k1_2 : wc.cell? ⟨w.heap.size + 1, 2, none⟩ = some (.bool false) := Hwc.out.cell 1 2 (Nat.le_of_ble_eq_true rfl) (Nat.le_of_ble_eq_true rfl)
  go_wp2_with fail
  clear k1_0 k1_1 k1_2
  have C := on_v hk _ _ U V false _ (Hwc.out.arg 2 (Nat.le_of_ble_eq_true rfl)) (Hwc.out.arg 3 (Nat.le_of_ble_eq_true rfl))
  rw [o2] at C
  refine C.mono ?_
  clear C
  rintro e wd ⟨rfl, hB⟩
  have Hwd : Hid (Lf w wd [(wb.heap.size, [.slice r0 r1 r2, .slice t0 t1 t2, .bool f2]), (w.heap.size + 1, [.slice u0 u1 u2, .slice v0 v1 v2, .bool false]), (w.heap.size, [.slice x0 x1 x2, .slice y0 y1 y2, .bool true])] [(.slice x0 x1 x2, X), (.slice y0 y1 y2, Y), (.slice u0 u1 u2, U), (.slice v0 v1 v2, V)] [(.slice t0 t1 t2, Y2), (.slice r0 r1 r2, X2)]) := (Hwc.out.below hB)
  clear hB
  have k2_0 : wd.cell? ⟨wb.heap.size, 0, none⟩ = some (.slice r0 r1 r2) := Hwd.out.cell 0 0 (Nat.le_of_ble_eq_true rfl) (Nat.le_of_ble_eq_true rfl)
  have k2_1 : wd.cell? ⟨wb.heap.size, 1, none⟩ = some (.slice t0 t1 t2) := Hwd.out.cell 0 1 (Nat.le_of_ble_eq_true rfl) (Nat.le_of_ble_eq_true rfl)
  have k2_2 : wd.cell? ⟨wb.heap.size, 2, none⟩ = some (.bool f2) := Hwd.out.cell 0 2 (Nat.le_of_ble_eq_true rfl) (Nat.le_of_ble_eq_true rfl)
  go_wp2_with fail
  clear k2_0 k2_1 k2_2
  have C := on_v hk _ _ X2 Y2 f2 _ (Hwd.out.got 1 (Nat.le_of_ble_eq_true rfl)).nk.1 (Hwd.out.got 0 (Nat.le_of_ble_eq_true rfl)).nk.1
  rw [onB_of HPM.out E2.out oQ] at C
  refine C.mono ?_
  clear C
  rintro e we ⟨rfl, hB⟩
  have Hwe : Hid (Lf w we [(wb.heap.size, [.slice r0 r1 r2, .slice t0 t1 t2, .bool f2]), (w.heap.size + 1, [.slice u0 u1 u2, .slice v0 v1 v2, .bool false]), (w.heap.size, [.slice x0 x1 x2, .slice y0 y1 y2, .bool true])] [(.slice x0 x1 x2, X), (.slice y0 y1 y2, Y), (.slice u0 u1 u2, U), (.slice v0 v1 v2, V)] [(.slice t0 t1 t2, Y2), (.slice r0 r1 r2, X2)]) := (Hwd.out.below hB)
  clear hB
  have hbi : (f2 == false) = true := by rw [E4.out.2.2]; rfl
  have k0_0 : we.cell? ⟨w.heap.size, 0, none⟩ = some (.slice x0 x1 x2) := Hwe.out.cell 2 0 (Nat.le_of_ble_eq_true rfl) (Nat.le_of_ble_eq_true rfl)
  have k0_1 : we.cell? ⟨w.heap.size, 1, none⟩ = some (.slice y0 y1 y2) := Hwe.out.cell 2 1 (Nat.le_of_ble_eq_true rfl) (Nat.le_of_ble_eq_true rfl)
  have k0_2 : we.cell? ⟨w.heap.size, 2, none⟩ = some (.bool true) := Hwe.out.cell 2 2 (Nat.le_of_ble_eq_true rfl) (Nat.le_of_ble_eq_true rfl)
  have k1_0 : we.cell? ⟨w.heap.size + 1, 0, none⟩ = some (.slice u0 u1 u2) := Hwe.out.cell 1 0 (Nat.le_of_ble_eq_true rfl) (Nat.le_of_ble_eq_true rfl)
  have k1_1 : we.cell? ⟨w.heap.size + 1, 1, none⟩ = some (.slice v0 v1 v2) := Hwe.out.cell 1 1 (Nat.le_of_ble_eq_true rfl) (Nat.le_of_ble_eq_true rfl)
  have k1_2 : we.cell? ⟨w.heap.size + 1, 2, none⟩ = some (.bool false) := Hwe.out.cell 1 2 (Nat.le_of_ble_eq_true rfl) (Nat.le_of_ble_eq_true rfl)
  have k2_0 : we.cell? ⟨wb.heap.size, 0, none⟩ = some (.slice r0 r1 r2) := Hwe.out.cell 0 0 (Nat.le_of_ble_eq_true rfl) (Nat.le_of_ble_eq_true rfl)
  have k2_1 : we.cell? ⟨wb.heap.size, 1, none⟩ = some (.slice t0 t1 t2) := Hwe.out.cell 0 1 (Nat.le_of_ble_eq_true rfl) (Nat.le_of_ble_eq_true rfl)
  have k2_2 : we.cell? ⟨wb.heap.size, 2, none⟩ = some (.bool f2) := Hwe.out.cell 0 2 (Nat.le_of_ble_eq_true rfl) (Nat.le_of_ble_eq_true rfl)
  have HB3 : Hid (Lf w (we.alloc (.cells #[.slice u0 u1 u2, .slice v0 v1 v2, .bool false] 45)) [(we.heap.size, [.slice u0 u1 u2, .slice v0 v1 v2, .bool false]), (wb.heap.size, [.slice r0 r1 r2, .slice t0 t1 t2, .bool f2]), (w.heap.size + 1, [.slice u0 u1 u2, .slice v0 v1 v2, .bool false]), (w.heap.size, [.slice x0 x1 x2, .slice y0 y1 y2, .bool true])] [(.slice x0 x1 x2, X), (.slice y0 y1 y2, Y), (.slice u0 u1 u2, U), (.slice v0 v1 v2, V)] [(.slice t0 t1 t2, Y2), (.slice r0 r1 r2, X2)]) := Hwe.out.box [.slice u0 u1 u2, .slice v0 v1 v2, .bool false]
  have z0_0 : (we.alloc (.cells #[.slice u0 u1 u2, .slice v0 v1 v2, .bool false] 45)).cell? ⟨w.heap.size, 0, none⟩ = some (.slice x0 x1 x2) := HB3.out.cell 3 0 (Nat.le_of_ble_eq_true rfl) (Nat.le_of_ble_eq_true rfl)
  have z0_1 : (we.alloc (.cells #[.slice u0 u1 u2, .slice v0 v1 v2, .bool false] 45)).cell? ⟨w.heap.size, 1, none⟩ = some (.slice y0 y1 y2) := HB3.out.cell 3 1 (Nat.le_of_ble_eq_true rfl) (Nat.le_of_ble_eq_true rfl)
  have z0_2 : (we.alloc (.cells #[.slice u0 u1 u2, .slice v0 v1 v2, .bool false] 45)).cell? ⟨w.heap.size, 2, none⟩ = some (.bool true) := HB3.out.cell 3 2 (Nat.le_of_ble_eq_true rfl) (Nat.le_of_ble_eq_true rfl)
  have z1_0 : (we.alloc (.cells #[.slice u0 u1 u2, .slice v0 v1 v2, .bool false] 45)).cell? ⟨w.heap.size + 1, 0, none⟩ = some (.slice u0 u1 u2) := HB3.out.cell 2 0 (Nat.le_of_ble_eq_true rfl) (Nat.le_of_ble_eq_true rfl)
  have z1_1 : (we.alloc (.cells #[.slice u0 u1 u2, .slice v0 v1 v2, .bool false] 45)).cell? ⟨w.heap.size + 1, 1, none⟩ = some (.slice v0 v1 v2) := HB3.out.cell 2 1 (Nat.le_of_ble_eq_true rfl) (Nat.le_of_ble_eq_true rfl)
  have z1_2 : (we.alloc (.cells #[.slice u0 u1 u2, .slice v0 v1 v2, .bool false] 45)).cell? ⟨w.heap.size + 1, 2, none⟩ = some (.bool false) := HB3.out.cell 2 2 (Nat.le_of_ble_eq_true rfl) (Nat.le_of_ble_eq_true rfl)
  have z2_0 : (we.alloc (.cells #[.slice u0 u1 u2, .slice v0 v1 v2, .bool false] 45)).cell? ⟨wb.heap.size, 0, none⟩ = some (.slice r0 r1 r2) := HB3.out.cell 1 0 (Nat.le_of_ble_eq_true rfl) (Nat.le_of_ble_eq_true rfl)
  have z2_1 : (we.alloc (.cells #[.slice u0 u1 u2, .slice v0 v1 v2, .bool false] 45)).cell? ⟨wb.heap.size, 1, none⟩ = some (.slice t0 t1 t2) := HB3.out.cell 1 1 (Nat.le_of_ble_eq_true rfl) (Nat.le_of_ble_eq_true rfl)
  have z2_2 : (we.alloc (.cells #[.slice u0 u1 u2, .slice v0 v1 v2, .bool false] 45)).cell? ⟨wb.heap.size, 2, none⟩ = some (.bool f2) := HB3.out.cell 1 2 (Nat.le_of_ble_eq_true rfl) (Nat.le_of_ble_eq_true rfl)
  go_wp2_with fail
  clear k0_0 k0_1 k0_2 k1_0 k1_1 k1_2 k2_0 k2_1 k2_2 z0_0 z0_1 z0_2 z1_0 z1_1 z1_2 z2_0 z2_1 z2_2
  generalize (we.alloc (.cells #[.slice u0 u1 u2, .slice v0 v1 v2, .bool false] 45)) = wf at *
  refine (vcmp _ _ X2 U _ _ _ (HB3.out.got 1 (Nat.le_of_ble_eq_true rfl)).nk.1 (HB3.out.arg 2 (Nat.le_of_ble_eq_true rfl)) (by decide) (by decide)).mono ?_
  rw [cmp3_eq (by rw [E4.out.1])]
  rintro e wg ⟨rfl, q, hq⟩
  have hB : Below wf.heap.size wf wg := (by rw [hq]; exact below_drewN (Below.refl _ _) q)
  clear hq
  have Hwg : Hid (Lf w wg [(we.heap.size, [.slice u0 u1 u2, .slice v0 v1 v2, .bool false]), (wb.heap.size, [.slice r0 r1 r2, .slice t0 t1 t2, .bool f2]), (w.heap.size + 1, [.slice u0 u1 u2, .slice v0 v1 v2, .bool false]), (w.heap.size, [.slice x0 x1 x2, .slice y0 y1 y2, .bool true])] [(.slice x0 x1 x2, X), (.slice y0 y1 y2, Y), (.slice u0 u1 u2, U), (.slice v0 v1 v2, V)] [(.slice t0 t1 t2, Y2), (.slice r0 r1 r2, X2)]) := (HB3.out.below hB)
  clear hB
  have k2_0 : wg.cell? ⟨wb.heap.size, 0, none⟩ = some (.slice r0 r1 r2) := Hwg.out.cell 1 0 (Nat.le_of_ble_eq_true rfl) (Nat.le_of_ble_eq_true rfl)
  have k2_1 : wg.cell? ⟨wb.heap.size, 1, none⟩ = some (.slice t0 t1 t2) := Hwg.out.cell 1 1 (Nat.le_of_ble_eq_true rfl) (Nat.le_of_ble_eq_true rfl)
  have k2_2 : wg.cell? ⟨wb.heap.size, 2, none⟩ = some (.bool f2) := Hwg.out.cell 1 2 (Nat.le_of_ble_eq_true rfl) (Nat.le_of_ble_eq_true rfl)
  have k3_0 : wg.cell? ⟨we.heap.size, 0, none⟩ = some (.slice u0 u1 u2) := Hwg.out.cell 0 0 (Nat.le_of_ble_eq_true rfl) (Nat.le_of_ble_eq_true rfl)
  have k3_1 : wg.cell? ⟨we.heap.size, 1, none⟩ = some (.slice v0 v1 v2) := Hwg.out.cell 0 1 (Nat.le_of_ble_eq_true rfl) (Nat.le_of_ble_eq_true rfl)
  have k3_2 : wg.cell? ⟨we.heap.size, 2, none⟩ = some (.bool false) := Hwg.out.cell 0 2 (Nat.le_of_ble_eq_true rfl) (Nat.le_of_ble_eq_true rfl)
  go_wp2_with fail
  clear k2_0 k2_1 k2_2 k3_0 k3_1 k3_2
  refine (vcmp _ _ Y2 V _ _ _ (Hwg.out.got 0 (Nat.le_of_ble_eq_true rfl)).nk.1 (Hwg.out.arg 3 (Nat.le_of_ble_eq_true rfl)) (by decide) (by decide)).mono ?_
  rw [cmp3_eq (by rw [E4.out.2.1])]
  rintro e wh ⟨rfl, q, hq⟩
  have hB : Below wg.heap.size wg wh := (by rw [hq]; exact below_drewN (Below.refl _ _) q)
  clear hq
  have Hwh : Hid (Lf w wh [(we.heap.size, [.slice u0 u1 u2, .slice v0 v1 v2, .bool false]), (wb.heap.size, [.slice r0 r1 r2, .slice t0 t1 t2, .bool f2]), (w.heap.size + 1, [.slice u0 u1 u2, .slice v0 v1 v2, .bool false]), (w.heap.size, [.slice x0 x1 x2, .slice y0 y1 y2, .bool true])] [(.slice x0 x1 x2, X), (.slice y0 y1 y2, Y), (.slice u0 u1 u2, U), (.slice v0 v1 v2, V)] [(.slice t0 t1 t2, Y2), (.slice r0 r1 r2, X2)]) := (Hwg.out.below hB)
  clear hB
  go_wp2
  go_ret
  exact ⟨rfl, Hwh.out.bel⟩
set_option maxHeartbeats 40000000 in
theorem line_ft {c s : Int} {p b n gx gy : Nat} (hk : Kv c p b n gx gy s) (x y u v : Value) (X Y U V : Nat) (w : World) (hx : Nu w x X) (hy : Nu w y Y) (hu : Nu w u U) (hv : Nu w v V) (o1 : onB p b X Y false = true) (o2 : onB p b U V true = true) :
    Calls Tryz.prog 11 #[.int .i64 c, .agg #[x, y, .bool false], .agg #[u, v, .bool true]] w fun e w' => e = .returned (.bool true) ∧ Below w.heap.size w w' := by
  obtain ⟨x0, x1, x2, rfl⟩ := hx.shape
  obtain ⟨y0, y1, y2, rfl⟩ := hy.shape
  obtain ⟨u0, u1, u2, rfl⟩ := hu.shape
  obtain ⟨v0, v1, v2, rfl⟩ := hv.shape
  have H0 : Hid (Lf w ((w.alloc (.cells #[.slice x0 x1 x2, .slice y0 y1 y2, .bool false] 45)).alloc (.cells #[.slice u0 u1 u2, .slice v0 v1 v2, .bool true] 45)) [(w.heap.size + 1, [.slice u0 u1 u2, .slice v0 v1 v2, .bool true]), (w.heap.size, [.slice x0 x1 x2, .slice y0 y1 y2, .bool false])] [(.slice x0 x1 x2, X), (.slice y0 y1 y2, Y), (.slice u0 u1 u2, U), (.slice v0 v1 v2, V)] []) := Lf.of2 (((Fm.nil (w := w) (A := []) ar_nil).push (by simp) 45 [.slice x0 x1 x2, .slice y0 y1 y2, .bool false]).push (by simp) 45 [.slice u0 u1 u2, .slice v0 v1 v2, .bool true]) (fun q hq => by simp only [List.mem_cons, List.not_mem_nil, or_false] at hq; rcases hq with rfl | rfl | rfl | rfl <;> assumption)
  clear hx hy hu hv
  go_enter Tryz.func11, Tryz.ntmps11
  go_wp2_with fail
  generalize ((w.alloc (.cells #[.slice x0 x1 x2, .slice y0 y1 y2, .bool false] 45)).alloc (.cells #[.slice u0 u1 u2, .slice v0 v1 v2, .bool true] 45)) = wv1 at *
  refine (started_v _).mono ?_
  rintro e wa ⟨rfl, hB⟩
  have Hwa : Hid (Lf w wa [(w.heap.size + 1, [.slice u0 u1 u2, .slice v0 v1 v2, .bool true]), (w.heap.size, [.slice x0 x1 x2, .slice y0 y1 y2, .bool false])] [(.slice x0 x1 x2, X), (.slice y0 y1 y2, Y), (.slice u0 u1 u2, U), (.slice v0 v1 v2, V)] []) := (H0.out.below hB)
  clear hB
  have hpm := hk.pm
  have C0 := hk.cv
  have oP := ((onB_iff hpm).1 o1).1
  have oQ := ((onB_iff hpm).1 o2).1
  have HPM : Hid (Pm p) := hpm
  have k0_0 : wa.cell? ⟨w.heap.size, 0, none⟩ = some (.slice x0 x1 x2) := Hwa.out.cell 1 0 (Nat.le_of_ble_eq_true rfl) (Nat.le_of_ble_eq_true rfl)
  have k0_1 : wa.cell? ⟨w.heap.size, 1, none⟩ = some (.slice y0 y1 y2) := Hwa.out.cell 1 1 (Nat.le_of_ble_eq_true rfl) (Nat.le_of_ble_eq_true rfl)
  have k0_2 : wa.cell? ⟨w.heap.size, 2, none⟩ = some (.bool false) := Hwa.out.cell 1 2 (Nat.le_of_ble_eq_true rfl) (Nat.le_of_ble_eq_true rfl)
  have k1_0 : wa.cell? ⟨w.heap.size + 1, 0, none⟩ = some (.slice u0 u1 u2) := Hwa.out.cell 0 0 (Nat.le_of_ble_eq_true rfl) (Nat.le_of_ble_eq_true rfl)
  have k1_1 : wa.cell? ⟨w.heap.size + 1, 1, none⟩ = some (.slice v0 v1 v2) := Hwa.out.cell 0 1 (Nat.le_of_ble_eq_true rfl) (Nat.le_of_ble_eq_true rfl)
  have k1_2 : wa.cell? ⟨w.heap.size + 1, 2, none⟩ = some (.bool true) := Hwa.out.cell 0 2 (Nat.le_of_ble_eq_true rfl) (Nat.le_of_ble_eq_true rfl)
  go_wp2_with fail
  clear k0_0 k0_1 k0_2 k1_0 k1_1 k1_2
  refine (add_ok hk _ _ _ _ X Y U V false true _ (Hwa.out.arg 0 (Nat.le_of_ble_eq_true rfl)) (Hwa.out.arg 1 (Nat.le_of_ble_eq_true rfl)) (Hwa.out.arg 2 (Nat.le_of_ble_eq_true rfl)) (Hwa.out.arg 3 (Nat.le_of_ble_eq_true rfl)) o1 o2).mono ?_
  rintro e wb ⟨r, rfl, hPa⟩
  rw [show ptO U V true = .O from rfl, C0.zr oP] at hPa
  have hB := hPa.bel
  obtain ⟨r0, t0, r1, r2, t1, t2, X2, Y2, f2, rfl, m1, m2, hpt, hz⟩ := hPa.open
  have E2 : Hid (ptO X2 Y2 f2 = ptO X Y false ∧ (f2 = true → X2 = 0 ∧ Y2 = 0)) := ⟨hpt, hz⟩
  have E3 : Hid (X2 = X ∧ Y2 = Y ∧ f2 = false) := pt_inj (P := ptO X Y false) rfl ((onB_iff hpm).1 o1).2 hpt hz
  have E4 : Hid (X2 = X ∧ Y2 = Y ∧ f2 = false) := E3.out
  have Hwb : Hid (Lf w wb [(w.heap.size + 1, [.slice u0 u1 u2, .slice v0 v1 v2, .bool true]), (w.heap.size, [.slice x0 x1 x2, .slice y0 y1 y2, .bool false])] [(.slice x0 x1 x2, X), (.slice y0 y1 y2, Y), (.slice u0 u1 u2, U), (.slice v0 v1 v2, V)] [(.slice t0 t1 t2, Y2), (.slice r0 r1 r2, X2)]) := (((Hwa.out.below hB).res m1).res m2)
  clear hB m1 m2 hpt hz hpm hPa
  have HB2 : Hid (Lf w (wb.alloc (.cells #[.slice r0 r1 r2, .slice t0 t1 t2, .bool f2] 45)) [(wb.heap.size, [.slice r0 r1 r2, .slice t0 t1 t2, .bool f2]), (w.heap.size + 1, [.slice u0 u1 u2, .slice v0 v1 v2, .bool true]), (w.heap.size, [.slice x0 x1 x2, .slice y0 y1 y2, .bool false])] [(.slice x0 x1 x2, X), (.slice y0 y1 y2, Y), (.slice u0 u1 u2, U), (.slice v0 v1 v2, V)] [(.slice t0 t1 t2, Y2), (.slice r0 r1 r2, X2)]) := Hwb.out.box [.slice r0 r1 r2, .slice t0 t1 t2, .bool f2]
  have k0_0 : (wb.alloc (.cells #[.slice r0 r1 r2, .slice t0 t1 t2, .bool f2] 45)).cell? ⟨w.heap.size, 0, none⟩ = some (.slice x0 x1 x2) := HB2.out.cell 2 0 (Nat.le_of_ble_eq_true rfl) (Nat.le_of_ble_eq_true rfl)
  have k0_1 : (wb.alloc (.cells #[.slice r0 r1 r2, .slice t0 t1 t2, .bool f2] 45)).cell? ⟨w.heap.size, 1, none⟩ = some (.slice y0 y1 y2) := HB2.out.cell 2 1 (Nat.le_of_ble_eq_true rfl) (Nat.le_of_ble_eq_true rfl)
  have k0_2 : (wb.alloc (.cells #[.slice r0 r1 r2, .slice t0 t1 t2, .bool f2] 45)).cell? ⟨w.heap.size, 2, none⟩ = some (.bool false) := HB2.out.cell 2 2 (Nat.le_of_ble_eq_true rfl) (Nat.le_of_ble_eq_true rfl)
  go_wp2_with fail
  clear k0_0 k0_1 k0_2
  generalize (wb.alloc (.cells #[.slice r0 r1 r2, .slice t0 t1 t2, .bool f2] 45)) = wv4 at *
  have C := on_v hk _ _ X Y false _ (HB2.out.arg 0 (Nat.le_of_ble_eq_true rfl)) (HB2.out.arg 1 (Nat.le_of_ble_eq_true rfl))
  rw [o1] at C
  refine C.mono ?_
  clear C
  rintro e wc ⟨rfl, hB⟩
  have Hwc : Hid (Lf w wc [(wb.heap.size, [.slice r0 r1 r2, .slice t0 t1 t2, .bool f2]), (w.heap.size + 1, [.slice u0 u1 u2, .slice v0 v1 v2, .bool true]), (w.heap.size, [.slice x0 x1 x2, .slice y0 y1 y2, .bool false])] [(.slice x0 x1 x2, X), (.slice y0 y1 y2, Y), (.slice u0 u1 u2, U), (.slice v0 v1 v2, V)] [(.slice t0 t1 t2, Y2), (.slice r0 r1 r2, X2)]) := (HB2.out.below hB)
  clear hB
  have k1_0 : wc.cell? ⟨w.heap.size + 1, 0, none⟩ = some (.slice u0 u1 u2) := Hwc.out.cell 1 0 (Nat.le_of_ble_eq_true rfl) (Nat.le_of_ble_eq_true rfl)
  have k1_1 : wc.cell? ⟨w.heap.size + 1, 1, none⟩ = some (.slice v0 v1 v2) := Hwc.out.cell 1 1 (Nat.le_of_ble_eq_true rfl) (Nat.le_of_ble_eq_true rfl)
  have k1_2 : wc.cell? ⟨w.heap.size + 1, 2, none⟩ = some (.bool true) := Hwc.out.cell 1 2 (Nat.le_of_ble_eq_true rfl) (Nat.le_of_ble_eq_true rfl)
  go_wp2_with fail
  clear k1_0 k1_1 k1_2
  have C := on_v hk _ _ U V true _ (Hwc.out.arg 2 (Nat.le_of_ble_eq_true rfl)) (Hwc.out.arg 3 (Nat.le_of_ble_eq_true rfl))
  rw [o2] at C
  refine C.mono ?_
  clear C
  rintro e wd ⟨rfl, hB⟩
  have Hwd : Hid (Lf w wd [(wb.heap.size, [.slice r0 r1 r2, .slice t0 t1 t2, .bool f2]), (w.heap.size + 1, [.slice u0 u1 u2, .slice v0 v1 v2, .bool true]), (w.heap.size, [.slice x0 x1 x2, .slice y0 y1 y2, .bool false])] [(.slice x0 x1 x2, X), (.slice y0 y1 y2, Y), (.slice u0 u1 u2, U), (.slice v0 v1 v2, V)] [(.slice t0 t1 t2, Y2), (.slice r0 r1 r2, X2)]) := (Hwc.out.below hB)
  clear hB
  have k2_0 : wd.cell? ⟨wb.heap.size, 0, none⟩ = some (.slice r0 r1 r2) := Hwd.out.cell 0 0 (Nat.le_of_ble_eq_true rfl) (Nat.le_of_ble_eq_true rfl)
  have k2_1 : wd.cell? ⟨wb.heap.size, 1, none⟩ = some (.slice t0 t1 t2) := Hwd.out.cell 0 1 (Nat.le_of_ble_eq_true rfl) (Nat.le_of_ble_eq_true rfl)
  have k2_2 : wd.cell? ⟨wb.heap.size, 2, none⟩ = some (.bool f2) := Hwd.out.cell 0 2 (Nat.le_of_ble_eq_true rfl) (Nat.le_of_ble_eq_true rfl)
  go_wp2_with fail
  clear k2_0 k2_1 k2_2
  have C := on_v hk _ _ X2 Y2 f2 _ (Hwd.out.got 1 (Nat.le_of_ble_eq_true rfl)).nk.1 (Hwd.out.got 0 (Nat.le_of_ble_eq_true rfl)).nk.1
  rw [onB_of HPM.out E2.out oP] at C
  refine C.mono ?_
  clear C
  rintro e we ⟨rfl, hB⟩
  have Hwe : Hid (Lf w we [(wb.heap.size, [.slice r0 r1 r2, .slice t0 t1 t2, .bool f2]), (w.heap.size + 1, [.slice u0 u1 u2, .slice v0 v1 v2, .bool true]), (w.heap.size, [.slice x0 x1 x2, .slice y0 y1 y2, .bool false])] [(.slice x0 x1 x2, X), (.slice y0 y1 y2, Y), (.slice u0 u1 u2, U), (.slice v0 v1 v2, V)] [(.slice t0 t1 t2, Y2), (.slice r0 r1 r2, X2)]) := (Hwd.out.below hB)
  clear hB
  have hbi : (f2 == false) = true := by rw [E4.out.2.2]; rfl
  have k0_0 : we.cell? ⟨w.heap.size, 0, none⟩ = some (.slice x0 x1 x2) := Hwe.out.cell 2 0 (Nat.le_of_ble_eq_true rfl) (Nat.le_of_ble_eq_true rfl)
  have k0_1 : we.cell? ⟨w.heap.size, 1, none⟩ = some (.slice y0 y1 y2) := Hwe.out.cell 2 1 (Nat.le_of_ble_eq_true rfl) (Nat.le_of_ble_eq_true rfl)
  have k0_2 : we.cell? ⟨w.heap.size, 2, none⟩ = some (.bool false) := Hwe.out.cell 2 2 (Nat.le_of_ble_eq_true rfl) (Nat.le_of_ble_eq_true rfl)
  have k1_0 : we.cell? ⟨w.heap.size + 1, 0, none⟩ = some (.slice u0 u1 u2) := Hwe.out.cell 1 0 (Nat.le_of_ble_eq_true rfl) (Nat.le_of_ble_eq_true rfl)
  have k1_1 : we.cell? ⟨w.heap.size + 1, 1, none⟩ = some (.slice v0 v1 v2) := Hwe.out.cell 1 1 (Nat.le_of_ble_eq_true rfl) (Nat.le_of_ble_eq_true rfl)
  have k1_2 : we.cell? ⟨w.heap.size + 1, 2, none⟩ = some (.bool true) := Hwe.out.cell 1 2 (Nat.le_of_ble_eq_true rfl) (Nat.le_of_ble_eq_true rfl)
  have k2_0 : we.cell? ⟨wb.heap.size, 0, none⟩ = some (.slice r0 r1 r2) := Hwe.out.cell 0 0 (Nat.le_of_ble_eq_true rfl) (Nat.le_of_ble_eq_true rfl)
  have k2_1 : we.cell? ⟨wb.heap.size, 1, none⟩ = some (.slice t0 t1 t2) := Hwe.out.cell 0 1 (Nat.le_of_ble_eq_true rfl) (Nat.le_of_ble_eq_true rfl)
  have k2_2 : we.cell? ⟨wb.heap.size, 2, none⟩ = some (.bool f2) := Hwe.out.cell 0 2 (Nat.le_of_ble_eq_true rfl) (Nat.le_of_ble_eq_true rfl)
  have HWq : Hid (Lf w (we.alloc (.cells #[.slice u0 u1 u2, .slice v0 v1 v2, .bool true] 45)) [(wb.heap.size, [.slice r0 r1 r2, .slice t0 t1 t2, .bool f2]), (w.heap.size + 1, [.slice u0 u1 u2, .slice v0 v1 v2, .bool true]), (w.heap.size, [.slice x0 x1 x2, .slice y0 y1 y2, .bool false])] [(.slice x0 x1 x2, X), (.slice y0 y1 y2, Y), (.slice u0 u1 u2, U), (.slice v0 v1 v2, V)] [(.slice t0 t1 t2, Y2), (.slice r0 r1 r2, X2)]) := Hwe.out.below (alloc_below _ _)
  have y0_0 : (we.alloc (.cells #[.slice u0 u1 u2, .slice v0 v1 v2, .bool true] 45)).cell? ⟨w.heap.size, 0, none⟩ = some (.slice x0 x1 x2) := HWq.out.cell 2 0 (Nat.le_of_ble_eq_true rfl) (Nat.le_of_ble_eq_true rfl)
  have y0_1 : (we.alloc (.cells #[.slice u0 u1 u2, .slice v0 v1 v2, .bool true] 45)).cell? ⟨w.heap.size, 1, none⟩ = some (.slice y0 y1 y2) := HWq.out.cell 2 1 (Nat.le_of_ble_eq_true rfl) (Nat.le_of_ble_eq_true rfl)
  have y0_2 : (we.alloc (.cells #[.slice u0 u1 u2, .slice v0 v1 v2, .bool true] 45)).cell? ⟨w.heap.size, 2, none⟩ = some (.bool false) := HWq.out.cell 2 2 (Nat.le_of_ble_eq_true rfl) (Nat.le_of_ble_eq_true rfl)
  have y1_0 : (we.alloc (.cells #[.slice u0 u1 u2, .slice v0 v1 v2, .bool true] 45)).cell? ⟨w.heap.size + 1, 0, none⟩ = some (.slice u0 u1 u2) := HWq.out.cell 1 0 (Nat.le_of_ble_eq_true rfl) (Nat.le_of_ble_eq_true rfl)
  have y1_1 : (we.alloc (.cells #[.slice u0 u1 u2, .slice v0 v1 v2, .bool true] 45)).cell? ⟨w.heap.size + 1, 1, none⟩ = some (.slice v0 v1 v2) := HWq.out.cell 1 1 (Nat.le_of_ble_eq_true rfl) (Nat.le_of_ble_eq_true rfl)
  have y1_2 : (we.alloc (.cells #[.slice u0 u1 u2, .slice v0 v1 v2, .bool true] 45)).cell? ⟨w.heap.size + 1, 2, none⟩ = some (.bool true) := HWq.out.cell 1 2 (Nat.le_of_ble_eq_true rfl) (Nat.le_of_ble_eq_true rfl)
  have y2_0 : (we.alloc (.cells #[.slice u0 u1 u2, .slice v0 v1 v2, .bool true] 45)).cell? ⟨wb.heap.size, 0, none⟩ = some (.slice r0 r1 r2) := HWq.out.cell 0 0 (Nat.le_of_ble_eq_true rfl) (Nat.le_of_ble_eq_true rfl)
  have y2_1 : (we.alloc (.cells #[.slice u0 u1 u2, .slice v0 v1 v2, .bool true] 45)).cell? ⟨wb.heap.size, 1, none⟩ = some (.slice t0 t1 t2) := HWq.out.cell 0 1 (Nat.le_of_ble_eq_true rfl) (Nat.le_of_ble_eq_true rfl)
  have y2_2 : (we.alloc (.cells #[.slice u0 u1 u2, .slice v0 v1 v2, .bool true] 45)).cell? ⟨wb.heap.size, 2, none⟩ = some (.bool f2) := HWq.out.cell 0 2 (Nat.le_of_ble_eq_true rfl) (Nat.le_of_ble_eq_true rfl)
  have HB3 : Hid (Lf w (we.alloc (.cells #[.slice x0 x1 x2, .slice y0 y1 y2, .bool false] 45)) [(we.heap.size, [.slice x0 x1 x2, .slice y0 y1 y2, .bool false]), (wb.heap.size, [.slice r0 r1 r2, .slice t0 t1 t2, .bool f2]), (w.heap.size + 1, [.slice u0 u1 u2, .slice v0 v1 v2, .bool true]), (w.heap.size, [.slice x0 x1 x2, .slice y0 y1 y2, .bool false])] [(.slice x0 x1 x2, X), (.slice y0 y1 y2, Y), (.slice u0 u1 u2, U), (.slice v0 v1 v2, V)] [(.slice t0 t1 t2, Y2), (.slice r0 r1 r2, X2)]) := Hwe.out.box [.slice x0 x1 x2, .slice y0 y1 y2, .bool false]
  have z0_0 : (we.alloc (.cells #[.slice x0 x1 x2, .slice y0 y1 y2, .bool false] 45)).cell? ⟨w.heap.size, 0, none⟩ = some (.slice x0 x1 x2) := HB3.out.cell 3 0 (Nat.le_of_ble_eq_true rfl) (Nat.le_of_ble_eq_true rfl)
  have z0_1 : (we.alloc (.cells #[.slice x0 x1 x2, .slice y0 y1 y2, .bool false] 45)).cell? ⟨w.heap.size, 1, none⟩ = some (.slice y0 y1 y2) := HB3.out.cell 3 1 (Nat.le_of_ble_eq_true rfl) (Nat.le_of_ble_eq_true rfl)
  have z0_2 : (we.alloc (.cells #[.slice x0 x1 x2, .slice y0 y1 y2, .bool false] 45)).cell? ⟨w.heap.size, 2, none⟩ = some (.bool false) := HB3.out.cell 3 2 (Nat.le_of_ble_eq_true rfl) (Nat.le_of_ble_eq_true rfl)
  have z1_0 : (we.alloc (.cells #[.slice x0 x1 x2, .slice y0 y1 y2, .bool false] 45)).cell? ⟨w.heap.size + 1, 0, none⟩ = some (.slice u0 u1 u2) := HB3.out.cell 2 0 (Nat.le_of_ble_eq_true rfl) (Nat.le_of_ble_eq_true rfl)
  have z1_1 : (we.alloc (.cells #[.slice x0 x1 x2, .slice y0 y1 y2, .bool false] 45)).cell? ⟨w.heap.size + 1, 1, none⟩ = some (.slice v0 v1 v2) := HB3.out.cell 2 1 (Nat.le_of_ble_eq_true rfl) (Nat.le_of_ble_eq_true rfl)
  have z1_2 : (we.alloc (.cells #[.slice x0 x1 x2, .slice y0 y1 y2, .bool false] 45)).cell? ⟨w.heap.size + 1, 2, none⟩ = some (.bool true) := HB3.out.cell 2 2 (Nat.le_of_ble_eq_true rfl) (Nat.le_of_ble_eq_true rfl)
  have z2_0 : (we.alloc (.cells #[.slice x0 x1 x2, .slice y0 y1 y2, .bool false] 45)).cell? ⟨wb.heap.size, 0, none⟩ = some (.slice r0 r1 r2) := HB3.out.cell 1 0 (Nat.le_of_ble_eq_true rfl) (Nat.le_of_ble_eq_true rfl)
  have z2_1 : (we.alloc (.cells #[.slice x0 x1 x2, .slice y0 y1 y2, .bool false] 45)).cell? ⟨wb.heap.size, 1, none⟩ = some (.slice t0 t1 t2) := HB3.out.cell 1 1 (Nat.le_of_ble_eq_true rfl) (Nat.le_of_ble_eq_true rfl)
  have z2_2 : (we.alloc (.cells #[.slice x0 x1 x2, .slice y0 y1 y2, .bool false] 45)).cell? ⟨wb.heap.size, 2, none⟩ = some (.bool f2) := HB3.out.cell 1 2 (Nat.le_of_ble_eq_true rfl) (Nat.le_of_ble_eq_true rfl)
  go_wp2_with fail
  clear k0_0 k0_1 k0_2 k1_0 k1_1 k1_2 k2_0 k2_1 k2_2 y0_0 y0_1 y0_2 y1_0 y1_1 y1_2 y2_0 y2_1 y2_2 z0_0 z0_1 z0_2 z1_0 z1_1 z1_2 z2_0 z2_1 z2_2
  generalize (we.alloc (.cells #[.slice x0 x1 x2, .slice y0 y1 y2, .bool false] 45)) = wf at *
  refine (vcmp _ _ X2 X _ _ _ (HB3.out.got 1 (Nat.le_of_ble_eq_true rfl)).nk.1 (HB3.out.arg 0 (Nat.le_of_ble_eq_true rfl)) (by decide) (by decide)).mono ?_
  rw [cmp3_eq (by rw [E4.out.1])]
  rintro e wg ⟨rfl, q, hq⟩
  have hB : Below wf.heap.size wf wg := (by rw [hq]; exact below_drewN (Below.refl _ _) q)
  clear hq
  have Hwg : Hid (Lf w wg [(we.heap.size, [.slice x0 x1 x2, .slice y0 y1 y2, .bool false]), (wb.heap.size, [.slice r0 r1 r2, .slice t0 t1 t2, .bool f2]), (w.heap.size + 1, [.slice u0 u1 u2, .slice v0 v1 v2, .bool true]), (w.heap.size, [.slice x0 x1 x2, .slice y0 y1 y2, .bool false])] [(.slice x0 x1 x2, X), (.slice y0 y1 y2, Y), (.slice u0 u1 u2, U), (.slice v0 v1 v2, V)] [(.slice t0 t1 t2, Y2), (.slice r0 r1 r2, X2)]) := (HB3.out.below hB)
  clear hB
  have k2_0 : wg.cell? ⟨wb.heap.size, 0, none⟩ = some (.slice r0 r1 r2) := Hwg.out.cell 1 0 (Nat.le_of_ble_eq_true rfl) (Nat.le_of_ble_eq_true rfl)
  have k2_1 : wg.cell? ⟨wb.heap.size, 1, none⟩ = some (.slice t0 t1 t2) := Hwg.out.cell 1 1 (Nat.le_of_ble_eq_true rfl) (Nat.le_of_ble_eq_true rfl)
  have k2_2 : wg.cell? ⟨wb.heap.size, 2, none⟩ = some (.bool f2) := Hwg.out.cell 1 2 (Nat.le_of_ble_eq_true rfl) (Nat.le_of_ble_eq_true rfl)
  have k3_0 : wg.cell? ⟨we.heap.size, 0, none⟩ = some (.slice x0 x1 x2) := Hwg.out.cell 0 0 (Nat.le_of_ble_eq_true rfl) (Nat.le_of_ble_eq_true rfl)
  have k3_1 : wg.cell? ⟨we.heap.size, 1, none⟩ = some (.slice y0 y1 y2) := Hwg.out.cell 0 1 (Nat.le_of_ble_eq_true rfl) (Nat.le_of_ble_eq_true rfl)
  have k3_2 : wg.cell? ⟨we.heap.size, 2, none⟩ = some (.bool false) := Hwg.out.cell 0 2 (Nat.le_of_ble_eq_true rfl) (Nat.le_of_ble_eq_true rfl)
  go_wp2_with fail
  clear k2_0 k2_1 k2_2 k3_0 k3_1 k3_2
  refine (vcmp _ _ Y2 Y _ _ _ (Hwg.out.got 0 (Nat.le_of_ble_eq_true rfl)).nk.1 (Hwg.out.arg 1 (Nat.le_of_ble_eq_true rfl)) (by decide) (by decide)).mono ?_
  rw [cmp3_eq (by rw [E4.out.2.1])]
  rintro e wh ⟨rfl, q, hq⟩
  have hB : Below wg.heap.size wg wh := (by rw [hq]; exact below_drewN (Below.refl _ _) q)
  clear hq
  have Hwh : Hid (Lf w wh [(we.heap.size, [.slice x0 x1 x2, .slice y0 y1 y2, .bool false]), (wb.heap.size, [.slice r0 r1 r2, .slice t0 t1 t2, .bool f2]), (w.heap.size + 1, [.slice u0 u1 u2, .slice v0 v1 v2, .bool true]), (w.heap.size, [.slice x0 x1 x2, .slice y0 y1 y2, .bool false])] [(.slice x0 x1 x2, X), (.slice y0 y1 y2, Y), (.slice u0 u1 u2, U), (.slice v0 v1 v2, V)] [(.slice t0 t1 t2, Y2), (.slice r0 r1 r2, X2)]) := (Hwg.out.below hB)
  clear hB
  go_wp2
  go_ret
  exact ⟨rfl, Hwh.out.bel⟩
set_option maxHeartbeats 40000000 in
theorem line_chord {c s : Int} {p b n gx gy : Nat} (hk : Kv c p b n gx gy s) (x y u v : Value) (X Y U V : Nat) (w : World) (hx : Nu w x X) (hy : Nu w y Y) (hu : Nu w u U) (hv : Nu w v V) (o1 : onB p b X Y false = true) (o2 : onB p b U V false = true) (hX : X ≠ U) :
    Calls Tryz.prog 11 #[.int .i64 c, .agg #[x, y, .bool false], .agg #[u, v, .bool false]] w fun e w' => e = .returned (.bool true) ∧ Below w.heap.size w w' := by
  obtain ⟨x0, x1, x2, rfl⟩ := hx.shape
  obtain ⟨y0, y1, y2, rfl⟩ := hy.shape
  obtain ⟨u0, u1, u2, rfl⟩ := hu.shape
  obtain ⟨v0, v1, v2, rfl⟩ := hv.shape
  have H0 : Hid (Lf w ((w.alloc (.cells #[.slice x0 x1 x2, .slice y0 y1 y2, .bool false] 45)).alloc (.cells #[.slice u0 u1 u2, .slice v0 v1 v2, .bool false] 45)) [(w.heap.size + 1, [.slice u0 u1 u2, .slice v0 v1 v2, .bool false]), (w.heap.size, [.slice x0 x1 x2, .slice y0 y1 y2, .bool false])] [(.slice x0 x1 x2, X), (.slice y0 y1 y2, Y), (.slice u0 u1 u2, U), (.slice v0 v1 v2, V)] []) := Lf.of2 (((Fm.nil (w := w) (A := []) ar_nil).push (by simp) 45 [.slice x0 x1 x2, .slice y0 y1 y2, .bool false]).push (by simp) 45 [.slice u0 u1 u2, .slice v0 v1 v2, .bool false]) (fun q hq => by simp only [List.mem_cons, List.not_mem_nil, or_false] at hq; rcases hq with rfl | rfl | rfl | rfl <;> assumption)
  clear hx hy hu hv
  go_enter Tryz.func11, Tryz.ntmps11
  go_wp2_with fail
  generalize ((w.alloc (.cells #[.slice x0 x1 x2, .slice y0 y1 y2, .bool false] 45)).alloc (.cells #[.slice u0 u1 u2, .slice v0 v1 v2, .bool false] 45)) = wv1 at *
  refine (started_v _).mono ?_
  rintro e wa ⟨rfl, hB⟩
  have Hwa : Hid (Lf w wa [(w.heap.size + 1, [.slice u0 u1 u2, .slice v0 v1 v2, .bool false]), (w.heap.size, [.slice x0 x1 x2, .slice y0 y1 y2, .bool false])] [(.slice x0 x1 x2, X), (.slice y0 y1 y2, Y), (.slice u0 u1 u2, U), (.slice v0 v1 v2, V)] []) := (H0.out.below hB)
  clear hB
  have hpm := hk.pm
  have C0 := hk.cv
  have oP := ((onB_iff hpm).1 o1).1
  have oQ := ((onB_iff hpm).1 o2).1
  have HPM : Hid (Pm p) := hpm
  have lP := onB_lt hpm o1
  have lQ := onB_lt hpm o2
  have HLt : Hid (X < pw 384 ∧ Y < pw 384 ∧ U < pw 384 ∧ V < pw 384) := ⟨lP.1, lP.2, lQ.1, lQ.2⟩
  obtain ⟨x3, y3, esm, e1, e2⟩ := chord hpm C0 oP oQ hX
  have HE : Hid (_ ∧ _) := ⟨e1, e2⟩
  clear e1 e2
  have k0_0 : wa.cell? ⟨w.heap.size, 0, none⟩ = some (.slice x0 x1 x2) := Hwa.out.cell 1 0 (Nat.le_of_ble_eq_true rfl) (Nat.le_of_ble_eq_true rfl)
  have k0_1 : wa.cell? ⟨w.heap.size, 1, none⟩ = some (.slice y0 y1 y2) := Hwa.out.cell 1 1 (Nat.le_of_ble_eq_true rfl) (Nat.le_of_ble_eq_true rfl)
  have k0_2 : wa.cell? ⟨w.heap.size, 2, none⟩ = some (.bool false) := Hwa.out.cell 1 2 (Nat.le_of_ble_eq_true rfl) (Nat.le_of_ble_eq_true rfl)
  have k1_0 : wa.cell? ⟨w.heap.size + 1, 0, none⟩ = some (.slice u0 u1 u2) := Hwa.out.cell 0 0 (Nat.le_of_ble_eq_true rfl) (Nat.le_of_ble_eq_true rfl)
  have k1_1 : wa.cell? ⟨w.heap.size + 1, 1, none⟩ = some (.slice v0 v1 v2) := Hwa.out.cell 0 1 (Nat.le_of_ble_eq_true rfl) (Nat.le_of_ble_eq_true rfl)
  have k1_2 : wa.cell? ⟨w.heap.size + 1, 2, none⟩ = some (.bool false) := Hwa.out.cell 0 2 (Nat.le_of_ble_eq_true rfl) (Nat.le_of_ble_eq_true rfl)
  go_wp2_with fail
  clear k0_0 k0_1 k0_2 k1_0 k1_1 k1_2
  refine (add_ok hk _ _ _ _ X Y U V false false _ (Hwa.out.arg 0 (Nat.le_of_ble_eq_true rfl)) (Hwa.out.arg 1 (Nat.le_of_ble_eq_true rfl)) (Hwa.out.arg 2 (Nat.le_of_ble_eq_true rfl)) (Hwa.out.arg 3 (Nat.le_of_ble_eq_true rfl)) o1 o2).mono ?_
  rintro e wb ⟨r, rfl, hPa⟩
  rw [show sm p (ptO X Y false) (ptO U V false) = .A x3 y3 from esm] at hPa
  obtain ⟨⟨rv, tv, rfl, m1, m2, _⟩, hB⟩ := hPa
  obtain ⟨r0, r1, r2, rfl⟩ := m1.nk.sl
  obtain ⟨t0, t1, t2, rfl⟩ := m2.nk.sl
  have o3 : onB p b x3 y3 false = true := onB_fin hpm (by have h := C0.son oP oQ; rw [show sm p (ptO X Y false) (ptO U V false) = .A x3 y3 from esm] at h; exact h)
  have Hwb : Hid (Lf w wb [(w.heap.size + 1, [.slice u0 u1 u2, .slice v0 v1 v2, .bool false]), (w.heap.size, [.slice x0 x1 x2, .slice y0 y1 y2, .bool false])] [(.slice x0 x1 x2, X), (.slice y0 y1 y2, Y), (.slice u0 u1 u2, U), (.slice v0 v1 v2, V)] [(.slice t0 t1 t2, y3), (.slice r0 r1 r2, x3)]) := (((Hwa.out.below hB).res m1).res m2)
  clear hB m1 m2 lP lQ hpm
  have HB2 : Hid (Lf w (wb.alloc (.cells #[.slice r0 r1 r2, .slice t0 t1 t2, .bool false] 45)) [(wb.heap.size, [.slice r0 r1 r2, .slice t0 t1 t2, .bool false]), (w.heap.size + 1, [.slice u0 u1 u2, .slice v0 v1 v2, .bool false]), (w.heap.size, [.slice x0 x1 x2, .slice y0 y1 y2, .bool false])] [(.slice x0 x1 x2, X), (.slice y0 y1 y2, Y), (.slice u0 u1 u2, U), (.slice v0 v1 v2, V)] [(.slice t0 t1 t2, y3), (.slice r0 r1 r2, x3)]) := Hwb.out.box [.slice r0 r1 r2, .slice t0 t1 t2, .bool false]
  have k0_0 : (wb.alloc (.cells #[.slice r0 r1 r2, .slice t0 t1 t2, .bool false] 45)).cell? ⟨w.heap.size, 0, none⟩ = some (.slice x0 x1 x2) := HB2.out.cell 2 0 (Nat.le_of_ble_eq_true rfl) (Nat.le_of_ble_eq_true rfl)
  have k0_1 : (wb.alloc (.cells #[.slice r0 r1 r2, .slice t0 t1 t2, .bool false] 45)).cell? ⟨w.heap.size, 1, none⟩ = some (.slice y0 y1 y2) := HB2.out.cell 2 1 (Nat.le_of_ble_eq_true rfl) (Nat.le_of_ble_eq_true rfl)
  have k0_2 : (wb.alloc (.cells #[.slice r0 r1 r2, .slice t0 t1 t2, .bool false] 45)).cell? ⟨w.heap.size, 2, none⟩ = some (.bool false) := HB2.out.cell 2 2 (Nat.le_of_ble_eq_true rfl) (Nat.le_of_ble_eq_true rfl)
  go_wp2_with fail
  clear k0_0 k0_1 k0_2
  generalize (wb.alloc (.cells #[.slice r0 r1 r2, .slice t0 t1 t2, .bool false] 45)) = wv4 at *
  have C := on_v hk _ _ X Y false _ (HB2.out.arg 0 (Nat.le_of_ble_eq_true rfl)) (HB2.out.arg 1 (Nat.le_of_ble_eq_true rfl))
  rw [o1] at C
  refine C.mono ?_
  clear C
  rintro e wc ⟨rfl, hB⟩
  have Hwc : Hid (Lf w wc [(wb.heap.size, [.slice r0 r1 r2, .slice t0 t1 t2, .bool false]), (w.heap.size + 1, [.slice u0 u1 u2, .slice v0 v1 v2, .bool false]), (w.heap.size, [.slice x0 x1 x2, .slice y0 y1 y2, .bool false])] [(.slice x0 x1 x2, X), (.slice y0 y1 y2, Y), (.slice u0 u1 u2, U), (.slice v0 v1 v2, V)] [(.slice t0 t1 t2, y3), (.slice r0 r1 r2, x3)]) := (HB2.out.below hB)
  clear hB
  have k1_0 : wc.cell? ⟨w.heap.size + 1, 0, none⟩ = some (.slice u0 u1 u2) := Hwc.out.cell 1 0 (Nat.le_of_ble_eq_true rfl) (Nat.le_of_ble_eq_true rfl)
  have k1_1 : wc.cell? ⟨w.heap.size + 1, 1, none⟩ = some (.slice v0 v1 v2) := Hwc.out.cell 1 1 (Nat.le_of_ble_eq_true rfl) (Nat.le_of_ble_eq_true rfl)
  have k1_2 : wc.cell? ⟨w.heap.size + 1, 2, none⟩ = some (.bool false) := Hwc.out.cell 1 2 (Nat.le_of_ble_eq_true rfl) (Nat.le_of_ble_eq_true rfl)
  go_wp2_with fail
  clear k1_0 k1_1 k1_2
  have C := on_v hk _ _ U V false _ (Hwc.out.arg 2 (Nat.le_of_ble_eq_true rfl)) (Hwc.out.arg 3 (Nat.le_of_ble_eq_true rfl))
  rw [o2] at C
  refine C.mono ?_
  clear C
  rintro e wd ⟨rfl, hB⟩
  have Hwd : Hid (Lf w wd [(wb.heap.size, [.slice r0 r1 r2, .slice t0 t1 t2, .bool false]), (w.heap.size + 1, [.slice u0 u1 u2, .slice v0 v1 v2, .bool false]), (w.heap.size, [.slice x0 x1 x2, .slice y0 y1 y2, .bool false])] [(.slice x0 x1 x2, X), (.slice y0 y1 y2, Y), (.slice u0 u1 u2, U), (.slice v0 v1 v2, V)] [(.slice t0 t1 t2, y3), (.slice r0 r1 r2, x3)]) := (Hwc.out.below hB)
  clear hB
  have k2_0 : wd.cell? ⟨wb.heap.size, 0, none⟩ = some (.slice r0 r1 r2) := Hwd.out.cell 0 0 (Nat.le_of_ble_eq_true rfl) (Nat.le_of_ble_eq_true rfl)
  have k2_1 : wd.cell? ⟨wb.heap.size, 1, none⟩ = some (.slice t0 t1 t2) := Hwd.out.cell 0 1 (Nat.le_of_ble_eq_true rfl) (Nat.le_of_ble_eq_true rfl)
  have k2_2 : wd.cell? ⟨wb.heap.size, 2, none⟩ = some (.bool false) := Hwd.out.cell 0 2 (Nat.le_of_ble_eq_true rfl) (Nat.le_of_ble_eq_true rfl)
  go_wp2_with fail
  clear k2_0 k2_1 k2_2
  have C := on_v hk _ _ x3 y3 false _ (Hwd.out.got 1 (Nat.le_of_ble_eq_true rfl)).nk.1 (Hwd.out.got 0 (Nat.le_of_ble_eq_true rfl)).nk.1
  rw [o3] at C
  refine C.mono ?_
  clear C
  rintro e we ⟨rfl, hB⟩
  have Hwe : Hid (Lf w we [(wb.heap.size, [.slice r0 r1 r2, .slice t0 t1 t2, .bool false]), (w.heap.size + 1, [.slice u0 u1 u2, .slice v0 v1 v2, .bool false]), (w.heap.size, [.slice x0 x1 x2, .slice y0 y1 y2, .bool false])] [(.slice x0 x1 x2, X), (.slice y0 y1 y2, Y), (.slice u0 u1 u2, U), (.slice v0 v1 v2, V)] [(.slice t0 t1 t2, y3), (.slice r0 r1 r2, x3)]) := (Hwd.out.below hB)
  clear hB
  have k0_0 : we.cell? ⟨w.heap.size, 0, none⟩ = some (.slice x0 x1 x2) := Hwe.out.cell 2 0 (Nat.le_of_ble_eq_true rfl) (Nat.le_of_ble_eq_true rfl)
  have k0_1 : we.cell? ⟨w.heap.size, 1, none⟩ = some (.slice y0 y1 y2) := Hwe.out.cell 2 1 (Nat.le_of_ble_eq_true rfl) (Nat.le_of_ble_eq_true rfl)
  have k0_2 : we.cell? ⟨w.heap.size, 2, none⟩ = some (.bool false) := Hwe.out.cell 2 2 (Nat.le_of_ble_eq_true rfl) (Nat.le_of_ble_eq_true rfl)
  have k1_0 : we.cell? ⟨w.heap.size + 1, 0, none⟩ = some (.slice u0 u1 u2) := Hwe.out.cell 1 0 (Nat.le_of_ble_eq_true rfl) (Nat.le_of_ble_eq_true rfl)
  have k1_1 : we.cell? ⟨w.heap.size + 1, 1, none⟩ = some (.slice v0 v1 v2) := Hwe.out.cell 1 1 (Nat.le_of_ble_eq_true rfl) (Nat.le_of_ble_eq_true rfl)
  have k1_2 : we.cell? ⟨w.heap.size + 1, 2, none⟩ = some (.bool false) := Hwe.out.cell 1 2 (Nat.le_of_ble_eq_true rfl) (Nat.le_of_ble_eq_true rfl)
  go_wp2_with fail
  clear k0_0 k0_1 k0_2 k1_0 k1_1 k1_2
  refine (field_v hk _).mono ?_
  rintro e wf ⟨pv, rfl, mP, hB⟩
  obtain ⟨p0, p1, p2, rfl⟩ := mP.nk.sl
  have Hwf : Hid (Lf w wf [(wb.heap.size, [.slice r0 r1 r2, .slice t0 t1 t2, .bool false]), (w.heap.size + 1, [.slice u0 u1 u2, .slice v0 v1 v2, .bool false]), (w.heap.size, [.slice x0 x1 x2, .slice y0 y1 y2, .bool false])] [(.slice x0 x1 x2, X), (.slice y0 y1 y2, Y), (.slice u0 u1 u2, U), (.slice v0 v1 v2, V)] [(.slice p0 p1 p2, p), (.slice t0 t1 t2, y3), (.slice r0 r1 r2, x3)]) := ((Hwe.out.below hB).res mP)
  clear hB mP
  have HLw : Hid (Bl 70 (wf.alloc (.cells #[.slice p0 p1 p2] 70)) wf.heap.size [.slice p0 p1 p2]) := alloc_bl wf [.slice p0 p1 p2] 70
  have HWf : Hid (Lf w (wf.alloc (.cells #[.slice p0 p1 p2] 70)) [(wb.heap.size, [.slice r0 r1 r2, .slice t0 t1 t2, .bool false]), (w.heap.size + 1, [.slice u0 u1 u2, .slice v0 v1 v2, .bool false]), (w.heap.size, [.slice x0 x1 x2, .slice y0 y1 y2, .bool false])] [(.slice x0 x1 x2, X), (.slice y0 y1 y2, Y), (.slice u0 u1 u2, U), (.slice v0 v1 v2, V)] [(.slice p0 p1 p2, p), (.slice t0 t1 t2, y3), (.slice r0 r1 r2, x3)]) := Hwf.out.below (alloc_below _ _)
  have k0_0 : (wf.alloc (.cells #[.slice p0 p1 p2] 70)).cell? ⟨w.heap.size, 0, none⟩ = some (.slice x0 x1 x2) := HWf.out.cell 2 0 (Nat.le_of_ble_eq_true rfl) (Nat.le_of_ble_eq_true rfl)
  have k0_1 : (wf.alloc (.cells #[.slice p0 p1 p2] 70)).cell? ⟨w.heap.size, 1, none⟩ = some (.slice y0 y1 y2) := HWf.out.cell 2 1 (Nat.le_of_ble_eq_true rfl) (Nat.le_of_ble_eq_true rfl)
  have k0_2 : (wf.alloc (.cells #[.slice p0 p1 p2] 70)).cell? ⟨w.heap.size, 2, none⟩ = some (.bool false) := HWf.out.cell 2 2 (Nat.le_of_ble_eq_true rfl) (Nat.le_of_ble_eq_true rfl)
  have k1_0 : (wf.alloc (.cells #[.slice p0 p1 p2] 70)).cell? ⟨w.heap.size + 1, 0, none⟩ = some (.slice u0 u1 u2) := HWf.out.cell 1 0 (Nat.le_of_ble_eq_true rfl) (Nat.le_of_ble_eq_true rfl)
  have k1_1 : (wf.alloc (.cells #[.slice p0 p1 p2] 70)).cell? ⟨w.heap.size + 1, 1, none⟩ = some (.slice v0 v1 v2) := HWf.out.cell 1 1 (Nat.le_of_ble_eq_true rfl) (Nat.le_of_ble_eq_true rfl)
  have k1_2 : (wf.alloc (.cells #[.slice p0 p1 p2] 70)).cell? ⟨w.heap.size + 1, 2, none⟩ = some (.bool false) := HWf.out.cell 1 2 (Nat.le_of_ble_eq_true rfl) (Nat.le_of_ble_eq_true rfl)
  go_wp2_with fail
  clear k0_0 k0_1 k0_2 k1_0 k1_1 k1_2
  generalize (wf.alloc (.cells #[.slice p0 p1 p2] 70)) = wv9 at *
  have CC := vcmp _ _ X U _ _ wv9 (HWf.out.arg 0 (Nat.le_of_ble_eq_true rfl)) (HWf.out.arg 2 (Nat.le_of_ble_eq_true rfl)) (by decide) (by decide)
  obtain ⟨z, Hz⟩ : ∃ z, Hid (z = cmp3 ((X : Nat) : Int) ((U : Nat) : Int)) := ⟨_, rfl⟩
  rw [← Hz.out] at CC
  have hz1 : (z == 0) = false := by rw [Hz.out, cmp3_zero, decide_eq_false hX]
  have hz2 : (z != 0) = true := by rw [bne, hz1]; rfl
  refine CC.mono ?_
  clear CC
  rintro e wg ⟨rfl, q, hq⟩
  have hB : Below wv9.heap.size wv9 wg := (by rw [hq]; exact below_drewN (Below.refl _ _) q)
  clear hq
  have Hwg : Hid (Lf w wg [(wb.heap.size, [.slice r0 r1 r2, .slice t0 t1 t2, .bool false]), (w.heap.size + 1, [.slice u0 u1 u2, .slice v0 v1 v2, .bool false]), (w.heap.size, [.slice x0 x1 x2, .slice y0 y1 y2, .bool false])] [(.slice x0 x1 x2, X), (.slice y0 y1 y2, Y), (.slice u0 u1 u2, U), (.slice v0 v1 v2, V)] [(.slice p0 p1 p2, p), (.slice t0 t1 t2, y3), (.slice r0 r1 r2, x3)]) := (HWf.out.below hB)
  have HLwg : Hid (Bl 70 wg wf.heap.size [.slice p0 p1 p2]) := HLw.out.below hB HLw.out.lt
  clear hB
  go_upto_region 15 with fail
  have HDa : Hid (Lf w wg.drew [(wb.heap.size, [.slice r0 r1 r2, .slice t0 t1 t2, .bool false]), (w.heap.size + 1, [.slice u0 u1 u2, .slice v0 v1 v2, .bool false]), (w.heap.size, [.slice x0 x1 x2, .slice y0 y1 y2, .bool false])] [(.slice x0 x1 x2, X), (.slice y0 y1 y2, Y), (.slice u0 u1 u2, U), (.slice v0 v1 v2, V)] [(.slice p0 p1 p2, p), (.slice t0 t1 t2, y3), (.slice r0 r1 r2, x3)]) := Hwg.out.drawn
  have HXa : Hid (Bl 70 wg.drew wf.heap.size [.slice p0 p1 p2]) := HLwg.out
  refine wp_region_K 20 (fun (w' : World) => w'.cell? ⟨wf.heap.size, 0, none⟩ = some (.slice p0 p1 p2) ∧ w'.cell? ⟨w.heap.size, 0, none⟩ = some (.slice x0 x1 x2) ∧ w'.cell? ⟨w.heap.size, 1, none⟩ = some (.slice y0 y1 y2) ∧ w'.cell? ⟨w.heap.size, 2, none⟩ = some (.bool false) ∧ w'.cell? ⟨w.heap.size + 1, 0, none⟩ = some (.slice u0 u1 u2) ∧ w'.cell? ⟨w.heap.size + 1, 1, none⟩ = some (.slice v0 v1 v2) ∧ w'.cell? ⟨w.heap.size + 1, 2, none⟩ = some (.bool false) ∧ w'.cell? ⟨wb.heap.size, 0, none⟩ = some (.slice r0 r1 r2) ∧ w'.cell? ⟨wb.heap.size, 1, none⟩ = some (.slice t0 t1 t2) ∧ w'.cell? ⟨wb.heap.size, 2, none⟩ = some (.bool false)) (by kernel_rfl) ?_
  have hHeld : ((fun (w' : World) => w'.cell? ⟨wf.heap.size, 0, none⟩ = some (.slice p0 p1 p2) ∧ w'.cell? ⟨w.heap.size, 0, none⟩ = some (.slice x0 x1 x2) ∧ w'.cell? ⟨w.heap.size, 1, none⟩ = some (.slice y0 y1 y2) ∧ w'.cell? ⟨w.heap.size, 2, none⟩ = some (.bool false) ∧ w'.cell? ⟨w.heap.size + 1, 0, none⟩ = some (.slice u0 u1 u2) ∧ w'.cell? ⟨w.heap.size + 1, 1, none⟩ = some (.slice v0 v1 v2) ∧ w'.cell? ⟨w.heap.size + 1, 2, none⟩ = some (.bool false) ∧ w'.cell? ⟨wb.heap.size, 0, none⟩ = some (.slice r0 r1 r2) ∧ w'.cell? ⟨wb.heap.size, 1, none⟩ = some (.slice t0 t1 t2) ∧ w'.cell? ⟨wb.heap.size, 2, none⟩ = some (.bool false))) (World.drew _) := ⟨HXa.out.cell 0 (by simp), HDa.out.cell 2 0 (Nat.le_of_ble_eq_true rfl) (Nat.le_of_ble_eq_true rfl), HDa.out.cell 2 1 (Nat.le_of_ble_eq_true rfl) (Nat.le_of_ble_eq_true rfl), HDa.out.cell 2 2 (Nat.le_of_ble_eq_true rfl) (Nat.le_of_ble_eq_true rfl), HDa.out.cell 1 0 (Nat.le_of_ble_eq_true rfl) (Nat.le_of_ble_eq_true rfl), HDa.out.cell 1 1 (Nat.le_of_ble_eq_true rfl) (Nat.le_of_ble_eq_true rfl), HDa.out.cell 1 2 (Nat.le_of_ble_eq_true rfl) (Nat.le_of_ble_eq_true rfl), HDa.out.cell 0 0 (Nat.le_of_ble_eq_true rfl) (Nat.le_of_ble_eq_true rfl), HDa.out.cell 0 1 (Nat.le_of_ble_eq_true rfl) (Nat.le_of_ble_eq_true rfl), HDa.out.cell 0 2 (Nat.le_of_ble_eq_true rfl) (Nat.le_of_ble_eq_true rfl)⟩
  refine wpAnyK_take0 0 (v := ?v1) rfl (by kernel_rfl) (fun _ _ _ h => h) (Or.inl ⟨by rfl, ?hy1⟩) (fun _ => hHeld) ?_
  case hy1 => (intro w hSw; go_simp; try with_reducible rfl)
  try simp only [Act.put, List.setIfInBounds_toArray, List.set_cons_zero, List.set_cons_succ]
  refine wpAnyK_take 1 [2, 3, 13, 19, 20] (v := ?v2) rfl (by kernel_rfl) (fun _ _ _ h => h) (Or.inl ⟨by rfl, ?hy2⟩) hHeld ?_
  case hy2 => (intro w hSw; (try dsimp only at hSw); go_simp; try with_reducible rfl)
  try simp only [Act.put, List.setIfInBounds_toArray, List.set_cons_zero, List.set_cons_succ]
  refine wpAnyK_take0 2 (v := ?v3) rfl (by kernel_rfl) (fun _ _ _ h => h) (Or.inl ⟨by rfl, ?hy3⟩) (fun _ => hHeld) ?_
  case hy3 => (intro w hSw; go_simp; try with_reducible rfl)
  try simp only [Act.put, List.setIfInBounds_toArray, List.set_cons_zero, List.set_cons_succ]
  refine wpAnyK_take0 3 (v := ?v4) rfl (by kernel_rfl) (fun _ _ _ h => h) (Or.inl ⟨by rfl, ?hy4⟩) (fun _ => hHeld) ?_
  case hy4 => (intro w hSw; go_simp; try with_reducible rfl)
  try simp only [Act.put, List.setIfInBounds_toArray, List.set_cons_zero, List.set_cons_succ]
  refine wpAnyK_take 4 [20] (v := ?v5) rfl (by kernel_rfl) (fun _ _ _ h => h) (Or.inl ⟨by rfl, ?hy5⟩) hHeld ?_
  case hy5 => (intro w hSw; (try dsimp only at hSw); go_simp; try with_reducible rfl)
  try simp only [Act.put, List.setIfInBounds_toArray, List.set_cons_zero, List.set_cons_succ]
  refine wpAnyK_take 5 [20] (v := ?v6) rfl (by kernel_rfl) (fun _ _ _ h => h) (Or.inl ⟨by rfl, ?hy6⟩) hHeld ?_
  case hy6 => (intro w hSw; (try dsimp only at hSw); go_simp; try with_reducible rfl)
  try simp only [Act.put, List.setIfInBounds_toArray, List.set_cons_zero, List.set_cons_succ]
  refine wpAnyK_take 6 [20] (v := ?v7) rfl (by kernel_rfl) (fun _ _ _ h => h) (Or.inl ⟨by rfl, ?hy7⟩) hHeld ?_
  case hy7 => (intro w hSw; (try dsimp only at hSw); go_simp; try with_reducible rfl)
  try simp only [Act.put, List.setIfInBounds_toArray, List.set_cons_zero, List.set_cons_succ]
  refine wpAnyK_take 7 [20] (v := ?v8) rfl (by kernel_rfl) (fun _ _ _ h => h) (Or.inl ⟨by rfl, ?hy8⟩) hHeld ?_
  case hy8 => (intro w hSw; (try dsimp only at hSw); go_simp; try with_reducible rfl)
  try simp only [Act.put, List.setIfInBounds_toArray, List.set_cons_zero, List.set_cons_succ]
  refine wpAnyK_take 8 [13, 19, 20] (v := ?v9) rfl (by kernel_rfl) (fun _ _ _ h => h) (Or.inl ⟨by rfl, ?hy9⟩) hHeld ?_
  case hy9 => (intro w hSw; (try dsimp only at hSw); go_simp; try with_reducible rfl)
  try simp only [Act.put, List.setIfInBounds_toArray, List.set_cons_zero, List.set_cons_succ]
  refine wpAnyK_take0 9 (v := ?v10) rfl (by kernel_rfl) (fun _ _ _ h => h) (Or.inl ⟨by rfl, ?hy10⟩) (fun _ => hHeld) ?_
  case hy10 => (intro w hSw; go_simp; try with_reducible rfl)
  try simp only [Act.put, List.setIfInBounds_toArray, List.set_cons_zero, List.set_cons_succ]
  refine wpAnyK_take 10 [13, 19, 20] (v := ?v11) rfl (by kernel_rfl) (fun _ _ _ h => h) (Or.inl ⟨by rfl, ?hy11⟩) hHeld ?_
  case hy11 => (intro w hSw; (try dsimp only at hSw); go_simp; try with_reducible rfl)
  try simp only [Act.put, List.setIfInBounds_toArray, List.set_cons_zero, List.set_cons_succ]
  refine wpAnyK_take0 11 (v := ?v12) rfl (by kernel_rfl) (fun _ _ _ h => h) (Or.inl ⟨by rfl, ?hy12⟩) (fun _ => hHeld) ?_
  case hy12 => (intro w hSw; go_simp; try with_reducible rfl)
  try simp only [Act.put, List.setIfInBounds_toArray, List.set_cons_zero, List.set_cons_succ]
  refine wpAnyK_take 12 [13, 19, 20] (v := ?v13) rfl (by kernel_rfl) (fun _ _ _ h => h) (Or.inl ⟨by rfl, ?hy13⟩) hHeld ?_
  case hy13 => (intro w hSw; (try dsimp only at hSw); go_simp; try with_reducible rfl)
  try simp only [Act.put, List.setIfInBounds_toArray, List.set_cons_zero, List.set_cons_succ]
  refine wpAnyK_take 14 [19, 20] (v := ?v14) rfl (by kernel_rfl) (fun _ _ _ h => h) (Or.inl ⟨by rfl, ?hy14⟩) hHeld ?_
  case hy14 => (intro w hSw; (try dsimp only at hSw); go_simp; try with_reducible rfl)
  try simp only [Act.put, List.setIfInBounds_toArray, List.set_cons_zero, List.set_cons_succ]
  refine wpAnyK_take0 15 (v := ?v15) rfl (by kernel_rfl) (fun _ _ _ h => h) (Or.inl ⟨by rfl, ?hy15⟩) (fun _ => hHeld) ?_
  case hy15 => (intro w hSw; go_simp; try with_reducible rfl)
  try simp only [Act.put, List.setIfInBounds_toArray, List.set_cons_zero, List.set_cons_succ]
  refine wpAnyK_take 16 [19, 20] (v := ?v16) rfl (by kernel_rfl) (fun _ _ _ h => h) (Or.inl ⟨by rfl, ?hy16⟩) hHeld ?_
  case hy16 => (intro w hSw; (try dsimp only at hSw); go_simp; try with_reducible rfl)
  try simp only [Act.put, List.setIfInBounds_toArray, List.set_cons_zero, List.set_cons_succ]
  refine wpAnyK_take0 17 (v := ?v17) rfl (by kernel_rfl) (fun _ _ _ h => h) (Or.inl ⟨by rfl, ?hy17⟩) (fun _ => hHeld) ?_
  case hy17 => (intro w hSw; go_simp; try with_reducible rfl)
  try simp only [Act.put, List.setIfInBounds_toArray, List.set_cons_zero, List.set_cons_succ]
  refine wpAnyK_take 18 [19, 20] (v := ?v18) rfl (by kernel_rfl) (fun _ _ _ h => h) (Or.inl ⟨by rfl, ?hy18⟩) hHeld ?_
  case hy18 => (intro w hSw; (try dsimp only at hSw); go_simp; try with_reducible rfl)
  try simp only [Act.put, List.setIfInBounds_toArray, List.set_cons_zero, List.set_cons_succ]
  refine wpAnyK_step 13 rfl (by kernel_rfl) (fun K hK => ?_)
  go_simp
  refine (lfsub_v _ _ _ p V Y 384 384 _ HPM.out (HDa.out.got 0 (Nat.le_of_ble_eq_true rfl)).nk.1 ⟨(HDa.out.arg 3 (Nat.le_of_ble_eq_true rfl)), HLt.out.2.2.2⟩ ⟨(HDa.out.arg 1 (Nat.le_of_ble_eq_true rfl)), HLt.out.2.1⟩ (by decide) (by decide)).mono ?_
  rintro e wh ⟨a, rfl, h⟩
  have hB := h.bel
  have mh := h.mk
  obtain ⟨a0, a1, a2, rfl⟩ := h.sl
  have Hwh : Hid (Lf w wh [(wb.heap.size, [.slice r0 r1 r2, .slice t0 t1 t2, .bool false]), (w.heap.size + 1, [.slice u0 u1 u2, .slice v0 v1 v2, .bool false]), (w.heap.size, [.slice x0 x1 x2, .slice y0 y1 y2, .bool false])] [(.slice x0 x1 x2, X), (.slice y0 y1 y2, Y), (.slice u0 u1 u2, U), (.slice v0 v1 v2, V)] [(.slice a0 a1 a2, fS p V Y), (.slice p0 p1 p2, p), (.slice t0 t1 t2, y3), (.slice r0 r1 r2, x3)]) := ((HDa.out.below hB).res mh)
  have HLwh : Hid (Bl 70 wh wf.heap.size [.slice p0 p1 p2]) := HXa.out.below hB HXa.out.lt
  clear h hB mh
  try dsimp only
  refine hK.out _ _ ?hk19 ?_
  case hk19 => exact fun _ => ⟨HLwh.out.cell 0 (by simp), Hwh.out.cell 2 0 (Nat.le_of_ble_eq_true rfl) (Nat.le_of_ble_eq_true rfl), Hwh.out.cell 2 1 (Nat.le_of_ble_eq_true rfl) (Nat.le_of_ble_eq_true rfl), Hwh.out.cell 2 2 (Nat.le_of_ble_eq_true rfl) (Nat.le_of_ble_eq_true rfl), Hwh.out.cell 1 0 (Nat.le_of_ble_eq_true rfl) (Nat.le_of_ble_eq_true rfl), Hwh.out.cell 1 1 (Nat.le_of_ble_eq_true rfl) (Nat.le_of_ble_eq_true rfl), Hwh.out.cell 1 2 (Nat.le_of_ble_eq_true rfl) (Nat.le_of_ble_eq_true rfl), Hwh.out.cell 0 0 (Nat.le_of_ble_eq_true rfl) (Nat.le_of_ble_eq_true rfl), Hwh.out.cell 0 1 (Nat.le_of_ble_eq_true rfl) (Nat.le_of_ble_eq_true rfl), Hwh.out.cell 0 2 (Nat.le_of_ble_eq_true rfl) (Nat.le_of_ble_eq_true rfl)⟩
  have hHeld : ((fun (w' : World) => w'.cell? ⟨wf.heap.size, 0, none⟩ = some (.slice p0 p1 p2) ∧ w'.cell? ⟨w.heap.size, 0, none⟩ = some (.slice x0 x1 x2) ∧ w'.cell? ⟨w.heap.size, 1, none⟩ = some (.slice y0 y1 y2) ∧ w'.cell? ⟨w.heap.size, 2, none⟩ = some (.bool false) ∧ w'.cell? ⟨w.heap.size + 1, 0, none⟩ = some (.slice u0 u1 u2) ∧ w'.cell? ⟨w.heap.size + 1, 1, none⟩ = some (.slice v0 v1 v2) ∧ w'.cell? ⟨w.heap.size + 1, 2, none⟩ = some (.bool false) ∧ w'.cell? ⟨wb.heap.size, 0, none⟩ = some (.slice r0 r1 r2) ∧ w'.cell? ⟨wb.heap.size, 1, none⟩ = some (.slice t0 t1 t2) ∧ w'.cell? ⟨wb.heap.size, 2, none⟩ = some (.bool false))) _ := ⟨HLwh.out.cell 0 (by simp), Hwh.out.cell 2 0 (Nat.le_of_ble_eq_true rfl) (Nat.le_of_ble_eq_true rfl), Hwh.out.cell 2 1 (Nat.le_of_ble_eq_true rfl) (Nat.le_of_ble_eq_true rfl), Hwh.out.cell 2 2 (Nat.le_of_ble_eq_true rfl) (Nat.le_of_ble_eq_true rfl), Hwh.out.cell 1 0 (Nat.le_of_ble_eq_true rfl) (Nat.le_of_ble_eq_true rfl), Hwh.out.cell 1 1 (Nat.le_of_ble_eq_true rfl) (Nat.le_of_ble_eq_true rfl), Hwh.out.cell 1 2 (Nat.le_of_ble_eq_true rfl) (Nat.le_of_ble_eq_true rfl), Hwh.out.cell 0 0 (Nat.le_of_ble_eq_true rfl) (Nat.le_of_ble_eq_true rfl), Hwh.out.cell 0 1 (Nat.le_of_ble_eq_true rfl) (Nat.le_of_ble_eq_true rfl), Hwh.out.cell 0 2 (Nat.le_of_ble_eq_true rfl) (Nat.le_of_ble_eq_true rfl)⟩
  clear hK K
  try simp only [Act.put, List.setIfInBounds_toArray, List.set_cons_zero, List.set_cons_succ]
  refine wpAnyK_step 19 rfl (by kernel_rfl) (fun K hK => ?_)
  go_simp
  refine (lfsub_v _ _ _ p U X 384 384 _ HPM.out (Hwh.out.got 1 (Nat.le_of_ble_eq_true rfl)).nk.1 ⟨(Hwh.out.arg 2 (Nat.le_of_ble_eq_true rfl)), HLt.out.2.2.1⟩ ⟨(Hwh.out.arg 0 (Nat.le_of_ble_eq_true rfl)), HLt.out.1⟩ (by decide) (by decide)).mono ?_
  rintro e wi ⟨d, rfl, h⟩
  have hB := h.bel
  have mh := h.mk
  obtain ⟨d0, d1, d2, rfl⟩ := h.sl
  have Hwi : Hid (Lf w wi [(wb.heap.size, [.slice r0 r1 r2, .slice t0 t1 t2, .bool false]), (w.heap.size + 1, [.slice u0 u1 u2, .slice v0 v1 v2, .bool false]), (w.heap.size, [.slice x0 x1 x2, .slice y0 y1 y2, .bool false])] [(.slice x0 x1 x2, X), (.slice y0 y1 y2, Y), (.slice u0 u1 u2, U), (.slice v0 v1 v2, V)] [(.slice d0 d1 d2, fS p U X), (.slice a0 a1 a2, fS p V Y), (.slice p0 p1 p2, p), (.slice t0 t1 t2, y3), (.slice r0 r1 r2, x3)]) := ((Hwh.out.below hB).res mh)
  have HLwi : Hid (Bl 70 wi wf.heap.size [.slice p0 p1 p2]) := HLwh.out.below hB HLwh.out.lt
  clear h hB mh
  try dsimp only
  refine hK.out _ _ ?hk20 ?_
  case hk20 => exact fun _ => ⟨HLwi.out.cell 0 (by simp), Hwi.out.cell 2 0 (Nat.le_of_ble_eq_true rfl) (Nat.le_of_ble_eq_true rfl), Hwi.out.cell 2 1 (Nat.le_of_ble_eq_true rfl) (Nat.le_of_ble_eq_true rfl), Hwi.out.cell 2 2 (Nat.le_of_ble_eq_true rfl) (Nat.le_of_ble_eq_true rfl), Hwi.out.cell 1 0 (Nat.le_of_ble_eq_true rfl) (Nat.le_of_ble_eq_true rfl), Hwi.out.cell 1 1 (Nat.le_of_ble_eq_true rfl) (Nat.le_of_ble_eq_true rfl), Hwi.out.cell 1 2 (Nat.le_of_ble_eq_true rfl) (Nat.le_of_ble_eq_true rfl), Hwi.out.cell 0 0 (Nat.le_of_ble_eq_true rfl) (Nat.le_of_ble_eq_true rfl), Hwi.out.cell 0 1 (Nat.le_of_ble_eq_true rfl) (Nat.le_of_ble_eq_true rfl), Hwi.out.cell 0 2 (Nat.le_of_ble_eq_true rfl) (Nat.le_of_ble_eq_true rfl)⟩
  have hHeld : ((fun (w' : World) => w'.cell? ⟨wf.heap.size, 0, none⟩ = some (.slice p0 p1 p2) ∧ w'.cell? ⟨w.heap.size, 0, none⟩ = some (.slice x0 x1 x2) ∧ w'.cell? ⟨w.heap.size, 1, none⟩ = some (.slice y0 y1 y2) ∧ w'.cell? ⟨w.heap.size, 2, none⟩ = some (.bool false) ∧ w'.cell? ⟨w.heap.size + 1, 0, none⟩ = some (.slice u0 u1 u2) ∧ w'.cell? ⟨w.heap.size + 1, 1, none⟩ = some (.slice v0 v1 v2) ∧ w'.cell? ⟨w.heap.size + 1, 2, none⟩ = some (.bool false) ∧ w'.cell? ⟨wb.heap.size, 0, none⟩ = some (.slice r0 r1 r2) ∧ w'.cell? ⟨wb.heap.size, 1, none⟩ = some (.slice t0 t1 t2) ∧ w'.cell? ⟨wb.heap.size, 2, none⟩ = some (.bool false))) _ := ⟨HLwi.out.cell 0 (by simp), Hwi.out.cell 2 0 (Nat.le_of_ble_eq_true rfl) (Nat.le_of_ble_eq_true rfl), Hwi.out.cell 2 1 (Nat.le_of_ble_eq_true rfl) (Nat.le_of_ble_eq_true rfl), Hwi.out.cell 2 2 (Nat.le_of_ble_eq_true rfl) (Nat.le_of_ble_eq_true rfl), Hwi.out.cell 1 0 (Nat.le_of_ble_eq_true rfl) (Nat.le_of_ble_eq_true rfl), Hwi.out.cell 1 1 (Nat.le_of_ble_eq_true rfl) (Nat.le_of_ble_eq_true rfl), Hwi.out.cell 1 2 (Nat.le_of_ble_eq_true rfl) (Nat.le_of_ble_eq_true rfl), Hwi.out.cell 0 0 (Nat.le_of_ble_eq_true rfl) (Nat.le_of_ble_eq_true rfl), Hwi.out.cell 0 1 (Nat.le_of_ble_eq_true rfl) (Nat.le_of_ble_eq_true rfl), Hwi.out.cell 0 2 (Nat.le_of_ble_eq_true rfl) (Nat.le_of_ble_eq_true rfl)⟩
  clear hK K
  try simp only [Act.put, List.setIfInBounds_toArray, List.set_cons_zero, List.set_cons_succ]
  refine wpAnyK_step 20 rfl (by kernel_rfl) (fun K hK => ?_)
  go_simp
  refine (line_v _ _ _ _ _ _ _ _ _ p X Y U V x3 y3 (fS p V Y) (fS p U X) false false false _ HPM (Hwi.out.got 2 (Nat.le_of_ble_eq_true rfl)).nk ⟨(Hwi.out.arg 0 (Nat.le_of_ble_eq_true rfl)), HLt.out.1⟩ ⟨(Hwi.out.arg 1 (Nat.le_of_ble_eq_true rfl)), HLt.out.2.1⟩ ⟨(Hwi.out.arg 2 (Nat.le_of_ble_eq_true rfl)), HLt.out.2.2.1⟩ ⟨(Hwi.out.arg 3 (Nat.le_of_ble_eq_true rfl)), HLt.out.2.2.2⟩ (Hwi.out.got 4 (Nat.le_of_ble_eq_true rfl)).nk (Hwi.out.got 3 (Nat.le_of_ble_eq_true rfl)).nk (Hwi.out.got 1 (Nat.le_of_ble_eq_true rfl)).nk (Hwi.out.got 0 (Nat.le_of_ble_eq_true rfl)).nk HE.out.1 HE.out.2).mono ?_
  rintro e wj ⟨rfl, hB⟩
  have Hwj : Hid (Lf w wj [(wb.heap.size, [.slice r0 r1 r2, .slice t0 t1 t2, .bool false]), (w.heap.size + 1, [.slice u0 u1 u2, .slice v0 v1 v2, .bool false]), (w.heap.size, [.slice x0 x1 x2, .slice y0 y1 y2, .bool false])] [(.slice x0 x1 x2, X), (.slice y0 y1 y2, Y), (.slice u0 u1 u2, U), (.slice v0 v1 v2, V)] [(.slice d0 d1 d2, fS p U X), (.slice a0 a1 a2, fS p V Y), (.slice p0 p1 p2, p), (.slice t0 t1 t2, y3), (.slice r0 r1 r2, x3)]) := (Hwi.out.below hB)
  have HLwj : Hid (Bl 70 wj wf.heap.size [.slice p0 p1 p2]) := HLwi.out.below hB HLwi.out.lt
  clear hB
  try dsimp only
  refine hK.out _ _ ?hk21 ?_
  case hk21 => exact fun _ => ⟨HLwj.out.cell 0 (by simp), Hwj.out.cell 2 0 (Nat.le_of_ble_eq_true rfl) (Nat.le_of_ble_eq_true rfl), Hwj.out.cell 2 1 (Nat.le_of_ble_eq_true rfl) (Nat.le_of_ble_eq_true rfl), Hwj.out.cell 2 2 (Nat.le_of_ble_eq_true rfl) (Nat.le_of_ble_eq_true rfl), Hwj.out.cell 1 0 (Nat.le_of_ble_eq_true rfl) (Nat.le_of_ble_eq_true rfl), Hwj.out.cell 1 1 (Nat.le_of_ble_eq_true rfl) (Nat.le_of_ble_eq_true rfl), Hwj.out.cell 1 2 (Nat.le_of_ble_eq_true rfl) (Nat.le_of_ble_eq_true rfl), Hwj.out.cell 0 0 (Nat.le_of_ble_eq_true rfl) (Nat.le_of_ble_eq_true rfl), Hwj.out.cell 0 1 (Nat.le_of_ble_eq_true rfl) (Nat.le_of_ble_eq_true rfl), Hwj.out.cell 0 2 (Nat.le_of_ble_eq_true rfl) (Nat.le_of_ble_eq_true rfl)⟩
  have hHeld : ((fun (w' : World) => w'.cell? ⟨wf.heap.size, 0, none⟩ = some (.slice p0 p1 p2) ∧ w'.cell? ⟨w.heap.size, 0, none⟩ = some (.slice x0 x1 x2) ∧ w'.cell? ⟨w.heap.size, 1, none⟩ = some (.slice y0 y1 y2) ∧ w'.cell? ⟨w.heap.size, 2, none⟩ = some (.bool false) ∧ w'.cell? ⟨w.heap.size + 1, 0, none⟩ = some (.slice u0 u1 u2) ∧ w'.cell? ⟨w.heap.size + 1, 1, none⟩ = some (.slice v0 v1 v2) ∧ w'.cell? ⟨w.heap.size + 1, 2, none⟩ = some (.bool false) ∧ w'.cell? ⟨wb.heap.size, 0, none⟩ = some (.slice r0 r1 r2) ∧ w'.cell? ⟨wb.heap.size, 1, none⟩ = some (.slice t0 t1 t2) ∧ w'.cell? ⟨wb.heap.size, 2, none⟩ = some (.bool false))) _ := ⟨HLwj.out.cell 0 (by simp), Hwj.out.cell 2 0 (Nat.le_of_ble_eq_true rfl) (Nat.le_of_ble_eq_true rfl), Hwj.out.cell 2 1 (Nat.le_of_ble_eq_true rfl) (Nat.le_of_ble_eq_true rfl), Hwj.out.cell 2 2 (Nat.le_of_ble_eq_true rfl) (Nat.le_of_ble_eq_true rfl), Hwj.out.cell 1 0 (Nat.le_of_ble_eq_true rfl) (Nat.le_of_ble_eq_true rfl), Hwj.out.cell 1 1 (Nat.le_of_ble_eq_true rfl) (Nat.le_of_ble_eq_true rfl), Hwj.out.cell 1 2 (Nat.le_of_ble_eq_true rfl) (Nat.le_of_ble_eq_true rfl), Hwj.out.cell 0 0 (Nat.le_of_ble_eq_true rfl) (Nat.le_of_ble_eq_true rfl), Hwj.out.cell 0 1 (Nat.le_of_ble_eq_true rfl) (Nat.le_of_ble_eq_true rfl), Hwj.out.cell 0 2 (Nat.le_of_ble_eq_true rfl) (Nat.le_of_ble_eq_true rfl)⟩
  clear hK K
  try simp only [Act.put, List.setIfInBounds_toArray, List.set_cons_zero, List.set_cons_succ]
  refine wpAnyK_take0 21 (v := ?v22) rfl (by kernel_rfl) (fun _ _ _ h => h) (Or.inl ⟨by rfl, ?hy22⟩) (fun _ => hHeld) ?_
  case hy22 => (intro w hSw; go_simp; try with_reducible rfl)
  try simp only [Act.put, List.setIfInBounds_toArray, List.set_cons_zero, List.set_cons_succ]
  refine wpAnyK_take0 22 (v := ?v23) rfl (by kernel_rfl) (fun _ _ _ h => h) (Or.inl ⟨by rfl, ?hy23⟩) (fun _ => hHeld) ?_
  case hy23 => (intro w hSw; go_simp; try with_reducible rfl)
  try simp only [Act.put, List.setIfInBounds_toArray, List.set_cons_zero, List.set_cons_succ]
  refine wpAnyK_done (by kernel_rfl) ?_ _
  go_wp2
  go_ret
  exact ⟨rfl, Hwj.out.bel⟩
set_option maxHeartbeats 40000000 in
theorem line_opp {c s : Int} {p b n gx gy : Nat} (hk : Kv c p b n gx gy s) (x y u v : Value) (X Y U V : Nat) (w : World) (hx : Nu w x X) (hy : Nu w y Y) (hu : Nu w u U) (hv : Nu w v V) (o1 : onB p b X Y false = true) (o2 : onB p b U V false = true) (hX : X = U) (hY : fA p Y V = 0) :
    Calls Tryz.prog 11 #[.int .i64 c, .agg #[x, y, .bool false], .agg #[u, v, .bool false]] w fun e w' => e = .returned (.bool true) ∧ Below w.heap.size w w' := by
  obtain ⟨x0, x1, x2, rfl⟩ := hx.shape
  obtain ⟨y0, y1, y2, rfl⟩ := hy.shape
  obtain ⟨u0, u1, u2, rfl⟩ := hu.shape
  obtain ⟨v0, v1, v2, rfl⟩ := hv.shape
  have H0 : Hid (Lf w ((w.alloc (.cells #[.slice x0 x1 x2, .slice y0 y1 y2, .bool false] 45)).alloc (.cells #[.slice u0 u1 u2, .slice v0 v1 v2, .bool false] 45)) [(w.heap.size + 1, [.slice u0 u1 u2, .slice v0 v1 v2, .bool false]), (w.heap.size, [.slice x0 x1 x2, .slice y0 y1 y2, .bool false])] [(.slice x0 x1 x2, X), (.slice y0 y1 y2, Y), (.slice u0 u1 u2, U), (.slice v0 v1 v2, V)] []) := Lf.of2 (((Fm.nil (w := w) (A := []) ar_nil).push (by simp) 45 [.slice x0 x1 x2, .slice y0 y1 y2, .bool false]).push (by simp) 45 [.slice u0 u1 u2, .slice v0 v1 v2, .bool false]) (fun q hq => by simp only [List.mem_cons, List.not_mem_nil, or_false] at hq; rcases hq with rfl | rfl | rfl | rfl <;> assumption)
  clear hx hy hu hv
  go_enter Tryz.func11, Tryz.ntmps11
  go_wp2_with fail
  generalize ((w.alloc (.cells #[.slice x0 x1 x2, .slice y0 y1 y2, .bool false] 45)).alloc (.cells #[.slice u0 u1 u2, .slice v0 v1 v2, .bool false] 45)) = wv1 at *
  refine (started_v _).mono ?_
  rintro e wa ⟨rfl, hB⟩
  have Hwa : Hid (Lf w wa [(w.heap.size + 1, [.slice u0 u1 u2, .slice v0 v1 v2, .bool false]), (w.heap.size, [.slice x0 x1 x2, .slice y0 y1 y2, .bool false])] [(.slice x0 x1 x2, X), (.slice y0 y1 y2, Y), (.slice u0 u1 u2, U), (.slice v0 v1 v2, V)] []) := (H0.out.below hB)
  clear hB
  have hpm := hk.pm
  have C0 := hk.cv
  have oP := ((onB_iff hpm).1 o1).1
  have oQ := ((onB_iff hpm).1 o2).1
  have HPM : Hid (Pm p) := hpm
  have lP := onB_lt hpm o1
  have lQ := onB_lt hpm o2
  have HLt : Hid (X < pw 384 ∧ Y < pw 384 ∧ U < pw 384 ∧ V < pw 384) := ⟨lP.1, lP.2, lQ.1, lQ.2⟩
  have k0_0 : wa.cell? ⟨w.heap.size, 0, none⟩ = some (.slice x0 x1 x2) := Hwa.out.cell 1 0 (Nat.le_of_ble_eq_true rfl) (Nat.le_of_ble_eq_true rfl)
  have k0_1 : wa.cell? ⟨w.heap.size, 1, none⟩ = some (.slice y0 y1 y2) := Hwa.out.cell 1 1 (Nat.le_of_ble_eq_true rfl) (Nat.le_of_ble_eq_true rfl)
  have k0_2 : wa.cell? ⟨w.heap.size, 2, none⟩ = some (.bool false) := Hwa.out.cell 1 2 (Nat.le_of_ble_eq_true rfl) (Nat.le_of_ble_eq_true rfl)
  have k1_0 : wa.cell? ⟨w.heap.size + 1, 0, none⟩ = some (.slice u0 u1 u2) := Hwa.out.cell 0 0 (Nat.le_of_ble_eq_true rfl) (Nat.le_of_ble_eq_true rfl)
  have k1_1 : wa.cell? ⟨w.heap.size + 1, 1, none⟩ = some (.slice v0 v1 v2) := Hwa.out.cell 0 1 (Nat.le_of_ble_eq_true rfl) (Nat.le_of_ble_eq_true rfl)
  have k1_2 : wa.cell? ⟨w.heap.size + 1, 2, none⟩ = some (.bool false) := Hwa.out.cell 0 2 (Nat.le_of_ble_eq_true rfl) (Nat.le_of_ble_eq_true rfl)
  go_wp2_with fail
  clear k0_0 k0_1 k0_2 k1_0 k1_1 k1_2
  refine (add_ok hk _ _ _ _ X Y U V false false _ (Hwa.out.arg 0 (Nat.le_of_ble_eq_true rfl)) (Hwa.out.arg 1 (Nat.le_of_ble_eq_true rfl)) (Hwa.out.arg 2 (Nat.le_of_ble_eq_true rfl)) (Hwa.out.arg 3 (Nat.le_of_ble_eq_true rfl)) o1 o2).mono ?_
  rintro e wb ⟨r, rfl, hPa⟩
  rw [show sm p (ptO X Y false) (ptO U V false) = .O from (by show sm p (.A X Y) (.A U V) = .O; rw [← hX]; exact opposite C0 oP (by rw [hX]; exact oQ) hY)] at hPa
  obtain ⟨rfl, hB⟩ := hPa
  have Hwb : Hid (Lf w wb [(w.heap.size + 1, [.slice u0 u1 u2, .slice v0 v1 v2, .bool false]), (w.heap.size, [.slice x0 x1 x2, .slice y0 y1 y2, .bool false])] [(.slice x0 x1 x2, X), (.slice y0 y1 y2, Y), (.slice u0 u1 u2, U), (.slice v0 v1 v2, V)] []) := (Hwa.out.below hB)
  clear hB lP lQ hpm
  have HB2 : Hid (Lf w (wb.alloc (.cells #[.slice none 0 0, .slice none 0 0, .bool true] 45)) [(wb.heap.size, [.slice none 0 0, .slice none 0 0, .bool true]), (w.heap.size + 1, [.slice u0 u1 u2, .slice v0 v1 v2, .bool false]), (w.heap.size, [.slice x0 x1 x2, .slice y0 y1 y2, .bool false])] [(.slice x0 x1 x2, X), (.slice y0 y1 y2, Y), (.slice u0 u1 u2, U), (.slice v0 v1 v2, V)] []) := Hwb.out.box [.slice none 0 0, .slice none 0 0, .bool true]
  have k0_0 : (wb.alloc (.cells #[.slice none 0 0, .slice none 0 0, .bool true] 45)).cell? ⟨w.heap.size, 0, none⟩ = some (.slice x0 x1 x2) := HB2.out.cell 2 0 (Nat.le_of_ble_eq_true rfl) (Nat.le_of_ble_eq_true rfl)
  have k0_1 : (wb.alloc (.cells #[.slice none 0 0, .slice none 0 0, .bool true] 45)).cell? ⟨w.heap.size, 1, none⟩ = some (.slice y0 y1 y2) := HB2.out.cell 2 1 (Nat.le_of_ble_eq_true rfl) (Nat.le_of_ble_eq_true rfl)
  have k0_2 : (wb.alloc (.cells #[.slice none 0 0, .slice none 0 0, .bool true] 45)).cell? ⟨w.heap.size, 2, none⟩ = some (.bool false) := HB2.out.cell 2 2 (Nat.le_of_ble_eq_true rfl) (Nat.le_of_ble_eq_true rfl)
  go_wp2_with fail
  clear k0_0 k0_1 k0_2
  generalize (wb.alloc (.cells #[.slice none 0 0, .slice none 0 0, .bool true] 45)) = wv4 at *
  have C := on_v hk _ _ X Y false _ (HB2.out.arg 0 (Nat.le_of_ble_eq_true rfl)) (HB2.out.arg 1 (Nat.le_of_ble_eq_true rfl))
  rw [o1] at C
  refine C.mono ?_
  clear C
  rintro e wc ⟨rfl, hB⟩
  have Hwc : Hid (Lf w wc [(wb.heap.size, [.slice none 0 0, .slice none 0 0, .bool true]), (w.heap.size + 1, [.slice u0 u1 u2, .slice v0 v1 v2, .bool false]), (w.heap.size, [.slice x0 x1 x2, .slice y0 y1 y2, .bool false])] [(.slice x0 x1 x2, X), (.slice y0 y1 y2, Y), (.slice u0 u1 u2, U), (.slice v0 v1 v2, V)] []) := (HB2.out.below hB)
  clear hB
  have k1_0 : wc.cell? ⟨w.heap.size + 1, 0, none⟩ = some (.slice u0 u1 u2) := Hwc.out.cell 1 0 (Nat.le_of_ble_eq_true rfl) (Nat.le_of_ble_eq_true rfl)
  have k1_1 : wc.cell? ⟨w.heap.size + 1, 1, none⟩ = some (.slice v0 v1 v2) := Hwc.out.cell 1 1 (Nat.le_of_ble_eq_true rfl) (Nat.le_of_ble_eq_true rfl)
  have k1_2 : wc.cell? ⟨w.heap.size + 1, 2, none⟩ = some (.bool false) := Hwc.out.cell 1 2 (Nat.le_of_ble_eq_true rfl) (Nat.le_of_ble_eq_true rfl)
  go_wp2_with fail
  clear k1_0 k1_1 k1_2
  have C := on_v hk _ _ U V false _ (Hwc.out.arg 2 (Nat.le_of_ble_eq_true rfl)) (Hwc.out.arg 3 (Nat.le_of_ble_eq_true rfl))
  rw [o2] at C
  refine C.mono ?_
  clear C
  rintro e wd ⟨rfl, hB⟩
  have Hwd : Hid (Lf w wd [(wb.heap.size, [.slice none 0 0, .slice none 0 0, .bool true]), (w.heap.size + 1, [.slice u0 u1 u2, .slice v0 v1 v2, .bool false]), (w.heap.size, [.slice x0 x1 x2, .slice y0 y1 y2, .bool false])] [(.slice x0 x1 x2, X), (.slice y0 y1 y2, Y), (.slice u0 u1 u2, U), (.slice v0 v1 v2, V)] []) := (Hwc.out.below hB)
  clear hB
  have k2_0 : wd.cell? ⟨wb.heap.size, 0, none⟩ = some (.slice none 0 0) := Hwd.out.cell 0 0 (Nat.le_of_ble_eq_true rfl) (Nat.le_of_ble_eq_true rfl)
  have k2_1 : wd.cell? ⟨wb.heap.size, 1, none⟩ = some (.slice none 0 0) := Hwd.out.cell 0 1 (Nat.le_of_ble_eq_true rfl) (Nat.le_of_ble_eq_true rfl)
  have k2_2 : wd.cell? ⟨wb.heap.size, 2, none⟩ = some (.bool true) := Hwd.out.cell 0 2 (Nat.le_of_ble_eq_true rfl) (Nat.le_of_ble_eq_true rfl)
  go_wp2_with fail
  clear k2_0 k2_1 k2_2
  refine (on_v hk _ _ 0 0 true _ (Nk.none _ 384).1 (Nk.none _ 384).1).mono ?_
  rw [show onB p b 0 0 true = true from rfl]
  rintro e we ⟨rfl, hB⟩
  have Hwe : Hid (Lf w we [(wb.heap.size, [.slice none 0 0, .slice none 0 0, .bool true]), (w.heap.size + 1, [.slice u0 u1 u2, .slice v0 v1 v2, .bool false]), (w.heap.size, [.slice x0 x1 x2, .slice y0 y1 y2, .bool false])] [(.slice x0 x1 x2, X), (.slice y0 y1 y2, Y), (.slice u0 u1 u2, U), (.slice v0 v1 v2, V)] []) := (Hwd.out.below hB)
  clear hB
  have k0_0 : we.cell? ⟨w.heap.size, 0, none⟩ = some (.slice x0 x1 x2) := Hwe.out.cell 2 0 (Nat.le_of_ble_eq_true rfl) (Nat.le_of_ble_eq_true rfl)
  have k0_1 : we.cell? ⟨w.heap.size, 1, none⟩ = some (.slice y0 y1 y2) := Hwe.out.cell 2 1 (Nat.le_of_ble_eq_true rfl) (Nat.le_of_ble_eq_true rfl)
  have k0_2 : we.cell? ⟨w.heap.size, 2, none⟩ = some (.bool false) := Hwe.out.cell 2 2 (Nat.le_of_ble_eq_true rfl) (Nat.le_of_ble_eq_true rfl)
  have k1_0 : we.cell? ⟨w.heap.size + 1, 0, none⟩ = some (.slice u0 u1 u2) := Hwe.out.cell 1 0 (Nat.le_of_ble_eq_true rfl) (Nat.le_of_ble_eq_true rfl)
  have k1_1 : we.cell? ⟨w.heap.size + 1, 1, none⟩ = some (.slice v0 v1 v2) := Hwe.out.cell 1 1 (Nat.le_of_ble_eq_true rfl) (Nat.le_of_ble_eq_true rfl)
  have k1_2 : we.cell? ⟨w.heap.size + 1, 2, none⟩ = some (.bool false) := Hwe.out.cell 1 2 (Nat.le_of_ble_eq_true rfl) (Nat.le_of_ble_eq_true rfl)
  go_wp2_with fail
  clear k0_0 k0_1 k0_2 k1_0 k1_1 k1_2
  refine (field_v hk _).mono ?_
  rintro e wf ⟨pv, rfl, mP, hB⟩
  obtain ⟨p0, p1, p2, rfl⟩ := mP.nk.sl
  have Hwf : Hid (Lf w wf [(wb.heap.size, [.slice none 0 0, .slice none 0 0, .bool true]), (w.heap.size + 1, [.slice u0 u1 u2, .slice v0 v1 v2, .bool false]), (w.heap.size, [.slice x0 x1 x2, .slice y0 y1 y2, .bool false])] [(.slice x0 x1 x2, X), (.slice y0 y1 y2, Y), (.slice u0 u1 u2, U), (.slice v0 v1 v2, V)] [(.slice p0 p1 p2, p)]) := ((Hwe.out.below hB).res mP)
  clear hB mP
  have HLw : Hid (Bl 70 (wf.alloc (.cells #[.slice p0 p1 p2] 70)) wf.heap.size [.slice p0 p1 p2]) := alloc_bl wf [.slice p0 p1 p2] 70
  have HWf : Hid (Lf w (wf.alloc (.cells #[.slice p0 p1 p2] 70)) [(wb.heap.size, [.slice none 0 0, .slice none 0 0, .bool true]), (w.heap.size + 1, [.slice u0 u1 u2, .slice v0 v1 v2, .bool false]), (w.heap.size, [.slice x0 x1 x2, .slice y0 y1 y2, .bool false])] [(.slice x0 x1 x2, X), (.slice y0 y1 y2, Y), (.slice u0 u1 u2, U), (.slice v0 v1 v2, V)] [(.slice p0 p1 p2, p)]) := Hwf.out.below (alloc_below _ _)
  have k0_0 : (wf.alloc (.cells #[.slice p0 p1 p2] 70)).cell? ⟨w.heap.size, 0, none⟩ = some (.slice x0 x1 x2) := HWf.out.cell 2 0 (Nat.le_of_ble_eq_true rfl) (Nat.le_of_ble_eq_true rfl)
  have k0_1 : (wf.alloc (.cells #[.slice p0 p1 p2] 70)).cell? ⟨w.heap.size, 1, none⟩ = some (.slice y0 y1 y2) := HWf.out.cell 2 1 (Nat.le_of_ble_eq_true rfl) (Nat.le_of_ble_eq_true rfl)
  have k0_2 : (wf.alloc (.cells #[.slice p0 p1 p2] 70)).cell? ⟨w.heap.size, 2, none⟩ = some (.bool false) := HWf.out.cell 2 2 (Nat.le_of_ble_eq_true rfl) (Nat.le_of_ble_eq_true rfl)
  have k1_0 : (wf.alloc (.cells #[.slice p0 p1 p2] 70)).cell? ⟨w.heap.size + 1, 0, none⟩ = some (.slice u0 u1 u2) := HWf.out.cell 1 0 (Nat.le_of_ble_eq_true rfl) (Nat.le_of_ble_eq_true rfl)
  have k1_1 : (wf.alloc (.cells #[.slice p0 p1 p2] 70)).cell? ⟨w.heap.size + 1, 1, none⟩ = some (.slice v0 v1 v2) := HWf.out.cell 1 1 (Nat.le_of_ble_eq_true rfl) (Nat.le_of_ble_eq_true rfl)
  have k1_2 : (wf.alloc (.cells #[.slice p0 p1 p2] 70)).cell? ⟨w.heap.size + 1, 2, none⟩ = some (.bool false) := HWf.out.cell 1 2 (Nat.le_of_ble_eq_true rfl) (Nat.le_of_ble_eq_true rfl)
  go_wp2_with fail
  clear k0_0 k0_1 k0_2 k1_0 k1_1 k1_2
  generalize (wf.alloc (.cells #[.slice p0 p1 p2] 70)) = wv9 at *
  have CC := vcmp _ _ X U _ _ wv9 (HWf.out.arg 0 (Nat.le_of_ble_eq_true rfl)) (HWf.out.arg 2 (Nat.le_of_ble_eq_true rfl)) (by decide) (by decide)
  obtain ⟨z, Hz⟩ : ∃ z, Hid (z = cmp3 ((X : Nat) : Int) ((U : Nat) : Int)) := ⟨_, rfl⟩
  rw [← Hz.out] at CC
  have hz0 : z = 0 := by rw [Hz.out, cmp3_eq (by rw [hX])]
  subst hz0
  refine CC.mono ?_
  clear CC
  rintro e wg ⟨rfl, q, hq⟩
  have hB : Below wv9.heap.size wv9 wg := (by rw [hq]; exact below_drewN (Below.refl _ _) q)
  clear hq
  have Hwg : Hid (Lf w wg [(wb.heap.size, [.slice none 0 0, .slice none 0 0, .bool true]), (w.heap.size + 1, [.slice u0 u1 u2, .slice v0 v1 v2, .bool false]), (w.heap.size, [.slice x0 x1 x2, .slice y0 y1 y2, .bool false])] [(.slice x0 x1 x2, X), (.slice y0 y1 y2, Y), (.slice u0 u1 u2, U), (.slice v0 v1 v2, V)] [(.slice p0 p1 p2, p)]) := (HWf.out.below hB)
  have HLwg : Hid (Bl 70 wg wf.heap.size [.slice p0 p1 p2]) := HLw.out.below hB HLw.out.lt
  clear hB
  have kf : wg.cell? ⟨wf.heap.size, 0, none⟩ = some (.slice p0 p1 p2) := HLwg.out.cell 0 (by simp)
  have k0_0 : wg.cell? ⟨w.heap.size, 0, none⟩ = some (.slice x0 x1 x2) := Hwg.out.cell 2 0 (Nat.le_of_ble_eq_true rfl) (Nat.le_of_ble_eq_true rfl)
  have k0_1 : wg.cell? ⟨w.heap.size, 1, none⟩ = some (.slice y0 y1 y2) := Hwg.out.cell 2 1 (Nat.le_of_ble_eq_true rfl) (Nat.le_of_ble_eq_true rfl)
  have k0_2 : wg.cell? ⟨w.heap.size, 2, none⟩ = some (.bool false) := Hwg.out.cell 2 2 (Nat.le_of_ble_eq_true rfl) (Nat.le_of_ble_eq_true rfl)
  have k1_0 : wg.cell? ⟨w.heap.size + 1, 0, none⟩ = some (.slice u0 u1 u2) := Hwg.out.cell 1 0 (Nat.le_of_ble_eq_true rfl) (Nat.le_of_ble_eq_true rfl)
  have k1_1 : wg.cell? ⟨w.heap.size + 1, 1, none⟩ = some (.slice v0 v1 v2) := Hwg.out.cell 1 1 (Nat.le_of_ble_eq_true rfl) (Nat.le_of_ble_eq_true rfl)
  have k1_2 : wg.cell? ⟨w.heap.size + 1, 2, none⟩ = some (.bool false) := Hwg.out.cell 1 2 (Nat.le_of_ble_eq_true rfl) (Nat.le_of_ble_eq_true rfl)
  go_wp2_with fail
  clear kf k0_0 k0_1 k0_2 k1_0 k1_1 k1_2
  refine (lfadd_v _ _ _ p Y V 384 384 _ HPM.out (Hwg.out.got 0 (Nat.le_of_ble_eq_true rfl)).nk.1 ⟨(Hwg.out.arg 1 (Nat.le_of_ble_eq_true rfl)), HLt.out.2.1⟩ ⟨(Hwg.out.arg 3 (Nat.le_of_ble_eq_true rfl)), HLt.out.2.2.2⟩ (by decide) (by decide)).mono ?_
  rintro e wh ⟨a, rfl, h⟩
  have hB := h.bel
  have mh := h.mk
  obtain ⟨a0, a1, a2, rfl⟩ := h.sl
  have Hwh : Hid (Lf w wh [(wb.heap.size, [.slice none 0 0, .slice none 0 0, .bool true]), (w.heap.size + 1, [.slice u0 u1 u2, .slice v0 v1 v2, .bool false]), (w.heap.size, [.slice x0 x1 x2, .slice y0 y1 y2, .bool false])] [(.slice x0 x1 x2, X), (.slice y0 y1 y2, Y), (.slice u0 u1 u2, U), (.slice v0 v1 v2, V)] [(.slice a0 a1 a2, fA p Y V), (.slice p0 p1 p2, p)]) := ((Hwg.out.below hB).res mh)
  have HLwh : Hid (Bl 70 wh wf.heap.size [.slice p0 p1 p2]) := HLwg.out.below hB HLwg.out.lt
  clear h hB mh
  go_wp2_with fail
  have CC := vcmp _ _ (fA p Y V) 0 _ _ wh (Hwh.out.got 0 (Nat.le_of_ble_eq_true rfl)).nk.1 (Nk.none _ 384).1 (by decide) (by decide)
  obtain ⟨z, Hz2⟩ : ∃ z, Hid (z = cmp3 ((fA p Y V : Nat) : Int) ((0 : Nat) : Int)) := ⟨_, rfl⟩
  rw [← Hz2.out] at CC
  have hz0 : z = 0 := by rw [Hz2.out, cmp3_eq (by rw [hY])]
  subst hz0
  refine CC.mono ?_
  clear CC
  rintro e wi ⟨rfl, q, hq⟩
  have hB : Below wh.heap.size wh wi := (by rw [hq]; exact below_drewN (Below.refl _ _) q)
  clear hq
  have Hwi : Hid (Lf w wi [(wb.heap.size, [.slice none 0 0, .slice none 0 0, .bool true]), (w.heap.size + 1, [.slice u0 u1 u2, .slice v0 v1 v2, .bool false]), (w.heap.size, [.slice x0 x1 x2, .slice y0 y1 y2, .bool false])] [(.slice x0 x1 x2, X), (.slice y0 y1 y2, Y), (.slice u0 u1 u2, U), (.slice v0 v1 v2, V)] [(.slice a0 a1 a2, fA p Y V), (.slice p0 p1 p2, p)]) := (Hwh.out.below hB)
  have HLwi : Hid (Bl 70 wi wf.heap.size [.slice p0 p1 p2]) := HLwh.out.below hB HLwh.out.lt
  clear hB
  have k2_0 : wi.cell? ⟨wb.heap.size, 0, none⟩ = some (.slice none 0 0) := Hwi.out.cell 0 0 (Nat.le_of_ble_eq_true rfl) (Nat.le_of_ble_eq_true rfl)
  have k2_1 : wi.cell? ⟨wb.heap.size, 1, none⟩ = some (.slice none 0 0) := Hwi.out.cell 0 1 (Nat.le_of_ble_eq_true rfl) (Nat.le_of_ble_eq_true rfl)
  have k2_2 : wi.cell? ⟨wb.heap.size, 2, none⟩ = some (.bool true) := Hwi.out.cell 0 2 (Nat.le_of_ble_eq_true rfl) (Nat.le_of_ble_eq_true rfl)
  go_wp2
  go_ret
  exact ⟨rfl, Hwi.out.bel⟩
set_option maxHeartbeats 40000000 in
theorem line_tan {c s : Int} {p b n gx gy : Nat} (hk : Kv c p b n gx gy s) (x y u v : Value) (X Y U V : Nat) (w : World) (hx : Nu w x X) (hy : Nu w y Y) (hu : Nu w u U) (hv : Nu w v V) (o1 : onB p b X Y false = true) (o2 : onB p b U V false = true) (hX : X = U) (hY : fA p Y V ≠ 0) :
    Calls Tryz.prog 11 #[.int .i64 c, .agg #[x, y, .bool false], .agg #[u, v, .bool false]] w fun e w' => e = .returned (.bool true) ∧ Below w.heap.size w w' := by
  obtain ⟨x0, x1, x2, rfl⟩ := hx.shape
  obtain ⟨y0, y1, y2, rfl⟩ := hy.shape
  obtain ⟨u0, u1, u2, rfl⟩ := hu.shape
  obtain ⟨v0, v1, v2, rfl⟩ := hv.shape
  have H0 : Hid (Lf w ((w.alloc (.cells #[.slice x0 x1 x2, .slice y0 y1 y2, .bool false] 45)).alloc (.cells #[.slice u0 u1 u2, .slice v0 v1 v2, .bool false] 45)) [(w.heap.size + 1, [.slice u0 u1 u2, .slice v0 v1 v2, .bool false]), (w.heap.size, [.slice x0 x1 x2, .slice y0 y1 y2, .bool false])] [(.slice x0 x1 x2, X), (.slice y0 y1 y2, Y), (.slice u0 u1 u2, U), (.slice v0 v1 v2, V)] []) := Lf.of2 (((Fm.nil (w := w) (A := []) ar_nil).push (by simp) 45 [.slice x0 x1 x2, .slice y0 y1 y2, .bool false]).push (by simp) 45 [.slice u0 u1 u2, .slice v0 v1 v2, .bool false]) (fun q hq => by simp only [List.mem_cons, List.not_mem_nil, or_false] at hq; rcases hq with rfl | rfl | rfl | rfl <;> assumption)
  clear hx hy hu hv
  go_enter Tryz.func11, Tryz.ntmps11
  go_wp2_with fail
  generalize ((w.alloc (.cells #[.slice x0 x1 x2, .slice y0 y1 y2, .bool false] 45)).alloc (.cells #[.slice u0 u1 u2, .slice v0 v1 v2, .bool false] 45)) = wv1 at *
  refine (started_v _).mono ?_
  rintro e wa ⟨rfl, hB⟩
  have Hwa : Hid (Lf w wa [(w.heap.size + 1, [.slice u0 u1 u2, .slice v0 v1 v2, .bool false]), (w.heap.size, [.slice x0 x1 x2, .slice y0 y1 y2, .bool false])] [(.slice x0 x1 x2, X), (.slice y0 y1 y2, Y), (.slice u0 u1 u2, U), (.slice v0 v1 v2, V)] []) := (H0.out.below hB)
  clear hB
  have hpm := hk.pm
  have C0 := hk.cv
  have oP := ((onB_iff hpm).1 o1).1
  have oQ := ((onB_iff hpm).1 o2).1
  have HPM : Hid (Pm p) := hpm
  have lP := onB_lt hpm o1
  have lQ := onB_lt hpm o2
  have HLt : Hid (X < pw 384 ∧ Y < pw 384 ∧ U < pw 384 ∧ V < pw 384) := ⟨lP.1, lP.2, lQ.1, lQ.2⟩
  have hXU := hX
  obtain ⟨x3, y3, esm, e1, e2⟩ := tangent hpm C0 oP (hX ▸ oQ) hY
  have HE : Hid (_ ∧ _) := ⟨e1, e2⟩
  clear e1 e2
  have k0_0 : wa.cell? ⟨w.heap.size, 0, none⟩ = some (.slice x0 x1 x2) := Hwa.out.cell 1 0 (Nat.le_of_ble_eq_true rfl) (Nat.le_of_ble_eq_true rfl)
  have k0_1 : wa.cell? ⟨w.heap.size, 1, none⟩ = some (.slice y0 y1 y2) := Hwa.out.cell 1 1 (Nat.le_of_ble_eq_true rfl) (Nat.le_of_ble_eq_true rfl)
  have k0_2 : wa.cell? ⟨w.heap.size, 2, none⟩ = some (.bool false) := Hwa.out.cell 1 2 (Nat.le_of_ble_eq_true rfl) (Nat.le_of_ble_eq_true rfl)
  have k1_0 : wa.cell? ⟨w.heap.size + 1, 0, none⟩ = some (.slice u0 u1 u2) := Hwa.out.cell 0 0 (Nat.le_of_ble_eq_true rfl) (Nat.le_of_ble_eq_true rfl)
  have k1_1 : wa.cell? ⟨w.heap.size + 1, 1, none⟩ = some (.slice v0 v1 v2) := Hwa.out.cell 0 1 (Nat.le_of_ble_eq_true rfl) (Nat.le_of_ble_eq_true rfl)
  have k1_2 : wa.cell? ⟨w.heap.size + 1, 2, none⟩ = some (.bool false) := Hwa.out.cell 0 2 (Nat.le_of_ble_eq_true rfl) (Nat.le_of_ble_eq_true rfl)
  go_wp2_with fail
  clear k0_0 k0_1 k0_2 k1_0 k1_1 k1_2
  refine (add_ok hk _ _ _ _ X Y U V false false _ (Hwa.out.arg 0 (Nat.le_of_ble_eq_true rfl)) (Hwa.out.arg 1 (Nat.le_of_ble_eq_true rfl)) (Hwa.out.arg 2 (Nat.le_of_ble_eq_true rfl)) (Hwa.out.arg 3 (Nat.le_of_ble_eq_true rfl)) o1 o2).mono ?_
  rintro e wb ⟨r, rfl, hPa⟩
  rw [show sm p (ptO X Y false) (ptO U V false) = .A x3 y3 from (by show sm p (.A X Y) (.A U V) = _; rw [← hX]; exact esm)] at hPa
  obtain ⟨⟨rv, tv, rfl, m1, m2, _⟩, hB⟩ := hPa
  obtain ⟨r0, r1, r2, rfl⟩ := m1.nk.sl
  obtain ⟨t0, t1, t2, rfl⟩ := m2.nk.sl
  have o3 : onB p b x3 y3 false = true := onB_fin hpm (by have h := C0.son oP oQ; rw [show sm p (ptO X Y false) (ptO U V false) = .A x3 y3 from (by show sm p (.A X Y) (.A U V) = _; rw [← hX]; exact esm)] at h; exact h)
  have Hwb : Hid (Lf w wb [(w.heap.size + 1, [.slice u0 u1 u2, .slice v0 v1 v2, .bool false]), (w.heap.size, [.slice x0 x1 x2, .slice y0 y1 y2, .bool false])] [(.slice x0 x1 x2, X), (.slice y0 y1 y2, Y), (.slice u0 u1 u2, U), (.slice v0 v1 v2, V)] [(.slice t0 t1 t2, y3), (.slice r0 r1 r2, x3)]) := (((Hwa.out.below hB).res m1).res m2)
  clear hB m1 m2 lP lQ hpm
  have HB2 : Hid (Lf w (wb.alloc (.cells #[.slice r0 r1 r2, .slice t0 t1 t2, .bool false] 45)) [(wb.heap.size, [.slice r0 r1 r2, .slice t0 t1 t2, .bool false]), (w.heap.size + 1, [.slice u0 u1 u2, .slice v0 v1 v2, .bool false]), (w.heap.size, [.slice x0 x1 x2, .slice y0 y1 y2, .bool false])] [(.slice x0 x1 x2, X), (.slice y0 y1 y2, Y), (.slice u0 u1 u2, U), (.slice v0 v1 v2, V)] [(.slice t0 t1 t2, y3), (.slice r0 r1 r2, x3)]) := Hwb.out.box [.slice r0 r1 r2, .slice t0 t1 t2, .bool false]
  have k0_0 : (wb.alloc (.cells #[.slice r0 r1 r2, .slice t0 t1 t2, .bool false] 45)).cell? ⟨w.heap.size, 0, none⟩ = some (.slice x0 x1 x2) := HB2.out.cell 2 0 (Nat.le_of_ble_eq_true rfl) (Nat.le_of_ble_eq_true rfl)
  have k0_1 : (wb.alloc (.cells #[.slice r0 r1 r2, .slice t0 t1 t2, .bool false] 45)).cell? ⟨w.heap.size, 1, none⟩ = some (.slice y0 y1 y2) := HB2.out.cell 2 1 (Nat.le_of_ble_eq_true rfl) (Nat.le_of_ble_eq_true rfl)
  have k0_2 : (wb.alloc (.cells #[.slice r0 r1 r2, .slice t0 t1 t2, .bool false] 45)).cell? ⟨w.heap.size, 2, none⟩ = some (.bool false) := HB2.out.cell 2 2 (Nat.le_of_ble_eq_true rfl) (Nat.le_of_ble_eq_true rfl)
  go_wp2_with fail
  clear k0_0 k0_1 k0_2
  generalize (wb.alloc (.cells #[.slice r0 r1 r2, .slice t0 t1 t2, .bool false] 45)) = wv4 at *
  have C := on_v hk _ _ X Y false _ (HB2.out.arg 0 (Nat.le_of_ble_eq_true rfl)) (HB2.out.arg 1 (Nat.le_of_ble_eq_true rfl))
  rw [o1] at C
  refine C.mono ?_
  clear C
  rintro e wc ⟨rfl, hB⟩
  have Hwc : Hid (Lf w wc [(wb.heap.size, [.slice r0 r1 r2, .slice t0 t1 t2, .bool false]), (w.heap.size + 1, [.slice u0 u1 u2, .slice v0 v1 v2, .bool false]), (w.heap.size, [.slice x0 x1 x2, .slice y0 y1 y2, .bool false])] [(.slice x0 x1 x2, X), (.slice y0 y1 y2, Y), (.slice u0 u1 u2, U), (.slice v0 v1 v2, V)] [(.slice t0 t1 t2, y3), (.slice r0 r1 r2, x3)]) := (HB2.out.below hB)
  clear hB
  have k1_0 : wc.cell? ⟨w.heap.size + 1, 0, none⟩ = some (.slice u0 u1 u2) := Hwc.out.cell 1 0 (Nat.le_of_ble_eq_true rfl) (Nat.le_of_ble_eq_true rfl)
  have k1_1 : wc.cell? ⟨w.heap.size + 1, 1, none⟩ = some (.slice v0 v1 v2) := Hwc.out.cell 1 1 (Nat.le_of_ble_eq_true rfl) (Nat.le_of_ble_eq_true rfl)
  have k1_2 : wc.cell? ⟨w.heap.size + 1, 2, none⟩ = some (.bool false) := Hwc.out.cell 1 2 (Nat.le_of_ble_eq_true rfl) (Nat.le_of_ble_eq_true rfl)
  go_wp2_with fail
  clear k1_0 k1_1 k1_2
  have C := on_v hk _ _ U V false _ (Hwc.out.arg 2 (Nat.le_of_ble_eq_true rfl)) (Hwc.out.arg 3 (Nat.le_of_ble_eq_true rfl))
  rw [o2] at C
  refine C.mono ?_
  clear C
  rintro e wd ⟨rfl, hB⟩
  have Hwd : Hid (Lf w wd [(wb.heap.size, [.slice r0 r1 r2, .slice t0 t1 t2, .bool false]), (w.heap.size + 1, [.slice u0 u1 u2, .slice v0 v1 v2, .bool false]), (w.heap.size, [.slice x0 x1 x2, .slice y0 y1 y2, .bool false])] [(.slice x0 x1 x2, X), (.slice y0 y1 y2, Y), (.slice u0 u1 u2, U), (.slice v0 v1 v2, V)] [(.slice t0 t1 t2, y3), (.slice r0 r1 r2, x3)]) := (Hwc.out.below hB)
  clear hB
  have k2_0 : wd.cell? ⟨wb.heap.size, 0, none⟩ = some (.slice r0 r1 r2) := Hwd.out.cell 0 0 (Nat.le_of_ble_eq_true rfl) (Nat.le_of_ble_eq_true rfl)
  have k2_1 : wd.cell? ⟨wb.heap.size, 1, none⟩ = some (.slice t0 t1 t2) := Hwd.out.cell 0 1 (Nat.le_of_ble_eq_true rfl) (Nat.le_of_ble_eq_true rfl)
  have k2_2 : wd.cell? ⟨wb.heap.size, 2, none⟩ = some (.bool false) := Hwd.out.cell 0 2 (Nat.le_of_ble_eq_true rfl) (Nat.le_of_ble_eq_true rfl)
  go_wp2_with fail
  clear k2_0 k2_1 k2_2
  have C := on_v hk _ _ x3 y3 false _ (Hwd.out.got 1 (Nat.le_of_ble_eq_true rfl)).nk.1 (Hwd.out.got 0 (Nat.le_of_ble_eq_true rfl)).nk.1
  rw [o3] at C
  refine C.mono ?_
  clear C
  rintro e we ⟨rfl, hB⟩
  have Hwe : Hid (Lf w we [(wb.heap.size, [.slice r0 r1 r2, .slice t0 t1 t2, .bool false]), (w.heap.size + 1, [.slice u0 u1 u2, .slice v0 v1 v2, .bool false]), (w.heap.size, [.slice x0 x1 x2, .slice y0 y1 y2, .bool false])] [(.slice x0 x1 x2, X), (.slice y0 y1 y2, Y), (.slice u0 u1 u2, U), (.slice v0 v1 v2, V)] [(.slice t0 t1 t2, y3), (.slice r0 r1 r2, x3)]) := (Hwd.out.below hB)
  clear hB
  have k0_0 : we.cell? ⟨w.heap.size, 0, none⟩ = some (.slice x0 x1 x2) := Hwe.out.cell 2 0 (Nat.le_of_ble_eq_true rfl) (Nat.le_of_ble_eq_true rfl)
  have k0_1 : we.cell? ⟨w.heap.size, 1, none⟩ = some (.slice y0 y1 y2) := Hwe.out.cell 2 1 (Nat.le_of_ble_eq_true rfl) (Nat.le_of_ble_eq_true rfl)
  have k0_2 : we.cell? ⟨w.heap.size, 2, none⟩ = some (.bool false) := Hwe.out.cell 2 2 (Nat.le_of_ble_eq_true rfl) (Nat.le_of_ble_eq_true rfl)
  have k1_0 : we.cell? ⟨w.heap.size + 1, 0, none⟩ = some (.slice u0 u1 u2) := Hwe.out.cell 1 0 (Nat.le_of_ble_eq_true rfl) (Nat.le_of_ble_eq_true rfl)
  have k1_1 : we.cell? ⟨w.heap.size + 1, 1, none⟩ = some (.slice v0 v1 v2) := Hwe.out.cell 1 1 (Nat.le_of_ble_eq_true rfl) (Nat.le_of_ble_eq_true rfl)
  have k1_2 : we.cell? ⟨w.heap.size + 1, 2, none⟩ = some (.bool false) := Hwe.out.cell 1 2 (Nat.le_of_ble_eq_true rfl) (Nat.le_of_ble_eq_true rfl)
  go_wp2_with fail
  clear k0_0 k0_1 k0_2 k1_0 k1_1 k1_2
  refine (field_v hk _).mono ?_
  rintro e wf ⟨pv, rfl, mP, hB⟩
  obtain ⟨p0, p1, p2, rfl⟩ := mP.nk.sl
  have Hwf : Hid (Lf w wf [(wb.heap.size, [.slice r0 r1 r2, .slice t0 t1 t2, .bool false]), (w.heap.size + 1, [.slice u0 u1 u2, .slice v0 v1 v2, .bool false]), (w.heap.size, [.slice x0 x1 x2, .slice y0 y1 y2, .bool false])] [(.slice x0 x1 x2, X), (.slice y0 y1 y2, Y), (.slice u0 u1 u2, U), (.slice v0 v1 v2, V)] [(.slice p0 p1 p2, p), (.slice t0 t1 t2, y3), (.slice r0 r1 r2, x3)]) := ((Hwe.out.below hB).res mP)
  clear hB mP
  have HLw : Hid (Bl 70 (wf.alloc (.cells #[.slice p0 p1 p2] 70)) wf.heap.size [.slice p0 p1 p2]) := alloc_bl wf [.slice p0 p1 p2] 70
  have HWf : Hid (Lf w (wf.alloc (.cells #[.slice p0 p1 p2] 70)) [(wb.heap.size, [.slice r0 r1 r2, .slice t0 t1 t2, .bool false]), (w.heap.size + 1, [.slice u0 u1 u2, .slice v0 v1 v2, .bool false]), (w.heap.size, [.slice x0 x1 x2, .slice y0 y1 y2, .bool false])] [(.slice x0 x1 x2, X), (.slice y0 y1 y2, Y), (.slice u0 u1 u2, U), (.slice v0 v1 v2, V)] [(.slice p0 p1 p2, p), (.slice t0 t1 t2, y3), (.slice r0 r1 r2, x3)]) := Hwf.out.below (alloc_below _ _)
  have k0_0 : (wf.alloc (.cells #[.slice p0 p1 p2] 70)).cell? ⟨w.heap.size, 0, none⟩ = some (.slice x0 x1 x2) := HWf.out.cell 2 0 (Nat.le_of_ble_eq_true rfl) (Nat.le_of_ble_eq_true rfl)
  have k0_1 : (wf.alloc (.cells #[.slice p0 p1 p2] 70)).cell? ⟨w.heap.size, 1, none⟩ = some (.slice y0 y1 y2) := HWf.out.cell 2 1 (Nat.le_of_ble_eq_true rfl) (Nat.le_of_ble_eq_true rfl)
  have k0_2 : (wf.alloc (.cells #[.slice p0 p1 p2] 70)).cell? ⟨w.heap.size, 2, none⟩ = some (.bool false) := HWf.out.cell 2 2 (Nat.le_of_ble_eq_true rfl) (Nat.le_of_ble_eq_true rfl)
  have k1_0 : (wf.alloc (.cells #[.slice p0 p1 p2] 70)).cell? ⟨w.heap.size + 1, 0, none⟩ = some (.slice u0 u1 u2) := HWf.out.cell 1 0 (Nat.le_of_ble_eq_true rfl) (Nat.le_of_ble_eq_true rfl)
  have k1_1 : (wf.alloc (.cells #[.slice p0 p1 p2] 70)).cell? ⟨w.heap.size + 1, 1, none⟩ = some (.slice v0 v1 v2) := HWf.out.cell 1 1 (Nat.le_of_ble_eq_true rfl) (Nat.le_of_ble_eq_true rfl)
  have k1_2 : (wf.alloc (.cells #[.slice p0 p1 p2] 70)).cell? ⟨w.heap.size + 1, 2, none⟩ = some (.bool false) := HWf.out.cell 1 2 (Nat.le_of_ble_eq_true rfl) (Nat.le_of_ble_eq_true rfl)
  go_wp2_with fail
  clear k0_0 k0_1 k0_2 k1_0 k1_1 k1_2
  generalize (wf.alloc (.cells #[.slice p0 p1 p2] 70)) = wv9 at *
  have CC := vcmp _ _ X U _ _ wv9 (HWf.out.arg 0 (Nat.le_of_ble_eq_true rfl)) (HWf.out.arg 2 (Nat.le_of_ble_eq_true rfl)) (by decide) (by decide)
  obtain ⟨z, Hz⟩ : ∃ z, Hid (z = cmp3 ((X : Nat) : Int) ((U : Nat) : Int)) := ⟨_, rfl⟩
  rw [← Hz.out] at CC
  have hz0 : z = 0 := by rw [Hz.out, cmp3_eq (by rw [hX])]
  subst hz0
  refine CC.mono ?_
  clear CC
  rintro e wg ⟨rfl, q, hq⟩
  have hB : Below wv9.heap.size wv9 wg := (by rw [hq]; exact below_drewN (Below.refl _ _) q)
  clear hq
  have Hwg : Hid (Lf w wg [(wb.heap.size, [.slice r0 r1 r2, .slice t0 t1 t2, .bool false]), (w.heap.size + 1, [.slice u0 u1 u2, .slice v0 v1 v2, .bool false]), (w.heap.size, [.slice x0 x1 x2, .slice y0 y1 y2, .bool false])] [(.slice x0 x1 x2, X), (.slice y0 y1 y2, Y), (.slice u0 u1 u2, U), (.slice v0 v1 v2, V)] [(.slice p0 p1 p2, p), (.slice t0 t1 t2, y3), (.slice r0 r1 r2, x3)]) := (HWf.out.below hB)
  have HLwg : Hid (Bl 70 wg wf.heap.size [.slice p0 p1 p2]) := HLw.out.below hB HLw.out.lt
  clear hB
  have kf : wg.cell? ⟨wf.heap.size, 0, none⟩ = some (.slice p0 p1 p2) := HLwg.out.cell 0 (by simp)
  have k0_0 : wg.cell? ⟨w.heap.size, 0, none⟩ = some (.slice x0 x1 x2) := Hwg.out.cell 2 0 (Nat.le_of_ble_eq_true rfl) (Nat.le_of_ble_eq_true rfl)
  have k0_1 : wg.cell? ⟨w.heap.size, 1, none⟩ = some (.slice y0 y1 y2) := Hwg.out.cell 2 1 (Nat.le_of_ble_eq_true rfl) (Nat.le_of_ble_eq_true rfl)
  have k0_2 : wg.cell? ⟨w.heap.size, 2, none⟩ = some (.bool false) := Hwg.out.cell 2 2 (Nat.le_of_ble_eq_true rfl) (Nat.le_of_ble_eq_true rfl)
  have k1_0 : wg.cell? ⟨w.heap.size + 1, 0, none⟩ = some (.slice u0 u1 u2) := Hwg.out.cell 1 0 (Nat.le_of_ble_eq_true rfl) (Nat.le_of_ble_eq_true rfl)
  have k1_1 : wg.cell? ⟨w.heap.size + 1, 1, none⟩ = some (.slice v0 v1 v2) := Hwg.out.cell 1 1 (Nat.le_of_ble_eq_true rfl) (Nat.le_of_ble_eq_true rfl)
  have k1_2 : wg.cell? ⟨w.heap.size + 1, 2, none⟩ = some (.bool false) := Hwg.out.cell 1 2 (Nat.le_of_ble_eq_true rfl) (Nat.le_of_ble_eq_true rfl)
  go_wp2_with fail
  clear kf k0_0 k0_1 k0_2 k1_0 k1_1 k1_2
  refine (lfadd_v _ _ _ p Y V 384 384 _ HPM.out (Hwg.out.got 0 (Nat.le_of_ble_eq_true rfl)).nk.1 ⟨(Hwg.out.arg 1 (Nat.le_of_ble_eq_true rfl)), HLt.out.2.1⟩ ⟨(Hwg.out.arg 3 (Nat.le_of_ble_eq_true rfl)), HLt.out.2.2.2⟩ (by decide) (by decide)).mono ?_
  rintro e wh ⟨a, rfl, h⟩
  have hB := h.bel
  have mh := h.mk
  obtain ⟨a0, a1, a2, rfl⟩ := h.sl
  have Hwh : Hid (Lf w wh [(wb.heap.size, [.slice r0 r1 r2, .slice t0 t1 t2, .bool false]), (w.heap.size + 1, [.slice u0 u1 u2, .slice v0 v1 v2, .bool false]), (w.heap.size, [.slice x0 x1 x2, .slice y0 y1 y2, .bool false])] [(.slice x0 x1 x2, X), (.slice y0 y1 y2, Y), (.slice u0 u1 u2, U), (.slice v0 v1 v2, V)] [(.slice a0 a1 a2, fA p Y V), (.slice p0 p1 p2, p), (.slice t0 t1 t2, y3), (.slice r0 r1 r2, x3)]) := ((Hwg.out.below hB).res mh)
  have HLwh : Hid (Bl 70 wh wf.heap.size [.slice p0 p1 p2]) := HLwg.out.below hB HLwg.out.lt
  clear h hB mh
  go_wp2_with fail
  have CC := vcmp _ _ (fA p Y V) 0 _ _ wh (Hwh.out.got 0 (Nat.le_of_ble_eq_true rfl)).nk.1 (Nk.none _ 384).1 (by decide) (by decide)
  obtain ⟨z, Hz2⟩ : ∃ z, Hid (z = cmp3 ((fA p Y V : Nat) : Int) ((0 : Nat) : Int)) := ⟨_, rfl⟩
  rw [← Hz2.out] at CC
  have hz1 : (z == 0) = false := by rw [Hz2.out, cmp3_zero, decide_eq_false (by rw [← hX] at *; exact hY)]
  refine CC.mono ?_
  clear CC
  rintro e wi ⟨rfl, q, hq⟩
  have hB : Below wh.heap.size wh wi := (by rw [hq]; exact below_drewN (Below.refl _ _) q)
  clear hq
  have Hwi : Hid (Lf w wi [(wb.heap.size, [.slice r0 r1 r2, .slice t0 t1 t2, .bool false]), (w.heap.size + 1, [.slice u0 u1 u2, .slice v0 v1 v2, .bool false]), (w.heap.size, [.slice x0 x1 x2, .slice y0 y1 y2, .bool false])] [(.slice x0 x1 x2, X), (.slice y0 y1 y2, Y), (.slice u0 u1 u2, U), (.slice v0 v1 v2, V)] [(.slice a0 a1 a2, fA p Y V), (.slice p0 p1 p2, p), (.slice t0 t1 t2, y3), (.slice r0 r1 r2, x3)]) := (Hwh.out.below hB)
  have HLwi : Hid (Bl 70 wi wf.heap.size [.slice p0 p1 p2]) := HLwh.out.below hB HLwh.out.lt
  clear hB
  go_upto_region 18 with fail
  go_cut [11] from 130 to 141 (fun s1 wx => ∃ (w' : World) (k0 : Option Addr) (k1 k2 : Nat), w' = wx ∧ s1 = .slice k0 k1 k2 ∧ Hid ((Lf w w' [(wb.heap.size, [.slice r0 r1 r2, .slice t0 t1 t2, .bool false]), (w.heap.size + 1, [.slice u0 u1 u2, .slice v0 v1 v2, .bool false]), (w.heap.size, [.slice x0 x1 x2, .slice y0 y1 y2, .bool false])] [(.slice x0 x1 x2, X), (.slice y0 y1 y2, Y), (.slice u0 u1 u2, U), (.slice v0 v1 v2, V)] [(.slice k0 k1 k2, fM p 3 (fS p (fM p X X) 1)), (.slice a0 a1 a2, fA p Y V), (.slice p0 p1 p2, p), (.slice t0 t1 t2, y3), (.slice r0 r1 r2, x3)]) ∧ Bl 70 w' wf.heap.size [.slice p0 p1 p2]))
  case first =>
    have HDb : Hid (Lf w wi.drew [(wb.heap.size, [.slice r0 r1 r2, .slice t0 t1 t2, .bool false]), (w.heap.size + 1, [.slice u0 u1 u2, .slice v0 v1 v2, .bool false]), (w.heap.size, [.slice x0 x1 x2, .slice y0 y1 y2, .bool false])] [(.slice x0 x1 x2, X), (.slice y0 y1 y2, Y), (.slice u0 u1 u2, U), (.slice v0 v1 v2, V)] [(.slice a0 a1 a2, fA p Y V), (.slice p0 p1 p2, p), (.slice t0 t1 t2, y3), (.slice r0 r1 r2, x3)]) := Hwi.out.drawn
    have HXb : Hid (Bl 70 wi.drew wf.heap.size [.slice p0 p1 p2]) := HLwi.out
    have HBd : Hid (Below wi.drew.heap.size wi.drew wi.drew) := Below.refl _ _
    refine wp_region_K 11 (fun (w' : World) => w'.cell? ⟨wf.heap.size, 0, none⟩ = some (.slice p0 p1 p2) ∧ w'.cell? ⟨w.heap.size, 0, none⟩ = some (.slice x0 x1 x2) ∧ w'.cell? ⟨w.heap.size, 1, none⟩ = some (.slice y0 y1 y2) ∧ w'.cell? ⟨w.heap.size, 2, none⟩ = some (.bool false)) (by kernel_rfl) ?_
    have hHeld : ((fun (w' : World) => w'.cell? ⟨wf.heap.size, 0, none⟩ = some (.slice p0 p1 p2) ∧ w'.cell? ⟨w.heap.size, 0, none⟩ = some (.slice x0 x1 x2) ∧ w'.cell? ⟨w.heap.size, 1, none⟩ = some (.slice y0 y1 y2) ∧ w'.cell? ⟨w.heap.size, 2, none⟩ = some (.bool false))) (World.drew _) := ⟨HXb.out.cell 0 (by simp), HDb.out.cell 2 0 (Nat.le_of_ble_eq_true rfl) (Nat.le_of_ble_eq_true rfl), HDb.out.cell 2 1 (Nat.le_of_ble_eq_true rfl) (Nat.le_of_ble_eq_true rfl), HDb.out.cell 2 2 (Nat.le_of_ble_eq_true rfl) (Nat.le_of_ble_eq_true rfl)⟩
    refine wpAnyK_take 0 [11] (v := ?v24) rfl (by kernel_rfl) (fun _ _ _ h => h) (Or.inl ⟨by rfl, ?hy24⟩) hHeld ?_
    case hy24 => (intro w hSw; (try dsimp only at hSw); go_simp; try with_reducible rfl)
    try simp only [Act.put, List.setIfInBounds_toArray, List.set_cons_zero, List.set_cons_succ]
    refine wpAnyK_take 2 [10, 11] (v := ?v25) rfl (by kernel_rfl) (fun _ _ _ h => h) (Or.inl ⟨by rfl, ?hy25⟩) hHeld ?_
    case hy25 => (intro w hSw; (try dsimp only at hSw); go_simp; try with_reducible rfl)
    try simp only [Act.put, List.setIfInBounds_toArray, List.set_cons_zero, List.set_cons_succ]
    refine wpAnyK_take 3 [8, 10, 11] (v := ?v26) rfl (by kernel_rfl) (fun _ _ _ h => h) (Or.inl ⟨by rfl, ?hy26⟩) hHeld ?_
    case hy26 => (intro w hSw; (try dsimp only at hSw); go_simp; try with_reducible rfl)
    try simp only [Act.put, List.setIfInBounds_toArray, List.set_cons_zero, List.set_cons_succ]
    refine wpAnyK_take0 4 (v := ?v27) rfl (by kernel_rfl) (fun _ _ _ h => h) (Or.inl ⟨by rfl, ?hy27⟩) (fun _ => hHeld) ?_
    case hy27 => (intro w hSw; go_simp; try with_reducible rfl)
    try simp only [Act.put, List.setIfInBounds_toArray, List.set_cons_zero, List.set_cons_succ]
    refine wpAnyK_take 5 [8, 10, 11] (v := ?v28) rfl (by kernel_rfl) (fun _ _ _ h => h) (Or.inl ⟨by rfl, ?hy28⟩) hHeld ?_
    case hy28 => (intro w hSw; (try dsimp only at hSw); go_simp; try with_reducible rfl)
    try simp only [Act.put, List.setIfInBounds_toArray, List.set_cons_zero, List.set_cons_succ]
    refine wpAnyK_take0 6 (v := ?v29) rfl (by kernel_rfl) (fun _ _ _ h => h) (Or.inl ⟨by rfl, ?hy29⟩) (fun _ => hHeld) ?_
    case hy29 => (intro w hSw; go_simp; try with_reducible rfl)
    try simp only [Act.put, List.setIfInBounds_toArray, List.set_cons_zero, List.set_cons_succ]
    refine wpAnyK_take 7 [8, 10, 11] (v := ?v30) rfl (by kernel_rfl) (fun _ _ _ h => h) (Or.inl ⟨by rfl, ?hy30⟩) hHeld ?_
    case hy30 => (intro w hSw; (try dsimp only at hSw); go_simp; try with_reducible rfl)
    try simp only [Act.put, List.setIfInBounds_toArray, List.set_cons_zero, List.set_cons_succ]
    refine wpAnyK_three 1 8 9 rfl rfl rfl (by kernel_rfl) (fun K hK => ?_) (fun K hK => ?_) (fun K hK => ?_)
    · go_simp
      have hs1 : Below wi.drew.heap.size wi.drew (wi.alloc (.cells #[.int .u32 3] 65)).drew := alloc_below _ _
      have HB1 : Hid (Below wi.drew.heap.size wi.drew (wi.alloc (.cells #[.int .u32 3] 65)).drew) := HBd.out.trans (hs1.mono HBd.out.size)
      have HN1 : Hid (Nk (wi.alloc (.cells #[.int .u32 3] 65)).drew (.slice (some ⟨wi.drew.heap.size, 0, none⟩) 1 1) 3 384) := row_a wi.drew 3 (by decide) (by decide +kernel)
      clear hs1
      generalize (wi.alloc (.cells #[.int .u32 3] 65)).drew = wy1 at *
      try dsimp only
      refine hK.out _ _ ?hk31 ?_
      case hk31 => exact fun _ => ⟨(HXb.out.below HB1.out HXb.out.lt).cell 0 (by simp), (HDb.out.below HB1.out).cell 2 0 (Nat.le_of_ble_eq_true rfl) (Nat.le_of_ble_eq_true rfl), (HDb.out.below HB1.out).cell 2 1 (Nat.le_of_ble_eq_true rfl) (Nat.le_of_ble_eq_true rfl), (HDb.out.below HB1.out).cell 2 2 (Nat.le_of_ble_eq_true rfl) (Nat.le_of_ble_eq_true rfl)⟩
      have hHeld : ((fun (w' : World) => w'.cell? ⟨wf.heap.size, 0, none⟩ = some (.slice p0 p1 p2) ∧ w'.cell? ⟨w.heap.size, 0, none⟩ = some (.slice x0 x1 x2) ∧ w'.cell? ⟨w.heap.size, 1, none⟩ = some (.slice y0 y1 y2) ∧ w'.cell? ⟨w.heap.size, 2, none⟩ = some (.bool false))) _ := ⟨(HXb.out.below HB1.out HXb.out.lt).cell 0 (by simp), (HDb.out.below HB1.out).cell 2 0 (Nat.le_of_ble_eq_true rfl) (Nat.le_of_ble_eq_true rfl), (HDb.out.below HB1.out).cell 2 1 (Nat.le_of_ble_eq_true rfl) (Nat.le_of_ble_eq_true rfl), (HDb.out.below HB1.out).cell 2 2 (Nat.le_of_ble_eq_true rfl) (Nat.le_of_ble_eq_true rfl)⟩
      clear hK K
      try simp only [Act.put, List.setIfInBounds_toArray, List.set_cons_zero, List.set_cons_succ]
      refine wpAnyK_two 8 9 rfl rfl (by kernel_rfl) (fun K hK => ?_) (fun K hK => ?_)
      · go_simp
        refine (lfmul_v _ _ _ p X X 384 384 _ HPM.out ((HDb.out.below HB1.out).got 1 (Nat.le_of_ble_eq_true rfl)).nk.1 ⟨(HDb.out.below HB1.out).arg 0 (Nat.le_of_ble_eq_true rfl), HLt.out.1⟩ ⟨(HDb.out.below HB1.out).arg 0 (Nat.le_of_ble_eq_true rfl), HLt.out.1⟩ (by decide) (by decide)).mono ?_
        rintro e wy2 ⟨vv2, rfl, h⟩
        have hs2 := h.bel
        have HB2 : Hid (Below wi.drew.heap.size wi.drew wy2) := HB1.out.trans (hs2.mono HB1.out.size)
        obtain ⟨q20, q21, q22, rfl⟩ := h.sl
        have HN2 : Hid (Nk wy2 (.slice q20 q21 q22) (fM p X X) 384) := h.mk.nk
        have HN2th : Hid (Nk wy2 (.slice (some ⟨wi.drew.heap.size, 0, none⟩) 1 1) (3) 384) := HN1.out.below hs2 (Nat.le_refl _)
        clear h hs2
        try dsimp only
        refine hK.out _ _ ?hk32 ?_
        case hk32 => exact fun _ => ⟨(HXb.out.below HB2.out HXb.out.lt).cell 0 (by simp), (HDb.out.below HB2.out).cell 2 0 (Nat.le_of_ble_eq_true rfl) (Nat.le_of_ble_eq_true rfl), (HDb.out.below HB2.out).cell 2 1 (Nat.le_of_ble_eq_true rfl) (Nat.le_of_ble_eq_true rfl), (HDb.out.below HB2.out).cell 2 2 (Nat.le_of_ble_eq_true rfl) (Nat.le_of_ble_eq_true rfl)⟩
        have hHeld : ((fun (w' : World) => w'.cell? ⟨wf.heap.size, 0, none⟩ = some (.slice p0 p1 p2) ∧ w'.cell? ⟨w.heap.size, 0, none⟩ = some (.slice x0 x1 x2) ∧ w'.cell? ⟨w.heap.size, 1, none⟩ = some (.slice y0 y1 y2) ∧ w'.cell? ⟨w.heap.size, 2, none⟩ = some (.bool false))) _ := ⟨(HXb.out.below HB2.out HXb.out.lt).cell 0 (by simp), (HDb.out.below HB2.out).cell 2 0 (Nat.le_of_ble_eq_true rfl) (Nat.le_of_ble_eq_true rfl), (HDb.out.below HB2.out).cell 2 1 (Nat.le_of_ble_eq_true rfl) (Nat.le_of_ble_eq_true rfl), (HDb.out.below HB2.out).cell 2 2 (Nat.le_of_ble_eq_true rfl) (Nat.le_of_ble_eq_true rfl)⟩
        clear hK K
        try simp only [Act.put, List.setIfInBounds_toArray, List.set_cons_zero, List.set_cons_succ]
        refine wpAnyK_step 9 rfl (by kernel_rfl) (fun K hK => ?_)
        go_simp
        have hs3 : Below wy2.heap.size wy2 (wy2.alloc (.cells #[.int .u32 1] 65)) := alloc_below _ _
        have HB3 : Hid (Below wi.drew.heap.size wi.drew (wy2.alloc (.cells #[.int .u32 1] 65))) := HB2.out.trans (hs3.mono HB2.out.size)
        have HN3 : Hid (Nk (wy2.alloc (.cells #[.int .u32 1] 65)) (.slice (some ⟨wy2.heap.size, 0, none⟩) 1 1) 1 384) := row_a wy2 1 (by decide) (by decide +kernel)
        have HN3th : Hid (Nk (wy2.alloc (.cells #[.int .u32 1] 65)) (.slice (some ⟨wi.drew.heap.size, 0, none⟩) 1 1) (3) 384) := HN2th.out.below hs3 (Nat.le_refl _)
        have HN3sq : Hid (Nk (wy2.alloc (.cells #[.int .u32 1] 65)) (.slice q20 q21 q22) (fM p X X) 384) := HN2.out.below hs3 (Nat.le_refl _)
        clear hs3
        generalize (wy2.alloc (.cells #[.int .u32 1] 65)) = wy3 at *
        try dsimp only
        refine hK.out _ _ ?hk33 ?_
        case hk33 => exact fun _ => ⟨(HXb.out.below HB3.out HXb.out.lt).cell 0 (by simp), (HDb.out.below HB3.out).cell 2 0 (Nat.le_of_ble_eq_true rfl) (Nat.le_of_ble_eq_true rfl), (HDb.out.below HB3.out).cell 2 1 (Nat.le_of_ble_eq_true rfl) (Nat.le_of_ble_eq_true rfl), (HDb.out.below HB3.out).cell 2 2 (Nat.le_of_ble_eq_true rfl) (Nat.le_of_ble_eq_true rfl)⟩
        have hHeld : ((fun (w' : World) => w'.cell? ⟨wf.heap.size, 0, none⟩ = some (.slice p0 p1 p2) ∧ w'.cell? ⟨w.heap.size, 0, none⟩ = some (.slice x0 x1 x2) ∧ w'.cell? ⟨w.heap.size, 1, none⟩ = some (.slice y0 y1 y2) ∧ w'.cell? ⟨w.heap.size, 2, none⟩ = some (.bool false))) _ := ⟨(HXb.out.below HB3.out HXb.out.lt).cell 0 (by simp), (HDb.out.below HB3.out).cell 2 0 (Nat.le_of_ble_eq_true rfl) (Nat.le_of_ble_eq_true rfl), (HDb.out.below HB3.out).cell 2 1 (Nat.le_of_ble_eq_true rfl) (Nat.le_of_ble_eq_true rfl), (HDb.out.below HB3.out).cell 2 2 (Nat.le_of_ble_eq_true rfl) (Nat.le_of_ble_eq_true rfl)⟩
        clear hK K
        try simp only [Act.put, List.setIfInBounds_toArray, List.set_cons_zero, List.set_cons_succ]
        refine wpAnyK_step 10 rfl (by kernel_rfl) (fun K hK => ?_)
        go_simp
        refine (lfsub_v _ _ _ p (fM p X X) 1 384 384 _ HPM.out ((HDb.out.below HB3.out).got 1 (Nat.le_of_ble_eq_true rfl)).nk.1 HN3sq.out HN3.out (by decide) (by decide)).mono ?_
        rintro e wy4 ⟨vv4, rfl, h⟩
        have hs4 := h.bel
        have HB4 : Hid (Below wi.drew.heap.size wi.drew wy4) := HB3.out.trans (hs4.mono HB3.out.size)
        obtain ⟨q40, q41, q42, rfl⟩ := h.sl
        have HN4 : Hid (Nk wy4 (.slice q40 q41 q42) (fS p (fM p X X) 1) 384) := h.mk.nk
        have HN4th : Hid (Nk wy4 (.slice (some ⟨wi.drew.heap.size, 0, none⟩) 1 1) (3) 384) := HN3th.out.below hs4 (Nat.le_refl _)
        have HN4sq : Hid (Nk wy4 (.slice q20 q21 q22) (fM p X X) 384) := HN3sq.out.below hs4 (Nat.le_refl _)
        have HN4on : Hid (Nk wy4 (.slice (some ⟨wy2.heap.size, 0, none⟩) 1 1) (1) 384) := HN3.out.below hs4 (Nat.le_refl _)
        clear h hs4
        try dsimp only
        refine hK.out _ _ ?hk34 ?_
        case hk34 => exact fun _ => ⟨(HXb.out.below HB4.out HXb.out.lt).cell 0 (by simp), (HDb.out.below HB4.out).cell 2 0 (Nat.le_of_ble_eq_true rfl) (Nat.le_of_ble_eq_true rfl), (HDb.out.below HB4.out).cell 2 1 (Nat.le_of_ble_eq_true rfl) (Nat.le_of_ble_eq_true rfl), (HDb.out.below HB4.out).cell 2 2 (Nat.le_of_ble_eq_true rfl) (Nat.le_of_ble_eq_true rfl)⟩
        have hHeld : ((fun (w' : World) => w'.cell? ⟨wf.heap.size, 0, none⟩ = some (.slice p0 p1 p2) ∧ w'.cell? ⟨w.heap.size, 0, none⟩ = some (.slice x0 x1 x2) ∧ w'.cell? ⟨w.heap.size, 1, none⟩ = some (.slice y0 y1 y2) ∧ w'.cell? ⟨w.heap.size, 2, none⟩ = some (.bool false))) _ := ⟨(HXb.out.below HB4.out HXb.out.lt).cell 0 (by simp), (HDb.out.below HB4.out).cell 2 0 (Nat.le_of_ble_eq_true rfl) (Nat.le_of_ble_eq_true rfl), (HDb.out.below HB4.out).cell 2 1 (Nat.le_of_ble_eq_true rfl) (Nat.le_of_ble_eq_true rfl), (HDb.out.below HB4.out).cell 2 2 (Nat.le_of_ble_eq_true rfl) (Nat.le_of_ble_eq_true rfl)⟩
        clear hK K
        try simp only [Act.put, List.setIfInBounds_toArray, List.set_cons_zero, List.set_cons_succ]
        refine wpAnyK_step 11 rfl (by kernel_rfl) (fun K hK => ?_)
        go_simp
        refine (lfmul_v _ _ _ p 3 (fS p (fM p X X) 1) 384 384 _ HPM.out ((HDb.out.below HB4.out).got 1 (Nat.le_of_ble_eq_true rfl)).nk.1 HN4th.out HN4.out (by decide) (by decide)).mono ?_
        rintro e wy5 ⟨vv5, rfl, h⟩
        have hs5 := h.bel
        have HB5 : Hid (Below wi.drew.heap.size wi.drew wy5) := HB4.out.trans (hs5.mono HB4.out.size)
        obtain ⟨q50, q51, q52, rfl⟩ := h.sl
        have HN5 : Hid (Mk wy5 wy4.heap.size (.slice q50 q51 q52) (fM p 3 (fS p (fM p X X) 1)) 384) := h.mk
        clear h hs5
        try dsimp only
        refine hK.out _ _ ?hk35 ?_
        case hk35 => exact fun _ => ⟨(HXb.out.below HB5.out HXb.out.lt).cell 0 (by simp), (HDb.out.below HB5.out).cell 2 0 (Nat.le_of_ble_eq_true rfl) (Nat.le_of_ble_eq_true rfl), (HDb.out.below HB5.out).cell 2 1 (Nat.le_of_ble_eq_true rfl) (Nat.le_of_ble_eq_true rfl), (HDb.out.below HB5.out).cell 2 2 (Nat.le_of_ble_eq_true rfl) (Nat.le_of_ble_eq_true rfl)⟩
        have hHeld : ((fun (w' : World) => w'.cell? ⟨wf.heap.size, 0, none⟩ = some (.slice p0 p1 p2) ∧ w'.cell? ⟨w.heap.size, 0, none⟩ = some (.slice x0 x1 x2) ∧ w'.cell? ⟨w.heap.size, 1, none⟩ = some (.slice y0 y1 y2) ∧ w'.cell? ⟨w.heap.size, 2, none⟩ = some (.bool false))) _ := ⟨(HXb.out.below HB5.out HXb.out.lt).cell 0 (by simp), (HDb.out.below HB5.out).cell 2 0 (Nat.le_of_ble_eq_true rfl) (Nat.le_of_ble_eq_true rfl), (HDb.out.below HB5.out).cell 2 1 (Nat.le_of_ble_eq_true rfl) (Nat.le_of_ble_eq_true rfl), (HDb.out.below HB5.out).cell 2 2 (Nat.le_of_ble_eq_true rfl) (Nat.le_of_ble_eq_true rfl)⟩
        clear hK K
        try simp only [Act.put, List.setIfInBounds_toArray, List.set_cons_zero, List.set_cons_succ]
        refine wpAnyK_take0 12 (v := ?v36) rfl (by kernel_rfl) (fun _ _ _ h => h) (Or.inl ⟨by rfl, ?hy36⟩) (fun _ => hHeld) ?_
        case hy36 => (intro w hSw; go_simp; try with_reducible rfl)
        try simp only [Act.put, List.setIfInBounds_toArray, List.set_cons_zero, List.set_cons_succ]
        refine wpAnyK_done (by kernel_rfl) ?_ _
        go_wp2_with fail
        go_meet
        exact ⟨_, _, _, _, rfl, rfl, ((HDb.out.below HB5.out).res (HN5.out : Mk _ _ _ _ _)), HXb.out.below HB5.out HXb.out.lt⟩
      · go_simp
        have hs6 : Below wy1.heap.size wy1 (wy1.alloc (.cells #[.int .u32 1] 65)) := alloc_below _ _
        have HB6 : Hid (Below wi.drew.heap.size wi.drew (wy1.alloc (.cells #[.int .u32 1] 65))) := HB1.out.trans (hs6.mono HB1.out.size)
        have HN6 : Hid (Nk (wy1.alloc (.cells #[.int .u32 1] 65)) (.slice (some ⟨wy1.heap.size, 0, none⟩) 1 1) 1 384) := row_a wy1 1 (by decide) (by decide +kernel)
        have HN6th : Hid (Nk (wy1.alloc (.cells #[.int .u32 1] 65)) (.slice (some ⟨wi.drew.heap.size, 0, none⟩) 1 1) (3) 384) := HN1.out.below hs6 (Nat.le_refl _)
        clear hs6
        generalize (wy1.alloc (.cells #[.int .u32 1] 65)) = wy6 at *
        try dsimp only
        refine hK.out _ _ ?hk37 ?_
        case hk37 => exact fun _ => ⟨(HXb.out.below HB6.out HXb.out.lt).cell 0 (by simp), (HDb.out.below HB6.out).cell 2 0 (Nat.le_of_ble_eq_true rfl) (Nat.le_of_ble_eq_true rfl), (HDb.out.below HB6.out).cell 2 1 (Nat.le_of_ble_eq_true rfl) (Nat.le_of_ble_eq_true rfl), (HDb.out.below HB6.out).cell 2 2 (Nat.le_of_ble_eq_true rfl) (Nat.le_of_ble_eq_true rfl)⟩
        have hHeld : ((fun (w' : World) => w'.cell? ⟨wf.heap.size, 0, none⟩ = some (.slice p0 p1 p2) ∧ w'.cell? ⟨w.heap.size, 0, none⟩ = some (.slice x0 x1 x2) ∧ w'.cell? ⟨w.heap.size, 1, none⟩ = some (.slice y0 y1 y2) ∧ w'.cell? ⟨w.heap.size, 2, none⟩ = some (.bool false))) _ := ⟨(HXb.out.below HB6.out HXb.out.lt).cell 0 (by simp), (HDb.out.below HB6.out).cell 2 0 (Nat.le_of_ble_eq_true rfl) (Nat.le_of_ble_eq_true rfl), (HDb.out.below HB6.out).cell 2 1 (Nat.le_of_ble_eq_true rfl) (Nat.le_of_ble_eq_true rfl), (HDb.out.below HB6.out).cell 2 2 (Nat.le_of_ble_eq_true rfl) (Nat.le_of_ble_eq_true rfl)⟩
        clear hK K
        try simp only [Act.put, List.setIfInBounds_toArray, List.set_cons_zero, List.set_cons_succ]
        refine wpAnyK_step 8 rfl (by kernel_rfl) (fun K hK => ?_)
        go_simp
        refine (lfmul_v _ _ _ p X X 384 384 _ HPM.out ((HDb.out.below HB6.out).got 1 (Nat.le_of_ble_eq_true rfl)).nk.1 ⟨(HDb.out.below HB6.out).arg 0 (Nat.le_of_ble_eq_true rfl), HLt.out.1⟩ ⟨(HDb.out.below HB6.out).arg 0 (Nat.le_of_ble_eq_true rfl), HLt.out.1⟩ (by decide) (by decide)).mono ?_
        rintro e wy7 ⟨vv7, rfl, h⟩
        have hs7 := h.bel
        have HB7 : Hid (Below wi.drew.heap.size wi.drew wy7) := HB6.out.trans (hs7.mono HB6.out.size)
        obtain ⟨q70, q71, q72, rfl⟩ := h.sl
        have HN7 : Hid (Nk wy7 (.slice q70 q71 q72) (fM p X X) 384) := h.mk.nk
        have HN7th : Hid (Nk wy7 (.slice (some ⟨wi.drew.heap.size, 0, none⟩) 1 1) (3) 384) := HN6th.out.below hs7 (Nat.le_refl _)
        have HN7on : Hid (Nk wy7 (.slice (some ⟨wy1.heap.size, 0, none⟩) 1 1) (1) 384) := HN6.out.below hs7 (Nat.le_refl _)
        clear h hs7
        try dsimp only
        refine hK.out _ _ ?hk38 ?_
        case hk38 => exact fun _ => ⟨(HXb.out.below HB7.out HXb.out.lt).cell 0 (by simp), (HDb.out.below HB7.out).cell 2 0 (Nat.le_of_ble_eq_true rfl) (Nat.le_of_ble_eq_true rfl), (HDb.out.below HB7.out).cell 2 1 (Nat.le_of_ble_eq_true rfl) (Nat.le_of_ble_eq_true rfl), (HDb.out.below HB7.out).cell 2 2 (Nat.le_of_ble_eq_true rfl) (Nat.le_of_ble_eq_true rfl)⟩
        have hHeld : ((fun (w' : World) => w'.cell? ⟨wf.heap.size, 0, none⟩ = some (.slice p0 p1 p2) ∧ w'.cell? ⟨w.heap.size, 0, none⟩ = some (.slice x0 x1 x2) ∧ w'.cell? ⟨w.heap.size, 1, none⟩ = some (.slice y0 y1 y2) ∧ w'.cell? ⟨w.heap.size, 2, none⟩ = some (.bool false))) _ := ⟨(HXb.out.below HB7.out HXb.out.lt).cell 0 (by simp), (HDb.out.below HB7.out).cell 2 0 (Nat.le_of_ble_eq_true rfl) (Nat.le_of_ble_eq_true rfl), (HDb.out.below HB7.out).cell 2 1 (Nat.le_of_ble_eq_true rfl) (Nat.le_of_ble_eq_true rfl), (HDb.out.below HB7.out).cell 2 2 (Nat.le_of_ble_eq_true rfl) (Nat.le_of_ble_eq_true rfl)⟩
        clear hK K
        try simp only [Act.put, List.setIfInBounds_toArray, List.set_cons_zero, List.set_cons_succ]
        refine wpAnyK_step 10 rfl (by kernel_rfl) (fun K hK => ?_)
        go_simp
        refine (lfsub_v _ _ _ p (fM p X X) 1 384 384 _ HPM.out ((HDb.out.below HB7.out).got 1 (Nat.le_of_ble_eq_true rfl)).nk.1 HN7.out HN7on.out (by decide) (by decide)).mono ?_
        rintro e wy8 ⟨vv8, rfl, h⟩
        have hs8 := h.bel
        have HB8 : Hid (Below wi.drew.heap.size wi.drew wy8) := HB7.out.trans (hs8.mono HB7.out.size)
        obtain ⟨q80, q81, q82, rfl⟩ := h.sl
        have HN8 : Hid (Nk wy8 (.slice q80 q81 q82) (fS p (fM p X X) 1) 384) := h.mk.nk
        have HN8th : Hid (Nk wy8 (.slice (some ⟨wi.drew.heap.size, 0, none⟩) 1 1) (3) 384) := HN7th.out.below hs8 (Nat.le_refl _)
        have HN8on : Hid (Nk wy8 (.slice (some ⟨wy1.heap.size, 0, none⟩) 1 1) (1) 384) := HN7on.out.below hs8 (Nat.le_refl _)
        have HN8sq : Hid (Nk wy8 (.slice q70 q71 q72) (fM p X X) 384) := HN7.out.below hs8 (Nat.le_refl _)
        clear h hs8
        try dsimp only
        refine hK.out _ _ ?hk39 ?_
        case hk39 => exact fun _ => ⟨(HXb.out.below HB8.out HXb.out.lt).cell 0 (by simp), (HDb.out.below HB8.out).cell 2 0 (Nat.le_of_ble_eq_true rfl) (Nat.le_of_ble_eq_true rfl), (HDb.out.below HB8.out).cell 2 1 (Nat.le_of_ble_eq_true rfl) (Nat.le_of_ble_eq_true rfl), (HDb.out.below HB8.out).cell 2 2 (Nat.le_of_ble_eq_true rfl) (Nat.le_of_ble_eq_true rfl)⟩
        have hHeld : ((fun (w' : World) => w'.cell? ⟨wf.heap.size, 0, none⟩ = some (.slice p0 p1 p2) ∧ w'.cell? ⟨w.heap.size, 0, none⟩ = some (.slice x0 x1 x2) ∧ w'.cell? ⟨w.heap.size, 1, none⟩ = some (.slice y0 y1 y2) ∧ w'.cell? ⟨w.heap.size, 2, none⟩ = some (.bool false))) _ := ⟨(HXb.out.below HB8.out HXb.out.lt).cell 0 (by simp), (HDb.out.below HB8.out).cell 2 0 (Nat.le_of_ble_eq_true rfl) (Nat.le_of_ble_eq_true rfl), (HDb.out.below HB8.out).cell 2 1 (Nat.le_of_ble_eq_true rfl) (Nat.le_of_ble_eq_true rfl), (HDb.out.below HB8.out).cell 2 2 (Nat.le_of_ble_eq_true rfl) (Nat.le_of_ble_eq_true rfl)⟩
        clear hK K
        try simp only [Act.put, List.setIfInBounds_toArray, List.set_cons_zero, List.set_cons_succ]
        refine wpAnyK_step 11 rfl (by kernel_rfl) (fun K hK => ?_)
        go_simp
        refine (lfmul_v _ _ _ p 3 (fS p (fM p X X) 1) 384 384 _ HPM.out ((HDb.out.below HB8.out).got 1 (Nat.le_of_ble_eq_true rfl)).nk.1 HN8th.out HN8.out (by decide) (by decide)).mono ?_
        rintro e wy9 ⟨vv9, rfl, h⟩
        have hs9 := h.bel
        have HB9 : Hid (Below wi.drew.heap.size wi.drew wy9) := HB8.out.trans (hs9.mono HB8.out.size)
        obtain ⟨q90, q91, q92, rfl⟩ := h.sl
        have HN9 : Hid (Mk wy9 wy8.heap.size (.slice q90 q91 q92) (fM p 3 (fS p (fM p X X) 1)) 384) := h.mk
        clear h hs9
        try dsimp only
        refine hK.out _ _ ?hk40 ?_
        case hk40 => exact fun _ => ⟨(HXb.out.below HB9.out HXb.out.lt).cell 0 (by simp), (HDb.out.below HB9.out).cell 2 0 (Nat.le_of_ble_eq_true rfl) (Nat.le_of_ble_eq_true rfl), (HDb.out.below HB9.out).cell 2 1 (Nat.le_of_ble_eq_true rfl) (Nat.le_of_ble_eq_true rfl), (HDb.out.below HB9.out).cell 2 2 (Nat.le_of_ble_eq_true rfl) (Nat.le_of_ble_eq_true rfl)⟩
        have hHeld : ((fun (w' : World) => w'.cell? ⟨wf.heap.size, 0, none⟩ = some (.slice p0 p1 p2) ∧ w'.cell? ⟨w.heap.size, 0, none⟩ = some (.slice x0 x1 x2) ∧ w'.cell? ⟨w.heap.size, 1, none⟩ = some (.slice y0 y1 y2) ∧ w'.cell? ⟨w.heap.size, 2, none⟩ = some (.bool false))) _ := ⟨(HXb.out.below HB9.out HXb.out.lt).cell 0 (by simp), (HDb.out.below HB9.out).cell 2 0 (Nat.le_of_ble_eq_true rfl) (Nat.le_of_ble_eq_true rfl), (HDb.out.below HB9.out).cell 2 1 (Nat.le_of_ble_eq_true rfl) (Nat.le_of_ble_eq_true rfl), (HDb.out.below HB9.out).cell 2 2 (Nat.le_of_ble_eq_true rfl) (Nat.le_of_ble_eq_true rfl)⟩
        clear hK K
        try simp only [Act.put, List.setIfInBounds_toArray, List.set_cons_zero, List.set_cons_succ]
        refine wpAnyK_take0 12 (v := ?v41) rfl (by kernel_rfl) (fun _ _ _ h => h) (Or.inl ⟨by rfl, ?hy41⟩) (fun _ => hHeld) ?_
        case hy41 => (intro w hSw; go_simp; try with_reducible rfl)
        try simp only [Act.put, List.setIfInBounds_toArray, List.set_cons_zero, List.set_cons_succ]
        refine wpAnyK_done (by kernel_rfl) ?_ _
        go_wp2_with fail
        go_meet
        exact ⟨_, _, _, _, rfl, rfl, ((HDb.out.below HB9.out).res (HN9.out : Mk _ _ _ _ _)), HXb.out.below HB9.out HXb.out.lt⟩
    · go_simp
      refine (lfmul_v _ _ _ p X X 384 384 _ HPM.out ((HDb.out.below HBd.out).got 1 (Nat.le_of_ble_eq_true rfl)).nk.1 ⟨(HDb.out.below HBd.out).arg 0 (Nat.le_of_ble_eq_true rfl), HLt.out.1⟩ ⟨(HDb.out.below HBd.out).arg 0 (Nat.le_of_ble_eq_true rfl), HLt.out.1⟩ (by decide) (by decide)).mono ?_
      rintro e wy10 ⟨vv10, rfl, h⟩
      have hs10 := h.bel
      have HB10 : Hid (Below wi.drew.heap.size wi.drew wy10) := HBd.out.trans (hs10.mono HBd.out.size)
      obtain ⟨q100, q101, q102, rfl⟩ := h.sl
      have HN10 : Hid (Nk wy10 (.slice q100 q101 q102) (fM p X X) 384) := h.mk.nk
      clear h hs10
      try dsimp only
      refine hK.out _ _ ?hk42 ?_
      case hk42 => exact fun _ => ⟨(HXb.out.below HB10.out HXb.out.lt).cell 0 (by simp), (HDb.out.below HB10.out).cell 2 0 (Nat.le_of_ble_eq_true rfl) (Nat.le_of_ble_eq_true rfl), (HDb.out.below HB10.out).cell 2 1 (Nat.le_of_ble_eq_true rfl) (Nat.le_of_ble_eq_true rfl), (HDb.out.below HB10.out).cell 2 2 (Nat.le_of_ble_eq_true rfl) (Nat.le_of_ble_eq_true rfl)⟩
      have hHeld : ((fun (w' : World) => w'.cell? ⟨wf.heap.size, 0, none⟩ = some (.slice p0 p1 p2) ∧ w'.cell? ⟨w.heap.size, 0, none⟩ = some (.slice x0 x1 x2) ∧ w'.cell? ⟨w.heap.size, 1, none⟩ = some (.slice y0 y1 y2) ∧ w'.cell? ⟨w.heap.size, 2, none⟩ = some (.bool false))) _ := ⟨(HXb.out.below HB10.out HXb.out.lt).cell 0 (by simp), (HDb.out.below HB10.out).cell 2 0 (Nat.le_of_ble_eq_true rfl) (Nat.le_of_ble_eq_true rfl), (HDb.out.below HB10.out).cell 2 1 (Nat.le_of_ble_eq_true rfl) (Nat.le_of_ble_eq_true rfl), (HDb.out.below HB10.out).cell 2 2 (Nat.le_of_ble_eq_true rfl) (Nat.le_of_ble_eq_true rfl)⟩
      clear hK K
      try simp only [Act.put, List.setIfInBounds_toArray, List.set_cons_zero, List.set_cons_succ]
      refine wpAnyK_two 1 9 rfl rfl (by kernel_rfl) (fun K hK => ?_) (fun K hK => ?_)
      · go_simp
        have hs11 : Below wy10.heap.size wy10 (wy10.alloc (.cells #[.int .u32 3] 65)) := alloc_below _ _
        have HB11 : Hid (Below wi.drew.heap.size wi.drew (wy10.alloc (.cells #[.int .u32 3] 65))) := HB10.out.trans (hs11.mono HB10.out.size)
        have HN11 : Hid (Nk (wy10.alloc (.cells #[.int .u32 3] 65)) (.slice (some ⟨wy10.heap.size, 0, none⟩) 1 1) 3 384) := row_a wy10 3 (by decide) (by decide +kernel)
        have HN11sq : Hid (Nk (wy10.alloc (.cells #[.int .u32 3] 65)) (.slice q100 q101 q102) (fM p X X) 384) := HN10.out.below hs11 (Nat.le_refl _)
        clear hs11
        generalize (wy10.alloc (.cells #[.int .u32 3] 65)) = wy11 at *
        try dsimp only
        refine hK.out _ _ ?hk43 ?_
        case hk43 => exact fun _ => ⟨(HXb.out.below HB11.out HXb.out.lt).cell 0 (by simp), (HDb.out.below HB11.out).cell 2 0 (Nat.le_of_ble_eq_true rfl) (Nat.le_of_ble_eq_true rfl), (HDb.out.below HB11.out).cell 2 1 (Nat.le_of_ble_eq_true rfl) (Nat.le_of_ble_eq_true rfl), (HDb.out.below HB11.out).cell 2 2 (Nat.le_of_ble_eq_true rfl) (Nat.le_of_ble_eq_true rfl)⟩
        have hHeld : ((fun (w' : World) => w'.cell? ⟨wf.heap.size, 0, none⟩ = some (.slice p0 p1 p2) ∧ w'.cell? ⟨w.heap.size, 0, none⟩ = some (.slice x0 x1 x2) ∧ w'.cell? ⟨w.heap.size, 1, none⟩ = some (.slice y0 y1 y2) ∧ w'.cell? ⟨w.heap.size, 2, none⟩ = some (.bool false))) _ := ⟨(HXb.out.below HB11.out HXb.out.lt).cell 0 (by simp), (HDb.out.below HB11.out).cell 2 0 (Nat.le_of_ble_eq_true rfl) (Nat.le_of_ble_eq_true rfl), (HDb.out.below HB11.out).cell 2 1 (Nat.le_of_ble_eq_true rfl) (Nat.le_of_ble_eq_true rfl), (HDb.out.below HB11.out).cell 2 2 (Nat.le_of_ble_eq_true rfl) (Nat.le_of_ble_eq_true rfl)⟩
        clear hK K
        try simp only [Act.put, List.setIfInBounds_toArray, List.set_cons_zero, List.set_cons_succ]
        refine wpAnyK_step 9 rfl (by kernel_rfl) (fun K hK => ?_)
        go_simp
        have hs12 : Below wy11.heap.size wy11 (wy11.alloc (.cells #[.int .u32 1] 65)) := alloc_below _ _
        have HB12 : Hid (Below wi.drew.heap.size wi.drew (wy11.alloc (.cells #[.int .u32 1] 65))) := HB11.out.trans (hs12.mono HB11.out.size)
        have HN12 : Hid (Nk (wy11.alloc (.cells #[.int .u32 1] 65)) (.slice (some ⟨wy11.heap.size, 0, none⟩) 1 1) 1 384) := row_a wy11 1 (by decide) (by decide +kernel)
        have HN12sq : Hid (Nk (wy11.alloc (.cells #[.int .u32 1] 65)) (.slice q100 q101 q102) (fM p X X) 384) := HN11sq.out.below hs12 (Nat.le_refl _)
        have HN12th : Hid (Nk (wy11.alloc (.cells #[.int .u32 1] 65)) (.slice (some ⟨wy10.heap.size, 0, none⟩) 1 1) (3) 384) := HN11.out.below hs12 (Nat.le_refl _)
        clear hs12
        generalize (wy11.alloc (.cells #[.int .u32 1] 65)) = wy12 at *
        try dsimp only
        refine hK.out _ _ ?hk44 ?_
        case hk44 => exact fun _ => ⟨(HXb.out.below HB12.out HXb.out.lt).cell 0 (by simp), (HDb.out.below HB12.out).cell 2 0 (Nat.le_of_ble_eq_true rfl) (Nat.le_of_ble_eq_true rfl), (HDb.out.below HB12.out).cell 2 1 (Nat.le_of_ble_eq_true rfl) (Nat.le_of_ble_eq_true rfl), (HDb.out.below HB12.out).cell 2 2 (Nat.le_of_ble_eq_true rfl) (Nat.le_of_ble_eq_true rfl)⟩
        have hHeld : ((fun (w' : World) => w'.cell? ⟨wf.heap.size, 0, none⟩ = some (.slice p0 p1 p2) ∧ w'.cell? ⟨w.heap.size, 0, none⟩ = some (.slice x0 x1 x2) ∧ w'.cell? ⟨w.heap.size, 1, none⟩ = some (.slice y0 y1 y2) ∧ w'.cell? ⟨w.heap.size, 2, none⟩ = some (.bool false))) _ := ⟨(HXb.out.below HB12.out HXb.out.lt).cell 0 (by simp), (HDb.out.below HB12.out).cell 2 0 (Nat.le_of_ble_eq_true rfl) (Nat.le_of_ble_eq_true rfl), (HDb.out.below HB12.out).cell 2 1 (Nat.le_of_ble_eq_true rfl) (Nat.le_of_ble_eq_true rfl), (HDb.out.below HB12.out).cell 2 2 (Nat.le_of_ble_eq_true rfl) (Nat.le_of_ble_eq_true rfl)⟩
        clear hK K
        try simp only [Act.put, List.setIfInBounds_toArray, List.set_cons_zero, List.set_cons_succ]
        refine wpAnyK_step 10 rfl (by kernel_rfl) (fun K hK => ?_)
        go_simp
        refine (lfsub_v _ _ _ p (fM p X X) 1 384 384 _ HPM.out ((HDb.out.below HB12.out).got 1 (Nat.le_of_ble_eq_true rfl)).nk.1 HN12sq.out HN12.out (by decide) (by decide)).mono ?_
        rintro e wy13 ⟨vv13, rfl, h⟩
        have hs13 := h.bel
        have HB13 : Hid (Below wi.drew.heap.size wi.drew wy13) := HB12.out.trans (hs13.mono HB12.out.size)
        obtain ⟨q130, q131, q132, rfl⟩ := h.sl
        have HN13 : Hid (Nk wy13 (.slice q130 q131 q132) (fS p (fM p X X) 1) 384) := h.mk.nk
        have HN13sq : Hid (Nk wy13 (.slice q100 q101 q102) (fM p X X) 384) := HN12sq.out.below hs13 (Nat.le_refl _)
        have HN13th : Hid (Nk wy13 (.slice (some ⟨wy10.heap.size, 0, none⟩) 1 1) (3) 384) := HN12th.out.below hs13 (Nat.le_refl _)
        have HN13on : Hid (Nk wy13 (.slice (some ⟨wy11.heap.size, 0, none⟩) 1 1) (1) 384) := HN12.out.below hs13 (Nat.le_refl _)
        clear h hs13
        try dsimp only
        refine hK.out _ _ ?hk45 ?_
        case hk45 => exact fun _ => ⟨(HXb.out.below HB13.out HXb.out.lt).cell 0 (by simp), (HDb.out.below HB13.out).cell 2 0 (Nat.le_of_ble_eq_true rfl) (Nat.le_of_ble_eq_true rfl), (HDb.out.below HB13.out).cell 2 1 (Nat.le_of_ble_eq_true rfl) (Nat.le_of_ble_eq_true rfl), (HDb.out.below HB13.out).cell 2 2 (Nat.le_of_ble_eq_true rfl) (Nat.le_of_ble_eq_true rfl)⟩
        have hHeld : ((fun (w' : World) => w'.cell? ⟨wf.heap.size, 0, none⟩ = some (.slice p0 p1 p2) ∧ w'.cell? ⟨w.heap.size, 0, none⟩ = some (.slice x0 x1 x2) ∧ w'.cell? ⟨w.heap.size, 1, none⟩ = some (.slice y0 y1 y2) ∧ w'.cell? ⟨w.heap.size, 2, none⟩ = some (.bool false))) _ := ⟨(HXb.out.below HB13.out HXb.out.lt).cell 0 (by simp), (HDb.out.below HB13.out).cell 2 0 (Nat.le_of_ble_eq_true rfl) (Nat.le_of_ble_eq_true rfl), (HDb.out.below HB13.out).cell 2 1 (Nat.le_of_ble_eq_true rfl) (Nat.le_of_ble_eq_true rfl), (HDb.out.below HB13.out).cell 2 2 (Nat.le_of_ble_eq_true rfl) (Nat.le_of_ble_eq_true rfl)⟩
        clear hK K
        try simp only [Act.put, List.setIfInBounds_toArray, List.set_cons_zero, List.set_cons_succ]
        refine wpAnyK_step 11 rfl (by kernel_rfl) (fun K hK => ?_)
        go_simp
        refine (lfmul_v _ _ _ p 3 (fS p (fM p X X) 1) 384 384 _ HPM.out ((HDb.out.below HB13.out).got 1 (Nat.le_of_ble_eq_true rfl)).nk.1 HN13th.out HN13.out (by decide) (by decide)).mono ?_
        rintro e wy14 ⟨vv14, rfl, h⟩
        have hs14 := h.bel
        have HB14 : Hid (Below wi.drew.heap.size wi.drew wy14) := HB13.out.trans (hs14.mono HB13.out.size)
        obtain ⟨q140, q141, q142, rfl⟩ := h.sl
        have HN14 : Hid (Mk wy14 wy13.heap.size (.slice q140 q141 q142) (fM p 3 (fS p (fM p X X) 1)) 384) := h.mk
        clear h hs14
        try dsimp only
        refine hK.out _ _ ?hk46 ?_
        case hk46 => exact fun _ => ⟨(HXb.out.below HB14.out HXb.out.lt).cell 0 (by simp), (HDb.out.below HB14.out).cell 2 0 (Nat.le_of_ble_eq_true rfl) (Nat.le_of_ble_eq_true rfl), (HDb.out.below HB14.out).cell 2 1 (Nat.le_of_ble_eq_true rfl) (Nat.le_of_ble_eq_true rfl), (HDb.out.below HB14.out).cell 2 2 (Nat.le_of_ble_eq_true rfl) (Nat.le_of_ble_eq_true rfl)⟩
        have hHeld : ((fun (w' : World) => w'.cell? ⟨wf.heap.size, 0, none⟩ = some (.slice p0 p1 p2) ∧ w'.cell? ⟨w.heap.size, 0, none⟩ = some (.slice x0 x1 x2) ∧ w'.cell? ⟨w.heap.size, 1, none⟩ = some (.slice y0 y1 y2) ∧ w'.cell? ⟨w.heap.size, 2, none⟩ = some (.bool false))) _ := ⟨(HXb.out.below HB14.out HXb.out.lt).cell 0 (by simp), (HDb.out.below HB14.out).cell 2 0 (Nat.le_of_ble_eq_true rfl) (Nat.le_of_ble_eq_true rfl), (HDb.out.below HB14.out).cell 2 1 (Nat.le_of_ble_eq_true rfl) (Nat.le_of_ble_eq_true rfl), (HDb.out.below HB14.out).cell 2 2 (Nat.le_of_ble_eq_true rfl) (Nat.le_of_ble_eq_true rfl)⟩
        clear hK K
        try simp only [Act.put, List.setIfInBounds_toArray, List.set_cons_zero, List.set_cons_succ]
        refine wpAnyK_take0 12 (v := ?v47) rfl (by kernel_rfl) (fun _ _ _ h => h) (Or.inl ⟨by rfl, ?hy47⟩) (fun _ => hHeld) ?_
        case hy47 => (intro w hSw; go_simp; try with_reducible rfl)
        try simp only [Act.put, List.setIfInBounds_toArray, List.set_cons_zero, List.set_cons_succ]
        refine wpAnyK_done (by kernel_rfl) ?_ _
        go_wp2_with fail
        go_meet
        exact ⟨_, _, _, _, rfl, rfl, ((HDb.out.below HB14.out).res (HN14.out : Mk _ _ _ _ _)), HXb.out.below HB14.out HXb.out.lt⟩
      · go_simp
        have hs15 : Below wy10.heap.size wy10 (wy10.alloc (.cells #[.int .u32 1] 65)) := alloc_below _ _
        have HB15 : Hid (Below wi.drew.heap.size wi.drew (wy10.alloc (.cells #[.int .u32 1] 65))) := HB10.out.trans (hs15.mono HB10.out.size)
        have HN15 : Hid (Nk (wy10.alloc (.cells #[.int .u32 1] 65)) (.slice (some ⟨wy10.heap.size, 0, none⟩) 1 1) 1 384) := row_a wy10 1 (by decide) (by decide +kernel)
        have HN15sq : Hid (Nk (wy10.alloc (.cells #[.int .u32 1] 65)) (.slice q100 q101 q102) (fM p X X) 384) := HN10.out.below hs15 (Nat.le_refl _)
        clear hs15
        generalize (wy10.alloc (.cells #[.int .u32 1] 65)) = wy15 at *
        try dsimp only
        refine hK.out _ _ ?hk48 ?_
        case hk48 => exact fun _ => ⟨(HXb.out.below HB15.out HXb.out.lt).cell 0 (by simp), (HDb.out.below HB15.out).cell 2 0 (Nat.le_of_ble_eq_true rfl) (Nat.le_of_ble_eq_true rfl), (HDb.out.below HB15.out).cell 2 1 (Nat.le_of_ble_eq_true rfl) (Nat.le_of_ble_eq_true rfl), (HDb.out.below HB15.out).cell 2 2 (Nat.le_of_ble_eq_true rfl) (Nat.le_of_ble_eq_true rfl)⟩
        have hHeld : ((fun (w' : World) => w'.cell? ⟨wf.heap.size, 0, none⟩ = some (.slice p0 p1 p2) ∧ w'.cell? ⟨w.heap.size, 0, none⟩ = some (.slice x0 x1 x2) ∧ w'.cell? ⟨w.heap.size, 1, none⟩ = some (.slice y0 y1 y2) ∧ w'.cell? ⟨w.heap.size, 2, none⟩ = some (.bool false))) _ := ⟨(HXb.out.below HB15.out HXb.out.lt).cell 0 (by simp), (HDb.out.below HB15.out).cell 2 0 (Nat.le_of_ble_eq_true rfl) (Nat.le_of_ble_eq_true rfl), (HDb.out.below HB15.out).cell 2 1 (Nat.le_of_ble_eq_true rfl) (Nat.le_of_ble_eq_true rfl), (HDb.out.below HB15.out).cell 2 2 (Nat.le_of_ble_eq_true rfl) (Nat.le_of_ble_eq_true rfl)⟩
        clear hK K
        try simp only [Act.put, List.setIfInBounds_toArray, List.set_cons_zero, List.set_cons_succ]
        refine wpAnyK_two 1 10 rfl rfl (by kernel_rfl) (fun K hK => ?_) (fun K hK => ?_)
        · go_simp
          have hs16 : Below wy15.heap.size wy15 (wy15.alloc (.cells #[.int .u32 3] 65)) := alloc_below _ _
          have HB16 : Hid (Below wi.drew.heap.size wi.drew (wy15.alloc (.cells #[.int .u32 3] 65))) := HB15.out.trans (hs16.mono HB15.out.size)
          have HN16 : Hid (Nk (wy15.alloc (.cells #[.int .u32 3] 65)) (.slice (some ⟨wy15.heap.size, 0, none⟩) 1 1) 3 384) := row_a wy15 3 (by decide) (by decide +kernel)
          have HN16sq : Hid (Nk (wy15.alloc (.cells #[.int .u32 3] 65)) (.slice q100 q101 q102) (fM p X X) 384) := HN15sq.out.below hs16 (Nat.le_refl _)
          have HN16on : Hid (Nk (wy15.alloc (.cells #[.int .u32 3] 65)) (.slice (some ⟨wy10.heap.size, 0, none⟩) 1 1) (1) 384) := HN15.out.below hs16 (Nat.le_refl _)
          clear hs16
          generalize (wy15.alloc (.cells #[.int .u32 3] 65)) = wy16 at *
          try dsimp only
          refine hK.out _ _ ?hk49 ?_
          case hk49 => exact fun _ => ⟨(HXb.out.below HB16.out HXb.out.lt).cell 0 (by simp), (HDb.out.below HB16.out).cell 2 0 (Nat.le_of_ble_eq_true rfl) (Nat.le_of_ble_eq_true rfl), (HDb.out.below HB16.out).cell 2 1 (Nat.le_of_ble_eq_true rfl) (Nat.le_of_ble_eq_true rfl), (HDb.out.below HB16.out).cell 2 2 (Nat.le_of_ble_eq_true rfl) (Nat.le_of_ble_eq_true rfl)⟩
          have hHeld : ((fun (w' : World) => w'.cell? ⟨wf.heap.size, 0, none⟩ = some (.slice p0 p1 p2) ∧ w'.cell? ⟨w.heap.size, 0, none⟩ = some (.slice x0 x1 x2) ∧ w'.cell? ⟨w.heap.size, 1, none⟩ = some (.slice y0 y1 y2) ∧ w'.cell? ⟨w.heap.size, 2, none⟩ = some (.bool false))) _ := ⟨(HXb.out.below HB16.out HXb.out.lt).cell 0 (by simp), (HDb.out.below HB16.out).cell 2 0 (Nat.le_of_ble_eq_true rfl) (Nat.le_of_ble_eq_true rfl), (HDb.out.below HB16.out).cell 2 1 (Nat.le_of_ble_eq_true rfl) (Nat.le_of_ble_eq_true rfl), (HDb.out.below HB16.out).cell 2 2 (Nat.le_of_ble_eq_true rfl) (Nat.le_of_ble_eq_true rfl)⟩
          clear hK K
          try simp only [Act.put, List.setIfInBounds_toArray, List.set_cons_zero, List.set_cons_succ]
          refine wpAnyK_step 10 rfl (by kernel_rfl) (fun K hK => ?_)
          go_simp
          refine (lfsub_v _ _ _ p (fM p X X) 1 384 384 _ HPM.out ((HDb.out.below HB16.out).got 1 (Nat.le_of_ble_eq_true rfl)).nk.1 HN16sq.out HN16on.out (by decide) (by decide)).mono ?_
          rintro e wy17 ⟨vv17, rfl, h⟩
          have hs17 := h.bel
          have HB17 : Hid (Below wi.drew.heap.size wi.drew wy17) := HB16.out.trans (hs17.mono HB16.out.size)
          obtain ⟨q170, q171, q172, rfl⟩ := h.sl
          have HN17 : Hid (Nk wy17 (.slice q170 q171 q172) (fS p (fM p X X) 1) 384) := h.mk.nk
          have HN17sq : Hid (Nk wy17 (.slice q100 q101 q102) (fM p X X) 384) := HN16sq.out.below hs17 (Nat.le_refl _)
          have HN17on : Hid (Nk wy17 (.slice (some ⟨wy10.heap.size, 0, none⟩) 1 1) (1) 384) := HN16on.out.below hs17 (Nat.le_refl _)
          have HN17th : Hid (Nk wy17 (.slice (some ⟨wy15.heap.size, 0, none⟩) 1 1) (3) 384) := HN16.out.below hs17 (Nat.le_refl _)
          clear h hs17
          try dsimp only
          refine hK.out _ _ ?hk50 ?_
          case hk50 => exact fun _ => ⟨(HXb.out.below HB17.out HXb.out.lt).cell 0 (by simp), (HDb.out.below HB17.out).cell 2 0 (Nat.le_of_ble_eq_true rfl) (Nat.le_of_ble_eq_true rfl), (HDb.out.below HB17.out).cell 2 1 (Nat.le_of_ble_eq_true rfl) (Nat.le_of_ble_eq_true rfl), (HDb.out.below HB17.out).cell 2 2 (Nat.le_of_ble_eq_true rfl) (Nat.le_of_ble_eq_true rfl)⟩
          have hHeld : ((fun (w' : World) => w'.cell? ⟨wf.heap.size, 0, none⟩ = some (.slice p0 p1 p2) ∧ w'.cell? ⟨w.heap.size, 0, none⟩ = some (.slice x0 x1 x2) ∧ w'.cell? ⟨w.heap.size, 1, none⟩ = some (.slice y0 y1 y2) ∧ w'.cell? ⟨w.heap.size, 2, none⟩ = some (.bool false))) _ := ⟨(HXb.out.below HB17.out HXb.out.lt).cell 0 (by simp), (HDb.out.below HB17.out).cell 2 0 (Nat.le_of_ble_eq_true rfl) (Nat.le_of_ble_eq_true rfl), (HDb.out.below HB17.out).cell 2 1 (Nat.le_of_ble_eq_true rfl) (Nat.le_of_ble_eq_true rfl), (HDb.out.below HB17.out).cell 2 2 (Nat.le_of_ble_eq_true rfl) (Nat.le_of_ble_eq_true rfl)⟩
          clear hK K
          try simp only [Act.put, List.setIfInBounds_toArray, List.set_cons_zero, List.set_cons_succ]
          refine wpAnyK_step 11 rfl (by kernel_rfl) (fun K hK => ?_)
          go_simp
          refine (lfmul_v _ _ _ p 3 (fS p (fM p X X) 1) 384 384 _ HPM.out ((HDb.out.below HB17.out).got 1 (Nat.le_of_ble_eq_true rfl)).nk.1 HN17th.out HN17.out (by decide) (by decide)).mono ?_
          rintro e wy18 ⟨vv18, rfl, h⟩
          have hs18 := h.bel
          have HB18 : Hid (Below wi.drew.heap.size wi.drew wy18) := HB17.out.trans (hs18.mono HB17.out.size)
          obtain ⟨q180, q181, q182, rfl⟩ := h.sl
          have HN18 : Hid (Mk wy18 wy17.heap.size (.slice q180 q181 q182) (fM p 3 (fS p (fM p X X) 1)) 384) := h.mk
          clear h hs18
          try dsimp only
          refine hK.out _ _ ?hk51 ?_
          case hk51 => exact fun _ => ⟨(HXb.out.below HB18.out HXb.out.lt).cell 0 (by simp), (HDb.out.below HB18.out).cell 2 0 (Nat.le_of_ble_eq_true rfl) (Nat.le_of_ble_eq_true rfl), (HDb.out.below HB18.out).cell 2 1 (Nat.le_of_ble_eq_true rfl) (Nat.le_of_ble_eq_true rfl), (HDb.out.below HB18.out).cell 2 2 (Nat.le_of_ble_eq_true rfl) (Nat.le_of_ble_eq_true rfl)⟩
          have hHeld : ((fun (w' : World) => w'.cell? ⟨wf.heap.size, 0, none⟩ = some (.slice p0 p1 p2) ∧ w'.cell? ⟨w.heap.size, 0, none⟩ = some (.slice x0 x1 x2) ∧ w'.cell? ⟨w.heap.size, 1, none⟩ = some (.slice y0 y1 y2) ∧ w'.cell? ⟨w.heap.size, 2, none⟩ = some (.bool false))) _ := ⟨(HXb.out.below HB18.out HXb.out.lt).cell 0 (by simp), (HDb.out.below HB18.out).cell 2 0 (Nat.le_of_ble_eq_true rfl) (Nat.le_of_ble_eq_true rfl), (HDb.out.below HB18.out).cell 2 1 (Nat.le_of_ble_eq_true rfl) (Nat.le_of_ble_eq_true rfl), (HDb.out.below HB18.out).cell 2 2 (Nat.le_of_ble_eq_true rfl) (Nat.le_of_ble_eq_true rfl)⟩
          clear hK K
          try simp only [Act.put, List.setIfInBounds_toArray, List.set_cons_zero, List.set_cons_succ]
          refine wpAnyK_take0 12 (v := ?v52) rfl (by kernel_rfl) (fun _ _ _ h => h) (Or.inl ⟨by rfl, ?hy52⟩) (fun _ => hHeld) ?_
          case hy52 => (intro w hSw; go_simp; try with_reducible rfl)
          try simp only [Act.put, List.setIfInBounds_toArray, List.set_cons_zero, List.set_cons_succ]
          refine wpAnyK_done (by kernel_rfl) ?_ _
          go_wp2_with fail
          go_meet
          exact ⟨_, _, _, _, rfl, rfl, ((HDb.out.below HB18.out).res (HN18.out : Mk _ _ _ _ _)), HXb.out.below HB18.out HXb.out.lt⟩
        · go_simp
          refine (lfsub_v _ _ _ p (fM p X X) 1 384 384 _ HPM.out ((HDb.out.below HB15.out).got 1 (Nat.le_of_ble_eq_true rfl)).nk.1 HN15sq.out HN15.out (by decide) (by decide)).mono ?_
          rintro e wy19 ⟨vv19, rfl, h⟩
          have hs19 := h.bel
          have HB19 : Hid (Below wi.drew.heap.size wi.drew wy19) := HB15.out.trans (hs19.mono HB15.out.size)
          obtain ⟨q190, q191, q192, rfl⟩ := h.sl
          have HN19 : Hid (Nk wy19 (.slice q190 q191 q192) (fS p (fM p X X) 1) 384) := h.mk.nk
          have HN19sq : Hid (Nk wy19 (.slice q100 q101 q102) (fM p X X) 384) := HN15sq.out.below hs19 (Nat.le_refl _)
          have HN19on : Hid (Nk wy19 (.slice (some ⟨wy10.heap.size, 0, none⟩) 1 1) (1) 384) := HN15.out.below hs19 (Nat.le_refl _)
          clear h hs19
          try dsimp only
          refine hK.out _ _ ?hk53 ?_
          case hk53 => exact fun _ => ⟨(HXb.out.below HB19.out HXb.out.lt).cell 0 (by simp), (HDb.out.below HB19.out).cell 2 0 (Nat.le_of_ble_eq_true rfl) (Nat.le_of_ble_eq_true rfl), (HDb.out.below HB19.out).cell 2 1 (Nat.le_of_ble_eq_true rfl) (Nat.le_of_ble_eq_true rfl), (HDb.out.below HB19.out).cell 2 2 (Nat.le_of_ble_eq_true rfl) (Nat.le_of_ble_eq_true rfl)⟩
          have hHeld : ((fun (w' : World) => w'.cell? ⟨wf.heap.size, 0, none⟩ = some (.slice p0 p1 p2) ∧ w'.cell? ⟨w.heap.size, 0, none⟩ = some (.slice x0 x1 x2) ∧ w'.cell? ⟨w.heap.size, 1, none⟩ = some (.slice y0 y1 y2) ∧ w'.cell? ⟨w.heap.size, 2, none⟩ = some (.bool false))) _ := ⟨(HXb.out.below HB19.out HXb.out.lt).cell 0 (by simp), (HDb.out.below HB19.out).cell 2 0 (Nat.le_of_ble_eq_true rfl) (Nat.le_of_ble_eq_true rfl), (HDb.out.below HB19.out).cell 2 1 (Nat.le_of_ble_eq_true rfl) (Nat.le_of_ble_eq_true rfl), (HDb.out.below HB19.out).cell 2 2 (Nat.le_of_ble_eq_true rfl) (Nat.le_of_ble_eq_true rfl)⟩
          clear hK K
          try simp only [Act.put, List.setIfInBounds_toArray, List.set_cons_zero, List.set_cons_succ]
          refine wpAnyK_step 1 rfl (by kernel_rfl) (fun K hK => ?_)
          go_simp
          have hs20 : Below wy19.heap.size wy19 (wy19.alloc (.cells #[.int .u32 3] 65)) := alloc_below _ _
          have HB20 : Hid (Below wi.drew.heap.size wi.drew (wy19.alloc (.cells #[.int .u32 3] 65))) := HB19.out.trans (hs20.mono HB19.out.size)
          have HN20 : Hid (Nk (wy19.alloc (.cells #[.int .u32 3] 65)) (.slice (some ⟨wy19.heap.size, 0, none⟩) 1 1) 3 384) := row_a wy19 3 (by decide) (by decide +kernel)
          have HN20sq : Hid (Nk (wy19.alloc (.cells #[.int .u32 3] 65)) (.slice q100 q101 q102) (fM p X X) 384) := HN19sq.out.below hs20 (Nat.le_refl _)
          have HN20on : Hid (Nk (wy19.alloc (.cells #[.int .u32 3] 65)) (.slice (some ⟨wy10.heap.size, 0, none⟩) 1 1) (1) 384) := HN19on.out.below hs20 (Nat.le_refl _)
          have HN20df : Hid (Nk (wy19.alloc (.cells #[.int .u32 3] 65)) (.slice q190 q191 q192) (fS p (fM p X X) 1) 384) := HN19.out.below hs20 (Nat.le_refl _)
          clear hs20
          generalize (wy19.alloc (.cells #[.int .u32 3] 65)) = wy20 at *
          try dsimp only
          refine hK.out _ _ ?hk54 ?_
          case hk54 => exact fun _ => ⟨(HXb.out.below HB20.out HXb.out.lt).cell 0 (by simp), (HDb.out.below HB20.out).cell 2 0 (Nat.le_of_ble_eq_true rfl) (Nat.le_of_ble_eq_true rfl), (HDb.out.below HB20.out).cell 2 1 (Nat.le_of_ble_eq_true rfl) (Nat.le_of_ble_eq_true rfl), (HDb.out.below HB20.out).cell 2 2 (Nat.le_of_ble_eq_true rfl) (Nat.le_of_ble_eq_true rfl)⟩
          have hHeld : ((fun (w' : World) => w'.cell? ⟨wf.heap.size, 0, none⟩ = some (.slice p0 p1 p2) ∧ w'.cell? ⟨w.heap.size, 0, none⟩ = some (.slice x0 x1 x2) ∧ w'.cell? ⟨w.heap.size, 1, none⟩ = some (.slice y0 y1 y2) ∧ w'.cell? ⟨w.heap.size, 2, none⟩ = some (.bool false))) _ := ⟨(HXb.out.below HB20.out HXb.out.lt).cell 0 (by simp), (HDb.out.below HB20.out).cell 2 0 (Nat.le_of_ble_eq_true rfl) (Nat.le_of_ble_eq_true rfl), (HDb.out.below HB20.out).cell 2 1 (Nat.le_of_ble_eq_true rfl) (Nat.le_of_ble_eq_true rfl), (HDb.out.below HB20.out).cell 2 2 (Nat.le_of_ble_eq_true rfl) (Nat.le_of_ble_eq_true rfl)⟩
          clear hK K
          try simp only [Act.put, List.setIfInBounds_toArray, List.set_cons_zero, List.set_cons_succ]
          refine wpAnyK_step 11 rfl (by kernel_rfl) (fun K hK => ?_)
          go_simp
          refine (lfmul_v _ _ _ p 3 (fS p (fM p X X) 1) 384 384 _ HPM.out ((HDb.out.below HB20.out).got 1 (Nat.le_of_ble_eq_true rfl)).nk.1 HN20.out HN20df.out (by decide) (by decide)).mono ?_
          rintro e wy21 ⟨vv21, rfl, h⟩
          have hs21 := h.bel
          have HB21 : Hid (Below wi.drew.heap.size wi.drew wy21) := HB20.out.trans (hs21.mono HB20.out.size)
          obtain ⟨q210, q211, q212, rfl⟩ := h.sl
          have HN21 : Hid (Mk wy21 wy20.heap.size (.slice q210 q211 q212) (fM p 3 (fS p (fM p X X) 1)) 384) := h.mk
          clear h hs21
          try dsimp only
          refine hK.out _ _ ?hk55 ?_
          case hk55 => exact fun _ => ⟨(HXb.out.below HB21.out HXb.out.lt).cell 0 (by simp), (HDb.out.below HB21.out).cell 2 0 (Nat.le_of_ble_eq_true rfl) (Nat.le_of_ble_eq_true rfl), (HDb.out.below HB21.out).cell 2 1 (Nat.le_of_ble_eq_true rfl) (Nat.le_of_ble_eq_true rfl), (HDb.out.below HB21.out).cell 2 2 (Nat.le_of_ble_eq_true rfl) (Nat.le_of_ble_eq_true rfl)⟩
          have hHeld : ((fun (w' : World) => w'.cell? ⟨wf.heap.size, 0, none⟩ = some (.slice p0 p1 p2) ∧ w'.cell? ⟨w.heap.size, 0, none⟩ = some (.slice x0 x1 x2) ∧ w'.cell? ⟨w.heap.size, 1, none⟩ = some (.slice y0 y1 y2) ∧ w'.cell? ⟨w.heap.size, 2, none⟩ = some (.bool false))) _ := ⟨(HXb.out.below HB21.out HXb.out.lt).cell 0 (by simp), (HDb.out.below HB21.out).cell 2 0 (Nat.le_of_ble_eq_true rfl) (Nat.le_of_ble_eq_true rfl), (HDb.out.below HB21.out).cell 2 1 (Nat.le_of_ble_eq_true rfl) (Nat.le_of_ble_eq_true rfl), (HDb.out.below HB21.out).cell 2 2 (Nat.le_of_ble_eq_true rfl) (Nat.le_of_ble_eq_true rfl)⟩
          clear hK K
          try simp only [Act.put, List.setIfInBounds_toArray, List.set_cons_zero, List.set_cons_succ]
          refine wpAnyK_take0 12 (v := ?v56) rfl (by kernel_rfl) (fun _ _ _ h => h) (Or.inl ⟨by rfl, ?hy56⟩) (fun _ => hHeld) ?_
          case hy56 => (intro w hSw; go_simp; try with_reducible rfl)
          try simp only [Act.put, List.setIfInBounds_toArray, List.set_cons_zero, List.set_cons_succ]
          refine wpAnyK_done (by kernel_rfl) ?_ _
          go_wp2_with fail
          go_meet
          exact ⟨_, _, _, _, rfl, rfl, ((HDb.out.below HB21.out).res (HN21.out : Mk _ _ _ _ _)), HXb.out.below HB21.out HXb.out.lt⟩
    · go_simp
      have hs22 : Below wi.drew.heap.size wi.drew (wi.alloc (.cells #[.int .u32 1] 65)).drew := alloc_below _ _
      have HB22 : Hid (Below wi.drew.heap.size wi.drew (wi.alloc (.cells #[.int .u32 1] 65)).drew) := HBd.out.trans (hs22.mono HBd.out.size)
      have HN22 : Hid (Nk (wi.alloc (.cells #[.int .u32 1] 65)).drew (.slice (some ⟨wi.drew.heap.size, 0, none⟩) 1 1) 1 384) := row_a wi.drew 1 (by decide) (by decide +kernel)
      clear hs22
      generalize (wi.alloc (.cells #[.int .u32 1] 65)).drew = wy22 at *
      try dsimp only
      refine hK.out _ _ ?hk57 ?_
      case hk57 => exact fun _ => ⟨(HXb.out.below HB22.out HXb.out.lt).cell 0 (by simp), (HDb.out.below HB22.out).cell 2 0 (Nat.le_of_ble_eq_true rfl) (Nat.le_of_ble_eq_true rfl), (HDb.out.below HB22.out).cell 2 1 (Nat.le_of_ble_eq_true rfl) (Nat.le_of_ble_eq_true rfl), (HDb.out.below HB22.out).cell 2 2 (Nat.le_of_ble_eq_true rfl) (Nat.le_of_ble_eq_true rfl)⟩
      have hHeld : ((fun (w' : World) => w'.cell? ⟨wf.heap.size, 0, none⟩ = some (.slice p0 p1 p2) ∧ w'.cell? ⟨w.heap.size, 0, none⟩ = some (.slice x0 x1 x2) ∧ w'.cell? ⟨w.heap.size, 1, none⟩ = some (.slice y0 y1 y2) ∧ w'.cell? ⟨w.heap.size, 2, none⟩ = some (.bool false))) _ := ⟨(HXb.out.below HB22.out HXb.out.lt).cell 0 (by simp), (HDb.out.below HB22.out).cell 2 0 (Nat.le_of_ble_eq_true rfl) (Nat.le_of_ble_eq_true rfl), (HDb.out.below HB22.out).cell 2 1 (Nat.le_of_ble_eq_true rfl) (Nat.le_of_ble_eq_true rfl), (HDb.out.below HB22.out).cell 2 2 (Nat.le_of_ble_eq_true rfl) (Nat.le_of_ble_eq_true rfl)⟩
      clear hK K
      try simp only [Act.put, List.setIfInBounds_toArray, List.set_cons_zero, List.set_cons_succ]
      refine wpAnyK_two 1 8 rfl rfl (by kernel_rfl) (fun K hK => ?_) (fun K hK => ?_)
      · go_simp
        have hs23 : Below wy22.heap.size wy22 (wy22.alloc (.cells #[.int .u32 3] 65)) := alloc_below _ _
        have HB23 : Hid (Below wi.drew.heap.size wi.drew (wy22.alloc (.cells #[.int .u32 3] 65))) := HB22.out.trans (hs23.mono HB22.out.size)
        have HN23 : Hid (Nk (wy22.alloc (.cells #[.int .u32 3] 65)) (.slice (some ⟨wy22.heap.size, 0, none⟩) 1 1) 3 384) := row_a wy22 3 (by decide) (by decide +kernel)
        have HN23on : Hid (Nk (wy22.alloc (.cells #[.int .u32 3] 65)) (.slice (some ⟨wi.drew.heap.size, 0, none⟩) 1 1) (1) 384) := HN22.out.below hs23 (Nat.le_refl _)
        clear hs23
        generalize (wy22.alloc (.cells #[.int .u32 3] 65)) = wy23 at *
        try dsimp only
        refine hK.out _ _ ?hk58 ?_
        case hk58 => exact fun _ => ⟨(HXb.out.below HB23.out HXb.out.lt).cell 0 (by simp), (HDb.out.below HB23.out).cell 2 0 (Nat.le_of_ble_eq_true rfl) (Nat.le_of_ble_eq_true rfl), (HDb.out.below HB23.out).cell 2 1 (Nat.le_of_ble_eq_true rfl) (Nat.le_of_ble_eq_true rfl), (HDb.out.below HB23.out).cell 2 2 (Nat.le_of_ble_eq_true rfl) (Nat.le_of_ble_eq_true rfl)⟩
        have hHeld : ((fun (w' : World) => w'.cell? ⟨wf.heap.size, 0, none⟩ = some (.slice p0 p1 p2) ∧ w'.cell? ⟨w.heap.size, 0, none⟩ = some (.slice x0 x1 x2) ∧ w'.cell? ⟨w.heap.size, 1, none⟩ = some (.slice y0 y1 y2) ∧ w'.cell? ⟨w.heap.size, 2, none⟩ = some (.bool false))) _ := ⟨(HXb.out.below HB23.out HXb.out.lt).cell 0 (by simp), (HDb.out.below HB23.out).cell 2 0 (Nat.le_of_ble_eq_true rfl) (Nat.le_of_ble_eq_true rfl), (HDb.out.below HB23.out).cell 2 1 (Nat.le_of_ble_eq_true rfl) (Nat.le_of_ble_eq_true rfl), (HDb.out.below HB23.out).cell 2 2 (Nat.le_of_ble_eq_true rfl) (Nat.le_of_ble_eq_true rfl)⟩
        clear hK K
        try simp only [Act.put, List.setIfInBounds_toArray, List.set_cons_zero, List.set_cons_succ]
        refine wpAnyK_step 8 rfl (by kernel_rfl) (fun K hK => ?_)
        go_simp
        refine (lfmul_v _ _ _ p X X 384 384 _ HPM.out ((HDb.out.below HB23.out).got 1 (Nat.le_of_ble_eq_true rfl)).nk.1 ⟨(HDb.out.below HB23.out).arg 0 (Nat.le_of_ble_eq_true rfl), HLt.out.1⟩ ⟨(HDb.out.below HB23.out).arg 0 (Nat.le_of_ble_eq_true rfl), HLt.out.1⟩ (by decide) (by decide)).mono ?_
        rintro e wy24 ⟨vv24, rfl, h⟩
        have hs24 := h.bel
        have HB24 : Hid (Below wi.drew.heap.size wi.drew wy24) := HB23.out.trans (hs24.mono HB23.out.size)
        obtain ⟨q240, q241, q242, rfl⟩ := h.sl
        have HN24 : Hid (Nk wy24 (.slice q240 q241 q242) (fM p X X) 384) := h.mk.nk
        have HN24on : Hid (Nk wy24 (.slice (some ⟨wi.drew.heap.size, 0, none⟩) 1 1) (1) 384) := HN23on.out.below hs24 (Nat.le_refl _)
        have HN24th : Hid (Nk wy24 (.slice (some ⟨wy22.heap.size, 0, none⟩) 1 1) (3) 384) := HN23.out.below hs24 (Nat.le_refl _)
        clear h hs24
        try dsimp only
        refine hK.out _ _ ?hk59 ?_
        case hk59 => exact fun _ => ⟨(HXb.out.below HB24.out HXb.out.lt).cell 0 (by simp), (HDb.out.below HB24.out).cell 2 0 (Nat.le_of_ble_eq_true rfl) (Nat.le_of_ble_eq_true rfl), (HDb.out.below HB24.out).cell 2 1 (Nat.le_of_ble_eq_true rfl) (Nat.le_of_ble_eq_true rfl), (HDb.out.below HB24.out).cell 2 2 (Nat.le_of_ble_eq_true rfl) (Nat.le_of_ble_eq_true rfl)⟩
        have hHeld : ((fun (w' : World) => w'.cell? ⟨wf.heap.size, 0, none⟩ = some (.slice p0 p1 p2) ∧ w'.cell? ⟨w.heap.size, 0, none⟩ = some (.slice x0 x1 x2) ∧ w'.cell? ⟨w.heap.size, 1, none⟩ = some (.slice y0 y1 y2) ∧ w'.cell? ⟨w.heap.size, 2, none⟩ = some (.bool false))) _ := ⟨(HXb.out.below HB24.out HXb.out.lt).cell 0 (by simp), (HDb.out.below HB24.out).cell 2 0 (Nat.le_of_ble_eq_true rfl) (Nat.le_of_ble_eq_true rfl), (HDb.out.below HB24.out).cell 2 1 (Nat.le_of_ble_eq_true rfl) (Nat.le_of_ble_eq_true rfl), (HDb.out.below HB24.out).cell 2 2 (Nat.le_of_ble_eq_true rfl) (Nat.le_of_ble_eq_true rfl)⟩
        clear hK K
        try simp only [Act.put, List.setIfInBounds_toArray, List.set_cons_zero, List.set_cons_succ]
        refine wpAnyK_step 10 rfl (by kernel_rfl) (fun K hK => ?_)
        go_simp
        refine (lfsub_v _ _ _ p (fM p X X) 1 384 384 _ HPM.out ((HDb.out.below HB24.out).got 1 (Nat.le_of_ble_eq_true rfl)).nk.1 HN24.out HN24on.out (by decide) (by decide)).mono ?_
        rintro e wy25 ⟨vv25, rfl, h⟩
        have hs25 := h.bel
        have HB25 : Hid (Below wi.drew.heap.size wi.drew wy25) := HB24.out.trans (hs25.mono HB24.out.size)
        obtain ⟨q250, q251, q252, rfl⟩ := h.sl
        have HN25 : Hid (Nk wy25 (.slice q250 q251 q252) (fS p (fM p X X) 1) 384) := h.mk.nk
        have HN25on : Hid (Nk wy25 (.slice (some ⟨wi.drew.heap.size, 0, none⟩) 1 1) (1) 384) := HN24on.out.below hs25 (Nat.le_refl _)
        have HN25th : Hid (Nk wy25 (.slice (some ⟨wy22.heap.size, 0, none⟩) 1 1) (3) 384) := HN24th.out.below hs25 (Nat.le_refl _)
        have HN25sq : Hid (Nk wy25 (.slice q240 q241 q242) (fM p X X) 384) := HN24.out.below hs25 (Nat.le_refl _)
        clear h hs25
        try dsimp only
        refine hK.out _ _ ?hk60 ?_
        case hk60 => exact fun _ => ⟨(HXb.out.below HB25.out HXb.out.lt).cell 0 (by simp), (HDb.out.below HB25.out).cell 2 0 (Nat.le_of_ble_eq_true rfl) (Nat.le_of_ble_eq_true rfl), (HDb.out.below HB25.out).cell 2 1 (Nat.le_of_ble_eq_true rfl) (Nat.le_of_ble_eq_true rfl), (HDb.out.below HB25.out).cell 2 2 (Nat.le_of_ble_eq_true rfl) (Nat.le_of_ble_eq_true rfl)⟩
        have hHeld : ((fun (w' : World) => w'.cell? ⟨wf.heap.size, 0, none⟩ = some (.slice p0 p1 p2) ∧ w'.cell? ⟨w.heap.size, 0, none⟩ = some (.slice x0 x1 x2) ∧ w'.cell? ⟨w.heap.size, 1, none⟩ = some (.slice y0 y1 y2) ∧ w'.cell? ⟨w.heap.size, 2, none⟩ = some (.bool false))) _ := ⟨(HXb.out.below HB25.out HXb.out.lt).cell 0 (by simp), (HDb.out.below HB25.out).cell 2 0 (Nat.le_of_ble_eq_true rfl) (Nat.le_of_ble_eq_true rfl), (HDb.out.below HB25.out).cell 2 1 (Nat.le_of_ble_eq_true rfl) (Nat.le_of_ble_eq_true rfl), (HDb.out.below HB25.out).cell 2 2 (Nat.le_of_ble_eq_true rfl) (Nat.le_of_ble_eq_true rfl)⟩
        clear hK K
        try simp only [Act.put, List.setIfInBounds_toArray, List.set_cons_zero, List.set_cons_succ]
        refine wpAnyK_step 11 rfl (by kernel_rfl) (fun K hK => ?_)
        go_simp
        refine (lfmul_v _ _ _ p 3 (fS p (fM p X X) 1) 384 384 _ HPM.out ((HDb.out.below HB25.out).got 1 (Nat.le_of_ble_eq_true rfl)).nk.1 HN25th.out HN25.out (by decide) (by decide)).mono ?_
        rintro e wy26 ⟨vv26, rfl, h⟩
        have hs26 := h.bel
        have HB26 : Hid (Below wi.drew.heap.size wi.drew wy26) := HB25.out.trans (hs26.mono HB25.out.size)
        obtain ⟨q260, q261, q262, rfl⟩ := h.sl
        have HN26 : Hid (Mk wy26 wy25.heap.size (.slice q260 q261 q262) (fM p 3 (fS p (fM p X X) 1)) 384) := h.mk
        clear h hs26
        try dsimp only
        refine hK.out _ _ ?hk61 ?_
        case hk61 => exact fun _ => ⟨(HXb.out.below HB26.out HXb.out.lt).cell 0 (by simp), (HDb.out.below HB26.out).cell 2 0 (Nat.le_of_ble_eq_true rfl) (Nat.le_of_ble_eq_true rfl), (HDb.out.below HB26.out).cell 2 1 (Nat.le_of_ble_eq_true rfl) (Nat.le_of_ble_eq_true rfl), (HDb.out.below HB26.out).cell 2 2 (Nat.le_of_ble_eq_true rfl) (Nat.le_of_ble_eq_true rfl)⟩
        have hHeld : ((fun (w' : World) => w'.cell? ⟨wf.heap.size, 0, none⟩ = some (.slice p0 p1 p2) ∧ w'.cell? ⟨w.heap.size, 0, none⟩ = some (.slice x0 x1 x2) ∧ w'.cell? ⟨w.heap.size, 1, none⟩ = some (.slice y0 y1 y2) ∧ w'.cell? ⟨w.heap.size, 2, none⟩ = some (.bool false))) _ := ⟨(HXb.out.below HB26.out HXb.out.lt).cell 0 (by simp), (HDb.out.below HB26.out).cell 2 0 (Nat.le_of_ble_eq_true rfl) (Nat.le_of_ble_eq_true rfl), (HDb.out.below HB26.out).cell 2 1 (Nat.le_of_ble_eq_true rfl) (Nat.le_of_ble_eq_true rfl), (HDb.out.below HB26.out).cell 2 2 (Nat.le_of_ble_eq_true rfl) (Nat.le_of_ble_eq_true rfl)⟩
        clear hK K
        try simp only [Act.put, List.setIfInBounds_toArray, List.set_cons_zero, List.set_cons_succ]
        refine wpAnyK_take0 12 (v := ?v62) rfl (by kernel_rfl) (fun _ _ _ h => h) (Or.inl ⟨by rfl, ?hy62⟩) (fun _ => hHeld) ?_
        case hy62 => (intro w hSw; go_simp; try with_reducible rfl)
        try simp only [Act.put, List.setIfInBounds_toArray, List.set_cons_zero, List.set_cons_succ]
        refine wpAnyK_done (by kernel_rfl) ?_ _
        go_wp2_with fail
        go_meet
        exact ⟨_, _, _, _, rfl, rfl, ((HDb.out.below HB26.out).res (HN26.out : Mk _ _ _ _ _)), HXb.out.below HB26.out HXb.out.lt⟩
      · go_simp
        refine (lfmul_v _ _ _ p X X 384 384 _ HPM.out ((HDb.out.below HB22.out).got 1 (Nat.le_of_ble_eq_true rfl)).nk.1 ⟨(HDb.out.below HB22.out).arg 0 (Nat.le_of_ble_eq_true rfl), HLt.out.1⟩ ⟨(HDb.out.below HB22.out).arg 0 (Nat.le_of_ble_eq_true rfl), HLt.out.1⟩ (by decide) (by decide)).mono ?_
        rintro e wy27 ⟨vv27, rfl, h⟩
        have hs27 := h.bel
        have HB27 : Hid (Below wi.drew.heap.size wi.drew wy27) := HB22.out.trans (hs27.mono HB22.out.size)
        obtain ⟨q270, q271, q272, rfl⟩ := h.sl
        have HN27 : Hid (Nk wy27 (.slice q270 q271 q272) (fM p X X) 384) := h.mk.nk
        have HN27on : Hid (Nk wy27 (.slice (some ⟨wi.drew.heap.size, 0, none⟩) 1 1) (1) 384) := HN22.out.below hs27 (Nat.le_refl _)
        clear h hs27
        try dsimp only
        refine hK.out _ _ ?hk63 ?_
        case hk63 => exact fun _ => ⟨(HXb.out.below HB27.out HXb.out.lt).cell 0 (by simp), (HDb.out.below HB27.out).cell 2 0 (Nat.le_of_ble_eq_true rfl) (Nat.le_of_ble_eq_true rfl), (HDb.out.below HB27.out).cell 2 1 (Nat.le_of_ble_eq_true rfl) (Nat.le_of_ble_eq_true rfl), (HDb.out.below HB27.out).cell 2 2 (Nat.le_of_ble_eq_true rfl) (Nat.le_of_ble_eq_true rfl)⟩
        have hHeld : ((fun (w' : World) => w'.cell? ⟨wf.heap.size, 0, none⟩ = some (.slice p0 p1 p2) ∧ w'.cell? ⟨w.heap.size, 0, none⟩ = some (.slice x0 x1 x2) ∧ w'.cell? ⟨w.heap.size, 1, none⟩ = some (.slice y0 y1 y2) ∧ w'.cell? ⟨w.heap.size, 2, none⟩ = some (.bool false))) _ := ⟨(HXb.out.below HB27.out HXb.out.lt).cell 0 (by simp), (HDb.out.below HB27.out).cell 2 0 (Nat.le_of_ble_eq_true rfl) (Nat.le_of_ble_eq_true rfl), (HDb.out.below HB27.out).cell 2 1 (Nat.le_of_ble_eq_true rfl) (Nat.le_of_ble_eq_true rfl), (HDb.out.below HB27.out).cell 2 2 (Nat.le_of_ble_eq_true rfl) (Nat.le_of_ble_eq_true rfl)⟩
        clear hK K
        try simp only [Act.put, List.setIfInBounds_toArray, List.set_cons_zero, List.set_cons_succ]
        refine wpAnyK_two 1 10 rfl rfl (by kernel_rfl) (fun K hK => ?_) (fun K hK => ?_)
        · go_simp
          have hs28 : Below wy27.heap.size wy27 (wy27.alloc (.cells #[.int .u32 3] 65)) := alloc_below _ _
          have HB28 : Hid (Below wi.drew.heap.size wi.drew (wy27.alloc (.cells #[.int .u32 3] 65))) := HB27.out.trans (hs28.mono HB27.out.size)
          have HN28 : Hid (Nk (wy27.alloc (.cells #[.int .u32 3] 65)) (.slice (some ⟨wy27.heap.size, 0, none⟩) 1 1) 3 384) := row_a wy27 3 (by decide) (by decide +kernel)
          have HN28on : Hid (Nk (wy27.alloc (.cells #[.int .u32 3] 65)) (.slice (some ⟨wi.drew.heap.size, 0, none⟩) 1 1) (1) 384) := HN27on.out.below hs28 (Nat.le_refl _)
          have HN28sq : Hid (Nk (wy27.alloc (.cells #[.int .u32 3] 65)) (.slice q270 q271 q272) (fM p X X) 384) := HN27.out.below hs28 (Nat.le_refl _)
          clear hs28
          generalize (wy27.alloc (.cells #[.int .u32 3] 65)) = wy28 at *
          try dsimp only
          refine hK.out _ _ ?hk64 ?_
          case hk64 => exact fun _ => ⟨(HXb.out.below HB28.out HXb.out.lt).cell 0 (by simp), (HDb.out.below HB28.out).cell 2 0 (Nat.le_of_ble_eq_true rfl) (Nat.le_of_ble_eq_true rfl), (HDb.out.below HB28.out).cell 2 1 (Nat.le_of_ble_eq_true rfl) (Nat.le_of_ble_eq_true rfl), (HDb.out.below HB28.out).cell 2 2 (Nat.le_of_ble_eq_true rfl) (Nat.le_of_ble_eq_true rfl)⟩
          have hHeld : ((fun (w' : World) => w'.cell? ⟨wf.heap.size, 0, none⟩ = some (.slice p0 p1 p2) ∧ w'.cell? ⟨w.heap.size, 0, none⟩ = some (.slice x0 x1 x2) ∧ w'.cell? ⟨w.heap.size, 1, none⟩ = some (.slice y0 y1 y2) ∧ w'.cell? ⟨w.heap.size, 2, none⟩ = some (.bool false))) _ := ⟨(HXb.out.below HB28.out HXb.out.lt).cell 0 (by simp), (HDb.out.below HB28.out).cell 2 0 (Nat.le_of_ble_eq_true rfl) (Nat.le_of_ble_eq_true rfl), (HDb.out.below HB28.out).cell 2 1 (Nat.le_of_ble_eq_true rfl) (Nat.le_of_ble_eq_true rfl), (HDb.out.below HB28.out).cell 2 2 (Nat.le_of_ble_eq_true rfl) (Nat.le_of_ble_eq_true rfl)⟩
          clear hK K
          try simp only [Act.put, List.setIfInBounds_toArray, List.set_cons_zero, List.set_cons_succ]
          refine wpAnyK_step 10 rfl (by kernel_rfl) (fun K hK => ?_)
          go_simp
          refine (lfsub_v _ _ _ p (fM p X X) 1 384 384 _ HPM.out ((HDb.out.below HB28.out).got 1 (Nat.le_of_ble_eq_true rfl)).nk.1 HN28sq.out HN28on.out (by decide) (by decide)).mono ?_
          rintro e wy29 ⟨vv29, rfl, h⟩
          have hs29 := h.bel
          have HB29 : Hid (Below wi.drew.heap.size wi.drew wy29) := HB28.out.trans (hs29.mono HB28.out.size)
          obtain ⟨q290, q291, q292, rfl⟩ := h.sl
          have HN29 : Hid (Nk wy29 (.slice q290 q291 q292) (fS p (fM p X X) 1) 384) := h.mk.nk
          have HN29on : Hid (Nk wy29 (.slice (some ⟨wi.drew.heap.size, 0, none⟩) 1 1) (1) 384) := HN28on.out.below hs29 (Nat.le_refl _)
          have HN29sq : Hid (Nk wy29 (.slice q270 q271 q272) (fM p X X) 384) := HN28sq.out.below hs29 (Nat.le_refl _)
          have HN29th : Hid (Nk wy29 (.slice (some ⟨wy27.heap.size, 0, none⟩) 1 1) (3) 384) := HN28.out.below hs29 (Nat.le_refl _)
          clear h hs29
          try dsimp only
          refine hK.out _ _ ?hk65 ?_
          case hk65 => exact fun _ => ⟨(HXb.out.below HB29.out HXb.out.lt).cell 0 (by simp), (HDb.out.below HB29.out).cell 2 0 (Nat.le_of_ble_eq_true rfl) (Nat.le_of_ble_eq_true rfl), (HDb.out.below HB29.out).cell 2 1 (Nat.le_of_ble_eq_true rfl) (Nat.le_of_ble_eq_true rfl), (HDb.out.below HB29.out).cell 2 2 (Nat.le_of_ble_eq_true rfl) (Nat.le_of_ble_eq_true rfl)⟩
          have hHeld : ((fun (w' : World) => w'.cell? ⟨wf.heap.size, 0, none⟩ = some (.slice p0 p1 p2) ∧ w'.cell? ⟨w.heap.size, 0, none⟩ = some (.slice x0 x1 x2) ∧ w'.cell? ⟨w.heap.size, 1, none⟩ = some (.slice y0 y1 y2) ∧ w'.cell? ⟨w.heap.size, 2, none⟩ = some (.bool false))) _ := ⟨(HXb.out.below HB29.out HXb.out.lt).cell 0 (by simp), (HDb.out.below HB29.out).cell 2 0 (Nat.le_of_ble_eq_true rfl) (Nat.le_of_ble_eq_true rfl), (HDb.out.below HB29.out).cell 2 1 (Nat.le_of_ble_eq_true rfl) (Nat.le_of_ble_eq_true rfl), (HDb.out.below HB29.out).cell 2 2 (Nat.le_of_ble_eq_true rfl) (Nat.le_of_ble_eq_true rfl)⟩
          clear hK K
          try simp only [Act.put, List.setIfInBounds_toArray, List.set_cons_zero, List.set_cons_succ]
          refine wpAnyK_step 11 rfl (by kernel_rfl) (fun K hK => ?_)
          go_simp
          refine (lfmul_v _ _ _ p 3 (fS p (fM p X X) 1) 384 384 _ HPM.out ((HDb.out.below HB29.out).got 1 (Nat.le_of_ble_eq_true rfl)).nk.1 HN29th.out HN29.out (by decide) (by decide)).mono ?_
          rintro e wy30 ⟨vv30, rfl, h⟩
          have hs30 := h.bel
          have HB30 : Hid (Below wi.drew.heap.size wi.drew wy30) := HB29.out.trans (hs30.mono HB29.out.size)
          obtain ⟨q300, q301, q302, rfl⟩ := h.sl
          have HN30 : Hid (Mk wy30 wy29.heap.size (.slice q300 q301 q302) (fM p 3 (fS p (fM p X X) 1)) 384) := h.mk
          clear h hs30
          try dsimp only
          refine hK.out _ _ ?hk66 ?_
          case hk66 => exact fun _ => ⟨(HXb.out.below HB30.out HXb.out.lt).cell 0 (by simp), (HDb.out.below HB30.out).cell 2 0 (Nat.le_of_ble_eq_true rfl) (Nat.le_of_ble_eq_true rfl), (HDb.out.below HB30.out).cell 2 1 (Nat.le_of_ble_eq_true rfl) (Nat.le_of_ble_eq_true rfl), (HDb.out.below HB30.out).cell 2 2 (Nat.le_of_ble_eq_true rfl) (Nat.le_of_ble_eq_true rfl)⟩
          have hHeld : ((fun (w' : World) => w'.cell? ⟨wf.heap.size, 0, none⟩ = some (.slice p0 p1 p2) ∧ w'.cell? ⟨w.heap.size, 0, none⟩ = some (.slice x0 x1 x2) ∧ w'.cell? ⟨w.heap.size, 1, none⟩ = some (.slice y0 y1 y2) ∧ w'.cell? ⟨w.heap.size, 2, none⟩ = some (.bool false))) _ := ⟨(HXb.out.below HB30.out HXb.out.lt).cell 0 (by simp), (HDb.out.below HB30.out).cell 2 0 (Nat.le_of_ble_eq_true rfl) (Nat.le_of_ble_eq_true rfl), (HDb.out.below HB30.out).cell 2 1 (Nat.le_of_ble_eq_true rfl) (Nat.le_of_ble_eq_true rfl), (HDb.out.below HB30.out).cell 2 2 (Nat.le_of_ble_eq_true rfl) (Nat.le_of_ble_eq_true rfl)⟩
          clear hK K
          try simp only [Act.put, List.setIfInBounds_toArray, List.set_cons_zero, List.set_cons_succ]
          refine wpAnyK_take0 12 (v := ?v67) rfl (by kernel_rfl) (fun _ _ _ h => h) (Or.inl ⟨by rfl, ?hy67⟩) (fun _ => hHeld) ?_
          case hy67 => (intro w hSw; go_simp; try with_reducible rfl)
          try simp only [Act.put, List.setIfInBounds_toArray, List.set_cons_zero, List.set_cons_succ]
          refine wpAnyK_done (by kernel_rfl) ?_ _
          go_wp2_with fail
          go_meet
          exact ⟨_, _, _, _, rfl, rfl, ((HDb.out.below HB30.out).res (HN30.out : Mk _ _ _ _ _)), HXb.out.below HB30.out HXb.out.lt⟩
        · go_simp
          refine (lfsub_v _ _ _ p (fM p X X) 1 384 384 _ HPM.out ((HDb.out.below HB27.out).got 1 (Nat.le_of_ble_eq_true rfl)).nk.1 HN27.out HN27on.out (by decide) (by decide)).mono ?_
          rintro e wy31 ⟨vv31, rfl, h⟩
          have hs31 := h.bel
          have HB31 : Hid (Below wi.drew.heap.size wi.drew wy31) := HB27.out.trans (hs31.mono HB27.out.size)
          obtain ⟨q310, q311, q312, rfl⟩ := h.sl
          have HN31 : Hid (Nk wy31 (.slice q310 q311 q312) (fS p (fM p X X) 1) 384) := h.mk.nk
          have HN31on : Hid (Nk wy31 (.slice (some ⟨wi.drew.heap.size, 0, none⟩) 1 1) (1) 384) := HN27on.out.below hs31 (Nat.le_refl _)
          have HN31sq : Hid (Nk wy31 (.slice q270 q271 q272) (fM p X X) 384) := HN27.out.below hs31 (Nat.le_refl _)
          clear h hs31
          try dsimp only
          refine hK.out _ _ ?hk68 ?_
          case hk68 => exact fun _ => ⟨(HXb.out.below HB31.out HXb.out.lt).cell 0 (by simp), (HDb.out.below HB31.out).cell 2 0 (Nat.le_of_ble_eq_true rfl) (Nat.le_of_ble_eq_true rfl), (HDb.out.below HB31.out).cell 2 1 (Nat.le_of_ble_eq_true rfl) (Nat.le_of_ble_eq_true rfl), (HDb.out.below HB31.out).cell 2 2 (Nat.le_of_ble_eq_true rfl) (Nat.le_of_ble_eq_true rfl)⟩
          have hHeld : ((fun (w' : World) => w'.cell? ⟨wf.heap.size, 0, none⟩ = some (.slice p0 p1 p2) ∧ w'.cell? ⟨w.heap.size, 0, none⟩ = some (.slice x0 x1 x2) ∧ w'.cell? ⟨w.heap.size, 1, none⟩ = some (.slice y0 y1 y2) ∧ w'.cell? ⟨w.heap.size, 2, none⟩ = some (.bool false))) _ := ⟨(HXb.out.below HB31.out HXb.out.lt).cell 0 (by simp), (HDb.out.below HB31.out).cell 2 0 (Nat.le_of_ble_eq_true rfl) (Nat.le_of_ble_eq_true rfl), (HDb.out.below HB31.out).cell 2 1 (Nat.le_of_ble_eq_true rfl) (Nat.le_of_ble_eq_true rfl), (HDb.out.below HB31.out).cell 2 2 (Nat.le_of_ble_eq_true rfl) (Nat.le_of_ble_eq_true rfl)⟩
          clear hK K
          try simp only [Act.put, List.setIfInBounds_toArray, List.set_cons_zero, List.set_cons_succ]
          refine wpAnyK_step 1 rfl (by kernel_rfl) (fun K hK => ?_)
          go_simp
          have hs32 : Below wy31.heap.size wy31 (wy31.alloc (.cells #[.int .u32 3] 65)) := alloc_below _ _
          have HB32 : Hid (Below wi.drew.heap.size wi.drew (wy31.alloc (.cells #[.int .u32 3] 65))) := HB31.out.trans (hs32.mono HB31.out.size)
          have HN32 : Hid (Nk (wy31.alloc (.cells #[.int .u32 3] 65)) (.slice (some ⟨wy31.heap.size, 0, none⟩) 1 1) 3 384) := row_a wy31 3 (by decide) (by decide +kernel)
          have HN32on : Hid (Nk (wy31.alloc (.cells #[.int .u32 3] 65)) (.slice (some ⟨wi.drew.heap.size, 0, none⟩) 1 1) (1) 384) := HN31on.out.below hs32 (Nat.le_refl _)
          have HN32sq : Hid (Nk (wy31.alloc (.cells #[.int .u32 3] 65)) (.slice q270 q271 q272) (fM p X X) 384) := HN31sq.out.below hs32 (Nat.le_refl _)
          have HN32df : Hid (Nk (wy31.alloc (.cells #[.int .u32 3] 65)) (.slice q310 q311 q312) (fS p (fM p X X) 1) 384) := HN31.out.below hs32 (Nat.le_refl _)
          clear hs32
          generalize (wy31.alloc (.cells #[.int .u32 3] 65)) = wy32 at *
          try dsimp only
          refine hK.out _ _ ?hk69 ?_
          case hk69 => exact fun _ => ⟨(HXb.out.below HB32.out HXb.out.lt).cell 0 (by simp), (HDb.out.below HB32.out).cell 2 0 (Nat.le_of_ble_eq_true rfl) (Nat.le_of_ble_eq_true rfl), (HDb.out.below HB32.out).cell 2 1 (Nat.le_of_ble_eq_true rfl) (Nat.le_of_ble_eq_true rfl), (HDb.out.below HB32.out).cell 2 2 (Nat.le_of_ble_eq_true rfl) (Nat.le_of_ble_eq_true rfl)⟩
          have hHeld : ((fun (w' : World) => w'.cell? ⟨wf.heap.size, 0, none⟩ = some (.slice p0 p1 p2) ∧ w'.cell? ⟨w.heap.size, 0, none⟩ = some (.slice x0 x1 x2) ∧ w'.cell? ⟨w.heap.size, 1, none⟩ = some (.slice y0 y1 y2) ∧ w'.cell? ⟨w.heap.size, 2, none⟩ = some (.bool false))) _ := ⟨(HXb.out.below HB32.out HXb.out.lt).cell 0 (by simp), (HDb.out.below HB32.out).cell 2 0 (Nat.le_of_ble_eq_true rfl) (Nat.le_of_ble_eq_true rfl), (HDb.out.below HB32.out).cell 2 1 (Nat.le_of_ble_eq_true rfl) (Nat.le_of_ble_eq_true rfl), (HDb.out.below HB32.out).cell 2 2 (Nat.le_of_ble_eq_true rfl) (Nat.le_of_ble_eq_true rfl)⟩
          clear hK K
          try simp only [Act.put, List.setIfInBounds_toArray, List.set_cons_zero, List.set_cons_succ]
          refine wpAnyK_step 11 rfl (by kernel_rfl) (fun K hK => ?_)
          go_simp
          refine (lfmul_v _ _ _ p 3 (fS p (fM p X X) 1) 384 384 _ HPM.out ((HDb.out.below HB32.out).got 1 (Nat.le_of_ble_eq_true rfl)).nk.1 HN32.out HN32df.out (by decide) (by decide)).mono ?_
          rintro e wy33 ⟨vv33, rfl, h⟩
          have hs33 := h.bel
          have HB33 : Hid (Below wi.drew.heap.size wi.drew wy33) := HB32.out.trans (hs33.mono HB32.out.size)
          obtain ⟨q330, q331, q332, rfl⟩ := h.sl
          have HN33 : Hid (Mk wy33 wy32.heap.size (.slice q330 q331 q332) (fM p 3 (fS p (fM p X X) 1)) 384) := h.mk
          clear h hs33
          try dsimp only
          refine hK.out _ _ ?hk70 ?_
          case hk70 => exact fun _ => ⟨(HXb.out.below HB33.out HXb.out.lt).cell 0 (by simp), (HDb.out.below HB33.out).cell 2 0 (Nat.le_of_ble_eq_true rfl) (Nat.le_of_ble_eq_true rfl), (HDb.out.below HB33.out).cell 2 1 (Nat.le_of_ble_eq_true rfl) (Nat.le_of_ble_eq_true rfl), (HDb.out.below HB33.out).cell 2 2 (Nat.le_of_ble_eq_true rfl) (Nat.le_of_ble_eq_true rfl)⟩
          have hHeld : ((fun (w' : World) => w'.cell? ⟨wf.heap.size, 0, none⟩ = some (.slice p0 p1 p2) ∧ w'.cell? ⟨w.heap.size, 0, none⟩ = some (.slice x0 x1 x2) ∧ w'.cell? ⟨w.heap.size, 1, none⟩ = some (.slice y0 y1 y2) ∧ w'.cell? ⟨w.heap.size, 2, none⟩ = some (.bool false))) _ := ⟨(HXb.out.below HB33.out HXb.out.lt).cell 0 (by simp), (HDb.out.below HB33.out).cell 2 0 (Nat.le_of_ble_eq_true rfl) (Nat.le_of_ble_eq_true rfl), (HDb.out.below HB33.out).cell 2 1 (Nat.le_of_ble_eq_true rfl) (Nat.le_of_ble_eq_true rfl), (HDb.out.below HB33.out).cell 2 2 (Nat.le_of_ble_eq_true rfl) (Nat.le_of_ble_eq_true rfl)⟩
          clear hK K
          try simp only [Act.put, List.setIfInBounds_toArray, List.set_cons_zero, List.set_cons_succ]
          refine wpAnyK_take0 12 (v := ?v71) rfl (by kernel_rfl) (fun _ _ _ h => h) (Or.inl ⟨by rfl, ?hy71⟩) (fun _ => hHeld) ?_
          case hy71 => (intro w hSw; go_simp; try with_reducible rfl)
          try simp only [Act.put, List.setIfInBounds_toArray, List.set_cons_zero, List.set_cons_succ]
          refine wpAnyK_done (by kernel_rfl) ?_ _
          go_wp2_with fail
          go_meet
          exact ⟨_, _, _, _, rfl, rfl, ((HDb.out.below HB33.out).res (HN33.out : Mk _ _ _ _ _)), HXb.out.below HB33.out HXb.out.lt⟩
  obtain ⟨wk, k0, k1, k2, rfl, rfl, HCk⟩ := hcut
  have HCa : Hid (Lf w wk [(wb.heap.size, [.slice r0 r1 r2, .slice t0 t1 t2, .bool false]), (w.heap.size + 1, [.slice u0 u1 u2, .slice v0 v1 v2, .bool false]), (w.heap.size, [.slice x0 x1 x2, .slice y0 y1 y2, .bool false])] [(.slice x0 x1 x2, X), (.slice y0 y1 y2, Y), (.slice u0 u1 u2, U), (.slice v0 v1 v2, V)] [(.slice k0 k1 k2, fM p 3 (fS p (fM p X X) 1)), (.slice a0 a1 a2, fA p Y V), (.slice p0 p1 p2, p), (.slice t0 t1 t2, y3), (.slice r0 r1 r2, x3)]) := HCk.out.1
  have HCb : Hid (Bl 70 wk wf.heap.size [.slice p0 p1 p2]) := HCk.out.2
  go_upto_region 19 with fail
  have HDc : Hid (Lf w wk.drew [(wb.heap.size, [.slice r0 r1 r2, .slice t0 t1 t2, .bool false]), (w.heap.size + 1, [.slice u0 u1 u2, .slice v0 v1 v2, .bool false]), (w.heap.size, [.slice x0 x1 x2, .slice y0 y1 y2, .bool false])] [(.slice x0 x1 x2, X), (.slice y0 y1 y2, Y), (.slice u0 u1 u2, U), (.slice v0 v1 v2, V)] [(.slice k0 k1 k2, fM p 3 (fS p (fM p X X) 1)), (.slice a0 a1 a2, fA p Y V), (.slice p0 p1 p2, p), (.slice t0 t1 t2, y3), (.slice r0 r1 r2, x3)]) := HCa.out.drawn
  have HXc : Hid (Bl 70 wk.drew wf.heap.size [.slice p0 p1 p2]) := HCb.out
  refine wp_region_K 15 (fun (w' : World) => w'.cell? ⟨wf.heap.size, 0, none⟩ = some (.slice p0 p1 p2) ∧ w'.cell? ⟨w.heap.size, 0, none⟩ = some (.slice x0 x1 x2) ∧ w'.cell? ⟨w.heap.size, 1, none⟩ = some (.slice y0 y1 y2) ∧ w'.cell? ⟨w.heap.size, 2, none⟩ = some (.bool false) ∧ w'.cell? ⟨wb.heap.size, 0, none⟩ = some (.slice r0 r1 r2) ∧ w'.cell? ⟨wb.heap.size, 1, none⟩ = some (.slice t0 t1 t2) ∧ w'.cell? ⟨wb.heap.size, 2, none⟩ = some (.bool false)) (by kernel_rfl) ?_
  have hHeld : ((fun (w' : World) => w'.cell? ⟨wf.heap.size, 0, none⟩ = some (.slice p0 p1 p2) ∧ w'.cell? ⟨w.heap.size, 0, none⟩ = some (.slice x0 x1 x2) ∧ w'.cell? ⟨w.heap.size, 1, none⟩ = some (.slice y0 y1 y2) ∧ w'.cell? ⟨w.heap.size, 2, none⟩ = some (.bool false) ∧ w'.cell? ⟨wb.heap.size, 0, none⟩ = some (.slice r0 r1 r2) ∧ w'.cell? ⟨wb.heap.size, 1, none⟩ = some (.slice t0 t1 t2) ∧ w'.cell? ⟨wb.heap.size, 2, none⟩ = some (.bool false))) (World.drew _) := ⟨HXc.out.cell 0 (by simp), HDc.out.cell 2 0 (Nat.le_of_ble_eq_true rfl) (Nat.le_of_ble_eq_true rfl), HDc.out.cell 2 1 (Nat.le_of_ble_eq_true rfl) (Nat.le_of_ble_eq_true rfl), HDc.out.cell 2 2 (Nat.le_of_ble_eq_true rfl) (Nat.le_of_ble_eq_true rfl), HDc.out.cell 0 0 (Nat.le_of_ble_eq_true rfl) (Nat.le_of_ble_eq_true rfl), HDc.out.cell 0 1 (Nat.le_of_ble_eq_true rfl) (Nat.le_of_ble_eq_true rfl), HDc.out.cell 0 2 (Nat.le_of_ble_eq_true rfl) (Nat.le_of_ble_eq_true rfl)⟩
  refine wpAnyK_take0 0 (v := ?v72) rfl (by kernel_rfl) (fun _ _ _ h => h) (Or.inl ⟨by rfl, ?hy72⟩) (fun _ => hHeld) ?_
  case hy72 => (intro w hSw; go_simp; try with_reducible rfl)
  try simp only [Act.put, List.setIfInBounds_toArray, List.set_cons_zero, List.set_cons_succ]
  refine wpAnyK_take 1 [2, 3, 14, 15] (v := ?v73) rfl (by kernel_rfl) (fun _ _ _ h => h) (Or.inl ⟨by rfl, ?hy73⟩) hHeld ?_
  case hy73 => (intro w hSw; (try dsimp only at hSw); go_simp; try with_reducible rfl)
  try simp only [Act.put, List.setIfInBounds_toArray, List.set_cons_zero, List.set_cons_succ]
  refine wpAnyK_take0 2 (v := ?v74) rfl (by kernel_rfl) (fun _ _ _ h => h) (Or.inl ⟨by rfl, ?hy74⟩) (fun _ => hHeld) ?_
  case hy74 => (intro w hSw; go_simp; try with_reducible rfl)
  try simp only [Act.put, List.setIfInBounds_toArray, List.set_cons_zero, List.set_cons_succ]
  refine wpAnyK_take0 3 (v := ?v75) rfl (by kernel_rfl) (fun _ _ _ h => h) (Or.inl ⟨by rfl, ?hy75⟩) (fun _ => hHeld) ?_
  case hy75 => (intro w hSw; go_simp; try with_reducible rfl)
  try simp only [Act.put, List.setIfInBounds_toArray, List.set_cons_zero, List.set_cons_succ]
  refine wpAnyK_take 4 [15] (v := ?v76) rfl (by kernel_rfl) (fun _ _ _ h => h) (Or.inl ⟨by rfl, ?hy76⟩) hHeld ?_
  case hy76 => (intro w hSw; (try dsimp only at hSw); go_simp; try with_reducible rfl)
  try simp only [Act.put, List.setIfInBounds_toArray, List.set_cons_zero, List.set_cons_succ]
  refine wpAnyK_take 5 [15] (v := ?v77) rfl (by kernel_rfl) (fun _ _ _ h => h) (Or.inl ⟨by rfl, ?hy77⟩) hHeld ?_
  case hy77 => (intro w hSw; (try dsimp only at hSw); go_simp; try with_reducible rfl)
  try simp only [Act.put, List.setIfInBounds_toArray, List.set_cons_zero, List.set_cons_succ]
  refine wpAnyK_take 6 [15] (v := ?v78) rfl (by kernel_rfl) (fun _ _ _ h => h) (Or.inl ⟨by rfl, ?hy78⟩) hHeld ?_
  case hy78 => (intro w hSw; (try dsimp only at hSw); go_simp; try with_reducible rfl)
  try simp only [Act.put, List.setIfInBounds_toArray, List.set_cons_zero, List.set_cons_succ]
  refine wpAnyK_take 7 [15] (v := ?v79) rfl (by kernel_rfl) (fun _ _ _ h => h) (Or.inl ⟨by rfl, ?hy79⟩) hHeld ?_
  case hy79 => (intro w hSw; (try dsimp only at hSw); go_simp; try with_reducible rfl)
  try simp only [Act.put, List.setIfInBounds_toArray, List.set_cons_zero, List.set_cons_succ]
  refine wpAnyK_take0 8 (v := ?v80) rfl (by kernel_rfl) (fun _ _ _ h => h) (Or.inl ⟨by rfl, ?hy80⟩) (fun _ => hHeld) ?_
  case hy80 => (intro w hSw; go_simp; try with_reducible rfl)
  try simp only [Act.put, List.setIfInBounds_toArray, List.set_cons_zero, List.set_cons_succ]
  refine wpAnyK_take 9 [14, 15] (v := ?v81) rfl (by kernel_rfl) (fun _ _ _ h => h) (Or.inl ⟨by rfl, ?hy81⟩) hHeld ?_
  case hy81 => (intro w hSw; (try dsimp only at hSw); go_simp; try with_reducible rfl)
  try simp only [Act.put, List.setIfInBounds_toArray, List.set_cons_zero, List.set_cons_succ]
  refine wpAnyK_take0 10 (v := ?v82) rfl (by kernel_rfl) (fun _ _ _ h => h) (Or.inl ⟨by rfl, ?hy82⟩) (fun _ => hHeld) ?_
  case hy82 => (intro w hSw; go_simp; try with_reducible rfl)
  try simp only [Act.put, List.setIfInBounds_toArray, List.set_cons_zero, List.set_cons_succ]
  refine wpAnyK_take 11 [14, 15] (v := ?v83) rfl (by kernel_rfl) (fun _ _ _ h => h) (Or.inl ⟨by rfl, ?hy83⟩) hHeld ?_
  case hy83 => (intro w hSw; (try dsimp only at hSw); go_simp; try with_reducible rfl)
  try simp only [Act.put, List.setIfInBounds_toArray, List.set_cons_zero, List.set_cons_succ]
  refine wpAnyK_take0 12 (v := ?v84) rfl (by kernel_rfl) (fun _ _ _ h => h) (Or.inl ⟨by rfl, ?hy84⟩) (fun _ => hHeld) ?_
  case hy84 => (intro w hSw; go_simp; try with_reducible rfl)
  try simp only [Act.put, List.setIfInBounds_toArray, List.set_cons_zero, List.set_cons_succ]
  refine wpAnyK_take 13 [14, 15] (v := ?v85) rfl (by kernel_rfl) (fun _ _ _ h => h) (Or.inl ⟨by rfl, ?hy85⟩) hHeld ?_
  case hy85 => (intro w hSw; (try dsimp only at hSw); go_simp; try with_reducible rfl)
  try simp only [Act.put, List.setIfInBounds_toArray, List.set_cons_zero, List.set_cons_succ]
  refine wpAnyK_step 14 rfl (by kernel_rfl) (fun K hK => ?_)
  go_simp
  refine (lfadd_v _ _ _ p Y Y 384 384 _ HPM.out (HDc.out.got 2 (Nat.le_of_ble_eq_true rfl)).nk.1 ⟨(HDc.out.arg 1 (Nat.le_of_ble_eq_true rfl)), HLt.out.2.1⟩ ⟨(HDc.out.arg 1 (Nat.le_of_ble_eq_true rfl)), HLt.out.2.1⟩ (by decide) (by decide)).mono ?_
  rintro e wl ⟨d, rfl, h⟩
  have hB := h.bel
  have mh := h.mk
  obtain ⟨d0, d1, d2, rfl⟩ := h.sl
  have Hwl : Hid (Lf w wl [(wb.heap.size, [.slice r0 r1 r2, .slice t0 t1 t2, .bool false]), (w.heap.size + 1, [.slice u0 u1 u2, .slice v0 v1 v2, .bool false]), (w.heap.size, [.slice x0 x1 x2, .slice y0 y1 y2, .bool false])] [(.slice x0 x1 x2, X), (.slice y0 y1 y2, Y), (.slice u0 u1 u2, U), (.slice v0 v1 v2, V)] [(.slice d0 d1 d2, fA p Y Y), (.slice k0 k1 k2, fM p 3 (fS p (fM p X X) 1)), (.slice a0 a1 a2, fA p Y V), (.slice p0 p1 p2, p), (.slice t0 t1 t2, y3), (.slice r0 r1 r2, x3)]) := ((HDc.out.below hB).res mh)
  have HLwl : Hid (Bl 70 wl wf.heap.size [.slice p0 p1 p2]) := HXc.out.below hB HXc.out.lt
  clear h hB mh
  try dsimp only
  refine hK.out _ _ ?hk86 ?_
  case hk86 => exact fun _ => ⟨HLwl.out.cell 0 (by simp), Hwl.out.cell 2 0 (Nat.le_of_ble_eq_true rfl) (Nat.le_of_ble_eq_true rfl), Hwl.out.cell 2 1 (Nat.le_of_ble_eq_true rfl) (Nat.le_of_ble_eq_true rfl), Hwl.out.cell 2 2 (Nat.le_of_ble_eq_true rfl) (Nat.le_of_ble_eq_true rfl), Hwl.out.cell 0 0 (Nat.le_of_ble_eq_true rfl) (Nat.le_of_ble_eq_true rfl), Hwl.out.cell 0 1 (Nat.le_of_ble_eq_true rfl) (Nat.le_of_ble_eq_true rfl), Hwl.out.cell 0 2 (Nat.le_of_ble_eq_true rfl) (Nat.le_of_ble_eq_true rfl)⟩
  have hHeld : ((fun (w' : World) => w'.cell? ⟨wf.heap.size, 0, none⟩ = some (.slice p0 p1 p2) ∧ w'.cell? ⟨w.heap.size, 0, none⟩ = some (.slice x0 x1 x2) ∧ w'.cell? ⟨w.heap.size, 1, none⟩ = some (.slice y0 y1 y2) ∧ w'.cell? ⟨w.heap.size, 2, none⟩ = some (.bool false) ∧ w'.cell? ⟨wb.heap.size, 0, none⟩ = some (.slice r0 r1 r2) ∧ w'.cell? ⟨wb.heap.size, 1, none⟩ = some (.slice t0 t1 t2) ∧ w'.cell? ⟨wb.heap.size, 2, none⟩ = some (.bool false))) _ := ⟨HLwl.out.cell 0 (by simp), Hwl.out.cell 2 0 (Nat.le_of_ble_eq_true rfl) (Nat.le_of_ble_eq_true rfl), Hwl.out.cell 2 1 (Nat.le_of_ble_eq_true rfl) (Nat.le_of_ble_eq_true rfl), Hwl.out.cell 2 2 (Nat.le_of_ble_eq_true rfl) (Nat.le_of_ble_eq_true rfl), Hwl.out.cell 0 0 (Nat.le_of_ble_eq_true rfl) (Nat.le_of_ble_eq_true rfl), Hwl.out.cell 0 1 (Nat.le_of_ble_eq_true rfl) (Nat.le_of_ble_eq_true rfl), Hwl.out.cell 0 2 (Nat.le_of_ble_eq_true rfl) (Nat.le_of_ble_eq_true rfl)⟩
  clear hK K
  try simp only [Act.put, List.setIfInBounds_toArray, List.set_cons_zero, List.set_cons_succ]
  refine wpAnyK_step 15 rfl (by kernel_rfl) (fun K hK => ?_)
  go_simp
  refine (line_v _ _ _ _ _ _ _ _ _ p X Y X Y x3 y3 (fM p 3 (fS p (fM p X X) 1)) (fA p Y Y) false false false _ HPM (Hwl.out.got 3 (Nat.le_of_ble_eq_true rfl)).nk ⟨(Hwl.out.arg 0 (Nat.le_of_ble_eq_true rfl)), HLt.out.1⟩ ⟨(Hwl.out.arg 1 (Nat.le_of_ble_eq_true rfl)), HLt.out.2.1⟩ ⟨(Hwl.out.arg 0 (Nat.le_of_ble_eq_true rfl)), HLt.out.1⟩ ⟨(Hwl.out.arg 1 (Nat.le_of_ble_eq_true rfl)), HLt.out.2.1⟩ (Hwl.out.got 5 (Nat.le_of_ble_eq_true rfl)).nk (Hwl.out.got 4 (Nat.le_of_ble_eq_true rfl)).nk (Hwl.out.got 1 (Nat.le_of_ble_eq_true rfl)).nk (Hwl.out.got 0 (Nat.le_of_ble_eq_true rfl)).nk HE.out.1 HE.out.2).mono ?_
  rintro e wm ⟨rfl, hB⟩
  have Hwm : Hid (Lf w wm [(wb.heap.size, [.slice r0 r1 r2, .slice t0 t1 t2, .bool false]), (w.heap.size + 1, [.slice u0 u1 u2, .slice v0 v1 v2, .bool false]), (w.heap.size, [.slice x0 x1 x2, .slice y0 y1 y2, .bool false])] [(.slice x0 x1 x2, X), (.slice y0 y1 y2, Y), (.slice u0 u1 u2, U), (.slice v0 v1 v2, V)] [(.slice d0 d1 d2, fA p Y Y), (.slice k0 k1 k2, fM p 3 (fS p (fM p X X) 1)), (.slice a0 a1 a2, fA p Y V), (.slice p0 p1 p2, p), (.slice t0 t1 t2, y3), (.slice r0 r1 r2, x3)]) := (Hwl.out.below hB)
  have HLwm : Hid (Bl 70 wm wf.heap.size [.slice p0 p1 p2]) := HLwl.out.below hB HLwl.out.lt
  clear hB
  try dsimp only
  refine hK.out _ _ ?hk87 ?_
  case hk87 => exact fun _ => ⟨HLwm.out.cell 0 (by simp), Hwm.out.cell 2 0 (Nat.le_of_ble_eq_true rfl) (Nat.le_of_ble_eq_true rfl), Hwm.out.cell 2 1 (Nat.le_of_ble_eq_true rfl) (Nat.le_of_ble_eq_true rfl), Hwm.out.cell 2 2 (Nat.le_of_ble_eq_true rfl) (Nat.le_of_ble_eq_true rfl), Hwm.out.cell 0 0 (Nat.le_of_ble_eq_true rfl) (Nat.le_of_ble_eq_true rfl), Hwm.out.cell 0 1 (Nat.le_of_ble_eq_true rfl) (Nat.le_of_ble_eq_true rfl), Hwm.out.cell 0 2 (Nat.le_of_ble_eq_true rfl) (Nat.le_of_ble_eq_true rfl)⟩
  have hHeld : ((fun (w' : World) => w'.cell? ⟨wf.heap.size, 0, none⟩ = some (.slice p0 p1 p2) ∧ w'.cell? ⟨w.heap.size, 0, none⟩ = some (.slice x0 x1 x2) ∧ w'.cell? ⟨w.heap.size, 1, none⟩ = some (.slice y0 y1 y2) ∧ w'.cell? ⟨w.heap.size, 2, none⟩ = some (.bool false) ∧ w'.cell? ⟨wb.heap.size, 0, none⟩ = some (.slice r0 r1 r2) ∧ w'.cell? ⟨wb.heap.size, 1, none⟩ = some (.slice t0 t1 t2) ∧ w'.cell? ⟨wb.heap.size, 2, none⟩ = some (.bool false))) _ := ⟨HLwm.out.cell 0 (by simp), Hwm.out.cell 2 0 (Nat.le_of_ble_eq_true rfl) (Nat.le_of_ble_eq_true rfl), Hwm.out.cell 2 1 (Nat.le_of_ble_eq_true rfl) (Nat.le_of_ble_eq_true rfl), Hwm.out.cell 2 2 (Nat.le_of_ble_eq_true rfl) (Nat.le_of_ble_eq_true rfl), Hwm.out.cell 0 0 (Nat.le_of_ble_eq_true rfl) (Nat.le_of_ble_eq_true rfl), Hwm.out.cell 0 1 (Nat.le_of_ble_eq_true rfl) (Nat.le_of_ble_eq_true rfl), Hwm.out.cell 0 2 (Nat.le_of_ble_eq_true rfl) (Nat.le_of_ble_eq_true rfl)⟩
  clear hK K
  try simp only [Act.put, List.setIfInBounds_toArray, List.set_cons_zero, List.set_cons_succ]
  refine wpAnyK_take0 16 (v := ?v88) rfl (by kernel_rfl) (fun _ _ _ h => h) (Or.inl ⟨by rfl, ?hy88⟩) (fun _ => hHeld) ?_
  case hy88 => (intro w hSw; go_simp; try with_reducible rfl)
  try simp only [Act.put, List.setIfInBounds_toArray, List.set_cons_zero, List.set_cons_succ]
  refine wpAnyK_take0 17 (v := ?v89) rfl (by kernel_rfl) (fun _ _ _ h => h) (Or.inl ⟨by rfl, ?hy89⟩) (fun _ => hHeld) ?_
  case hy89 => (intro w hSw; go_simp; try with_reducible rfl)
  try simp only [Act.put, List.setIfInBounds_toArray, List.set_cons_zero, List.set_cons_succ]
  refine wpAnyK_done (by kernel_rfl) ?_ _
  go_wp2
  go_ret
  exact ⟨rfl, Hwm.out.bel⟩
theorem line_core (c : Int) (x y u v : Value) (X Y U V : Nat) (inf jnf : Bool) (w : World) (hx : Nu w x X) (hy : Nu w y Y) (hu : Nu w u U) (hv : Nu w v V) : Calls Tryz.prog 11 #[.int .i64 c, .agg #[x, y, .bool inf], .agg #[u, v, .bool jnf]] w fun e w' => e = .returned (.bool true) ∧ Below w.heap.size w w' := by
  have key : ∀ {s : Int} {p b n gx gy : Nat}, Kv c p b n gx gy s → Calls Tryz.prog 11 #[.int .i64 c, .agg #[x, y, .bool inf], .agg #[u, v, .bool jnf]] w fun e w' => e = .returned (.bool true) ∧ Below w.heap.size w w' := by
    intro s p b n gx gy hk
    cases o1 : onB p b X Y inf with
    | false => exact line_bad1 hk x y u v X Y U V inf jnf w hx hy hu hv o1
    | true =>
      cases o2 : onB p b U V jnf with
      | false => exact line_bad2 hk x y u v X Y U V inf jnf w hx hy hu hv o1 o2
      | true =>
        cases inf with
        | true =>
          cases jnf with
          | true => exact line_tt hk x y u v X Y U V w hx hy hu hv o1 o2
          | false => exact line_tf hk x y u v X Y U V w hx hy hu hv o1 o2
        | false =>
          cases jnf with
          | true => exact line_ft hk x y u v X Y U V w hx hy hu hv o1 o2
          | false =>
            by_cases hX : X = U
            · by_cases hY : fA p Y V = 0
              · exact line_opp hk x y u v X Y U V w hx hy hu hv o1 o2 hX hY
              · exact line_tan hk x y u v X Y U V w hx hy hu hv o1 o2 hX hY
            · exact line_chord hk x y u v X Y U V w hx hy hu hv o1 o2 hX
  by_cases h1 : c = 1
  · subst h1; exact key .k1
  · by_cases h2 : c = 2
    · subst h2; exact key .k2
    · exact line_none c h1 h2 x y u v X Y U V inf jnf w hx hy hu hv
end Go.Proofs.YtnifjhmjpbihoaaGreatDoor
