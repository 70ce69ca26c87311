import Derived.Test.YtniiapakoenihaaDoorCT
import Derived.Test.YtniiapakoenihaaDoorCNg
namespace Go.Proofs.YtniiapakoenihaaDoor
open Go.RowKit

set_option maxRecDepth 100000

theorem Pa.open {w w' : World} {v : Value} {P : Pt} (h : Pa w w' v P) : ∃ (x0 y0 : Option Addr) (x1 x2 y1 y2 X Y : Nat) (f : Bool), v = .agg #[.slice x0 x1 x2, .slice y0 y1 y2, .bool f] ∧ Mk w' 0 (.slice x0 x1 x2) X 384 ∧ Mk w' 0 (.slice y0 y1 y2) Y 384 ∧ ptO X Y f = P ∧ (f = true → X = 0 ∧ Y = 0) := by
  cases P with
  | O => exact ⟨none, none, 0, 0, 0, 0, 0, 0, true, h.1, Mk.none _ _ _, Mk.none _ _ _, rfl, fun _ => ⟨rfl, rfl⟩⟩
  | A a c =>
    obtain ⟨⟨x, y, rfl, m1, m2, _⟩, _⟩ := h
    obtain ⟨x0, x1, x2, rfl⟩ := m1.nk.sl
    obtain ⟨y0, y1, y2, rfl⟩ := m2.nk.sl
    exact ⟨x0, y0, x1, x2, y1, y2, a, c, false, rfl, m1.base (Nat.zero_le _), m2.base (Nat.zero_le _), rfl, fun h => by cases h⟩
theorem pt_inj {X Y X' Y' : Nat} {f f' : Bool} {P : Pt} (h : ptO X Y f = P) (hz : f = true → X = 0 ∧ Y = 0) (h' : ptO X' Y' f' = P) (hz' : f' = true → X' = 0 ∧ Y' = 0) : X' = X ∧ Y' = Y ∧ f' = f := by
  subst h
  cases f with
  | true =>
    obtain ⟨rfl, rfl⟩ := hz rfl
    cases f' with
    | true => obtain ⟨rfl, rfl⟩ := hz' rfl; exact ⟨rfl, rfl, rfl⟩
    | false => simp [ptO] at h'
  | false =>
    cases f' with
    | true => simp [ptO] at h'
    | false => simp [ptO] at h'; exact ⟨h'.1, h'.2, rfl⟩
theorem same_pt (x y u v : Value) (X Y X' Y' : Nat) (f f' : Bool) (P : Pt) (w : World) (hx : Mk w 0 x X 384) (hy : Mk w 0 y Y 384) (hu : Mk w 0 u X' 384) (hv : Mk w 0 v Y' 384) (h : ptO X Y f = P ∧ (f = true → X = 0 ∧ Y = 0)) (h' : ptO X' Y' f' = P ∧ (f' = true → X' = 0 ∧ Y' = 0)) :
    Calls Tryd.prog 9 #[.agg #[x, y, .bool f], .agg #[u, v, .bool f']] w fun e w' => e = .returned (.bool true) ∧ Below w.heap.size w w' := by
  obtain ⟨rfl, rfl, rfl⟩ := pt_inj h.1 h.2 h'.1 h'.2
  exact same_v x y u v _ _ _ w hx.nm hy.nm hu.nm hv.nm hx.2.1 hy.2.1
theorem onB_of {p b X Y : Nat} {f : Bool} {P : Pt} (hp : Pm p) (h : ptO X Y f = P ∧ (f = true → X = 0 ∧ Y = 0)) (ho : onP p b P) : onB p b X Y f = true := (onB_iff hp).2 ⟨by rw [h.1]; exact ho, h.2⟩
theorem neg_pt {p b X Y : Nat} {f : Bool} (hp : Pm p) (ho : onB p b X Y f = true) : ptO X (fS p 0 Y) f = ng p (ptO X Y f) ∧ (f = true → X = 0 ∧ fS p 0 Y = 0) := by
  obtain ⟨h1, h2⟩ := (onB_iff hp).1 ho
  have hp1 := hp.1
  cases f with
  | true =>
    obtain ⟨rfl, rfl⟩ := h2 rfl
    refine ⟨rfl, fun _ => ⟨rfl, ?_⟩⟩
    unfold fS lessV
    rw [Nat.zero_mod, if_neg (by omega)]
  | false =>
    have hY : Y < p := h1.2.1
    refine ⟨?_, fun h => by cases h⟩
    show Pt.A X (fS p 0 Y) = Pt.A X ((p - Y) % p)
    congr 1
    unfold fS lessV
    rw [Nat.zero_mod, Nat.mod_eq_of_lt hY]
    split
    · rw [Nat.mod_eq_of_lt (by omega)]; omega
    · obtain rfl : Y = 0 := by omega
      simp
theorem Lf.of3 {w wN : World} {a b c : List Value} {ax : List (Value × Nat)} (h : Fm w wN [(26, a), (26, b), (26, c)] [] []) (ha : ∀ q ∈ ax, Nu w q.1 q.2) : Lf w wN [(w.heap.size + 2, c), (w.heap.size + 1, b), (w.heap.size, a)] ax [] := by
  refine ⟨fun q hq => ?_, fun q hq => (ha q hq).below h.bel (Nat.le_refl _), fun q hq => (by cases hq), h.bel⟩
  simp only [List.mem_cons, List.not_mem_nil, or_false] at hq
  rcases hq with rfl | rfl | rfl
  · exact h.bx 2 (by simp)
  · exact h.bx 1 (by simp)
  · exact h.bx 0 (by simp)
set_option maxHeartbeats 40000000 in
theorem group_none (c : Int) (h1 : c ≠ 1) (h2 : c ≠ 2) (x y u v s t : Value) (X Y U V S T : Nat) (inf jnf knf : Bool) (w : World) (hx : Nu w x X) (hy : Nu w y Y) (hu : Nu w u U) (hv : Nu w v V) (hs : Nu w s S) (ht : Nu w t T)  :
    Calls Tryd.prog 3 #[.int .i64 c, .agg #[x, y, .bool inf], .agg #[u, v, .bool jnf], .agg #[s, t, .bool knf]] w fun e w' => e = .returned (.bool true) ∧ Below w.heap.size w w' := by
  obtain ⟨x0, x1, x2, rfl⟩ := hx.shape
  obtain ⟨y0, y1, y2, rfl⟩ := hy.shape
  obtain ⟨u0, u1, u2, rfl⟩ := hu.shape
  obtain ⟨v0, v1, v2, rfl⟩ := hv.shape
  obtain ⟨s0, s1, s2, rfl⟩ := hs.shape
  obtain ⟨t0, t1, t2, rfl⟩ := ht.shape
  have H0 : Hid (Lf w (((w.alloc (.cells #[.slice x0 x1 x2, .slice y0 y1 y2, .bool inf] 26)).alloc (.cells #[.slice u0 u1 u2, .slice v0 v1 v2, .bool jnf] 26)).alloc (.cells #[.slice s0 s1 s2, .slice t0 t1 t2, .bool knf] 26)) [(w.heap.size + 2, [.slice s0 s1 s2, .slice t0 t1 t2, .bool knf]), (w.heap.size + 1, [.slice u0 u1 u2, .slice v0 v1 v2, .bool jnf]), (w.heap.size, [.slice x0 x1 x2, .slice y0 y1 y2, .bool inf])] [(.slice x0 x1 x2, X), (.slice y0 y1 y2, Y), (.slice u0 u1 u2, U), (.slice v0 v1 v2, V), (.slice s0 s1 s2, S), (.slice t0 t1 t2, T)] []) := Lf.of3 ((((Fm.nil (w := w) (A := []) ar_nil).push (by simp) 26 [.slice x0 x1 x2, .slice y0 y1 y2, .bool inf]).push (by simp) 26 [.slice u0 u1 u2, .slice v0 v1 v2, .bool jnf]).push (by simp) 26 [.slice s0 s1 s2, .slice t0 t1 t2, .bool knf]) (fun q hq => by simp only [List.mem_cons, List.not_mem_nil, or_false] at hq; rcases hq with rfl | rfl | rfl | rfl | rfl | rfl <;> assumption)
  clear hx hy hu hv hs ht
  go_enter Tryd.func3, Tryd.ntmps3
  go_wp2_with fail
  generalize (((w.alloc (.cells #[.slice x0 x1 x2, .slice y0 y1 y2, .bool inf] 26)).alloc (.cells #[.slice u0 u1 u2, .slice v0 v1 v2, .bool jnf] 26)).alloc (.cells #[.slice s0 s1 s2, .slice t0 t1 t2, .bool knf] 26)) = wv1 at *
  refine (started_v _).mono ?_
  rintro e wa ⟨rfl, hB⟩
  have Hwa : Hid (Lf w wa [(w.heap.size + 2, [.slice s0 s1 s2, .slice t0 t1 t2, .bool knf]), (w.heap.size + 1, [.slice u0 u1 u2, .slice v0 v1 v2, .bool jnf]), (w.heap.size, [.slice x0 x1 x2, .slice y0 y1 y2, .bool inf])] [(.slice x0 x1 x2, X), (.slice y0 y1 y2, Y), (.slice u0 u1 u2, U), (.slice v0 v1 v2, V), (.slice s0 s1 s2, S), (.slice t0 t1 t2, T)] []) := (H0.out.below hB)
  clear hB
  have k0_0 : wa.cell? ⟨w.heap.size, 0, none⟩ = some (.slice x0 x1 x2) := Hwa.out.cell 2 0 (Nat.le_of_ble_eq_true rfl) (Nat.le_of_ble_eq_true rfl)
  have k0_1 : wa.cell? ⟨w.heap.size, 1, none⟩ = some (.slice y0 y1 y2) := Hwa.out.cell 2 1 (Nat.le_of_ble_eq_true rfl) (Nat.le_of_ble_eq_true rfl)
  have k0_2 : wa.cell? ⟨w.heap.size, 2, none⟩ = some (.bool inf) := Hwa.out.cell 2 2 (Nat.le_of_ble_eq_true rfl) (Nat.le_of_ble_eq_true rfl)
  go_wp2_with fail
  clear k0_0 k0_1 k0_2
  refine (on_none c h1 h2 _ _ inf _ ⟨_, _, _, rfl⟩ ⟨_, _, _, rfl⟩).mono ?_
  rintro e wb ⟨rfl, hB⟩
  have Hwb : Hid (Lf w wb [(w.heap.size + 2, [.slice s0 s1 s2, .slice t0 t1 t2, .bool knf]), (w.heap.size + 1, [.slice u0 u1 u2, .slice v0 v1 v2, .bool jnf]), (w.heap.size, [.slice x0 x1 x2, .slice y0 y1 y2, .bool inf])] [(.slice x0 x1 x2, X), (.slice y0 y1 y2, Y), (.slice u0 u1 u2, U), (.slice v0 v1 v2, V), (.slice s0 s1 s2, S), (.slice t0 t1 t2, T)] []) := (Hwa.out.below hB)
  clear hB
  go_wp2
  go_ret
  exact ⟨rfl, Hwb.out.bel⟩
set_option maxHeartbeats 40000000 in
theorem group_1 {c s' : Int} {p b n gx gy : Nat} (hk : Kv c p b n gx gy s') (x y u v s t : Value) (X Y U V S T : Nat) (inf jnf knf : Bool) (w : World) (hx : Nu w x X) (hy : Nu w y Y) (hu : Nu w u U) (hv : Nu w v V) (hs : Nu w s S) (ht : Nu w t T) (o1 : onB p b X Y inf = false) :
    Calls Tryd.prog 3 #[.int .i64 c, .agg #[x, y, .bool inf], .agg #[u, v, .bool jnf], .agg #[s, t, .bool knf]] w fun e w' => e = .returned (.bool true) ∧ Below w.heap.size w w' := by
  obtain ⟨x0, x1, x2, rfl⟩ := hx.shape
  obtain ⟨y0, y1, y2, rfl⟩ := hy.shape
  obtain ⟨u0, u1, u2, rfl⟩ := hu.shape
  obtain ⟨v0, v1, v2, rfl⟩ := hv.shape
  obtain ⟨s0, s1, s2, rfl⟩ := hs.shape
  obtain ⟨t0, t1, t2, rfl⟩ := ht.shape
  have H0 : Hid (Lf w (((w.alloc (.cells #[.slice x0 x1 x2, .slice y0 y1 y2, .bool inf] 26)).alloc (.cells #[.slice u0 u1 u2, .slice v0 v1 v2, .bool jnf] 26)).alloc (.cells #[.slice s0 s1 s2, .slice t0 t1 t2, .bool knf] 26)) [(w.heap.size + 2, [.slice s0 s1 s2, .slice t0 t1 t2, .bool knf]), (w.heap.size + 1, [.slice u0 u1 u2, .slice v0 v1 v2, .bool jnf]), (w.heap.size, [.slice x0 x1 x2, .slice y0 y1 y2, .bool inf])] [(.slice x0 x1 x2, X), (.slice y0 y1 y2, Y), (.slice u0 u1 u2, U), (.slice v0 v1 v2, V), (.slice s0 s1 s2, S), (.slice t0 t1 t2, T)] []) := Lf.of3 ((((Fm.nil (w := w) (A := []) ar_nil).push (by simp) 26 [.slice x0 x1 x2, .slice y0 y1 y2, .bool inf]).push (by simp) 26 [.slice u0 u1 u2, .slice v0 v1 v2, .bool jnf]).push (by simp) 26 [.slice s0 s1 s2, .slice t0 t1 t2, .bool knf]) (fun q hq => by simp only [List.mem_cons, List.not_mem_nil, or_false] at hq; rcases hq with rfl | rfl | rfl | rfl | rfl | rfl <;> assumption)
  clear hx hy hu hv hs ht
  go_enter Tryd.func3, Tryd.ntmps3
  go_wp2_with fail
  generalize (((w.alloc (.cells #[.slice x0 x1 x2, .slice y0 y1 y2, .bool inf] 26)).alloc (.cells #[.slice u0 u1 u2, .slice v0 v1 v2, .bool jnf] 26)).alloc (.cells #[.slice s0 s1 s2, .slice t0 t1 t2, .bool knf] 26)) = wv1 at *
  refine (started_v _).mono ?_
  rintro e wa ⟨rfl, hB⟩
  have Hwa : Hid (Lf w wa [(w.heap.size + 2, [.slice s0 s1 s2, .slice t0 t1 t2, .bool knf]), (w.heap.size + 1, [.slice u0 u1 u2, .slice v0 v1 v2, .bool jnf]), (w.heap.size, [.slice x0 x1 x2, .slice y0 y1 y2, .bool inf])] [(.slice x0 x1 x2, X), (.slice y0 y1 y2, Y), (.slice u0 u1 u2, U), (.slice v0 v1 v2, V), (.slice s0 s1 s2, S), (.slice t0 t1 t2, T)] []) := (H0.out.below hB)
  clear hB
  have k0_0 : wa.cell? ⟨w.heap.size, 0, none⟩ = some (.slice x0 x1 x2) := Hwa.out.cell 2 0 (Nat.le_of_ble_eq_true rfl) (Nat.le_of_ble_eq_true rfl)
  have k0_1 : wa.cell? ⟨w.heap.size, 1, none⟩ = some (.slice y0 y1 y2) := Hwa.out.cell 2 1 (Nat.le_of_ble_eq_true rfl) (Nat.le_of_ble_eq_true rfl)
  have k0_2 : wa.cell? ⟨w.heap.size, 2, none⟩ = some (.bool inf) := Hwa.out.cell 2 2 (Nat.le_of_ble_eq_true rfl) (Nat.le_of_ble_eq_true rfl)
  go_wp2_with fail
  clear k0_0 k0_1 k0_2
  have C := on_v hk _ _ X Y inf _ (Hwa.out.arg 0 (Nat.le_of_ble_eq_true rfl)) (Hwa.out.arg 1 (Nat.le_of_ble_eq_true rfl))
  rw [o1] at C
  refine C.mono ?_
  clear C
  rintro e wb ⟨rfl, hB⟩
  have Hwb : Hid (Lf w wb [(w.heap.size + 2, [.slice s0 s1 s2, .slice t0 t1 t2, .bool knf]), (w.heap.size + 1, [.slice u0 u1 u2, .slice v0 v1 v2, .bool jnf]), (w.heap.size, [.slice x0 x1 x2, .slice y0 y1 y2, .bool inf])] [(.slice x0 x1 x2, X), (.slice y0 y1 y2, Y), (.slice u0 u1 u2, U), (.slice v0 v1 v2, V), (.slice s0 s1 s2, S), (.slice t0 t1 t2, T)] []) := (Hwa.out.below hB)
  clear hB
  go_wp2
  go_ret
  exact ⟨rfl, Hwb.out.bel⟩
set_option maxHeartbeats 40000000 in
theorem group_2 {c s' : Int} {p b n gx gy : Nat} (hk : Kv c p b n gx gy s') (x y u v s t : Value) (X Y U V S T : Nat) (inf jnf knf : Bool) (w : World) (hx : Nu w x X) (hy : Nu w y Y) (hu : Nu w u U) (hv : Nu w v V) (hs : Nu w s S) (ht : Nu w t T) (o1 : onB p b X Y inf = true) (o2 : onB p b U V jnf = false) :
    Calls Tryd.prog 3 #[.int .i64 c, .agg #[x, y, .bool inf], .agg #[u, v, .bool jnf], .agg #[s, t, .bool knf]] w fun e w' => e = .returned (.bool true) ∧ Below w.heap.size w w' := by
  obtain ⟨x0, x1, x2, rfl⟩ := hx.shape
  obtain ⟨y0, y1, y2, rfl⟩ := hy.shape
  obtain ⟨u0, u1, u2, rfl⟩ := hu.shape
  obtain ⟨v0, v1, v2, rfl⟩ := hv.shape
  obtain ⟨s0, s1, s2, rfl⟩ := hs.shape
  obtain ⟨t0, t1, t2, rfl⟩ := ht.shape
  have H0 : Hid (Lf w (((w.alloc (.cells #[.slice x0 x1 x2, .slice y0 y1 y2, .bool inf] 26)).alloc (.cells #[.slice u0 u1 u2, .slice v0 v1 v2, .bool jnf] 26)).alloc (.cells #[.slice s0 s1 s2, .slice t0 t1 t2, .bool knf] 26)) [(w.heap.size + 2, [.slice s0 s1 s2, .slice t0 t1 t2, .bool knf]), (w.heap.size + 1, [.slice u0 u1 u2, .slice v0 v1 v2, .bool jnf]), (w.heap.size, [.slice x0 x1 x2, .slice y0 y1 y2, .bool inf])] [(.slice x0 x1 x2, X), (.slice y0 y1 y2, Y), (.slice u0 u1 u2, U), (.slice v0 v1 v2, V), (.slice s0 s1 s2, S), (.slice t0 t1 t2, T)] []) := Lf.of3 ((((Fm.nil (w := w) (A := []) ar_nil).push (by simp) 26 [.slice x0 x1 x2, .slice y0 y1 y2, .bool inf]).push (by simp) 26 [.slice u0 u1 u2, .slice v0 v1 v2, .bool jnf]).push (by simp) 26 [.slice s0 s1 s2, .slice t0 t1 t2, .bool knf]) (fun q hq => by simp only [List.mem_cons, List.not_mem_nil, or_false] at hq; rcases hq with rfl | rfl | rfl | rfl | rfl | rfl <;> assumption)
  clear hx hy hu hv hs ht
  go_enter Tryd.func3, Tryd.ntmps3
  go_wp2_with fail
  generalize (((w.alloc (.cells #[.slice x0 x1 x2, .slice y0 y1 y2, .bool inf] 26)).alloc (.cells #[.slice u0 u1 u2, .slice v0 v1 v2, .bool jnf] 26)).alloc (.cells #[.slice s0 s1 s2, .slice t0 t1 t2, .bool knf] 26)) = wv1 at *
  refine (started_v _).mono ?_
  rintro e wa ⟨rfl, hB⟩
  have Hwa : Hid (Lf w wa [(w.heap.size + 2, [.slice s0 s1 s2, .slice t0 t1 t2, .bool knf]), (w.heap.size + 1, [.slice u0 u1 u2, .slice v0 v1 v2, .bool jnf]), (w.heap.size, [.slice x0 x1 x2, .slice y0 y1 y2, .bool inf])] [(.slice x0 x1 x2, X), (.slice y0 y1 y2, Y), (.slice u0 u1 u2, U), (.slice v0 v1 v2, V), (.slice s0 s1 s2, S), (.slice t0 t1 t2, T)] []) := (H0.out.below hB)
  clear hB
  have k0_0 : wa.cell? ⟨w.heap.size, 0, none⟩ = some (.slice x0 x1 x2) := Hwa.out.cell 2 0 (Nat.le_of_ble_eq_true rfl) (Nat.le_of_ble_eq_true rfl)
  have k0_1 : wa.cell? ⟨w.heap.size, 1, none⟩ = some (.slice y0 y1 y2) := Hwa.out.cell 2 1 (Nat.le_of_ble_eq_true rfl) (Nat.le_of_ble_eq_true rfl)
  have k0_2 : wa.cell? ⟨w.heap.size, 2, none⟩ = some (.bool inf) := Hwa.out.cell 2 2 (Nat.le_of_ble_eq_true rfl) (Nat.le_of_ble_eq_true rfl)
  go_wp2_with fail
  clear k0_0 k0_1 k0_2
  have C := on_v hk _ _ X Y inf _ (Hwa.out.arg 0 (Nat.le_of_ble_eq_true rfl)) (Hwa.out.arg 1 (Nat.le_of_ble_eq_true rfl))
  rw [o1] at C
  refine C.mono ?_
  clear C
  rintro e wb ⟨rfl, hB⟩
  have Hwb : Hid (Lf w wb [(w.heap.size + 2, [.slice s0 s1 s2, .slice t0 t1 t2, .bool knf]), (w.heap.size + 1, [.slice u0 u1 u2, .slice v0 v1 v2, .bool jnf]), (w.heap.size, [.slice x0 x1 x2, .slice y0 y1 y2, .bool inf])] [(.slice x0 x1 x2, X), (.slice y0 y1 y2, Y), (.slice u0 u1 u2, U), (.slice v0 v1 v2, V), (.slice s0 s1 s2, S), (.slice t0 t1 t2, T)] []) := (Hwa.out.below hB)
  clear hB
  have k1_0 : wb.cell? ⟨w.heap.size + 1, 0, none⟩ = some (.slice u0 u1 u2) := Hwb.out.cell 1 0 (Nat.le_of_ble_eq_true rfl) (Nat.le_of_ble_eq_true rfl)
  have k1_1 : wb.cell? ⟨w.heap.size + 1, 1, none⟩ = some (.slice v0 v1 v2) := Hwb.out.cell 1 1 (Nat.le_of_ble_eq_true rfl) (Nat.le_of_ble_eq_true rfl)
  have k1_2 : wb.cell? ⟨w.heap.size + 1, 2, none⟩ = some (.bool jnf) := Hwb.out.cell 1 2 (Nat.le_of_ble_eq_true rfl) (Nat.le_of_ble_eq_true rfl)
  go_wp2_with fail
  clear k1_0 k1_1 k1_2
  have C := on_v hk _ _ U V jnf _ (Hwb.out.arg 2 (Nat.le_of_ble_eq_true rfl)) (Hwb.out.arg 3 (Nat.le_of_ble_eq_true rfl))
  rw [o2] at C
  refine C.mono ?_
  clear C
  rintro e wc ⟨rfl, hB⟩
  have Hwc : Hid (Lf w wc [(w.heap.size + 2, [.slice s0 s1 s2, .slice t0 t1 t2, .bool knf]), (w.heap.size + 1, [.slice u0 u1 u2, .slice v0 v1 v2, .bool jnf]), (w.heap.size, [.slice x0 x1 x2, .slice y0 y1 y2, .bool inf])] [(.slice x0 x1 x2, X), (.slice y0 y1 y2, Y), (.slice u0 u1 u2, U), (.slice v0 v1 v2, V), (.slice s0 s1 s2, S), (.slice t0 t1 t2, T)] []) := (Hwb.out.below hB)
  clear hB
  go_wp2
  go_ret
  exact ⟨rfl, Hwc.out.bel⟩
set_option maxHeartbeats 40000000 in
theorem group_3 {c s' : Int} {p b n gx gy : Nat} (hk : Kv c p b n gx gy s') (x y u v s t : Value) (X Y U V S T : Nat) (inf jnf knf : Bool) (w : World) (hx : Nu w x X) (hy : Nu w y Y) (hu : Nu w u U) (hv : Nu w v V) (hs : Nu w s S) (ht : Nu w t T) (o1 : onB p b X Y inf = true) (o2 : onB p b U V jnf = true) (o3 : onB p b S T knf = false) :
    Calls Tryd.prog 3 #[.int .i64 c, .agg #[x, y, .bool inf], .agg #[u, v, .bool jnf], .agg #[s, t, .bool knf]] w fun e w' => e = .returned (.bool true) ∧ Below w.heap.size w w' := by
  obtain ⟨x0, x1, x2, rfl⟩ := hx.shape
  obtain ⟨y0, y1, y2, rfl⟩ := hy.shape
  obtain ⟨u0, u1, u2, rfl⟩ := hu.shape
  obtain ⟨v0, v1, v2, rfl⟩ := hv.shape
  obtain ⟨s0, s1, s2, rfl⟩ := hs.shape
  obtain ⟨t0, t1, t2, rfl⟩ := ht.shape
  have H0 : Hid (Lf w (((w.alloc (.cells #[.slice x0 x1 x2, .slice y0 y1 y2, .bool inf] 26)).alloc (.cells #[.slice u0 u1 u2, .slice v0 v1 v2, .bool jnf] 26)).alloc (.cells #[.slice s0 s1 s2, .slice t0 t1 t2, .bool knf] 26)) [(w.heap.size + 2, [.slice s0 s1 s2, .slice t0 t1 t2, .bool knf]), (w.heap.size + 1, [.slice u0 u1 u2, .slice v0 v1 v2, .bool jnf]), (w.heap.size, [.slice x0 x1 x2, .slice y0 y1 y2, .bool inf])] [(.slice x0 x1 x2, X), (.slice y0 y1 y2, Y), (.slice u0 u1 u2, U), (.slice v0 v1 v2, V), (.slice s0 s1 s2, S), (.slice t0 t1 t2, T)] []) := Lf.of3 ((((Fm.nil (w := w) (A := []) ar_nil).push (by simp) 26 [.slice x0 x1 x2, .slice y0 y1 y2, .bool inf]).push (by simp) 26 [.slice u0 u1 u2, .slice v0 v1 v2, .bool jnf]).push (by simp) 26 [.slice s0 s1 s2, .slice t0 t1 t2, .bool knf]) (fun q hq => by simp only [List.mem_cons, List.not_mem_nil, or_false] at hq; rcases hq with rfl | rfl | rfl | rfl | rfl | rfl <;> assumption)
  clear hx hy hu hv hs ht
  go_enter Tryd.func3, Tryd.ntmps3
  go_wp2_with fail
  generalize (((w.alloc (.cells #[.slice x0 x1 x2, .slice y0 y1 y2, .bool inf] 26)).alloc (.cells #[.slice u0 u1 u2, .slice v0 v1 v2, .bool jnf] 26)).alloc (.cells #[.slice s0 s1 s2, .slice t0 t1 t2, .bool knf] 26)) = wv1 at *
  refine (started_v _).mono ?_
  rintro e wa ⟨rfl, hB⟩
  have Hwa : Hid (Lf w wa [(w.heap.size + 2, [.slice s0 s1 s2, .slice t0 t1 t2, .bool knf]), (w.heap.size + 1, [.slice u0 u1 u2, .slice v0 v1 v2, .bool jnf]), (w.heap.size, [.slice x0 x1 x2, .slice y0 y1 y2, .bool inf])] [(.slice x0 x1 x2, X), (.slice y0 y1 y2, Y), (.slice u0 u1 u2, U), (.slice v0 v1 v2, V), (.slice s0 s1 s2, S), (.slice t0 t1 t2, T)] []) := (H0.out.below hB)
  clear hB
  have k0_0 : wa.cell? ⟨w.heap.size, 0, none⟩ = some (.slice x0 x1 x2) := Hwa.out.cell 2 0 (Nat.le_of_ble_eq_true rfl) (Nat.le_of_ble_eq_true rfl)
  have k0_1 : wa.cell? ⟨w.heap.size, 1, none⟩ = some (.slice y0 y1 y2) := Hwa.out.cell 2 1 (Nat.le_of_ble_eq_true rfl) (Nat.le_of_ble_eq_true rfl)
  have k0_2 : wa.cell? ⟨w.heap.size, 2, none⟩ = some (.bool inf) := Hwa.out.cell 2 2 (Nat.le_of_ble_eq_true rfl) (Nat.le_of_ble_eq_true rfl)
  go_wp2_with fail
  clear k0_0 k0_1 k0_2
  have C := on_v hk _ _ X Y inf _ (Hwa.out.arg 0 (Nat.le_of_ble_eq_true rfl)) (Hwa.out.arg 1 (Nat.le_of_ble_eq_true rfl))
  rw [o1] at C
  refine C.mono ?_
  clear C
  rintro e wb ⟨rfl, hB⟩
  have Hwb : Hid (Lf w wb [(w.heap.size + 2, [.slice s0 s1 s2, .slice t0 t1 t2, .bool knf]), (w.heap.size + 1, [.slice u0 u1 u2, .slice v0 v1 v2, .bool jnf]), (w.heap.size, [.slice x0 x1 x2, .slice y0 y1 y2, .bool inf])] [(.slice x0 x1 x2, X), (.slice y0 y1 y2, Y), (.slice u0 u1 u2, U), (.slice v0 v1 v2, V), (.slice s0 s1 s2, S), (.slice t0 t1 t2, T)] []) := (Hwa.out.below hB)
  clear hB
  have k1_0 : wb.cell? ⟨w.heap.size + 1, 0, none⟩ = some (.slice u0 u1 u2) := Hwb.out.cell 1 0 (Nat.le_of_ble_eq_true rfl) (Nat.le_of_ble_eq_true rfl)
  have k1_1 : wb.cell? ⟨w.heap.size + 1, 1, none⟩ = some (.slice v0 v1 v2) := Hwb.out.cell 1 1 (Nat.le_of_ble_eq_true rfl) (Nat.le_of_ble_eq_true rfl)
  have k1_2 : wb.cell? ⟨w.heap.size + 1, 2, none⟩ = some (.bool jnf) := Hwb.out.cell 1 2 (Nat.le_of_ble_eq_true rfl) (Nat.le_of_ble_eq_true rfl)
  go_wp2_with fail
  clear k1_0 k1_1 k1_2
  have C := on_v hk _ _ U V jnf _ (Hwb.out.arg 2 (Nat.le_of_ble_eq_true rfl)) (Hwb.out.arg 3 (Nat.le_of_ble_eq_true rfl))
  rw [o2] at C
  refine C.mono ?_
  clear C
  rintro e wc ⟨rfl, hB⟩
  have Hwc : Hid (Lf w wc [(w.heap.size + 2, [.slice s0 s1 s2, .slice t0 t1 t2, .bool knf]), (w.heap.size + 1, [.slice u0 u1 u2, .slice v0 v1 v2, .bool jnf]), (w.heap.size, [.slice x0 x1 x2, .slice y0 y1 y2, .bool inf])] [(.slice x0 x1 x2, X), (.slice y0 y1 y2, Y), (.slice u0 u1 u2, U), (.slice v0 v1 v2, V), (.slice s0 s1 s2, S), (.slice t0 t1 t2, T)] []) := (Hwb.out.below hB)
  clear hB
  have k2_0 : wc.cell? ⟨w.heap.size + 2, 0, none⟩ = some (.slice s0 s1 s2) := Hwc.out.cell 0 0 (Nat.le_of_ble_eq_true rfl) (Nat.le_of_ble_eq_true rfl)
  have k2_1 : wc.cell? ⟨w.heap.size + 2, 1, none⟩ = some (.slice t0 t1 t2) := Hwc.out.cell 0 1 (Nat.le_of_ble_eq_true rfl) (Nat.le_of_ble_eq_true rfl)
  have k2_2 : wc.cell? ⟨w.heap.size + 2, 2, none⟩ = some (.bool knf) := Hwc.out.cell 0 2 (Nat.le_of_ble_eq_true rfl) (Nat.le_of_ble_eq_true rfl)
  go_wp2_with fail
  clear k2_0 k2_1 k2_2
  have C := on_v hk _ _ S T knf _ (Hwc.out.arg 4 (Nat.le_of_ble_eq_true rfl)) (Hwc.out.arg 5 (Nat.le_of_ble_eq_true rfl))
  rw [o3] at C
  refine C.mono ?_
  clear C
  rintro e wd ⟨rfl, hB⟩
  have Hwd : Hid (Lf w wd [(w.heap.size + 2, [.slice s0 s1 s2, .slice t0 t1 t2, .bool knf]), (w.heap.size + 1, [.slice u0 u1 u2, .slice v0 v1 v2, .bool jnf]), (w.heap.size, [.slice x0 x1 x2, .slice y0 y1 y2, .bool inf])] [(.slice x0 x1 x2, X), (.slice y0 y1 y2, Y), (.slice u0 u1 u2, U), (.slice v0 v1 v2, V), (.slice s0 s1 s2, S), (.slice t0 t1 t2, T)] []) := (Hwc.out.below hB)
  clear hB
  go_wp2
  go_ret
  exact ⟨rfl, Hwd.out.bel⟩
set_option maxHeartbeats 40000000 in
theorem group_ok {c s' : Int} {p b n gx gy : Nat} (hk : Kv c p b n gx gy s') (x y u v s t : Value) (X Y U V S T : Nat) (inf jnf knf : Bool) (w : World) (hx : Nu w x X) (hy : Nu w y Y) (hu : Nu w u U) (hv : Nu w v V) (hs : Nu w s S) (ht : Nu w t T) (o1 : onB p b X Y inf = true) (o2 : onB p b U V jnf = true) (o3 : onB p b S T knf = true) :
    Calls Tryd.prog 3 #[.int .i64 c, .agg #[x, y, .bool inf], .agg #[u, v, .bool jnf], .agg #[s, t, .bool knf]] w fun e w' => e = .returned (.bool true) ∧ Below w.heap.size w w' := by
  obtain ⟨x0, x1, x2, rfl⟩ := hx.shape
  obtain ⟨y0, y1, y2, rfl⟩ := hy.shape
  obtain ⟨u0, u1, u2, rfl⟩ := hu.shape
  obtain ⟨v0, v1, v2, rfl⟩ := hv.shape
  obtain ⟨s0, s1, s2, rfl⟩ := hs.shape
  obtain ⟨t0, t1, t2, rfl⟩ := ht.shape
  have H0 : Hid (Lf w (((w.alloc (.cells #[.slice x0 x1 x2, .slice y0 y1 y2, .bool inf] 26)).alloc (.cells #[.slice u0 u1 u2, .slice v0 v1 v2, .bool jnf] 26)).alloc (.cells #[.slice s0 s1 s2, .slice t0 t1 t2, .bool knf] 26)) [(w.heap.size + 2, [.slice s0 s1 s2, .slice t0 t1 t2, .bool knf]), (w.heap.size + 1, [.slice u0 u1 u2, .slice v0 v1 v2, .bool jnf]), (w.heap.size, [.slice x0 x1 x2, .slice y0 y1 y2, .bool inf])] [(.slice x0 x1 x2, X), (.slice y0 y1 y2, Y), (.slice u0 u1 u2, U), (.slice v0 v1 v2, V), (.slice s0 s1 s2, S), (.slice t0 t1 t2, T)] []) := Lf.of3 ((((Fm.nil (w := w) (A := []) ar_nil).push (by simp) 26 [.slice x0 x1 x2, .slice y0 y1 y2, .bool inf]).push (by simp) 26 [.slice u0 u1 u2, .slice v0 v1 v2, .bool jnf]).push (by simp) 26 [.slice s0 s1 s2, .slice t0 t1 t2, .bool knf]) (fun q hq => by simp only [List.mem_cons, List.not_mem_nil, or_false] at hq; rcases hq with rfl | rfl | rfl | rfl | rfl | rfl <;> assumption)
  clear hx hy hu hv hs ht
  go_enter Tryd.func3, Tryd.ntmps3
  go_wp2_with fail
  generalize (((w.alloc (.cells #[.slice x0 x1 x2, .slice y0 y1 y2, .bool inf] 26)).alloc (.cells #[.slice u0 u1 u2, .slice v0 v1 v2, .bool jnf] 26)).alloc (.cells #[.slice s0 s1 s2, .slice t0 t1 t2, .bool knf] 26)) = wv1 at *
  refine (started_v _).mono ?_
  rintro e wa ⟨rfl, hB⟩
  have Hwa : Hid (Lf w wa [(w.heap.size + 2, [.slice s0 s1 s2, .slice t0 t1 t2, .bool knf]), (w.heap.size + 1, [.slice u0 u1 u2, .slice v0 v1 v2, .bool jnf]), (w.heap.size, [.slice x0 x1 x2, .slice y0 y1 y2, .bool inf])] [(.slice x0 x1 x2, X), (.slice y0 y1 y2, Y), (.slice u0 u1 u2, U), (.slice v0 v1 v2, V), (.slice s0 s1 s2, S), (.slice t0 t1 t2, T)] []) := (H0.out.below hB)
  clear hB
  have k0_0 : wa.cell? ⟨w.heap.size, 0, none⟩ = some (.slice x0 x1 x2) := Hwa.out.cell 2 0 (Nat.le_of_ble_eq_true rfl) (Nat.le_of_ble_eq_true rfl)
  have k0_1 : wa.cell? ⟨w.heap.size, 1, none⟩ = some (.slice y0 y1 y2) := Hwa.out.cell 2 1 (Nat.le_of_ble_eq_true rfl) (Nat.le_of_ble_eq_true rfl)
  have k0_2 : wa.cell? ⟨w.heap.size, 2, none⟩ = some (.bool inf) := Hwa.out.cell 2 2 (Nat.le_of_ble_eq_true rfl) (Nat.le_of_ble_eq_true rfl)
  go_wp2_with fail
  clear k0_0 k0_1 k0_2
  have C := on_v hk _ _ X Y inf _ (Hwa.out.arg 0 (Nat.le_of_ble_eq_true rfl)) (Hwa.out.arg 1 (Nat.le_of_ble_eq_true rfl))
  rw [o1] at C
  refine C.mono ?_
  clear C
  rintro e wb ⟨rfl, hB⟩
  have Hwb : Hid (Lf w wb [(w.heap.size + 2, [.slice s0 s1 s2, .slice t0 t1 t2, .bool knf]), (w.heap.size + 1, [.slice u0 u1 u2, .slice v0 v1 v2, .bool jnf]), (w.heap.size, [.slice x0 x1 x2, .slice y0 y1 y2, .bool inf])] [(.slice x0 x1 x2, X), (.slice y0 y1 y2, Y), (.slice u0 u1 u2, U), (.slice v0 v1 v2, V), (.slice s0 s1 s2, S), (.slice t0 t1 t2, T)] []) := (Hwa.out.below hB)
  clear hB
  have k1_0 : wb.cell? ⟨w.heap.size + 1, 0, none⟩ = some (.slice u0 u1 u2) := Hwb.out.cell 1 0 (Nat.le_of_ble_eq_true rfl) (Nat.le_of_ble_eq_true rfl)
  have k1_1 : wb.cell? ⟨w.heap.size + 1, 1, none⟩ = some (.slice v0 v1 v2) := Hwb.out.cell 1 1 (Nat.le_of_ble_eq_true rfl) (Nat.le_of_ble_eq_true rfl)
  have k1_2 : wb.cell? ⟨w.heap.size + 1, 2, none⟩ = some (.bool jnf) := Hwb.out.cell 1 2 (Nat.le_of_ble_eq_true rfl) (Nat.le_of_ble_eq_true rfl)
  go_wp2_with fail
  clear k1_0 k1_1 k1_2
  have C := on_v hk _ _ U V jnf _ (Hwb.out.arg 2 (Nat.le_of_ble_eq_true rfl)) (Hwb.out.arg 3 (Nat.le_of_ble_eq_true rfl))
  rw [o2] at C
  refine C.mono ?_
  clear C
  rintro e wc ⟨rfl, hB⟩
  have Hwc : Hid (Lf w wc [(w.heap.size + 2, [.slice s0 s1 s2, .slice t0 t1 t2, .bool knf]), (w.heap.size + 1, [.slice u0 u1 u2, .slice v0 v1 v2, .bool jnf]), (w.heap.size, [.slice x0 x1 x2, .slice y0 y1 y2, .bool inf])] [(.slice x0 x1 x2, X), (.slice y0 y1 y2, Y), (.slice u0 u1 u2, U), (.slice v0 v1 v2, V), (.slice s0 s1 s2, S), (.slice t0 t1 t2, T)] []) := (Hwb.out.below hB)
  clear hB
  have k2_0 : wc.cell? ⟨w.heap.size + 2, 0, none⟩ = some (.slice s0 s1 s2) := Hwc.out.cell 0 0 (Nat.le_of_ble_eq_true rfl) (Nat.le_of_ble_eq_true rfl)
  have k2_1 : wc.cell? ⟨w.heap.size + 2, 1, none⟩ = some (.slice t0 t1 t2) := Hwc.out.cell 0 1 (Nat.le_of_ble_eq_true rfl) (Nat.le_of_ble_eq_true rfl)
  have k2_2 : wc.cell? ⟨w.heap.size + 2, 2, none⟩ = some (.bool knf) := Hwc.out.cell 0 2 (Nat.le_of_ble_eq_true rfl) (Nat.le_of_ble_eq_true rfl)
  go_wp2_with fail
  clear k2_0 k2_1 k2_2
  have C := on_v hk _ _ S T knf _ (Hwc.out.arg 4 (Nat.le_of_ble_eq_true rfl)) (Hwc.out.arg 5 (Nat.le_of_ble_eq_true rfl))
  rw [o3] at C
  refine C.mono ?_
  clear C
  rintro e wd ⟨rfl, hB⟩
  have Hwd : Hid (Lf w wd [(w.heap.size + 2, [.slice s0 s1 s2, .slice t0 t1 t2, .bool knf]), (w.heap.size + 1, [.slice u0 u1 u2, .slice v0 v1 v2, .bool jnf]), (w.heap.size, [.slice x0 x1 x2, .slice y0 y1 y2, .bool inf])] [(.slice x0 x1 x2, X), (.slice y0 y1 y2, Y), (.slice u0 u1 u2, U), (.slice v0 v1 v2, V), (.slice s0 s1 s2, S), (.slice t0 t1 t2, T)] []) := (Hwc.out.below hB)
  clear hB
  have hpm := hk.pm
  have C0 := hk.cv
  have oP := ((onB_iff hpm).1 o1).1
  have oQ := ((onB_iff hpm).1 o2).1
  have oR := ((onB_iff hpm).1 o3).1
  have HPM : Hid (Pm p) := hpm
  clear hpm
  have k0_0 : wd.cell? ⟨w.heap.size, 0, none⟩ = some (.slice x0 x1 x2) := Hwd.out.cell 2 0 (Nat.le_of_ble_eq_true rfl) (Nat.le_of_ble_eq_true rfl)
  have k0_1 : wd.cell? ⟨w.heap.size, 1, none⟩ = some (.slice y0 y1 y2) := Hwd.out.cell 2 1 (Nat.le_of_ble_eq_true rfl) (Nat.le_of_ble_eq_true rfl)
  have k0_2 : wd.cell? ⟨w.heap.size, 2, none⟩ = some (.bool inf) := Hwd.out.cell 2 2 (Nat.le_of_ble_eq_true rfl) (Nat.le_of_ble_eq_true rfl)
  have k1_0 : wd.cell? ⟨w.heap.size + 1, 0, none⟩ = some (.slice u0 u1 u2) := Hwd.out.cell 1 0 (Nat.le_of_ble_eq_true rfl) (Nat.le_of_ble_eq_true rfl)
  have k1_1 : wd.cell? ⟨w.heap.size + 1, 1, none⟩ = some (.slice v0 v1 v2) := Hwd.out.cell 1 1 (Nat.le_of_ble_eq_true rfl) (Nat.le_of_ble_eq_true rfl)
  have k1_2 : wd.cell? ⟨w.heap.size + 1, 2, none⟩ = some (.bool jnf) := Hwd.out.cell 1 2 (Nat.le_of_ble_eq_true rfl) (Nat.le_of_ble_eq_true rfl)
  go_wp2_with fail
  clear k0_0 k0_1 k0_2 k1_0 k1_1 k1_2
  refine (add_ok hk _ _ _ _ X Y U V inf jnf _ (Hwd.out.arg 0 (Nat.le_of_ble_eq_true rfl)) (Hwd.out.arg 1 (Nat.le_of_ble_eq_true rfl)) (Hwd.out.arg 2 (Nat.le_of_ble_eq_true rfl)) (Hwd.out.arg 3 (Nat.le_of_ble_eq_true rfl)) o1 o2).mono ?_
  rintro e we ⟨r, rfl, hPa⟩
  have hB := hPa.bel
  obtain ⟨x3_0, y3_0, x3_1, x3_2, y3_1, y3_2, X3, Y3, f3, rfl, m1, m2, hpt, hz⟩ := hPa.open
  have E3 : Hid (ptO X3 Y3 f3 = (sm p (ptO X Y inf) (ptO U V jnf)) ∧ (f3 = true → X3 = 0 ∧ Y3 = 0)) := ⟨hpt, hz⟩
  have Hwe : Hid (Lf w we [(w.heap.size + 2, [.slice s0 s1 s2, .slice t0 t1 t2, .bool knf]), (w.heap.size + 1, [.slice u0 u1 u2, .slice v0 v1 v2, .bool jnf]), (w.heap.size, [.slice x0 x1 x2, .slice y0 y1 y2, .bool inf])] [(.slice x0 x1 x2, X), (.slice y0 y1 y2, Y), (.slice u0 u1 u2, U), (.slice v0 v1 v2, V), (.slice s0 s1 s2, S), (.slice t0 t1 t2, T)] [(.slice y3_0 y3_1 y3_2, Y3), (.slice x3_0 x3_1 x3_2, X3)]) := (((Hwd.out.below hB).res m1).res m2)
  clear hB m1 m2 hpt hz
  have HB3 : Hid (Lf w (we.alloc (.cells #[.slice x3_0 x3_1 x3_2, .slice y3_0 y3_1 y3_2, .bool f3] 26)) [(we.heap.size, [.slice x3_0 x3_1 x3_2, .slice y3_0 y3_1 y3_2, .bool f3]), (w.heap.size + 2, [.slice s0 s1 s2, .slice t0 t1 t2, .bool knf]), (w.heap.size + 1, [.slice u0 u1 u2, .slice v0 v1 v2, .bool jnf]), (w.heap.size, [.slice x0 x1 x2, .slice y0 y1 y2, .bool inf])] [(.slice x0 x1 x2, X), (.slice y0 y1 y2, Y), (.slice u0 u1 u2, U), (.slice v0 v1 v2, V), (.slice s0 s1 s2, S), (.slice t0 t1 t2, T)] [(.slice y3_0 y3_1 y3_2, Y3), (.slice x3_0 x3_1 x3_2, X3)]) := Hwe.out.box [.slice x3_0 x3_1 x3_2, .slice y3_0 y3_1 y3_2, .bool f3]
  have k0_0 : (we.alloc (.cells #[.slice x3_0 x3_1 x3_2, .slice y3_0 y3_1 y3_2, .bool f3] 26)).cell? ⟨w.heap.size, 0, none⟩ = some (.slice x0 x1 x2) := HB3.out.cell 3 0 (Nat.le_of_ble_eq_true rfl) (Nat.le_of_ble_eq_true rfl)
  have k0_1 : (we.alloc (.cells #[.slice x3_0 x3_1 x3_2, .slice y3_0 y3_1 y3_2, .bool f3] 26)).cell? ⟨w.heap.size, 1, none⟩ = some (.slice y0 y1 y2) := HB3.out.cell 3 1 (Nat.le_of_ble_eq_true rfl) (Nat.le_of_ble_eq_true rfl)
  have k0_2 : (we.alloc (.cells #[.slice x3_0 x3_1 x3_2, .slice y3_0 y3_1 y3_2, .bool f3] 26)).cell? ⟨w.heap.size, 2, none⟩ = some (.bool inf) := HB3.out.cell 3 2 (Nat.le_of_ble_eq_true rfl) (Nat.le_of_ble_eq_true rfl)
  have k1_0 : (we.alloc (.cells #[.slice x3_0 x3_1 x3_2, .slice y3_0 y3_1 y3_2, .bool f3] 26)).cell? ⟨w.heap.size + 1, 0, none⟩ = some (.slice u0 u1 u2) := HB3.out.cell 2 0 (Nat.le_of_ble_eq_true rfl) (Nat.le_of_ble_eq_true rfl)
  have k1_1 : (we.alloc (.cells #[.slice x3_0 x3_1 x3_2, .slice y3_0 y3_1 y3_2, .bool f3] 26)).cell? ⟨w.heap.size + 1, 1, none⟩ = some (.slice v0 v1 v2) := HB3.out.cell 2 1 (Nat.le_of_ble_eq_true rfl) (Nat.le_of_ble_eq_true rfl)
  have k1_2 : (we.alloc (.cells #[.slice x3_0 x3_1 x3_2, .slice y3_0 y3_1 y3_2, .bool f3] 26)).cell? ⟨w.heap.size + 1, 2, none⟩ = some (.bool jnf) := HB3.out.cell 2 2 (Nat.le_of_ble_eq_true rfl) (Nat.le_of_ble_eq_true rfl)
  go_wp2_with fail
  clear k0_0 k0_1 k0_2 k1_0 k1_1 k1_2
  generalize (we.alloc (.cells #[.slice x3_0 x3_1 x3_2, .slice y3_0 y3_1 y3_2, .bool f3] 26)) = wv7 at *
  refine (add_ok hk _ _ _ _ U V X Y jnf inf _ (HB3.out.arg 2 (Nat.le_of_ble_eq_true rfl)) (HB3.out.arg 3 (Nat.le_of_ble_eq_true rfl)) (HB3.out.arg 0 (Nat.le_of_ble_eq_true rfl)) (HB3.out.arg 1 (Nat.le_of_ble_eq_true rfl)) o2 o1).mono ?_
  rintro e wf ⟨r, rfl, hPa⟩
  rw [C0.comm oQ oP] at hPa
  have hB := hPa.bel
  obtain ⟨x4_0, y4_0, x4_1, x4_2, y4_1, y4_2, X4, Y4, f4, rfl, m1, m2, hpt, hz⟩ := hPa.open
  have E4 : Hid (ptO X4 Y4 f4 = (sm p (ptO X Y inf) (ptO U V jnf)) ∧ (f4 = true → X4 = 0 ∧ Y4 = 0)) := ⟨hpt, hz⟩
  have Hwf : Hid (Lf w wf [(we.heap.size, [.slice x3_0 x3_1 x3_2, .slice y3_0 y3_1 y3_2, .bool f3]), (w.heap.size + 2, [.slice s0 s1 s2, .slice t0 t1 t2, .bool knf]), (w.heap.size + 1, [.slice u0 u1 u2, .slice v0 v1 v2, .bool jnf]), (w.heap.size, [.slice x0 x1 x2, .slice y0 y1 y2, .bool inf])] [(.slice x0 x1 x2, X), (.slice y0 y1 y2, Y), (.slice u0 u1 u2, U), (.slice v0 v1 v2, V), (.slice s0 s1 s2, S), (.slice t0 t1 t2, T)] [(.slice y4_0 y4_1 y4_2, Y4), (.slice x4_0 x4_1 x4_2, X4), (.slice y3_0 y3_1 y3_2, Y3), (.slice x3_0 x3_1 x3_2, X3)]) := (((HB3.out.below hB).res m1).res m2)
  clear hB m1 m2 hpt hz
  have HB4 : Hid (Lf w (wf.alloc (.cells #[.slice x4_0 x4_1 x4_2, .slice y4_0 y4_1 y4_2, .bool f4] 26)) [(wf.heap.size, [.slice x4_0 x4_1 x4_2, .slice y4_0 y4_1 y4_2, .bool f4]), (we.heap.size, [.slice x3_0 x3_1 x3_2, .slice y3_0 y3_1 y3_2, .bool f3]), (w.heap.size + 2, [.slice s0 s1 s2, .slice t0 t1 t2, .bool knf]), (w.heap.size + 1, [.slice u0 u1 u2, .slice v0 v1 v2, .bool jnf]), (w.heap.size, [.slice x0 x1 x2, .slice y0 y1 y2, .bool inf])] [(.slice x0 x1 x2, X), (.slice y0 y1 y2, Y), (.slice u0 u1 u2, U), (.slice v0 v1 v2, V), (.slice s0 s1 s2, S), (.slice t0 t1 t2, T)] [(.slice y4_0 y4_1 y4_2, Y4), (.slice x4_0 x4_1 x4_2, X4), (.slice y3_0 y3_1 y3_2, Y3), (.slice x3_0 x3_1 x3_2, X3)]) := Hwf.out.box [.slice x4_0 x4_1 x4_2, .slice y4_0 y4_1 y4_2, .bool f4]
  have k2_0 : (wf.alloc (.cells #[.slice x4_0 x4_1 x4_2, .slice y4_0 y4_1 y4_2, .bool f4] 26)).cell? ⟨w.heap.size + 2, 0, none⟩ = some (.slice s0 s1 s2) := HB4.out.cell 2 0 (Nat.le_of_ble_eq_true rfl) (Nat.le_of_ble_eq_true rfl)
  have k2_1 : (wf.alloc (.cells #[.slice x4_0 x4_1 x4_2, .slice y4_0 y4_1 y4_2, .bool f4] 26)).cell? ⟨w.heap.size + 2, 1, none⟩ = some (.slice t0 t1 t2) := HB4.out.cell 2 1 (Nat.le_of_ble_eq_true rfl) (Nat.le_of_ble_eq_true rfl)
  have k2_2 : (wf.alloc (.cells #[.slice x4_0 x4_1 x4_2, .slice y4_0 y4_1 y4_2, .bool f4] 26)).cell? ⟨w.heap.size + 2, 2, none⟩ = some (.bool knf) := HB4.out.cell 2 2 (Nat.le_of_ble_eq_true rfl) (Nat.le_of_ble_eq_true rfl)
  have k3_0 : (wf.alloc (.cells #[.slice x4_0 x4_1 x4_2, .slice y4_0 y4_1 y4_2, .bool f4] 26)).cell? ⟨we.heap.size, 0, none⟩ = some (.slice x3_0 x3_1 x3_2) := HB4.out.cell 1 0 (Nat.le_of_ble_eq_true rfl) (Nat.le_of_ble_eq_true rfl)
  have k3_1 : (wf.alloc (.cells #[.slice x4_0 x4_1 x4_2, .slice y4_0 y4_1 y4_2, .bool f4] 26)).cell? ⟨we.heap.size, 1, none⟩ = some (.slice y3_0 y3_1 y3_2) := HB4.out.cell 1 1 (Nat.le_of_ble_eq_true rfl) (Nat.le_of_ble_eq_true rfl)
  have k3_2 : (wf.alloc (.cells #[.slice x4_0 x4_1 x4_2, .slice y4_0 y4_1 y4_2, .bool f4] 26)).cell? ⟨we.heap.size, 2, none⟩ = some (.bool f3) := HB4.out.cell 1 2 (Nat.le_of_ble_eq_true rfl) (Nat.le_of_ble_eq_true rfl)
  go_wp2_with fail
  clear k2_0 k2_1 k2_2 k3_0 k3_1 k3_2
  generalize (wf.alloc (.cells #[.slice x4_0 x4_1 x4_2, .slice y4_0 y4_1 y4_2, .bool f4] 26)) = wv9 at *
  refine (add_ok hk _ _ _ _ X3 Y3 S T f3 knf _ (HB4.out.got 3 (Nat.le_of_ble_eq_true rfl)).nk.1 (HB4.out.got 2 (Nat.le_of_ble_eq_true rfl)).nk.1 (HB4.out.arg 4 (Nat.le_of_ble_eq_true rfl)) (HB4.out.arg 5 (Nat.le_of_ble_eq_true rfl)) (onB_of HPM.out E3.out (C0.son oP oQ)) o3).mono ?_
  rintro e wg ⟨r, rfl, hPa⟩
  rw [E3.out.1, C0.ass oP oQ oR] at hPa
  have hB := hPa.bel
  obtain ⟨x5_0, y5_0, x5_1, x5_2, y5_1, y5_2, X5, Y5, f5, rfl, m1, m2, hpt, hz⟩ := hPa.open
  have E5 : Hid (ptO X5 Y5 f5 = (sm p (ptO X Y inf) (sm p (ptO U V jnf) (ptO S T knf))) ∧ (f5 = true → X5 = 0 ∧ Y5 = 0)) := ⟨hpt, hz⟩
  have Hwg : Hid (Lf w wg [(wf.heap.size, [.slice x4_0 x4_1 x4_2, .slice y4_0 y4_1 y4_2, .bool f4]), (we.heap.size, [.slice x3_0 x3_1 x3_2, .slice y3_0 y3_1 y3_2, .bool f3]), (w.heap.size + 2, [.slice s0 s1 s2, .slice t0 t1 t2, .bool knf]), (w.heap.size + 1, [.slice u0 u1 u2, .slice v0 v1 v2, .bool jnf]), (w.heap.size, [.slice x0 x1 x2, .slice y0 y1 y2, .bool inf])] [(.slice x0 x1 x2, X), (.slice y0 y1 y2, Y), (.slice u0 u1 u2, U), (.slice v0 v1 v2, V), (.slice s0 s1 s2, S), (.slice t0 t1 t2, T)] [(.slice y5_0 y5_1 y5_2, Y5), (.slice x5_0 x5_1 x5_2, X5), (.slice y4_0 y4_1 y4_2, Y4), (.slice x4_0 x4_1 x4_2, X4), (.slice y3_0 y3_1 y3_2, Y3), (.slice x3_0 x3_1 x3_2, X3)]) := (((HB4.out.below hB).res m1).res m2)
  clear hB m1 m2 hpt hz
  have HB5 : Hid (Lf w (wg.alloc (.cells #[.slice x5_0 x5_1 x5_2, .slice y5_0 y5_1 y5_2, .bool f5] 26)) [(wg.heap.size, [.slice x5_0 x5_1 x5_2, .slice y5_0 y5_1 y5_2, .bool f5]), (wf.heap.size, [.slice x4_0 x4_1 x4_2, .slice y4_0 y4_1 y4_2, .bool f4]), (we.heap.size, [.slice x3_0 x3_1 x3_2, .slice y3_0 y3_1 y3_2, .bool f3]), (w.heap.size + 2, [.slice s0 s1 s2, .slice t0 t1 t2, .bool knf]), (w.heap.size + 1, [.slice u0 u1 u2, .slice v0 v1 v2, .bool jnf]), (w.heap.size, [.slice x0 x1 x2, .slice y0 y1 y2, .bool inf])] [(.slice x0 x1 x2, X), (.slice y0 y1 y2, Y), (.slice u0 u1 u2, U), (.slice v0 v1 v2, V), (.slice s0 s1 s2, S), (.slice t0 t1 t2, T)] [(.slice y5_0 y5_1 y5_2, Y5), (.slice x5_0 x5_1 x5_2, X5), (.slice y4_0 y4_1 y4_2, Y4), (.slice x4_0 x4_1 x4_2, X4), (.slice y3_0 y3_1 y3_2, Y3), (.slice x3_0 x3_1 x3_2, X3)]) := Hwg.out.box [.slice x5_0 x5_1 x5_2, .slice y5_0 y5_1 y5_2, .bool f5]
  have k1_0 : (wg.alloc (.cells #[.slice x5_0 x5_1 x5_2, .slice y5_0 y5_1 y5_2, .bool f5] 26)).cell? ⟨w.heap.size + 1, 0, none⟩ = some (.slice u0 u1 u2) := HB5.out.cell 4 0 (Nat.le_of_ble_eq_true rfl) (Nat.le_of_ble_eq_true rfl)
  have k1_1 : (wg.alloc (.cells #[.slice x5_0 x5_1 x5_2, .slice y5_0 y5_1 y5_2, .bool f5] 26)).cell? ⟨w.heap.size + 1, 1, none⟩ = some (.slice v0 v1 v2) := HB5.out.cell 4 1 (Nat.le_of_ble_eq_true rfl) (Nat.le_of_ble_eq_true rfl)
  have k1_2 : (wg.alloc (.cells #[.slice x5_0 x5_1 x5_2, .slice y5_0 y5_1 y5_2, .bool f5] 26)).cell? ⟨w.heap.size + 1, 2, none⟩ = some (.bool jnf) := HB5.out.cell 4 2 (Nat.le_of_ble_eq_true rfl) (Nat.le_of_ble_eq_true rfl)
  have k2_0 : (wg.alloc (.cells #[.slice x5_0 x5_1 x5_2, .slice y5_0 y5_1 y5_2, .bool f5] 26)).cell? ⟨w.heap.size + 2, 0, none⟩ = some (.slice s0 s1 s2) := HB5.out.cell 3 0 (Nat.le_of_ble_eq_true rfl) (Nat.le_of_ble_eq_true rfl)
  have k2_1 : (wg.alloc (.cells #[.slice x5_0 x5_1 x5_2, .slice y5_0 y5_1 y5_2, .bool f5] 26)).cell? ⟨w.heap.size + 2, 1, none⟩ = some (.slice t0 t1 t2) := HB5.out.cell 3 1 (Nat.le_of_ble_eq_true rfl) (Nat.le_of_ble_eq_true rfl)
  have k2_2 : (wg.alloc (.cells #[.slice x5_0 x5_1 x5_2, .slice y5_0 y5_1 y5_2, .bool f5] 26)).cell? ⟨w.heap.size + 2, 2, none⟩ = some (.bool knf) := HB5.out.cell 3 2 (Nat.le_of_ble_eq_true rfl) (Nat.le_of_ble_eq_true rfl)
  go_wp2_with fail
  clear k1_0 k1_1 k1_2 k2_0 k2_1 k2_2
  generalize (wg.alloc (.cells #[.slice x5_0 x5_1 x5_2, .slice y5_0 y5_1 y5_2, .bool f5] 26)) = wv11 at *
  refine (add_ok hk _ _ _ _ U V S T jnf knf _ (HB5.out.arg 2 (Nat.le_of_ble_eq_true rfl)) (HB5.out.arg 3 (Nat.le_of_ble_eq_true rfl)) (HB5.out.arg 4 (Nat.le_of_ble_eq_true rfl)) (HB5.out.arg 5 (Nat.le_of_ble_eq_true rfl)) o2 o3).mono ?_
  rintro e wh ⟨r, rfl, hPa⟩
  have hB := hPa.bel
  obtain ⟨x6_0, y6_0, x6_1, x6_2, y6_1, y6_2, X6, Y6, f6, rfl, m1, m2, hpt, hz⟩ := hPa.open
  have E6 : Hid (ptO X6 Y6 f6 = (sm p (ptO U V jnf) (ptO S T knf)) ∧ (f6 = true → X6 = 0 ∧ Y6 = 0)) := ⟨hpt, hz⟩
  have Hwh : Hid (Lf w wh [(wg.heap.size, [.slice x5_0 x5_1 x5_2, .slice y5_0 y5_1 y5_2, .bool f5]), (wf.heap.size, [.slice x4_0 x4_1 x4_2, .slice y4_0 y4_1 y4_2, .bool f4]), (we.heap.size, [.slice x3_0 x3_1 x3_2, .slice y3_0 y3_1 y3_2, .bool f3]), (w.heap.size + 2, [.slice s0 s1 s2, .slice t0 t1 t2, .bool knf]), (w.heap.size + 1, [.slice u0 u1 u2, .slice v0 v1 v2, .bool jnf]), (w.heap.size, [.slice x0 x1 x2, .slice y0 y1 y2, .bool inf])] [(.slice x0 x1 x2, X), (.slice y0 y1 y2, Y), (.slice u0 u1 u2, U), (.slice v0 v1 v2, V), (.slice s0 s1 s2, S), (.slice t0 t1 t2, T)] [(.slice y6_0 y6_1 y6_2, Y6), (.slice x6_0 x6_1 x6_2, X6), (.slice y5_0 y5_1 y5_2, Y5), (.slice x5_0 x5_1 x5_2, X5), (.slice y4_0 y4_1 y4_2, Y4), (.slice x4_0 x4_1 x4_2, X4), (.slice y3_0 y3_1 y3_2, Y3), (.slice x3_0 x3_1 x3_2, X3)]) := (((HB5.out.below hB).res m1).res m2)
  clear hB m1 m2 hpt hz
  have HB6 : Hid (Lf w (wh.alloc (.cells #[.slice x6_0 x6_1 x6_2, .slice y6_0 y6_1 y6_2, .bool f6] 26)) [(wh.heap.size, [.slice x6_0 x6_1 x6_2, .slice y6_0 y6_1 y6_2, .bool f6]), (wg.heap.size, [.slice x5_0 x5_1 x5_2, .slice y5_0 y5_1 y5_2, .bool f5]), (wf.heap.size, [.slice x4_0 x4_1 x4_2, .slice y4_0 y4_1 y4_2, .bool f4]), (we.heap.size, [.slice x3_0 x3_1 x3_2, .slice y3_0 y3_1 y3_2, .bool f3]), (w.heap.size + 2, [.slice s0 s1 s2, .slice t0 t1 t2, .bool knf]), (w.heap.size + 1, [.slice u0 u1 u2, .slice v0 v1 v2, .bool jnf]), (w.heap.size, [.slice x0 x1 x2, .slice y0 y1 y2, .bool inf])] [(.slice x0 x1 x2, X), (.slice y0 y1 y2, Y), (.slice u0 u1 u2, U), (.slice v0 v1 v2, V), (.slice s0 s1 s2, S), (.slice t0 t1 t2, T)] [(.slice y6_0 y6_1 y6_2, Y6), (.slice x6_0 x6_1 x6_2, X6), (.slice y5_0 y5_1 y5_2, Y5), (.slice x5_0 x5_1 x5_2, X5), (.slice y4_0 y4_1 y4_2, Y4), (.slice x4_0 x4_1 x4_2, X4), (.slice y3_0 y3_1 y3_2, Y3), (.slice x3_0 x3_1 x3_2, X3)]) := Hwh.out.box [.slice x6_0 x6_1 x6_2, .slice y6_0 y6_1 y6_2, .bool f6]
  have k0_0 : (wh.alloc (.cells #[.slice x6_0 x6_1 x6_2, .slice y6_0 y6_1 y6_2, .bool f6] 26)).cell? ⟨w.heap.size, 0, none⟩ = some (.slice x0 x1 x2) := HB6.out.cell 6 0 (Nat.le_of_ble_eq_true rfl) (Nat.le_of_ble_eq_true rfl)
  have k0_1 : (wh.alloc (.cells #[.slice x6_0 x6_1 x6_2, .slice y6_0 y6_1 y6_2, .bool f6] 26)).cell? ⟨w.heap.size, 1, none⟩ = some (.slice y0 y1 y2) := HB6.out.cell 6 1 (Nat.le_of_ble_eq_true rfl) (Nat.le_of_ble_eq_true rfl)
  have k0_2 : (wh.alloc (.cells #[.slice x6_0 x6_1 x6_2, .slice y6_0 y6_1 y6_2, .bool f6] 26)).cell? ⟨w.heap.size, 2, none⟩ = some (.bool inf) := HB6.out.cell 6 2 (Nat.le_of_ble_eq_true rfl) (Nat.le_of_ble_eq_true rfl)
  have k6_0 : (wh.alloc (.cells #[.slice x6_0 x6_1 x6_2, .slice y6_0 y6_1 y6_2, .bool f6] 26)).cell? ⟨wh.heap.size, 0, none⟩ = some (.slice x6_0 x6_1 x6_2) := HB6.out.cell 0 0 (Nat.le_of_ble_eq_true rfl) (Nat.le_of_ble_eq_true rfl)
  have k6_1 : (wh.alloc (.cells #[.slice x6_0 x6_1 x6_2, .slice y6_0 y6_1 y6_2, .bool f6] 26)).cell? ⟨wh.heap.size, 1, none⟩ = some (.slice y6_0 y6_1 y6_2) := HB6.out.cell 0 1 (Nat.le_of_ble_eq_true rfl) (Nat.le_of_ble_eq_true rfl)
  have k6_2 : (wh.alloc (.cells #[.slice x6_0 x6_1 x6_2, .slice y6_0 y6_1 y6_2, .bool f6] 26)).cell? ⟨wh.heap.size, 2, none⟩ = some (.bool f6) := HB6.out.cell 0 2 (Nat.le_of_ble_eq_true rfl) (Nat.le_of_ble_eq_true rfl)
  go_wp2_with fail
  clear k0_0 k0_1 k0_2 k6_0 k6_1 k6_2
  generalize (wh.alloc (.cells #[.slice x6_0 x6_1 x6_2, .slice y6_0 y6_1 y6_2, .bool f6] 26)) = wv13 at *
  refine (add_ok hk _ _ _ _ X Y X6 Y6 inf f6 _ (HB6.out.arg 0 (Nat.le_of_ble_eq_true rfl)) (HB6.out.arg 1 (Nat.le_of_ble_eq_true rfl)) (HB6.out.got 1 (Nat.le_of_ble_eq_true rfl)).nk.1 (HB6.out.got 0 (Nat.le_of_ble_eq_true rfl)).nk.1 o1 (onB_of HPM.out E6.out (C0.son oQ oR))).mono ?_
  rintro e wi ⟨r, rfl, hPa⟩
  rw [E6.out.1] at hPa
  have hB := hPa.bel
  obtain ⟨x7_0, y7_0, x7_1, x7_2, y7_1, y7_2, X7, Y7, f7, rfl, m1, m2, hpt, hz⟩ := hPa.open
  have E7 : Hid (ptO X7 Y7 f7 = (sm p (ptO X Y inf) (sm p (ptO U V jnf) (ptO S T knf))) ∧ (f7 = true → X7 = 0 ∧ Y7 = 0)) := ⟨hpt, hz⟩
  have Hwi : Hid (Lf w wi [(wh.heap.size, [.slice x6_0 x6_1 x6_2, .slice y6_0 y6_1 y6_2, .bool f6]), (wg.heap.size, [.slice x5_0 x5_1 x5_2, .slice y5_0 y5_1 y5_2, .bool f5]), (wf.heap.size, [.slice x4_0 x4_1 x4_2, .slice y4_0 y4_1 y4_2, .bool f4]), (we.heap.size, [.slice x3_0 x3_1 x3_2, .slice y3_0 y3_1 y3_2, .bool f3]), (w.heap.size + 2, [.slice s0 s1 s2, .slice t0 t1 t2, .bool knf]), (w.heap.size + 1, [.slice u0 u1 u2, .slice v0 v1 v2, .bool jnf]), (w.heap.size, [.slice x0 x1 x2, .slice y0 y1 y2, .bool inf])] [(.slice x0 x1 x2, X), (.slice y0 y1 y2, Y), (.slice u0 u1 u2, U), (.slice v0 v1 v2, V), (.slice s0 s1 s2, S), (.slice t0 t1 t2, T)] [(.slice y7_0 y7_1 y7_2, Y7), (.slice x7_0 x7_1 x7_2, X7), (.slice y6_0 y6_1 y6_2, Y6), (.slice x6_0 x6_1 x6_2, X6), (.slice y5_0 y5_1 y5_2, Y5), (.slice x5_0 x5_1 x5_2, X5), (.slice y4_0 y4_1 y4_2, Y4), (.slice x4_0 x4_1 x4_2, X4), (.slice y3_0 y3_1 y3_2, Y3), (.slice x3_0 x3_1 x3_2, X3)]) := (((HB6.out.below hB).res m1).res m2)
  clear hB m1 m2 hpt hz
  have HB7 : Hid (Lf w (wi.alloc (.cells #[.slice x7_0 x7_1 x7_2, .slice y7_0 y7_1 y7_2, .bool f7] 26)) [(wi.heap.size, [.slice x7_0 x7_1 x7_2, .slice y7_0 y7_1 y7_2, .bool f7]), (wh.heap.size, [.slice x6_0 x6_1 x6_2, .slice y6_0 y6_1 y6_2, .bool f6]), (wg.heap.size, [.slice x5_0 x5_1 x5_2, .slice y5_0 y5_1 y5_2, .bool f5]), (wf.heap.size, [.slice x4_0 x4_1 x4_2, .slice y4_0 y4_1 y4_2, .bool f4]), (we.heap.size, [.slice x3_0 x3_1 x3_2, .slice y3_0 y3_1 y3_2, .bool f3]), (w.heap.size + 2, [.slice s0 s1 s2, .slice t0 t1 t2, .bool knf]), (w.heap.size + 1, [.slice u0 u1 u2, .slice v0 v1 v2, .bool jnf]), (w.heap.size, [.slice x0 x1 x2, .slice y0 y1 y2, .bool inf])] [(.slice x0 x1 x2, X), (.slice y0 y1 y2, Y), (.slice u0 u1 u2, U), (.slice v0 v1 v2, V), (.slice s0 s1 s2, S), (.slice t0 t1 t2, T)] [(.slice y7_0 y7_1 y7_2, Y7), (.slice x7_0 x7_1 x7_2, X7), (.slice y6_0 y6_1 y6_2, Y6), (.slice x6_0 x6_1 x6_2, X6), (.slice y5_0 y5_1 y5_2, Y5), (.slice x5_0 x5_1 x5_2, X5), (.slice y4_0 y4_1 y4_2, Y4), (.slice x4_0 x4_1 x4_2, X4), (.slice y3_0 y3_1 y3_2, Y3), (.slice x3_0 x3_1 x3_2, X3)]) := Hwi.out.box [.slice x7_0 x7_1 x7_2, .slice y7_0 y7_1 y7_2, .bool f7]
  have k0_0 : (wi.alloc (.cells #[.slice x7_0 x7_1 x7_2, .slice y7_0 y7_1 y7_2, .bool f7] 26)).cell? ⟨w.heap.size, 0, none⟩ = some (.slice x0 x1 x2) := HB7.out.cell 7 0 (Nat.le_of_ble_eq_true rfl) (Nat.le_of_ble_eq_true rfl)
  have k0_1 : (wi.alloc (.cells #[.slice x7_0 x7_1 x7_2, .slice y7_0 y7_1 y7_2, .bool f7] 26)).cell? ⟨w.heap.size, 1, none⟩ = some (.slice y0 y1 y2) := HB7.out.cell 7 1 (Nat.le_of_ble_eq_true rfl) (Nat.le_of_ble_eq_true rfl)
  have k0_2 : (wi.alloc (.cells #[.slice x7_0 x7_1 x7_2, .slice y7_0 y7_1 y7_2, .bool f7] 26)).cell? ⟨w.heap.size, 2, none⟩ = some (.bool inf) := HB7.out.cell 7 2 (Nat.le_of_ble_eq_true rfl) (Nat.le_of_ble_eq_true rfl)
  go_wp2_with fail
  clear k0_0 k0_1 k0_2
  generalize (wi.alloc (.cells #[.slice x7_0 x7_1 x7_2, .slice y7_0 y7_1 y7_2, .bool f7] 26)) = wv15 at *
  refine (neg_ok hk _ _ X Y inf _ (HB7.out.arg 0 (Nat.le_of_ble_eq_true rfl)) (HB7.out.arg 1 (Nat.le_of_ble_eq_true rfl)) o1).mono ?_
  rintro e wj ⟨nx, ny, rfl, m1, m2, hB⟩
  obtain ⟨nx0, nx1, nx2, rfl⟩ := m1.nk.sl
  obtain ⟨ny0, ny1, ny2, rfl⟩ := m2.nk.sl
  have Hwj : Hid (Lf w wj [(wi.heap.size, [.slice x7_0 x7_1 x7_2, .slice y7_0 y7_1 y7_2, .bool f7]), (wh.heap.size, [.slice x6_0 x6_1 x6_2, .slice y6_0 y6_1 y6_2, .bool f6]), (wg.heap.size, [.slice x5_0 x5_1 x5_2, .slice y5_0 y5_1 y5_2, .bool f5]), (wf.heap.size, [.slice x4_0 x4_1 x4_2, .slice y4_0 y4_1 y4_2, .bool f4]), (we.heap.size, [.slice x3_0 x3_1 x3_2, .slice y3_0 y3_1 y3_2, .bool f3]), (w.heap.size + 2, [.slice s0 s1 s2, .slice t0 t1 t2, .bool knf]), (w.heap.size + 1, [.slice u0 u1 u2, .slice v0 v1 v2, .bool jnf]), (w.heap.size, [.slice x0 x1 x2, .slice y0 y1 y2, .bool inf])] [(.slice x0 x1 x2, X), (.slice y0 y1 y2, Y), (.slice u0 u1 u2, U), (.slice v0 v1 v2, V), (.slice s0 s1 s2, S), (.slice t0 t1 t2, T)] [(.slice ny0 ny1 ny2, fS p 0 Y), (.slice nx0 nx1 nx2, X), (.slice y7_0 y7_1 y7_2, Y7), (.slice x7_0 x7_1 x7_2, X7), (.slice y6_0 y6_1 y6_2, Y6), (.slice x6_0 x6_1 x6_2, X6), (.slice y5_0 y5_1 y5_2, Y5), (.slice x5_0 x5_1 x5_2, X5), (.slice y4_0 y4_1 y4_2, Y4), (.slice x4_0 x4_1 x4_2, X4), (.slice y3_0 y3_1 y3_2, Y3), (.slice x3_0 x3_1 x3_2, X3)]) := (((HB7.out.below hB).res m1).res m2)
  clear hB m1 m2
  have E8 : Hid (ptO X (fS p 0 Y) inf = ng p (ptO X Y inf) ∧ (inf = true → X = 0 ∧ fS p 0 Y = 0)) := neg_pt HPM.out o1
  have oN : onP p b (ng p (ptO X Y inf)) := ng_on (by have := HPM.out.1; omega) oP
  have HB8 : Hid (Lf w (wj.alloc (.cells #[.slice nx0 nx1 nx2, .slice ny0 ny1 ny2, .bool inf] 26)) [(wj.heap.size, [.slice nx0 nx1 nx2, .slice ny0 ny1 ny2, .bool inf]), (wi.heap.size, [.slice x7_0 x7_1 x7_2, .slice y7_0 y7_1 y7_2, .bool f7]), (wh.heap.size, [.slice x6_0 x6_1 x6_2, .slice y6_0 y6_1 y6_2, .bool f6]), (wg.heap.size, [.slice x5_0 x5_1 x5_2, .slice y5_0 y5_1 y5_2, .bool f5]), (wf.heap.size, [.slice x4_0 x4_1 x4_2, .slice y4_0 y4_1 y4_2, .bool f4]), (we.heap.size, [.slice x3_0 x3_1 x3_2, .slice y3_0 y3_1 y3_2, .bool f3]), (w.heap.size + 2, [.slice s0 s1 s2, .slice t0 t1 t2, .bool knf]), (w.heap.size + 1, [.slice u0 u1 u2, .slice v0 v1 v2, .bool jnf]), (w.heap.size, [.slice x0 x1 x2, .slice y0 y1 y2, .bool inf])] [(.slice x0 x1 x2, X), (.slice y0 y1 y2, Y), (.slice u0 u1 u2, U), (.slice v0 v1 v2, V), (.slice s0 s1 s2, S), (.slice t0 t1 t2, T)] [(.slice ny0 ny1 ny2, fS p 0 Y), (.slice nx0 nx1 nx2, X), (.slice y7_0 y7_1 y7_2, Y7), (.slice x7_0 x7_1 x7_2, X7), (.slice y6_0 y6_1 y6_2, Y6), (.slice x6_0 x6_1 x6_2, X6), (.slice y5_0 y5_1 y5_2, Y5), (.slice x5_0 x5_1 x5_2, X5), (.slice y4_0 y4_1 y4_2, Y4), (.slice x4_0 x4_1 x4_2, X4), (.slice y3_0 y3_1 y3_2, Y3), (.slice x3_0 x3_1 x3_2, X3)]) := Hwj.out.box [.slice nx0 nx1 nx2, .slice ny0 ny1 ny2, .bool inf]
  have k0_0 : (wj.alloc (.cells #[.slice nx0 nx1 nx2, .slice ny0 ny1 ny2, .bool inf] 26)).cell? ⟨w.heap.size, 0, none⟩ = some (.slice x0 x1 x2) := HB8.out.cell 8 0 (Nat.le_of_ble_eq_true rfl) (Nat.le_of_ble_eq_true rfl)
  have k0_1 : (wj.alloc (.cells #[.slice nx0 nx1 nx2, .slice ny0 ny1 ny2, .bool inf] 26)).cell? ⟨w.heap.size, 1, none⟩ = some (.slice y0 y1 y2) := HB8.out.cell 8 1 (Nat.le_of_ble_eq_true rfl) (Nat.le_of_ble_eq_true rfl)
  have k0_2 : (wj.alloc (.cells #[.slice nx0 nx1 nx2, .slice ny0 ny1 ny2, .bool inf] 26)).cell? ⟨w.heap.size, 2, none⟩ = some (.bool inf) := HB8.out.cell 8 2 (Nat.le_of_ble_eq_true rfl) (Nat.le_of_ble_eq_true rfl)
  have k8_0 : (wj.alloc (.cells #[.slice nx0 nx1 nx2, .slice ny0 ny1 ny2, .bool inf] 26)).cell? ⟨wj.heap.size, 0, none⟩ = some (.slice nx0 nx1 nx2) := HB8.out.cell 0 0 (Nat.le_of_ble_eq_true rfl) (Nat.le_of_ble_eq_true rfl)
  have k8_1 : (wj.alloc (.cells #[.slice nx0 nx1 nx2, .slice ny0 ny1 ny2, .bool inf] 26)).cell? ⟨wj.heap.size, 1, none⟩ = some (.slice ny0 ny1 ny2) := HB8.out.cell 0 1 (Nat.le_of_ble_eq_true rfl) (Nat.le_of_ble_eq_true rfl)
  have k8_2 : (wj.alloc (.cells #[.slice nx0 nx1 nx2, .slice ny0 ny1 ny2, .bool inf] 26)).cell? ⟨wj.heap.size, 2, none⟩ = some (.bool inf) := HB8.out.cell 0 2 (Nat.le_of_ble_eq_true rfl) (Nat.le_of_ble_eq_true rfl)
  go_wp2_with fail
  clear k0_0 k0_1 k0_2 k8_0 k8_1 k8_2
  generalize (wj.alloc (.cells #[.slice nx0 nx1 nx2, .slice ny0 ny1 ny2, .bool inf] 26)) = wv17 at *
  refine (add_ok hk _ _ _ _ X Y X (fS p 0 Y) inf inf _ (HB8.out.arg 0 (Nat.le_of_ble_eq_true rfl)) (HB8.out.arg 1 (Nat.le_of_ble_eq_true rfl)) (HB8.out.got 1 (Nat.le_of_ble_eq_true rfl)).nk.1 (HB8.out.got 0 (Nat.le_of_ble_eq_true rfl)).nk.1 o1 (onB_of HPM.out E8.out oN)).mono ?_
  rintro e wk ⟨r, rfl, hPa⟩
  rw [E8.out.1, C0.neg oP] at hPa
  obtain ⟨rfl, hB⟩ := hPa
  have Hwk : Hid (Lf w wk [(wj.heap.size, [.slice nx0 nx1 nx2, .slice ny0 ny1 ny2, .bool inf]), (wi.heap.size, [.slice x7_0 x7_1 x7_2, .slice y7_0 y7_1 y7_2, .bool f7]), (wh.heap.size, [.slice x6_0 x6_1 x6_2, .slice y6_0 y6_1 y6_2, .bool f6]), (wg.heap.size, [.slice x5_0 x5_1 x5_2, .slice y5_0 y5_1 y5_2, .bool f5]), (wf.heap.size, [.slice x4_0 x4_1 x4_2, .slice y4_0 y4_1 y4_2, .bool f4]), (we.heap.size, [.slice x3_0 x3_1 x3_2, .slice y3_0 y3_1 y3_2, .bool f3]), (w.heap.size + 2, [.slice s0 s1 s2, .slice t0 t1 t2, .bool knf]), (w.heap.size + 1, [.slice u0 u1 u2, .slice v0 v1 v2, .bool jnf]), (w.heap.size, [.slice x0 x1 x2, .slice y0 y1 y2, .bool inf])] [(.slice x0 x1 x2, X), (.slice y0 y1 y2, Y), (.slice u0 u1 u2, U), (.slice v0 v1 v2, V), (.slice s0 s1 s2, S), (.slice t0 t1 t2, T)] [(.slice ny0 ny1 ny2, fS p 0 Y), (.slice nx0 nx1 nx2, X), (.slice y7_0 y7_1 y7_2, Y7), (.slice x7_0 x7_1 x7_2, X7), (.slice y6_0 y6_1 y6_2, Y6), (.slice x6_0 x6_1 x6_2, X6), (.slice y5_0 y5_1 y5_2, Y5), (.slice x5_0 x5_1 x5_2, X5), (.slice y4_0 y4_1 y4_2, Y4), (.slice x4_0 x4_1 x4_2, X4), (.slice y3_0 y3_1 y3_2, Y3), (.slice x3_0 x3_1 x3_2, X3)]) := (HB8.out.below hB)
  clear hB
  have HB9 : Hid (Lf w (wk.alloc (.cells #[.slice none 0 0, .slice none 0 0, .bool true] 26)) [(wk.heap.size, [.slice none 0 0, .slice none 0 0, .bool true]), (wj.heap.size, [.slice nx0 nx1 nx2, .slice ny0 ny1 ny2, .bool inf]), (wi.heap.size, [.slice x7_0 x7_1 x7_2, .slice y7_0 y7_1 y7_2, .bool f7]), (wh.heap.size, [.slice x6_0 x6_1 x6_2, .slice y6_0 y6_1 y6_2, .bool f6]), (wg.heap.size, [.slice x5_0 x5_1 x5_2, .slice y5_0 y5_1 y5_2, .bool f5]), (wf.heap.size, [.slice x4_0 x4_1 x4_2, .slice y4_0 y4_1 y4_2, .bool f4]), (we.heap.size, [.slice x3_0 x3_1 x3_2, .slice y3_0 y3_1 y3_2, .bool f3]), (w.heap.size + 2, [.slice s0 s1 s2, .slice t0 t1 t2, .bool knf]), (w.heap.size + 1, [.slice u0 u1 u2, .slice v0 v1 v2, .bool jnf]), (w.heap.size, [.slice x0 x1 x2, .slice y0 y1 y2, .bool inf])] [(.slice x0 x1 x2, X), (.slice y0 y1 y2, Y), (.slice u0 u1 u2, U), (.slice v0 v1 v2, V), (.slice s0 s1 s2, S), (.slice t0 t1 t2, T)] [(.slice ny0 ny1 ny2, fS p 0 Y), (.slice nx0 nx1 nx2, X), (.slice y7_0 y7_1 y7_2, Y7), (.slice x7_0 x7_1 x7_2, X7), (.slice y6_0 y6_1 y6_2, Y6), (.slice x6_0 x6_1 x6_2, X6), (.slice y5_0 y5_1 y5_2, Y5), (.slice x5_0 x5_1 x5_2, X5), (.slice y4_0 y4_1 y4_2, Y4), (.slice x4_0 x4_1 x4_2, X4), (.slice y3_0 y3_1 y3_2, Y3), (.slice x3_0 x3_1 x3_2, X3)]) := Hwk.out.box [.slice none 0 0, .slice none 0 0, .bool true]
  have k3_0 : (wk.alloc (.cells #[.slice none 0 0, .slice none 0 0, .bool true] 26)).cell? ⟨we.heap.size, 0, none⟩ = some (.slice x3_0 x3_1 x3_2) := HB9.out.cell 6 0 (Nat.le_of_ble_eq_true rfl) (Nat.le_of_ble_eq_true rfl)
  have k3_1 : (wk.alloc (.cells #[.slice none 0 0, .slice none 0 0, .bool true] 26)).cell? ⟨we.heap.size, 1, none⟩ = some (.slice y3_0 y3_1 y3_2) := HB9.out.cell 6 1 (Nat.le_of_ble_eq_true rfl) (Nat.le_of_ble_eq_true rfl)
  have k3_2 : (wk.alloc (.cells #[.slice none 0 0, .slice none 0 0, .bool true] 26)).cell? ⟨we.heap.size, 2, none⟩ = some (.bool f3) := HB9.out.cell 6 2 (Nat.le_of_ble_eq_true rfl) (Nat.le_of_ble_eq_true rfl)
  have k9_0 : (wk.alloc (.cells #[.slice none 0 0, .slice none 0 0, .bool true] 26)).cell? ⟨wk.heap.size, 0, none⟩ = some (.slice none 0 0) := HB9.out.cell 0 0 (Nat.le_of_ble_eq_true rfl) (Nat.le_of_ble_eq_true rfl)
  have k9_1 : (wk.alloc (.cells #[.slice none 0 0, .slice none 0 0, .bool true] 26)).cell? ⟨wk.heap.size, 1, none⟩ = some (.slice none 0 0) := HB9.out.cell 0 1 (Nat.le_of_ble_eq_true rfl) (Nat.le_of_ble_eq_true rfl)
  have k9_2 : (wk.alloc (.cells #[.slice none 0 0, .slice none 0 0, .bool true] 26)).cell? ⟨wk.heap.size, 2, none⟩ = some (.bool true) := HB9.out.cell 0 2 (Nat.le_of_ble_eq_true rfl) (Nat.le_of_ble_eq_true rfl)
  go_wp2_with fail
  clear k3_0 k3_1 k3_2 k9_0 k9_1 k9_2
  generalize (wk.alloc (.cells #[.slice none 0 0, .slice none 0 0, .bool true] 26)) = wv19 at *
  refine (add_ok hk _ _ _ _ X3 Y3 0 0 f3 true _ (HB9.out.got 11 (Nat.le_of_ble_eq_true rfl)).nk.1 (HB9.out.got 10 (Nat.le_of_ble_eq_true rfl)).nk.1 (Nk.none _ 384).1 (Nk.none _ 384).1 (onB_of HPM.out E3.out (C0.son oP oQ)) (show onB p b 0 0 true = true from rfl)).mono ?_
  rintro e wl ⟨r, rfl, hPa⟩
  rw [E3.out.1, show ptO 0 0 true = .O from rfl, C0.zr (C0.son oP oQ)] at hPa
  have hB := hPa.bel
  obtain ⟨x10_0, y10_0, x10_1, x10_2, y10_1, y10_2, X10, Y10, f10, rfl, m1, m2, hpt, hz⟩ := hPa.open
  have E10 : Hid (ptO X10 Y10 f10 = (sm p (ptO X Y inf) (ptO U V jnf)) ∧ (f10 = true → X10 = 0 ∧ Y10 = 0)) := ⟨hpt, hz⟩
  have Hwl : Hid (Lf w wl [(wk.heap.size, [.slice none 0 0, .slice none 0 0, .bool true]), (wj.heap.size, [.slice nx0 nx1 nx2, .slice ny0 ny1 ny2, .bool inf]), (wi.heap.size, [.slice x7_0 x7_1 x7_2, .slice y7_0 y7_1 y7_2, .bool f7]), (wh.heap.size, [.slice x6_0 x6_1 x6_2, .slice y6_0 y6_1 y6_2, .bool f6]), (wg.heap.size, [.slice x5_0 x5_1 x5_2, .slice y5_0 y5_1 y5_2, .bool f5]), (wf.heap.size, [.slice x4_0 x4_1 x4_2, .slice y4_0 y4_1 y4_2, .bool f4]), (we.heap.size, [.slice x3_0 x3_1 x3_2, .slice y3_0 y3_1 y3_2, .bool f3]), (w.heap.size + 2, [.slice s0 s1 s2, .slice t0 t1 t2, .bool knf]), (w.heap.size + 1, [.slice u0 u1 u2, .slice v0 v1 v2, .bool jnf]), (w.heap.size, [.slice x0 x1 x2, .slice y0 y1 y2, .bool inf])] [(.slice x0 x1 x2, X), (.slice y0 y1 y2, Y), (.slice u0 u1 u2, U), (.slice v0 v1 v2, V), (.slice s0 s1 s2, S), (.slice t0 t1 t2, T)] [(.slice y10_0 y10_1 y10_2, Y10), (.slice x10_0 x10_1 x10_2, X10), (.slice ny0 ny1 ny2, fS p 0 Y), (.slice nx0 nx1 nx2, X), (.slice y7_0 y7_1 y7_2, Y7), (.slice x7_0 x7_1 x7_2, X7), (.slice y6_0 y6_1 y6_2, Y6), (.slice x6_0 x6_1 x6_2, X6), (.slice y5_0 y5_1 y5_2, Y5), (.slice x5_0 x5_1 x5_2, X5), (.slice y4_0 y4_1 y4_2, Y4), (.slice x4_0 x4_1 x4_2, X4), (.slice y3_0 y3_1 y3_2, Y3), (.slice x3_0 x3_1 x3_2, X3)]) := (((HB9.out.below hB).res m1).res m2)
  clear hB m1 m2 hpt hz
  have HB10 : Hid (Lf w (wl.alloc (.cells #[.slice x10_0 x10_1 x10_2, .slice y10_0 y10_1 y10_2, .bool f10] 26)) [(wl.heap.size, [.slice x10_0 x10_1 x10_2, .slice y10_0 y10_1 y10_2, .bool f10]), (wk.heap.size, [.slice none 0 0, .slice none 0 0, .bool true]), (wj.heap.size, [.slice nx0 nx1 nx2, .slice ny0 ny1 ny2, .bool inf]), (wi.heap.size, [.slice x7_0 x7_1 x7_2, .slice y7_0 y7_1 y7_2, .bool f7]), (wh.heap.size, [.slice x6_0 x6_1 x6_2, .slice y6_0 y6_1 y6_2, .bool f6]), (wg.heap.size, [.slice x5_0 x5_1 x5_2, .slice y5_0 y5_1 y5_2, .bool f5]), (wf.heap.size, [.slice x4_0 x4_1 x4_2, .slice y4_0 y4_1 y4_2, .bool f4]), (we.heap.size, [.slice x3_0 x3_1 x3_2, .slice y3_0 y3_1 y3_2, .bool f3]), (w.heap.size + 2, [.slice s0 s1 s2, .slice t0 t1 t2, .bool knf]), (w.heap.size + 1, [.slice u0 u1 u2, .slice v0 v1 v2, .bool jnf]), (w.heap.size, [.slice x0 x1 x2, .slice y0 y1 y2, .bool inf])] [(.slice x0 x1 x2, X), (.slice y0 y1 y2, Y), (.slice u0 u1 u2, U), (.slice v0 v1 v2, V), (.slice s0 s1 s2, S), (.slice t0 t1 t2, T)] [(.slice y10_0 y10_1 y10_2, Y10), (.slice x10_0 x10_1 x10_2, X10), (.slice ny0 ny1 ny2, fS p 0 Y), (.slice nx0 nx1 nx2, X), (.slice y7_0 y7_1 y7_2, Y7), (.slice x7_0 x7_1 x7_2, X7), (.slice y6_0 y6_1 y6_2, Y6), (.slice x6_0 x6_1 x6_2, X6), (.slice y5_0 y5_1 y5_2, Y5), (.slice x5_0 x5_1 x5_2, X5), (.slice y4_0 y4_1 y4_2, Y4), (.slice x4_0 x4_1 x4_2, X4), (.slice y3_0 y3_1 y3_2, Y3), (.slice x3_0 x3_1 x3_2, X3)]) := Hwl.out.box [.slice x10_0 x10_1 x10_2, .slice y10_0 y10_1 y10_2, .bool f10]
  have k3_0 : (wl.alloc (.cells #[.slice x10_0 x10_1 x10_2, .slice y10_0 y10_1 y10_2, .bool f10] 26)).cell? ⟨we.heap.size, 0, none⟩ = some (.slice x3_0 x3_1 x3_2) := HB10.out.cell 7 0 (Nat.le_of_ble_eq_true rfl) (Nat.le_of_ble_eq_true rfl)
  have k3_1 : (wl.alloc (.cells #[.slice x10_0 x10_1 x10_2, .slice y10_0 y10_1 y10_2, .bool f10] 26)).cell? ⟨we.heap.size, 1, none⟩ = some (.slice y3_0 y3_1 y3_2) := HB10.out.cell 7 1 (Nat.le_of_ble_eq_true rfl) (Nat.le_of_ble_eq_true rfl)
  have k3_2 : (wl.alloc (.cells #[.slice x10_0 x10_1 x10_2, .slice y10_0 y10_1 y10_2, .bool f10] 26)).cell? ⟨we.heap.size, 2, none⟩ = some (.bool f3) := HB10.out.cell 7 2 (Nat.le_of_ble_eq_true rfl) (Nat.le_of_ble_eq_true rfl)
  have k8_0 : (wl.alloc (.cells #[.slice x10_0 x10_1 x10_2, .slice y10_0 y10_1 y10_2, .bool f10] 26)).cell? ⟨wj.heap.size, 0, none⟩ = some (.slice nx0 nx1 nx2) := HB10.out.cell 2 0 (Nat.le_of_ble_eq_true rfl) (Nat.le_of_ble_eq_true rfl)
  have k8_1 : (wl.alloc (.cells #[.slice x10_0 x10_1 x10_2, .slice y10_0 y10_1 y10_2, .bool f10] 26)).cell? ⟨wj.heap.size, 1, none⟩ = some (.slice ny0 ny1 ny2) := HB10.out.cell 2 1 (Nat.le_of_ble_eq_true rfl) (Nat.le_of_ble_eq_true rfl)
  have k8_2 : (wl.alloc (.cells #[.slice x10_0 x10_1 x10_2, .slice y10_0 y10_1 y10_2, .bool f10] 26)).cell? ⟨wj.heap.size, 2, none⟩ = some (.bool inf) := HB10.out.cell 2 2 (Nat.le_of_ble_eq_true rfl) (Nat.le_of_ble_eq_true rfl)
  go_wp2_with fail
  clear k3_0 k3_1 k3_2 k8_0 k8_1 k8_2
  generalize (wl.alloc (.cells #[.slice x10_0 x10_1 x10_2, .slice y10_0 y10_1 y10_2, .bool f10] 26)) = wv21 at *
  refine (add_ok hk _ _ _ _ X3 Y3 X (fS p 0 Y) f3 inf _ (HB10.out.got 13 (Nat.le_of_ble_eq_true rfl)).nk.1 (HB10.out.got 12 (Nat.le_of_ble_eq_true rfl)).nk.1 (HB10.out.got 3 (Nat.le_of_ble_eq_true rfl)).nk.1 (HB10.out.got 2 (Nat.le_of_ble_eq_true rfl)).nk.1 (onB_of HPM.out E3.out (C0.son oP oQ)) (onB_of HPM.out E8.out oN)).mono ?_
  rintro e wm ⟨r, rfl, hPa⟩
  rw [E3.out.1, E8.out.1, C0.comm oP oQ, C0.ass oQ oP oN, C0.neg oP, C0.zr oQ] at hPa
  have hB := hPa.bel
  obtain ⟨x11_0, y11_0, x11_1, x11_2, y11_1, y11_2, X11, Y11, f11, rfl, m1, m2, hpt, hz⟩ := hPa.open
  have E11 : Hid (ptO X11 Y11 f11 = (ptO U V jnf) ∧ (f11 = true → X11 = 0 ∧ Y11 = 0)) := ⟨hpt, hz⟩
  have Hwm : Hid (Lf w wm [(wl.heap.size, [.slice x10_0 x10_1 x10_2, .slice y10_0 y10_1 y10_2, .bool f10]), (wk.heap.size, [.slice none 0 0, .slice none 0 0, .bool true]), (wj.heap.size, [.slice nx0 nx1 nx2, .slice ny0 ny1 ny2, .bool inf]), (wi.heap.size, [.slice x7_0 x7_1 x7_2, .slice y7_0 y7_1 y7_2, .bool f7]), (wh.heap.size, [.slice x6_0 x6_1 x6_2, .slice y6_0 y6_1 y6_2, .bool f6]), (wg.heap.size, [.slice x5_0 x5_1 x5_2, .slice y5_0 y5_1 y5_2, .bool f5]), (wf.heap.size, [.slice x4_0 x4_1 x4_2, .slice y4_0 y4_1 y4_2, .bool f4]), (we.heap.size, [.slice x3_0 x3_1 x3_2, .slice y3_0 y3_1 y3_2, .bool f3]), (w.heap.size + 2, [.slice s0 s1 s2, .slice t0 t1 t2, .bool knf]), (w.heap.size + 1, [.slice u0 u1 u2, .slice v0 v1 v2, .bool jnf]), (w.heap.size, [.slice x0 x1 x2, .slice y0 y1 y2, .bool inf])] [(.slice x0 x1 x2, X), (.slice y0 y1 y2, Y), (.slice u0 u1 u2, U), (.slice v0 v1 v2, V), (.slice s0 s1 s2, S), (.slice t0 t1 t2, T)] [(.slice y11_0 y11_1 y11_2, Y11), (.slice x11_0 x11_1 x11_2, X11), (.slice y10_0 y10_1 y10_2, Y10), (.slice x10_0 x10_1 x10_2, X10), (.slice ny0 ny1 ny2, fS p 0 Y), (.slice nx0 nx1 nx2, X), (.slice y7_0 y7_1 y7_2, Y7), (.slice x7_0 x7_1 x7_2, X7), (.slice y6_0 y6_1 y6_2, Y6), (.slice x6_0 x6_1 x6_2, X6), (.slice y5_0 y5_1 y5_2, Y5), (.slice x5_0 x5_1 x5_2, X5), (.slice y4_0 y4_1 y4_2, Y4), (.slice x4_0 x4_1 x4_2, X4), (.slice y3_0 y3_1 y3_2, Y3), (.slice x3_0 x3_1 x3_2, X3)]) := (((HB10.out.below hB).res m1).res m2)
  clear hB m1 m2 hpt hz
  have HB11 : Hid (Lf w (wm.alloc (.cells #[.slice x11_0 x11_1 x11_2, .slice y11_0 y11_1 y11_2, .bool f11] 26)) [(wm.heap.size, [.slice x11_0 x11_1 x11_2, .slice y11_0 y11_1 y11_2, .bool f11]), (wl.heap.size, [.slice x10_0 x10_1 x10_2, .slice y10_0 y10_1 y10_2, .bool f10]), (wk.heap.size, [.slice none 0 0, .slice none 0 0, .bool true]), (wj.heap.size, [.slice nx0 nx1 nx2, .slice ny0 ny1 ny2, .bool inf]), (wi.heap.size, [.slice x7_0 x7_1 x7_2, .slice y7_0 y7_1 y7_2, .bool f7]), (wh.heap.size, [.slice x6_0 x6_1 x6_2, .slice y6_0 y6_1 y6_2, .bool f6]), (wg.heap.size, [.slice x5_0 x5_1 x5_2, .slice y5_0 y5_1 y5_2, .bool f5]), (wf.heap.size, [.slice x4_0 x4_1 x4_2, .slice y4_0 y4_1 y4_2, .bool f4]), (we.heap.size, [.slice x3_0 x3_1 x3_2, .slice y3_0 y3_1 y3_2, .bool f3]), (w.heap.size + 2, [.slice s0 s1 s2, .slice t0 t1 t2, .bool knf]), (w.heap.size + 1, [.slice u0 u1 u2, .slice v0 v1 v2, .bool jnf]), (w.heap.size, [.slice x0 x1 x2, .slice y0 y1 y2, .bool inf])] [(.slice x0 x1 x2, X), (.slice y0 y1 y2, Y), (.slice u0 u1 u2, U), (.slice v0 v1 v2, V), (.slice s0 s1 s2, S), (.slice t0 t1 t2, T)] [(.slice y11_0 y11_1 y11_2, Y11), (.slice x11_0 x11_1 x11_2, X11), (.slice y10_0 y10_1 y10_2, Y10), (.slice x10_0 x10_1 x10_2, X10), (.slice ny0 ny1 ny2, fS p 0 Y), (.slice nx0 nx1 nx2, X), (.slice y7_0 y7_1 y7_2, Y7), (.slice x7_0 x7_1 x7_2, X7), (.slice y6_0 y6_1 y6_2, Y6), (.slice x6_0 x6_1 x6_2, X6), (.slice y5_0 y5_1 y5_2, Y5), (.slice x5_0 x5_1 x5_2, X5), (.slice y4_0 y4_1 y4_2, Y4), (.slice x4_0 x4_1 x4_2, X4), (.slice y3_0 y3_1 y3_2, Y3), (.slice x3_0 x3_1 x3_2, X3)]) := Hwm.out.box [.slice x11_0 x11_1 x11_2, .slice y11_0 y11_1 y11_2, .bool f11]
  have k1_0 : (wm.alloc (.cells #[.slice x11_0 x11_1 x11_2, .slice y11_0 y11_1 y11_2, .bool f11] 26)).cell? ⟨w.heap.size + 1, 0, none⟩ = some (.slice u0 u1 u2) := HB11.out.cell 10 0 (Nat.le_of_ble_eq_true rfl) (Nat.le_of_ble_eq_true rfl)
  have k1_1 : (wm.alloc (.cells #[.slice x11_0 x11_1 x11_2, .slice y11_0 y11_1 y11_2, .bool f11] 26)).cell? ⟨w.heap.size + 1, 1, none⟩ = some (.slice v0 v1 v2) := HB11.out.cell 10 1 (Nat.le_of_ble_eq_true rfl) (Nat.le_of_ble_eq_true rfl)
  have k1_2 : (wm.alloc (.cells #[.slice x11_0 x11_1 x11_2, .slice y11_0 y11_1 y11_2, .bool f11] 26)).cell? ⟨w.heap.size + 1, 2, none⟩ = some (.bool jnf) := HB11.out.cell 10 2 (Nat.le_of_ble_eq_true rfl) (Nat.le_of_ble_eq_true rfl)
  go_wp2_with fail
  clear k1_0 k1_1 k1_2
  generalize (wm.alloc (.cells #[.slice x11_0 x11_1 x11_2, .slice y11_0 y11_1 y11_2, .bool f11] 26)) = wv23 at *
  refine (add_ok hk _ _ _ _ U V 0 0 jnf true _ (HB11.out.arg 2 (Nat.le_of_ble_eq_true rfl)) (HB11.out.arg 3 (Nat.le_of_ble_eq_true rfl)) (Nk.none _ 384).1 (Nk.none _ 384).1 o2 (show onB p b 0 0 true = true from rfl)).mono ?_
  rintro e wn ⟨r, rfl, hPa⟩
  rw [show ptO 0 0 true = .O from rfl, C0.zr oQ] at hPa
  have hB := hPa.bel
  obtain ⟨x12_0, y12_0, x12_1, x12_2, y12_1, y12_2, X12, Y12, f12, rfl, m1, m2, hpt, hz⟩ := hPa.open
  have E12 : Hid (ptO X12 Y12 f12 = (ptO U V jnf) ∧ (f12 = true → X12 = 0 ∧ Y12 = 0)) := ⟨hpt, hz⟩
  have Hwn : Hid (Lf w wn [(wm.heap.size, [.slice x11_0 x11_1 x11_2, .slice y11_0 y11_1 y11_2, .bool f11]), (wl.heap.size, [.slice x10_0 x10_1 x10_2, .slice y10_0 y10_1 y10_2, .bool f10]), (wk.heap.size, [.slice none 0 0, .slice none 0 0, .bool true]), (wj.heap.size, [.slice nx0 nx1 nx2, .slice ny0 ny1 ny2, .bool inf]), (wi.heap.size, [.slice x7_0 x7_1 x7_2, .slice y7_0 y7_1 y7_2, .bool f7]), (wh.heap.size, [.slice x6_0 x6_1 x6_2, .slice y6_0 y6_1 y6_2, .bool f6]), (wg.heap.size, [.slice x5_0 x5_1 x5_2, .slice y5_0 y5_1 y5_2, .bool f5]), (wf.heap.size, [.slice x4_0 x4_1 x4_2, .slice y4_0 y4_1 y4_2, .bool f4]), (we.heap.size, [.slice x3_0 x3_1 x3_2, .slice y3_0 y3_1 y3_2, .bool f3]), (w.heap.size + 2, [.slice s0 s1 s2, .slice t0 t1 t2, .bool knf]), (w.heap.size + 1, [.slice u0 u1 u2, .slice v0 v1 v2, .bool jnf]), (w.heap.size, [.slice x0 x1 x2, .slice y0 y1 y2, .bool inf])] [(.slice x0 x1 x2, X), (.slice y0 y1 y2, Y), (.slice u0 u1 u2, U), (.slice v0 v1 v2, V), (.slice s0 s1 s2, S), (.slice t0 t1 t2, T)] [(.slice y12_0 y12_1 y12_2, Y12), (.slice x12_0 x12_1 x12_2, X12), (.slice y11_0 y11_1 y11_2, Y11), (.slice x11_0 x11_1 x11_2, X11), (.slice y10_0 y10_1 y10_2, Y10), (.slice x10_0 x10_1 x10_2, X10), (.slice ny0 ny1 ny2, fS p 0 Y), (.slice nx0 nx1 nx2, X), (.slice y7_0 y7_1 y7_2, Y7), (.slice x7_0 x7_1 x7_2, X7), (.slice y6_0 y6_1 y6_2, Y6), (.slice x6_0 x6_1 x6_2, X6), (.slice y5_0 y5_1 y5_2, Y5), (.slice x5_0 x5_1 x5_2, X5), (.slice y4_0 y4_1 y4_2, Y4), (.slice x4_0 x4_1 x4_2, X4), (.slice y3_0 y3_1 y3_2, Y3), (.slice x3_0 x3_1 x3_2, X3)]) := (((HB11.out.below hB).res m1).res m2)
  clear hB m1 m2 hpt hz
  have HB12 : Hid (Lf w (wn.alloc (.cells #[.slice x12_0 x12_1 x12_2, .slice y12_0 y12_1 y12_2, .bool f12] 26)) [(wn.heap.size, [.slice x12_0 x12_1 x12_2, .slice y12_0 y12_1 y12_2, .bool f12]), (wm.heap.size, [.slice x11_0 x11_1 x11_2, .slice y11_0 y11_1 y11_2, .bool f11]), (wl.heap.size, [.slice x10_0 x10_1 x10_2, .slice y10_0 y10_1 y10_2, .bool f10]), (wk.heap.size, [.slice none 0 0, .slice none 0 0, .bool true]), (wj.heap.size, [.slice nx0 nx1 nx2, .slice ny0 ny1 ny2, .bool inf]), (wi.heap.size, [.slice x7_0 x7_1 x7_2, .slice y7_0 y7_1 y7_2, .bool f7]), (wh.heap.size, [.slice x6_0 x6_1 x6_2, .slice y6_0 y6_1 y6_2, .bool f6]), (wg.heap.size, [.slice x5_0 x5_1 x5_2, .slice y5_0 y5_1 y5_2, .bool f5]), (wf.heap.size, [.slice x4_0 x4_1 x4_2, .slice y4_0 y4_1 y4_2, .bool f4]), (we.heap.size, [.slice x3_0 x3_1 x3_2, .slice y3_0 y3_1 y3_2, .bool f3]), (w.heap.size + 2, [.slice s0 s1 s2, .slice t0 t1 t2, .bool knf]), (w.heap.size + 1, [.slice u0 u1 u2, .slice v0 v1 v2, .bool jnf]), (w.heap.size, [.slice x0 x1 x2, .slice y0 y1 y2, .bool inf])] [(.slice x0 x1 x2, X), (.slice y0 y1 y2, Y), (.slice u0 u1 u2, U), (.slice v0 v1 v2, V), (.slice s0 s1 s2, S), (.slice t0 t1 t2, T)] [(.slice y12_0 y12_1 y12_2, Y12), (.slice x12_0 x12_1 x12_2, X12), (.slice y11_0 y11_1 y11_2, Y11), (.slice x11_0 x11_1 x11_2, X11), (.slice y10_0 y10_1 y10_2, Y10), (.slice x10_0 x10_1 x10_2, X10), (.slice ny0 ny1 ny2, fS p 0 Y), (.slice nx0 nx1 nx2, X), (.slice y7_0 y7_1 y7_2, Y7), (.slice x7_0 x7_1 x7_2, X7), (.slice y6_0 y6_1 y6_2, Y6), (.slice x6_0 x6_1 x6_2, X6), (.slice y5_0 y5_1 y5_2, Y5), (.slice x5_0 x5_1 x5_2, X5), (.slice y4_0 y4_1 y4_2, Y4), (.slice x4_0 x4_1 x4_2, X4), (.slice y3_0 y3_1 y3_2, Y3), (.slice x3_0 x3_1 x3_2, X3)]) := Hwn.out.box [.slice x12_0 x12_1 x12_2, .slice y12_0 y12_1 y12_2, .bool f12]
  have k3_0 : (wn.alloc (.cells #[.slice x12_0 x12_1 x12_2, .slice y12_0 y12_1 y12_2, .bool f12] 26)).cell? ⟨we.heap.size, 0, none⟩ = some (.slice x3_0 x3_1 x3_2) := HB12.out.cell 9 0 (Nat.le_of_ble_eq_true rfl) (Nat.le_of_ble_eq_true rfl)
  have k3_1 : (wn.alloc (.cells #[.slice x12_0 x12_1 x12_2, .slice y12_0 y12_1 y12_2, .bool f12] 26)).cell? ⟨we.heap.size, 1, none⟩ = some (.slice y3_0 y3_1 y3_2) := HB12.out.cell 9 1 (Nat.le_of_ble_eq_true rfl) (Nat.le_of_ble_eq_true rfl)
  have k3_2 : (wn.alloc (.cells #[.slice x12_0 x12_1 x12_2, .slice y12_0 y12_1 y12_2, .bool f12] 26)).cell? ⟨we.heap.size, 2, none⟩ = some (.bool f3) := HB12.out.cell 9 2 (Nat.le_of_ble_eq_true rfl) (Nat.le_of_ble_eq_true rfl)
  have k4_0 : (wn.alloc (.cells #[.slice x12_0 x12_1 x12_2, .slice y12_0 y12_1 y12_2, .bool f12] 26)).cell? ⟨wf.heap.size, 0, none⟩ = some (.slice x4_0 x4_1 x4_2) := HB12.out.cell 8 0 (Nat.le_of_ble_eq_true rfl) (Nat.le_of_ble_eq_true rfl)
  have k4_1 : (wn.alloc (.cells #[.slice x12_0 x12_1 x12_2, .slice y12_0 y12_1 y12_2, .bool f12] 26)).cell? ⟨wf.heap.size, 1, none⟩ = some (.slice y4_0 y4_1 y4_2) := HB12.out.cell 8 1 (Nat.le_of_ble_eq_true rfl) (Nat.le_of_ble_eq_true rfl)
  have k4_2 : (wn.alloc (.cells #[.slice x12_0 x12_1 x12_2, .slice y12_0 y12_1 y12_2, .bool f12] 26)).cell? ⟨wf.heap.size, 2, none⟩ = some (.bool f4) := HB12.out.cell 8 2 (Nat.le_of_ble_eq_true rfl) (Nat.le_of_ble_eq_true rfl)
  go_wp2_with fail
  clear k3_0 k3_1 k3_2 k4_0 k4_1 k4_2
  generalize (wn.alloc (.cells #[.slice x12_0 x12_1 x12_2, .slice y12_0 y12_1 y12_2, .bool f12] 26)) = wv25 at *
  refine (same_pt _ _ _ _ X3 Y3 X4 Y4 f3 f4 _ _ (HB12.out.got 17 (Nat.le_of_ble_eq_true rfl)) (HB12.out.got 16 (Nat.le_of_ble_eq_true rfl)) (HB12.out.got 15 (Nat.le_of_ble_eq_true rfl)) (HB12.out.got 14 (Nat.le_of_ble_eq_true rfl)) E3.out E4.out).mono ?_
  rintro e wo ⟨rfl, hB⟩
  have Hwo : Hid (Lf w wo [(wn.heap.size, [.slice x12_0 x12_1 x12_2, .slice y12_0 y12_1 y12_2, .bool f12]), (wm.heap.size, [.slice x11_0 x11_1 x11_2, .slice y11_0 y11_1 y11_2, .bool f11]), (wl.heap.size, [.slice x10_0 x10_1 x10_2, .slice y10_0 y10_1 y10_2, .bool f10]), (wk.heap.size, [.slice none 0 0, .slice none 0 0, .bool true]), (wj.heap.size, [.slice nx0 nx1 nx2, .slice ny0 ny1 ny2, .bool inf]), (wi.heap.size, [.slice x7_0 x7_1 x7_2, .slice y7_0 y7_1 y7_2, .bool f7]), (wh.heap.size, [.slice x6_0 x6_1 x6_2, .slice y6_0 y6_1 y6_2, .bool f6]), (wg.heap.size, [.slice x5_0 x5_1 x5_2, .slice y5_0 y5_1 y5_2, .bool f5]), (wf.heap.size, [.slice x4_0 x4_1 x4_2, .slice y4_0 y4_1 y4_2, .bool f4]), (we.heap.size, [.slice x3_0 x3_1 x3_2, .slice y3_0 y3_1 y3_2, .bool f3]), (w.heap.size + 2, [.slice s0 s1 s2, .slice t0 t1 t2, .bool knf]), (w.heap.size + 1, [.slice u0 u1 u2, .slice v0 v1 v2, .bool jnf]), (w.heap.size, [.slice x0 x1 x2, .slice y0 y1 y2, .bool inf])] [(.slice x0 x1 x2, X), (.slice y0 y1 y2, Y), (.slice u0 u1 u2, U), (.slice v0 v1 v2, V), (.slice s0 s1 s2, S), (.slice t0 t1 t2, T)] [(.slice y12_0 y12_1 y12_2, Y12), (.slice x12_0 x12_1 x12_2, X12), (.slice y11_0 y11_1 y11_2, Y11), (.slice x11_0 x11_1 x11_2, X11), (.slice y10_0 y10_1 y10_2, Y10), (.slice x10_0 x10_1 x10_2, X10), (.slice ny0 ny1 ny2, fS p 0 Y), (.slice nx0 nx1 nx2, X), (.slice y7_0 y7_1 y7_2, Y7), (.slice x7_0 x7_1 x7_2, X7), (.slice y6_0 y6_1 y6_2, Y6), (.slice x6_0 x6_1 x6_2, X6), (.slice y5_0 y5_1 y5_2, Y5), (.slice x5_0 x5_1 x5_2, X5), (.slice y4_0 y4_1 y4_2, Y4), (.slice x4_0 x4_1 x4_2, X4), (.slice y3_0 y3_1 y3_2, Y3), (.slice x3_0 x3_1 x3_2, X3)]) := (HB12.out.below hB)
  clear hB
  have k5_0 : wo.cell? ⟨wg.heap.size, 0, none⟩ = some (.slice x5_0 x5_1 x5_2) := Hwo.out.cell 7 0 (Nat.le_of_ble_eq_true rfl) (Nat.le_of_ble_eq_true rfl)
  have k5_1 : wo.cell? ⟨wg.heap.size, 1, none⟩ = some (.slice y5_0 y5_1 y5_2) := Hwo.out.cell 7 1 (Nat.le_of_ble_eq_true rfl) (Nat.le_of_ble_eq_true rfl)
  have k5_2 : wo.cell? ⟨wg.heap.size, 2, none⟩ = some (.bool f5) := Hwo.out.cell 7 2 (Nat.le_of_ble_eq_true rfl) (Nat.le_of_ble_eq_true rfl)
  have k7_0 : wo.cell? ⟨wi.heap.size, 0, none⟩ = some (.slice x7_0 x7_1 x7_2) := Hwo.out.cell 5 0 (Nat.le_of_ble_eq_true rfl) (Nat.le_of_ble_eq_true rfl)
  have k7_1 : wo.cell? ⟨wi.heap.size, 1, none⟩ = some (.slice y7_0 y7_1 y7_2) := Hwo.out.cell 5 1 (Nat.le_of_ble_eq_true rfl) (Nat.le_of_ble_eq_true rfl)
  have k7_2 : wo.cell? ⟨wi.heap.size, 2, none⟩ = some (.bool f7) := Hwo.out.cell 5 2 (Nat.le_of_ble_eq_true rfl) (Nat.le_of_ble_eq_true rfl)
  go_wp2_with fail
  clear k5_0 k5_1 k5_2 k7_0 k7_1 k7_2
  refine (same_pt _ _ _ _ X5 Y5 X7 Y7 f5 f7 _ _ (Hwo.out.got 13 (Nat.le_of_ble_eq_true rfl)) (Hwo.out.got 12 (Nat.le_of_ble_eq_true rfl)) (Hwo.out.got 9 (Nat.le_of_ble_eq_true rfl)) (Hwo.out.got 8 (Nat.le_of_ble_eq_true rfl)) E5.out E7.out).mono ?_
  rintro e wp ⟨rfl, hB⟩
  have Hwp : Hid (Lf w wp [(wn.heap.size, [.slice x12_0 x12_1 x12_2, .slice y12_0 y12_1 y12_2, .bool f12]), (wm.heap.size, [.slice x11_0 x11_1 x11_2, .slice y11_0 y11_1 y11_2, .bool f11]), (wl.heap.size, [.slice x10_0 x10_1 x10_2, .slice y10_0 y10_1 y10_2, .bool f10]), (wk.heap.size, [.slice none 0 0, .slice none 0 0, .bool true]), (wj.heap.size, [.slice nx0 nx1 nx2, .slice ny0 ny1 ny2, .bool inf]), (wi.heap.size, [.slice x7_0 x7_1 x7_2, .slice y7_0 y7_1 y7_2, .bool f7]), (wh.heap.size, [.slice x6_0 x6_1 x6_2, .slice y6_0 y6_1 y6_2, .bool f6]), (wg.heap.size, [.slice x5_0 x5_1 x5_2, .slice y5_0 y5_1 y5_2, .bool f5]), (wf.heap.size, [.slice x4_0 x4_1 x4_2, .slice y4_0 y4_1 y4_2, .bool f4]), (we.heap.size, [.slice x3_0 x3_1 x3_2, .slice y3_0 y3_1 y3_2, .bool f3]), (w.heap.size + 2, [.slice s0 s1 s2, .slice t0 t1 t2, .bool knf]), (w.heap.size + 1, [.slice u0 u1 u2, .slice v0 v1 v2, .bool jnf]), (w.heap.size, [.slice x0 x1 x2, .slice y0 y1 y2, .bool inf])] [(.slice x0 x1 x2, X), (.slice y0 y1 y2, Y), (.slice u0 u1 u2, U), (.slice v0 v1 v2, V), (.slice s0 s1 s2, S), (.slice t0 t1 t2, T)] [(.slice y12_0 y12_1 y12_2, Y12), (.slice x12_0 x12_1 x12_2, X12), (.slice y11_0 y11_1 y11_2, Y11), (.slice x11_0 x11_1 x11_2, X11), (.slice y10_0 y10_1 y10_2, Y10), (.slice x10_0 x10_1 x10_2, X10), (.slice ny0 ny1 ny2, fS p 0 Y), (.slice nx0 nx1 nx2, X), (.slice y7_0 y7_1 y7_2, Y7), (.slice x7_0 x7_1 x7_2, X7), (.slice y6_0 y6_1 y6_2, Y6), (.slice x6_0 x6_1 x6_2, X6), (.slice y5_0 y5_1 y5_2, Y5), (.slice x5_0 x5_1 x5_2, X5), (.slice y4_0 y4_1 y4_2, Y4), (.slice x4_0 x4_1 x4_2, X4), (.slice y3_0 y3_1 y3_2, Y3), (.slice x3_0 x3_1 x3_2, X3)]) := (Hwo.out.below hB)
  clear hB
  have k3_0 : wp.cell? ⟨we.heap.size, 0, none⟩ = some (.slice x3_0 x3_1 x3_2) := Hwp.out.cell 9 0 (Nat.le_of_ble_eq_true rfl) (Nat.le_of_ble_eq_true rfl)
  have k3_1 : wp.cell? ⟨we.heap.size, 1, none⟩ = some (.slice y3_0 y3_1 y3_2) := Hwp.out.cell 9 1 (Nat.le_of_ble_eq_true rfl) (Nat.le_of_ble_eq_true rfl)
  have k3_2 : wp.cell? ⟨we.heap.size, 2, none⟩ = some (.bool f3) := Hwp.out.cell 9 2 (Nat.le_of_ble_eq_true rfl) (Nat.le_of_ble_eq_true rfl)
  have k9_0 : wp.cell? ⟨wk.heap.size, 0, none⟩ = some (.slice none 0 0) := Hwp.out.cell 3 0 (Nat.le_of_ble_eq_true rfl) (Nat.le_of_ble_eq_true rfl)
  have k9_1 : wp.cell? ⟨wk.heap.size, 1, none⟩ = some (.slice none 0 0) := Hwp.out.cell 3 1 (Nat.le_of_ble_eq_true rfl) (Nat.le_of_ble_eq_true rfl)
  have k9_2 : wp.cell? ⟨wk.heap.size, 2, none⟩ = some (.bool true) := Hwp.out.cell 3 2 (Nat.le_of_ble_eq_true rfl) (Nat.le_of_ble_eq_true rfl)
  have k10_0 : wp.cell? ⟨wl.heap.size, 0, none⟩ = some (.slice x10_0 x10_1 x10_2) := Hwp.out.cell 2 0 (Nat.le_of_ble_eq_true rfl) (Nat.le_of_ble_eq_true rfl)
  have k10_1 : wp.cell? ⟨wl.heap.size, 1, none⟩ = some (.slice y10_0 y10_1 y10_2) := Hwp.out.cell 2 1 (Nat.le_of_ble_eq_true rfl) (Nat.le_of_ble_eq_true rfl)
  have k10_2 : wp.cell? ⟨wl.heap.size, 2, none⟩ = some (.bool f10) := Hwp.out.cell 2 2 (Nat.le_of_ble_eq_true rfl) (Nat.le_of_ble_eq_true rfl)
  go_wp2_with fail
  clear k3_0 k3_1 k3_2 k9_0 k9_1 k9_2 k10_0 k10_1 k10_2
  refine (same_pt _ _ _ _ X10 Y10 X3 Y3 f10 f3 _ _ (Hwp.out.got 5 (Nat.le_of_ble_eq_true rfl)) (Hwp.out.got 4 (Nat.le_of_ble_eq_true rfl)) (Hwp.out.got 17 (Nat.le_of_ble_eq_true rfl)) (Hwp.out.got 16 (Nat.le_of_ble_eq_true rfl)) E10.out E3.out).mono ?_
  rintro e wq ⟨rfl, hB⟩
  have Hwq : Hid (Lf w wq [(wn.heap.size, [.slice x12_0 x12_1 x12_2, .slice y12_0 y12_1 y12_2, .bool f12]), (wm.heap.size, [.slice x11_0 x11_1 x11_2, .slice y11_0 y11_1 y11_2, .bool f11]), (wl.heap.size, [.slice x10_0 x10_1 x10_2, .slice y10_0 y10_1 y10_2, .bool f10]), (wk.heap.size, [.slice none 0 0, .slice none 0 0, .bool true]), (wj.heap.size, [.slice nx0 nx1 nx2, .slice ny0 ny1 ny2, .bool inf]), (wi.heap.size, [.slice x7_0 x7_1 x7_2, .slice y7_0 y7_1 y7_2, .bool f7]), (wh.heap.size, [.slice x6_0 x6_1 x6_2, .slice y6_0 y6_1 y6_2, .bool f6]), (wg.heap.size, [.slice x5_0 x5_1 x5_2, .slice y5_0 y5_1 y5_2, .bool f5]), (wf.heap.size, [.slice x4_0 x4_1 x4_2, .slice y4_0 y4_1 y4_2, .bool f4]), (we.heap.size, [.slice x3_0 x3_1 x3_2, .slice y3_0 y3_1 y3_2, .bool f3]), (w.heap.size + 2, [.slice s0 s1 s2, .slice t0 t1 t2, .bool knf]), (w.heap.size + 1, [.slice u0 u1 u2, .slice v0 v1 v2, .bool jnf]), (w.heap.size, [.slice x0 x1 x2, .slice y0 y1 y2, .bool inf])] [(.slice x0 x1 x2, X), (.slice y0 y1 y2, Y), (.slice u0 u1 u2, U), (.slice v0 v1 v2, V), (.slice s0 s1 s2, S), (.slice t0 t1 t2, T)] [(.slice y12_0 y12_1 y12_2, Y12), (.slice x12_0 x12_1 x12_2, X12), (.slice y11_0 y11_1 y11_2, Y11), (.slice x11_0 x11_1 x11_2, X11), (.slice y10_0 y10_1 y10_2, Y10), (.slice x10_0 x10_1 x10_2, X10), (.slice ny0 ny1 ny2, fS p 0 Y), (.slice nx0 nx1 nx2, X), (.slice y7_0 y7_1 y7_2, Y7), (.slice x7_0 x7_1 x7_2, X7), (.slice y6_0 y6_1 y6_2, Y6), (.slice x6_0 x6_1 x6_2, X6), (.slice y5_0 y5_1 y5_2, Y5), (.slice x5_0 x5_1 x5_2, X5), (.slice y4_0 y4_1 y4_2, Y4), (.slice x4_0 x4_1 x4_2, X4), (.slice y3_0 y3_1 y3_2, Y3), (.slice x3_0 x3_1 x3_2, X3)]) := (Hwp.out.below hB)
  clear hB
  have k11_0 : wq.cell? ⟨wm.heap.size, 0, none⟩ = some (.slice x11_0 x11_1 x11_2) := Hwq.out.cell 1 0 (Nat.le_of_ble_eq_true rfl) (Nat.le_of_ble_eq_true rfl)
  have k11_1 : wq.cell? ⟨wm.heap.size, 1, none⟩ = some (.slice y11_0 y11_1 y11_2) := Hwq.out.cell 1 1 (Nat.le_of_ble_eq_true rfl) (Nat.le_of_ble_eq_true rfl)
  have k11_2 : wq.cell? ⟨wm.heap.size, 2, none⟩ = some (.bool f11) := Hwq.out.cell 1 2 (Nat.le_of_ble_eq_true rfl) (Nat.le_of_ble_eq_true rfl)
  have k12_0 : wq.cell? ⟨wn.heap.size, 0, none⟩ = some (.slice x12_0 x12_1 x12_2) := Hwq.out.cell 0 0 (Nat.le_of_ble_eq_true rfl) (Nat.le_of_ble_eq_true rfl)
  have k12_1 : wq.cell? ⟨wn.heap.size, 1, none⟩ = some (.slice y12_0 y12_1 y12_2) := Hwq.out.cell 0 1 (Nat.le_of_ble_eq_true rfl) (Nat.le_of_ble_eq_true rfl)
  have k12_2 : wq.cell? ⟨wn.heap.size, 2, none⟩ = some (.bool f12) := Hwq.out.cell 0 2 (Nat.le_of_ble_eq_true rfl) (Nat.le_of_ble_eq_true rfl)
  go_wp2_with fail
  clear k11_0 k11_1 k11_2 k12_0 k12_1 k12_2
  refine (same_pt _ _ _ _ X11 Y11 X12 Y12 f11 f12 _ _ (Hwq.out.got 3 (Nat.le_of_ble_eq_true rfl)) (Hwq.out.got 2 (Nat.le_of_ble_eq_true rfl)) (Hwq.out.got 1 (Nat.le_of_ble_eq_true rfl)) (Hwq.out.got 0 (Nat.le_of_ble_eq_true rfl)) E11.out E12.out).mono ?_
  rintro e wr ⟨rfl, hB⟩
  have Hwr : Hid (Lf w wr [(wn.heap.size, [.slice x12_0 x12_1 x12_2, .slice y12_0 y12_1 y12_2, .bool f12]), (wm.heap.size, [.slice x11_0 x11_1 x11_2, .slice y11_0 y11_1 y11_2, .bool f11]), (wl.heap.size, [.slice x10_0 x10_1 x10_2, .slice y10_0 y10_1 y10_2, .bool f10]), (wk.heap.size, [.slice none 0 0, .slice none 0 0, .bool true]), (wj.heap.size, [.slice nx0 nx1 nx2, .slice ny0 ny1 ny2, .bool inf]), (wi.heap.size, [.slice x7_0 x7_1 x7_2, .slice y7_0 y7_1 y7_2, .bool f7]), (wh.heap.size, [.slice x6_0 x6_1 x6_2, .slice y6_0 y6_1 y6_2, .bool f6]), (wg.heap.size, [.slice x5_0 x5_1 x5_2, .slice y5_0 y5_1 y5_2, .bool f5]), (wf.heap.size, [.slice x4_0 x4_1 x4_2, .slice y4_0 y4_1 y4_2, .bool f4]), (we.heap.size, [.slice x3_0 x3_1 x3_2, .slice y3_0 y3_1 y3_2, .bool f3]), (w.heap.size + 2, [.slice s0 s1 s2, .slice t0 t1 t2, .bool knf]), (w.heap.size + 1, [.slice u0 u1 u2, .slice v0 v1 v2, .bool jnf]), (w.heap.size, [.slice x0 x1 x2, .slice y0 y1 y2, .bool inf])] [(.slice x0 x1 x2, X), (.slice y0 y1 y2, Y), (.slice u0 u1 u2, U), (.slice v0 v1 v2, V), (.slice s0 s1 s2, S), (.slice t0 t1 t2, T)] [(.slice y12_0 y12_1 y12_2, Y12), (.slice x12_0 x12_1 x12_2, X12), (.slice y11_0 y11_1 y11_2, Y11), (.slice x11_0 x11_1 x11_2, X11), (.slice y10_0 y10_1 y10_2, Y10), (.slice x10_0 x10_1 x10_2, X10), (.slice ny0 ny1 ny2, fS p 0 Y), (.slice nx0 nx1 nx2, X), (.slice y7_0 y7_1 y7_2, Y7), (.slice x7_0 x7_1 x7_2, X7), (.slice y6_0 y6_1 y6_2, Y6), (.slice x6_0 x6_1 x6_2, X6), (.slice y5_0 y5_1 y5_2, Y5), (.slice x5_0 x5_1 x5_2, X5), (.slice y4_0 y4_1 y4_2, Y4), (.slice x4_0 x4_1 x4_2, X4), (.slice y3_0 y3_1 y3_2, Y3), (.slice x3_0 x3_1 x3_2, X3)]) := (Hwq.out.below hB)
  clear hB
  go_wp2
  go_ret
  exact ⟨rfl, Hwr.out.bel⟩
theorem group_core (c : Int) (x y u v s t : Value) (X Y U V S T : Nat) (inf jnf knf : Bool) (w : World) (hx : Nu w x X) (hy : Nu w y Y) (hu : Nu w u U) (hv : Nu w v V) (hs : Nu w s S) (ht : Nu w t T) : Calls Tryd.prog 3 #[.int .i64 c, .agg #[x, y, .bool inf], .agg #[u, v, .bool jnf], .agg #[s, t, .bool knf]] w fun e w' => e = .returned (.bool true) ∧ Below w.heap.size w w' := by
  have key : ∀ {s' : Int} {p b n gx gy : Nat}, Kv c p b n gx gy s' → Calls Tryd.prog 3 #[.int .i64 c, .agg #[x, y, .bool inf], .agg #[u, v, .bool jnf], .agg #[s, t, .bool knf]] w fun e w' => e = .returned (.bool true) ∧ Below w.heap.size w w' := by
    intro s' p b n gx gy hk
    cases o1 : onB p b X Y inf with
    | false => exact group_1 hk x y u v s t X Y U V S T inf jnf knf w hx hy hu hv hs ht o1
    | true =>
      cases o2 : onB p b U V jnf with
      | false => exact group_2 hk x y u v s t X Y U V S T inf jnf knf w hx hy hu hv hs ht o1 o2
      | true =>
        cases o3 : onB p b S T knf with
        | false => exact group_3 hk x y u v s t X Y U V S T inf jnf knf w hx hy hu hv hs ht o1 o2 o3
        | true => exact group_ok hk x y u v s t X Y U V S T inf jnf knf w hx hy hu hv hs ht o1 o2 o3
  by_cases h1 : c = 1
  · subst h1; exact key .k1
  · by_cases h2 : c = 2
    · subst h2; exact key .k2
    · exact group_none c h1 h2 x y u v s t X Y U V S T inf jnf knf w hx hy hu hv hs ht
end Go.Proofs.YtniiapakoenihaaDoor
