import Derived.Test.YtnifjhmjpbihoaaGreatDoorCEn
import Derived.Test.YtnifjhmjpbihoaaGreatDoorCSb
import Derived.Test.YtnifjhmjpbihoaaGreatDoorCL
import Derived.Test.YtnifjhmjpbihoaaGreatDoorCDg
namespace Go.Proofs.YtnifjhmjpbihoaaGreatDoor
open Go.RowKit

set_option maxRecDepth 100000

theorem Lf.of1 {w wN : World} {a : List Value} {ax : List (Value × Nat)} (h : Fm w wN [(45, a)] [] []) (ha : ∀ q ∈ ax, Nu w q.1 q.2) : Lf w wN [(w.heap.size, a)] ax [] := by
  refine ⟨fun q hq => ?_, fun q hq => (ha q hq).below h.bel (Nat.le_refl _), fun q hq => (by cases hq), h.bel⟩
  simp only [List.mem_cons, List.not_mem_nil, or_false] at hq
  rcases hq with rfl
  exact h.bx 0 (by simp)
theorem tobe_back {s : Int} {l : List UInt8} (h : (l.length : Int) = s) : tobe s.toNat (bv l) = l := tobe_bv _ l (by omega)
theorem back_ok {c s : Int} {p b n gx gy : Nat} (hk : Kv c p b n gx gy s) {U V : Nat} (h1 : U < p) (h2 : V < p) : ((tobe s.toNat U).length : Int) = s ∧ ((tobe s.toNat V).length : Int) = s ∧ bv (tobe s.toNat U) = U ∧ bv (tobe s.toNat V) = V := by
  have h3 : p ≤ 256 ^ s.toNat := by cases hk <;> decide +kernel
  have h4 : (s.toNat : Int) = s := by rcases hk.s0 with h | h <;> subst h <;> decide
  refine ⟨by rw [tobe_length]; exact h4, by rw [tobe_length]; exact h4, ?_, ?_⟩
  · rw [bv_tobe, Nat.mod_eq_of_lt (by omega)]
  · rw [bv_tobe, Nat.mod_eq_of_lt (by omega)]
set_option maxHeartbeats 20000000 in
theorem back_n1 (c : Int) (h1 : c ≠ 1) (h2 : c ≠ 2) (u v : Value) (U V : Nat) (ax ay : Option Addr) (cx cy : Nat) (lx ly : List UInt8) (w : World) (hu : Nu w u U) (hv : Nu w v V) (hx : Rd w ax lx) (hy : Rd w ay ly) (l1 : lx.length ≤ 100000000) (l2 : ly.length ≤ 100000000)  :
    Calls Tryz.prog 10 #[.int .i64 c, .agg #[u, v, .bool true], .slice ax lx.length cx, .slice ay ly.length cy] w fun e w' => e = .returned (.bool true) ∧ Below w.heap.size w w' := by
  obtain ⟨u0, u1, u2, rfl⟩ := hu.shape
  obtain ⟨v0, v1, v2, rfl⟩ := hv.shape
  have H0 : Hid (Lf w (w.alloc (.cells #[.slice u0 u1 u2, .slice v0 v1 v2, .bool true] 45)) [(w.heap.size, [.slice u0 u1 u2, .slice v0 v1 v2, .bool true])] [(.slice u0 u1 u2, U), (.slice v0 v1 v2, V)] []) := Lf.of1 ((Fm.nil (w := w) (A := []) ar_nil).push (by simp) 45 [.slice u0 u1 u2, .slice v0 v1 v2, .bool true]) (fun q hq => by simp only [List.mem_cons, List.not_mem_nil, or_false] at hq; rcases hq with rfl | rfl <;> assumption)
  have HR : Hid (Rd w ax lx ∧ Rd w ay ly ∧ lx.length ≤ 100000000 ∧ ly.length ≤ 100000000) := ⟨hx, hy, l1, l2⟩
  clear hu hv hx hy l1 l2
  go_enter Tryz.func10, Tryz.ntmps10
  go_wp2_with fail
  generalize (w.alloc (.cells #[.slice u0 u1 u2, .slice v0 v1 v2, .bool true] 45)) = wv1 at *
  refine (started_v _).mono ?_
  rintro e wa ⟨rfl, hB⟩
  have Hwa : Hid (Lf w wa [(w.heap.size, [.slice u0 u1 u2, .slice v0 v1 v2, .bool true])] [(.slice u0 u1 u2, U), (.slice v0 v1 v2, V)] []) := (H0.out.below hB)
  clear hB
  have k0_0 : wa.cell? ⟨w.heap.size, 0, none⟩ = some (.slice u0 u1 u2) := Hwa.out.cell 0 0 (Nat.le_of_ble_eq_true rfl) (Nat.le_of_ble_eq_true rfl)
  have k0_1 : wa.cell? ⟨w.heap.size, 1, none⟩ = some (.slice v0 v1 v2) := Hwa.out.cell 0 1 (Nat.le_of_ble_eq_true rfl) (Nat.le_of_ble_eq_true rfl)
  have k0_2 : wa.cell? ⟨w.heap.size, 2, none⟩ = some (.bool true) := Hwa.out.cell 0 2 (Nat.le_of_ble_eq_true rfl) (Nat.le_of_ble_eq_true rfl)
  go_wp2_with fail
  clear k0_0 k0_1 k0_2
  refine (encode_ninf c h1 h2 _ _ U V _ (Hwa.out.arg 0 (Nat.le_of_ble_eq_true rfl)) (Hwa.out.arg 1 (Nat.le_of_ble_eq_true rfl))).mono ?_
  rintro e wb ⟨rfl, hB⟩
  have Hwb : Hid (Lf w wb [(w.heap.size, [.slice u0 u1 u2, .slice v0 v1 v2, .bool true])] [(.slice u0 u1 u2, U), (.slice v0 v1 v2, V)] []) := (Hwa.out.below hB)
  clear hB
  have k0_0 : wb.cell? ⟨w.heap.size, 0, none⟩ = some (.slice u0 u1 u2) := Hwb.out.cell 0 0 (Nat.le_of_ble_eq_true rfl) (Nat.le_of_ble_eq_true rfl)
  have k0_1 : wb.cell? ⟨w.heap.size, 1, none⟩ = some (.slice v0 v1 v2) := Hwb.out.cell 0 1 (Nat.le_of_ble_eq_true rfl) (Nat.le_of_ble_eq_true rfl)
  have k0_2 : wb.cell? ⟨w.heap.size, 2, none⟩ = some (.bool true) := Hwb.out.cell 0 2 (Nat.le_of_ble_eq_true rfl) (Nat.le_of_ble_eq_true rfl)
  go_wp2_with fail
  clear k0_0 k0_1 k0_2
  refine (on_none c h1 h2 _ _ true _ ⟨_, _, _, rfl⟩ ⟨_, _, _, rfl⟩).mono ?_
  rintro e wc ⟨rfl, hB⟩
  have Hwc : Hid (Lf w wc [(w.heap.size, [.slice u0 u1 u2, .slice v0 v1 v2, .bool true])] [(.slice u0 u1 u2, U), (.slice v0 v1 v2, V)] []) := (Hwb.out.below hB)
  clear hB
  have k0_0 : wc.cell? ⟨w.heap.size, 0, none⟩ = some (.slice u0 u1 u2) := Hwc.out.cell 0 0 (Nat.le_of_ble_eq_true rfl) (Nat.le_of_ble_eq_true rfl)
  have k0_1 : wc.cell? ⟨w.heap.size, 1, none⟩ = some (.slice v0 v1 v2) := Hwc.out.cell 0 1 (Nat.le_of_ble_eq_true rfl) (Nat.le_of_ble_eq_true rfl)
  have k0_2 : wc.cell? ⟨w.heap.size, 2, none⟩ = some (.bool true) := Hwc.out.cell 0 2 (Nat.le_of_ble_eq_true rfl) (Nat.le_of_ble_eq_true rfl)
  go_wp2_with fail
  clear k0_0 k0_1 k0_2
  refine (decode_none c h1 h2 ax ay cx cy lx ly _ (HR.out.1.below Hwc.out.bel (Nat.le_refl _)) (HR.out.2.1.below Hwc.out.bel (Nat.le_refl _)) HR.out.2.2.1 HR.out.2.2.2).mono ?_
  rintro e wh ⟨rfl, hB⟩
  have Hwh : Hid (Lf w wh [(w.heap.size, [.slice u0 u1 u2, .slice v0 v1 v2, .bool true])] [(.slice u0 u1 u2, U), (.slice v0 v1 v2, V)] []) := (Hwc.out.below hB)
  clear hB
  have HB1 : Hid (Lf w (wh.alloc (.cells #[.slice none 0 0, .slice none 0 0, .bool false] 45)) [(wh.heap.size, [.slice none 0 0, .slice none 0 0, .bool false]), (w.heap.size, [.slice u0 u1 u2, .slice v0 v1 v2, .bool true])] [(.slice u0 u1 u2, U), (.slice v0 v1 v2, V)] []) := Hwh.out.box [.slice none 0 0, .slice none 0 0, .bool false]
  have k1_0 : (wh.alloc (.cells #[.slice none 0 0, .slice none 0 0, .bool false] 45)).cell? ⟨wh.heap.size, 0, none⟩ = some (.slice none 0 0) := HB1.out.cell 0 0 (Nat.le_of_ble_eq_true rfl) (Nat.le_of_ble_eq_true rfl)
  have k1_1 : (wh.alloc (.cells #[.slice none 0 0, .slice none 0 0, .bool false] 45)).cell? ⟨wh.heap.size, 1, none⟩ = some (.slice none 0 0) := HB1.out.cell 0 1 (Nat.le_of_ble_eq_true rfl) (Nat.le_of_ble_eq_true rfl)
  have k1_2 : (wh.alloc (.cells #[.slice none 0 0, .slice none 0 0, .bool false] 45)).cell? ⟨wh.heap.size, 2, none⟩ = some (.bool false) := HB1.out.cell 0 2 (Nat.le_of_ble_eq_true rfl) (Nat.le_of_ble_eq_true rfl)
  go_wp2_with fail
  clear k1_0 k1_1 k1_2
  generalize (wh.alloc (.cells #[.slice none 0 0, .slice none 0 0, .bool false] 45)) = wv6 at *
  refine (same_v _ _ _ _ 0 0 false _ (Mk.none _ 0 384).nm (Mk.none _ 0 384).nm (Mk.none _ 0 384).nm (Mk.none _ 0 384).nm (Mk.none w 0 384).2.1 (Mk.none w 0 384).2.1).mono ?_
  rintro e wi ⟨rfl, hB⟩
  have Hwi : Hid (Lf w wi [(wh.heap.size, [.slice none 0 0, .slice none 0 0, .bool false]), (w.heap.size, [.slice u0 u1 u2, .slice v0 v1 v2, .bool true])] [(.slice u0 u1 u2, U), (.slice v0 v1 v2, V)] []) := (HB1.out.below hB)
  clear hB
  go_wp2
  go_ret
  exact ⟨rfl, Hwi.out.bel⟩
set_option maxHeartbeats 20000000 in
theorem back_n2 (c : Int) (h1 : c ≠ 1) (h2 : c ≠ 2) (u v : Value) (U V : Nat) (ax ay : Option Addr) (cx cy : Nat) (lx ly : List UInt8) (w : World) (hu : Nu w u U) (hv : Nu w v V) (hx : Rd w ax lx) (hy : Rd w ay ly) (l1 : lx.length ≤ 100000000) (l2 : ly.length ≤ 100000000)  :
    Calls Tryz.prog 10 #[.int .i64 c, .agg #[u, v, .bool false], .slice ax lx.length cx, .slice ay ly.length cy] w fun e w' => e = .returned (.bool true) ∧ Below w.heap.size w w' := by
  obtain ⟨u0, u1, u2, rfl⟩ := hu.shape
  obtain ⟨v0, v1, v2, rfl⟩ := hv.shape
  have H0 : Hid (Lf w (w.alloc (.cells #[.slice u0 u1 u2, .slice v0 v1 v2, .bool false] 45)) [(w.heap.size, [.slice u0 u1 u2, .slice v0 v1 v2, .bool false])] [(.slice u0 u1 u2, U), (.slice v0 v1 v2, V)] []) := Lf.of1 ((Fm.nil (w := w) (A := []) ar_nil).push (by simp) 45 [.slice u0 u1 u2, .slice v0 v1 v2, .bool false]) (fun q hq => by simp only [List.mem_cons, List.not_mem_nil, or_false] at hq; rcases hq with rfl | rfl <;> assumption)
  have HR : Hid (Rd w ax lx ∧ Rd w ay ly ∧ lx.length ≤ 100000000 ∧ ly.length ≤ 100000000) := ⟨hx, hy, l1, l2⟩
  clear hu hv hx hy l1 l2
  go_enter Tryz.func10, Tryz.ntmps10
  go_wp2_with fail
  generalize (w.alloc (.cells #[.slice u0 u1 u2, .slice v0 v1 v2, .bool false] 45)) = wv1 at *
  refine (started_v _).mono ?_
  rintro e wa ⟨rfl, hB⟩
  have Hwa : Hid (Lf w wa [(w.heap.size, [.slice u0 u1 u2, .slice v0 v1 v2, .bool false])] [(.slice u0 u1 u2, U), (.slice v0 v1 v2, V)] []) := (H0.out.below hB)
  clear hB
  have k0_0 : wa.cell? ⟨w.heap.size, 0, none⟩ = some (.slice u0 u1 u2) := Hwa.out.cell 0 0 (Nat.le_of_ble_eq_true rfl) (Nat.le_of_ble_eq_true rfl)
  have k0_1 : wa.cell? ⟨w.heap.size, 1, none⟩ = some (.slice v0 v1 v2) := Hwa.out.cell 0 1 (Nat.le_of_ble_eq_true rfl) (Nat.le_of_ble_eq_true rfl)
  have k0_2 : wa.cell? ⟨w.heap.size, 2, none⟩ = some (.bool false) := Hwa.out.cell 0 2 (Nat.le_of_ble_eq_true rfl) (Nat.le_of_ble_eq_true rfl)
  go_wp2_with fail
  clear k0_0 k0_1 k0_2
  refine (encode_nnot c h1 h2 _ _ U V _ (Hwa.out.arg 0 (Nat.le_of_ble_eq_true rfl)) (Hwa.out.arg 1 (Nat.le_of_ble_eq_true rfl))).mono ?_
  rintro e wb ⟨rfl, hB⟩
  have Hwb : Hid (Lf w wb [(w.heap.size, [.slice u0 u1 u2, .slice v0 v1 v2, .bool false])] [(.slice u0 u1 u2, U), (.slice v0 v1 v2, V)] []) := (Hwa.out.below hB)
  clear hB
  have k0_0 : wb.cell? ⟨w.heap.size, 0, none⟩ = some (.slice u0 u1 u2) := Hwb.out.cell 0 0 (Nat.le_of_ble_eq_true rfl) (Nat.le_of_ble_eq_true rfl)
  have k0_1 : wb.cell? ⟨w.heap.size, 1, none⟩ = some (.slice v0 v1 v2) := Hwb.out.cell 0 1 (Nat.le_of_ble_eq_true rfl) (Nat.le_of_ble_eq_true rfl)
  have k0_2 : wb.cell? ⟨w.heap.size, 2, none⟩ = some (.bool false) := Hwb.out.cell 0 2 (Nat.le_of_ble_eq_true rfl) (Nat.le_of_ble_eq_true rfl)
  go_wp2_with fail
  clear k0_0 k0_1 k0_2
  refine (on_none c h1 h2 _ _ false _ ⟨_, _, _, rfl⟩ ⟨_, _, _, rfl⟩).mono ?_
  rintro e wc ⟨rfl, hB⟩
  have Hwc : Hid (Lf w wc [(w.heap.size, [.slice u0 u1 u2, .slice v0 v1 v2, .bool false])] [(.slice u0 u1 u2, U), (.slice v0 v1 v2, V)] []) := (Hwb.out.below hB)
  clear hB
  have k0_0 : wc.cell? ⟨w.heap.size, 0, none⟩ = some (.slice u0 u1 u2) := Hwc.out.cell 0 0 (Nat.le_of_ble_eq_true rfl) (Nat.le_of_ble_eq_true rfl)
  have k0_1 : wc.cell? ⟨w.heap.size, 1, none⟩ = some (.slice v0 v1 v2) := Hwc.out.cell 0 1 (Nat.le_of_ble_eq_true rfl) (Nat.le_of_ble_eq_true rfl)
  have k0_2 : wc.cell? ⟨w.heap.size, 2, none⟩ = some (.bool false) := Hwc.out.cell 0 2 (Nat.le_of_ble_eq_true rfl) (Nat.le_of_ble_eq_true rfl)
  go_wp2_with fail
  clear k0_0 k0_1 k0_2
  refine (decode_none c h1 h2 ax ay cx cy lx ly _ (HR.out.1.below Hwc.out.bel (Nat.le_refl _)) (HR.out.2.1.below Hwc.out.bel (Nat.le_refl _)) HR.out.2.2.1 HR.out.2.2.2).mono ?_
  rintro e wh ⟨rfl, hB⟩
  have Hwh : Hid (Lf w wh [(w.heap.size, [.slice u0 u1 u2, .slice v0 v1 v2, .bool false])] [(.slice u0 u1 u2, U), (.slice v0 v1 v2, V)] []) := (Hwc.out.below hB)
  clear hB
  have HB1 : Hid (Lf w (wh.alloc (.cells #[.slice none 0 0, .slice none 0 0, .bool false] 45)) [(wh.heap.size, [.slice none 0 0, .slice none 0 0, .bool false]), (w.heap.size, [.slice u0 u1 u2, .slice v0 v1 v2, .bool false])] [(.slice u0 u1 u2, U), (.slice v0 v1 v2, V)] []) := Hwh.out.box [.slice none 0 0, .slice none 0 0, .bool false]
  have k1_0 : (wh.alloc (.cells #[.slice none 0 0, .slice none 0 0, .bool false] 45)).cell? ⟨wh.heap.size, 0, none⟩ = some (.slice none 0 0) := HB1.out.cell 0 0 (Nat.le_of_ble_eq_true rfl) (Nat.le_of_ble_eq_true rfl)
  have k1_1 : (wh.alloc (.cells #[.slice none 0 0, .slice none 0 0, .bool false] 45)).cell? ⟨wh.heap.size, 1, none⟩ = some (.slice none 0 0) := HB1.out.cell 0 1 (Nat.le_of_ble_eq_true rfl) (Nat.le_of_ble_eq_true rfl)
  have k1_2 : (wh.alloc (.cells #[.slice none 0 0, .slice none 0 0, .bool false] 45)).cell? ⟨wh.heap.size, 2, none⟩ = some (.bool false) := HB1.out.cell 0 2 (Nat.le_of_ble_eq_true rfl) (Nat.le_of_ble_eq_true rfl)
  go_wp2_with fail
  clear k1_0 k1_1 k1_2
  generalize (wh.alloc (.cells #[.slice none 0 0, .slice none 0 0, .bool false] 45)) = wv6 at *
  refine (same_v _ _ _ _ 0 0 false _ (Mk.none _ 0 384).nm (Mk.none _ 0 384).nm (Mk.none _ 0 384).nm (Mk.none _ 0 384).nm (Mk.none w 0 384).2.1 (Mk.none w 0 384).2.1).mono ?_
  rintro e wi ⟨rfl, hB⟩
  have Hwi : Hid (Lf w wi [(wh.heap.size, [.slice none 0 0, .slice none 0 0, .bool false]), (w.heap.size, [.slice u0 u1 u2, .slice v0 v1 v2, .bool false])] [(.slice u0 u1 u2, U), (.slice v0 v1 v2, V)] []) := (HB1.out.below hB)
  clear hB
  go_wp2
  go_ret
  exact ⟨rfl, Hwi.out.bel⟩
set_option maxHeartbeats 20000000 in
theorem back_inf_bad {c s : Int} {p b n gx gy : Nat} (hk : Kv c p b n gx gy s) (u v : Value) (U V : Nat) (ax ay : Option Addr) (cx cy : Nat) (lx ly : List UInt8) (w : World) (hu : Nu w u U) (hv : Nu w v V) (hx : Rd w ax lx) (hy : Rd w ay ly) (l1 : lx.length ≤ 100000000) (l2 : ly.length ≤ 100000000)  (hd : decB p b s lx ly = false) :
    Calls Tryz.prog 10 #[.int .i64 c, .agg #[u, v, .bool true], .slice ax lx.length cx, .slice ay ly.length cy] w fun e w' => e = .returned (.bool true) ∧ Below w.heap.size w w' := by
  obtain ⟨u0, u1, u2, rfl⟩ := hu.shape
  obtain ⟨v0, v1, v2, rfl⟩ := hv.shape
  have H0 : Hid (Lf w (w.alloc (.cells #[.slice u0 u1 u2, .slice v0 v1 v2, .bool true] 45)) [(w.heap.size, [.slice u0 u1 u2, .slice v0 v1 v2, .bool true])] [(.slice u0 u1 u2, U), (.slice v0 v1 v2, V)] []) := Lf.of1 ((Fm.nil (w := w) (A := []) ar_nil).push (by simp) 45 [.slice u0 u1 u2, .slice v0 v1 v2, .bool true]) (fun q hq => by simp only [List.mem_cons, List.not_mem_nil, or_false] at hq; rcases hq with rfl | rfl <;> assumption)
  have HR : Hid (Rd w ax lx ∧ Rd w ay ly ∧ lx.length ≤ 100000000 ∧ ly.length ≤ 100000000) := ⟨hx, hy, l1, l2⟩
  clear hu hv hx hy l1 l2
  go_enter Tryz.func10, Tryz.ntmps10
  go_wp2_with fail
  generalize (w.alloc (.cells #[.slice u0 u1 u2, .slice v0 v1 v2, .bool true] 45)) = wv1 at *
  refine (started_v _).mono ?_
  rintro e wa ⟨rfl, hB⟩
  have Hwa : Hid (Lf w wa [(w.heap.size, [.slice u0 u1 u2, .slice v0 v1 v2, .bool true])] [(.slice u0 u1 u2, U), (.slice v0 v1 v2, V)] []) := (H0.out.below hB)
  clear hB
  have k0_0 : wa.cell? ⟨w.heap.size, 0, none⟩ = some (.slice u0 u1 u2) := Hwa.out.cell 0 0 (Nat.le_of_ble_eq_true rfl) (Nat.le_of_ble_eq_true rfl)
  have k0_1 : wa.cell? ⟨w.heap.size, 1, none⟩ = some (.slice v0 v1 v2) := Hwa.out.cell 0 1 (Nat.le_of_ble_eq_true rfl) (Nat.le_of_ble_eq_true rfl)
  have k0_2 : wa.cell? ⟨w.heap.size, 2, none⟩ = some (.bool true) := Hwa.out.cell 0 2 (Nat.le_of_ble_eq_true rfl) (Nat.le_of_ble_eq_true rfl)
  go_wp2_with fail
  clear k0_0 k0_1 k0_2
  refine (encode_inf hk _ _ U V _ (Hwa.out.arg 0 (Nat.le_of_ble_eq_true rfl)) (Hwa.out.arg 1 (Nat.le_of_ble_eq_true rfl))).mono ?_
  rintro e wb ⟨rfl, hB⟩
  have Hwb : Hid (Lf w wb [(w.heap.size, [.slice u0 u1 u2, .slice v0 v1 v2, .bool true])] [(.slice u0 u1 u2, U), (.slice v0 v1 v2, V)] []) := (Hwa.out.below hB)
  clear hB
  have k0_0 : wb.cell? ⟨w.heap.size, 0, none⟩ = some (.slice u0 u1 u2) := Hwb.out.cell 0 0 (Nat.le_of_ble_eq_true rfl) (Nat.le_of_ble_eq_true rfl)
  have k0_1 : wb.cell? ⟨w.heap.size, 1, none⟩ = some (.slice v0 v1 v2) := Hwb.out.cell 0 1 (Nat.le_of_ble_eq_true rfl) (Nat.le_of_ble_eq_true rfl)
  have k0_2 : wb.cell? ⟨w.heap.size, 2, none⟩ = some (.bool true) := Hwb.out.cell 0 2 (Nat.le_of_ble_eq_true rfl) (Nat.le_of_ble_eq_true rfl)
  go_wp2_with fail
  clear k0_0 k0_1 k0_2
  have C := on_v hk _ _ U V true _ (Hwb.out.arg 0 (Nat.le_of_ble_eq_true rfl)) (Hwb.out.arg 1 (Nat.le_of_ble_eq_true rfl))
  obtain ⟨ob, Hob⟩ : ∃ ob, Hid (ob = onB p b U V true) := ⟨_, rfl⟩
  rw [← Hob.out] at C
  refine C.mono ?_
  clear C
  rintro e wc ⟨rfl, hB⟩
  have Hwc : Hid (Lf w wc [(w.heap.size, [.slice u0 u1 u2, .slice v0 v1 v2, .bool true])] [(.slice u0 u1 u2, U), (.slice v0 v1 v2, V)] []) := (Hwb.out.below hB)
  clear hB
  cases ob with
  | true =>
    have k0_0 : wc.cell? ⟨w.heap.size, 0, none⟩ = some (.slice u0 u1 u2) := Hwc.out.cell 0 0 (Nat.le_of_ble_eq_true rfl) (Nat.le_of_ble_eq_true rfl)
    have k0_1 : wc.cell? ⟨w.heap.size, 1, none⟩ = some (.slice v0 v1 v2) := Hwc.out.cell 0 1 (Nat.le_of_ble_eq_true rfl) (Nat.le_of_ble_eq_true rfl)
    have k0_2 : wc.cell? ⟨w.heap.size, 2, none⟩ = some (.bool true) := Hwc.out.cell 0 2 (Nat.le_of_ble_eq_true rfl) (Nat.le_of_ble_eq_true rfl)
    go_wp2_with fail
    clear k0_0 k0_1 k0_2
    refine (decode_bad hk ax ay cx cy lx ly _ (HR.out.1.below Hwc.out.bel (Nat.le_refl _)) (HR.out.2.1.below Hwc.out.bel (Nat.le_refl _)) HR.out.2.2.1 HR.out.2.2.2 hd).mono ?_
    rintro e wh ⟨rfl, hB⟩
    have Hwh : Hid (Lf w wh [(w.heap.size, [.slice u0 u1 u2, .slice v0 v1 v2, .bool true])] [(.slice u0 u1 u2, U), (.slice v0 v1 v2, V)] []) := (Hwc.out.below hB)
    clear hB
    have HB1 : Hid (Lf w (wh.alloc (.cells #[.slice none 0 0, .slice none 0 0, .bool false] 45)) [(wh.heap.size, [.slice none 0 0, .slice none 0 0, .bool false]), (w.heap.size, [.slice u0 u1 u2, .slice v0 v1 v2, .bool true])] [(.slice u0 u1 u2, U), (.slice v0 v1 v2, V)] []) := Hwh.out.box [.slice none 0 0, .slice none 0 0, .bool false]
    have k1_0 : (wh.alloc (.cells #[.slice none 0 0, .slice none 0 0, .bool false] 45)).cell? ⟨wh.heap.size, 0, none⟩ = some (.slice none 0 0) := HB1.out.cell 0 0 (Nat.le_of_ble_eq_true rfl) (Nat.le_of_ble_eq_true rfl)
    have k1_1 : (wh.alloc (.cells #[.slice none 0 0, .slice none 0 0, .bool false] 45)).cell? ⟨wh.heap.size, 1, none⟩ = some (.slice none 0 0) := HB1.out.cell 0 1 (Nat.le_of_ble_eq_true rfl) (Nat.le_of_ble_eq_true rfl)
    have k1_2 : (wh.alloc (.cells #[.slice none 0 0, .slice none 0 0, .bool false] 45)).cell? ⟨wh.heap.size, 2, none⟩ = some (.bool false) := HB1.out.cell 0 2 (Nat.le_of_ble_eq_true rfl) (Nat.le_of_ble_eq_true rfl)
    go_wp2_with fail
    clear k1_0 k1_1 k1_2
    generalize (wh.alloc (.cells #[.slice none 0 0, .slice none 0 0, .bool false] 45)) = wv6 at *
    refine (same_v _ _ _ _ 0 0 false _ (Mk.none _ 0 384).nm (Mk.none _ 0 384).nm (Mk.none _ 0 384).nm (Mk.none _ 0 384).nm (Mk.none w 0 384).2.1 (Mk.none w 0 384).2.1).mono ?_
    rintro e wi ⟨rfl, hB⟩
    have Hwi : Hid (Lf w wi [(wh.heap.size, [.slice none 0 0, .slice none 0 0, .bool false]), (w.heap.size, [.slice u0 u1 u2, .slice v0 v1 v2, .bool true])] [(.slice u0 u1 u2, U), (.slice v0 v1 v2, V)] []) := (HB1.out.below hB)
    clear hB
    go_wp2
    go_ret
    exact ⟨rfl, Hwi.out.bel⟩
  | false =>
    have k0_0 : wc.cell? ⟨w.heap.size, 0, none⟩ = some (.slice u0 u1 u2) := Hwc.out.cell 0 0 (Nat.le_of_ble_eq_true rfl) (Nat.le_of_ble_eq_true rfl)
    have k0_1 : wc.cell? ⟨w.heap.size, 1, none⟩ = some (.slice v0 v1 v2) := Hwc.out.cell 0 1 (Nat.le_of_ble_eq_true rfl) (Nat.le_of_ble_eq_true rfl)
    have k0_2 : wc.cell? ⟨w.heap.size, 2, none⟩ = some (.bool true) := Hwc.out.cell 0 2 (Nat.le_of_ble_eq_true rfl) (Nat.le_of_ble_eq_true rfl)
    go_wp2_with fail
    clear k0_0 k0_1 k0_2
    refine (decode_bad hk ax ay cx cy lx ly _ (HR.out.1.below Hwc.out.bel (Nat.le_refl _)) (HR.out.2.1.below Hwc.out.bel (Nat.le_refl _)) HR.out.2.2.1 HR.out.2.2.2 hd).mono ?_
    rintro e wh ⟨rfl, hB⟩
    have Hwh : Hid (Lf w wh [(w.heap.size, [.slice u0 u1 u2, .slice v0 v1 v2, .bool true])] [(.slice u0 u1 u2, U), (.slice v0 v1 v2, V)] []) := (Hwc.out.below hB)
    clear hB
    have HB1 : Hid (Lf w (wh.alloc (.cells #[.slice none 0 0, .slice none 0 0, .bool false] 45)) [(wh.heap.size, [.slice none 0 0, .slice none 0 0, .bool false]), (w.heap.size, [.slice u0 u1 u2, .slice v0 v1 v2, .bool true])] [(.slice u0 u1 u2, U), (.slice v0 v1 v2, V)] []) := Hwh.out.box [.slice none 0 0, .slice none 0 0, .bool false]
    have k1_0 : (wh.alloc (.cells #[.slice none 0 0, .slice none 0 0, .bool false] 45)).cell? ⟨wh.heap.size, 0, none⟩ = some (.slice none 0 0) := HB1.out.cell 0 0 (Nat.le_of_ble_eq_true rfl) (Nat.le_of_ble_eq_true rfl)
    have k1_1 : (wh.alloc (.cells #[.slice none 0 0, .slice none 0 0, .bool false] 45)).cell? ⟨wh.heap.size, 1, none⟩ = some (.slice none 0 0) := HB1.out.cell 0 1 (Nat.le_of_ble_eq_true rfl) (Nat.le_of_ble_eq_true rfl)
    have k1_2 : (wh.alloc (.cells #[.slice none 0 0, .slice none 0 0, .bool false] 45)).cell? ⟨wh.heap.size, 2, none⟩ = some (.bool false) := HB1.out.cell 0 2 (Nat.le_of_ble_eq_true rfl) (Nat.le_of_ble_eq_true rfl)
    go_wp2_with fail
    clear k1_0 k1_1 k1_2
    generalize (wh.alloc (.cells #[.slice none 0 0, .slice none 0 0, .bool false] 45)) = wv6 at *
    refine (same_v _ _ _ _ 0 0 false _ (Mk.none _ 0 384).nm (Mk.none _ 0 384).nm (Mk.none _ 0 384).nm (Mk.none _ 0 384).nm (Mk.none w 0 384).2.1 (Mk.none w 0 384).2.1).mono ?_
    rintro e wi ⟨rfl, hB⟩
    have Hwi : Hid (Lf w wi [(wh.heap.size, [.slice none 0 0, .slice none 0 0, .bool false]), (w.heap.size, [.slice u0 u1 u2, .slice v0 v1 v2, .bool true])] [(.slice u0 u1 u2, U), (.slice v0 v1 v2, V)] []) := (HB1.out.below hB)
    clear hB
    go_wp2
    go_ret
    exact ⟨rfl, Hwi.out.bel⟩
set_option maxHeartbeats 20000000 in
theorem back_inf_ok {c s : Int} {p b n gx gy : Nat} (hk : Kv c p b n gx gy s) (u v : Value) (U V : Nat) (ax ay : Option Addr) (cx cy : Nat) (lx ly : List UInt8) (w : World) (hu : Nu w u U) (hv : Nu w v V) (hx : Rd w ax lx) (hy : Rd w ay ly) (l1 : lx.length ≤ 100000000) (l2 : ly.length ≤ 100000000)  (hd : decB p b s lx ly = true) :
    Calls Tryz.prog 10 #[.int .i64 c, .agg #[u, v, .bool true], .slice ax lx.length cx, .slice ay ly.length cy] w fun e w' => e = .returned (.bool true) ∧ Below w.heap.size w w' := by
  obtain ⟨u0, u1, u2, rfl⟩ := hu.shape
  obtain ⟨v0, v1, v2, rfl⟩ := hv.shape
  have H0 : Hid (Lf w (w.alloc (.cells #[.slice u0 u1 u2, .slice v0 v1 v2, .bool true] 45)) [(w.heap.size, [.slice u0 u1 u2, .slice v0 v1 v2, .bool true])] [(.slice u0 u1 u2, U), (.slice v0 v1 v2, V)] []) := Lf.of1 ((Fm.nil (w := w) (A := []) ar_nil).push (by simp) 45 [.slice u0 u1 u2, .slice v0 v1 v2, .bool true]) (fun q hq => by simp only [List.mem_cons, List.not_mem_nil, or_false] at hq; rcases hq with rfl | rfl <;> assumption)
  have HR : Hid (Rd w ax lx ∧ Rd w ay ly ∧ lx.length ≤ 100000000 ∧ ly.length ≤ 100000000) := ⟨hx, hy, l1, l2⟩
  clear hu hv hx hy l1 l2
  go_enter Tryz.func10, Tryz.ntmps10
  go_wp2_with fail
  generalize (w.alloc (.cells #[.slice u0 u1 u2, .slice v0 v1 v2, .bool true] 45)) = wv1 at *
  refine (started_v _).mono ?_
  rintro e wa ⟨rfl, hB⟩
  have Hwa : Hid (Lf w wa [(w.heap.size, [.slice u0 u1 u2, .slice v0 v1 v2, .bool true])] [(.slice u0 u1 u2, U), (.slice v0 v1 v2, V)] []) := (H0.out.below hB)
  clear hB
  have k0_0 : wa.cell? ⟨w.heap.size, 0, none⟩ = some (.slice u0 u1 u2) := Hwa.out.cell 0 0 (Nat.le_of_ble_eq_true rfl) (Nat.le_of_ble_eq_true rfl)
  have k0_1 : wa.cell? ⟨w.heap.size, 1, none⟩ = some (.slice v0 v1 v2) := Hwa.out.cell 0 1 (Nat.le_of_ble_eq_true rfl) (Nat.le_of_ble_eq_true rfl)
  have k0_2 : wa.cell? ⟨w.heap.size, 2, none⟩ = some (.bool true) := Hwa.out.cell 0 2 (Nat.le_of_ble_eq_true rfl) (Nat.le_of_ble_eq_true rfl)
  go_wp2_with fail
  clear k0_0 k0_1 k0_2
  refine (encode_inf hk _ _ U V _ (Hwa.out.arg 0 (Nat.le_of_ble_eq_true rfl)) (Hwa.out.arg 1 (Nat.le_of_ble_eq_true rfl))).mono ?_
  rintro e wb ⟨rfl, hB⟩
  have Hwb : Hid (Lf w wb [(w.heap.size, [.slice u0 u1 u2, .slice v0 v1 v2, .bool true])] [(.slice u0 u1 u2, U), (.slice v0 v1 v2, V)] []) := (Hwa.out.below hB)
  clear hB
  have k0_0 : wb.cell? ⟨w.heap.size, 0, none⟩ = some (.slice u0 u1 u2) := Hwb.out.cell 0 0 (Nat.le_of_ble_eq_true rfl) (Nat.le_of_ble_eq_true rfl)
  have k0_1 : wb.cell? ⟨w.heap.size, 1, none⟩ = some (.slice v0 v1 v2) := Hwb.out.cell 0 1 (Nat.le_of_ble_eq_true rfl) (Nat.le_of_ble_eq_true rfl)
  have k0_2 : wb.cell? ⟨w.heap.size, 2, none⟩ = some (.bool true) := Hwb.out.cell 0 2 (Nat.le_of_ble_eq_true rfl) (Nat.le_of_ble_eq_true rfl)
  go_wp2_with fail
  clear k0_0 k0_1 k0_2
  have C := on_v hk _ _ U V true _ (Hwb.out.arg 0 (Nat.le_of_ble_eq_true rfl)) (Hwb.out.arg 1 (Nat.le_of_ble_eq_true rfl))
  obtain ⟨ob, Hob⟩ : ∃ ob, Hid (ob = onB p b U V true) := ⟨_, rfl⟩
  rw [← Hob.out] at C
  refine C.mono ?_
  clear C
  rintro e wc ⟨rfl, hB⟩
  have Hwc : Hid (Lf w wc [(w.heap.size, [.slice u0 u1 u2, .slice v0 v1 v2, .bool true])] [(.slice u0 u1 u2, U), (.slice v0 v1 v2, V)] []) := (Hwb.out.below hB)
  clear hB
  cases ob with
  | true =>
    have k0_0 : wc.cell? ⟨w.heap.size, 0, none⟩ = some (.slice u0 u1 u2) := Hwc.out.cell 0 0 (Nat.le_of_ble_eq_true rfl) (Nat.le_of_ble_eq_true rfl)
    have k0_1 : wc.cell? ⟨w.heap.size, 1, none⟩ = some (.slice v0 v1 v2) := Hwc.out.cell 0 1 (Nat.le_of_ble_eq_true rfl) (Nat.le_of_ble_eq_true rfl)
    have k0_2 : wc.cell? ⟨w.heap.size, 2, none⟩ = some (.bool true) := Hwc.out.cell 0 2 (Nat.le_of_ble_eq_true rfl) (Nat.le_of_ble_eq_true rfl)
    go_wp2_with fail
    clear k0_0 k0_1 k0_2
    refine (decode_good hk ax ay cx cy lx ly _ (HR.out.1.below Hwc.out.bel (Nat.le_refl _)) (HR.out.2.1.below Hwc.out.bel (Nat.le_refl _)) HR.out.2.2.1 HR.out.2.2.2 hd).mono ?_
    rintro e wh ⟨r, rfl, hPa⟩
    obtain ⟨⟨qxv, qyv, rfl, m1, m2, _⟩, hB⟩ := hPa
    obtain ⟨qx0, qx1, qx2, rfl⟩ := m1.nk.sl
    obtain ⟨qy0, qy1, qy2, rfl⟩ := m2.nk.sl
    have Hwh : Hid (Lf w wh [(w.heap.size, [.slice u0 u1 u2, .slice v0 v1 v2, .bool true])] [(.slice u0 u1 u2, U), (.slice v0 v1 v2, V)] [(.slice qy0 qy1 qy2, bv ly), (.slice qx0 qx1 qx2, bv lx)]) := (((Hwc.out.below hB).res m1).res m2)
    clear hB m1 m2
    have HB1 : Hid (Lf w (wh.alloc (.cells #[.slice qx0 qx1 qx2, .slice qy0 qy1 qy2, .bool false] 45)) [(wh.heap.size, [.slice qx0 qx1 qx2, .slice qy0 qy1 qy2, .bool false]), (w.heap.size, [.slice u0 u1 u2, .slice v0 v1 v2, .bool true])] [(.slice u0 u1 u2, U), (.slice v0 v1 v2, V)] [(.slice qy0 qy1 qy2, bv ly), (.slice qx0 qx1 qx2, bv lx)]) := Hwh.out.box [.slice qx0 qx1 qx2, .slice qy0 qy1 qy2, .bool false]
    have E2 : Hid ((lx.length : Int) = s ∧ (ly.length : Int) = s ∧ onB p b (bv lx) (bv ly) false = true) := (by simpa [decB, Bool.and_eq_true, decide_eq_true_eq] using hd : (lx.length : Int) = s ∧ (ly.length : Int) = s ∧ onB p b (bv lx) (bv ly) false = true)
    have k1_0 : (wh.alloc (.cells #[.slice qx0 qx1 qx2, .slice qy0 qy1 qy2, .bool false] 45)).cell? ⟨wh.heap.size, 0, none⟩ = some (.slice qx0 qx1 qx2) := HB1.out.cell 0 0 (Nat.le_of_ble_eq_true rfl) (Nat.le_of_ble_eq_true rfl)
    have k1_1 : (wh.alloc (.cells #[.slice qx0 qx1 qx2, .slice qy0 qy1 qy2, .bool false] 45)).cell? ⟨wh.heap.size, 1, none⟩ = some (.slice qy0 qy1 qy2) := HB1.out.cell 0 1 (Nat.le_of_ble_eq_true rfl) (Nat.le_of_ble_eq_true rfl)
    have k1_2 : (wh.alloc (.cells #[.slice qx0 qx1 qx2, .slice qy0 qy1 qy2, .bool false] 45)).cell? ⟨wh.heap.size, 2, none⟩ = some (.bool false) := HB1.out.cell 0 2 (Nat.le_of_ble_eq_true rfl) (Nat.le_of_ble_eq_true rfl)
    go_wp2_with fail
    clear k1_0 k1_1 k1_2
    generalize (wh.alloc (.cells #[.slice qx0 qx1 qx2, .slice qy0 qy1 qy2, .bool false] 45)) = wv6 at *
    refine (encode_ok hk _ _ (bv lx) (bv ly) _ (HB1.out.got 1 (Nat.le_of_ble_eq_true rfl)).nk.1 (HB1.out.got 0 (Nat.le_of_ble_eq_true rfl)).nk.1 E2.out.2.2).mono ?_
    rintro e wi ⟨av, bw, rfl, hO1, hO2, hB⟩
    rw [tobe_back E2.out.1] at hO1
    rw [tobe_back E2.out.2.1] at hO2
    have Hwi : Hid (Lf w wi [(wh.heap.size, [.slice qx0 qx1 qx2, .slice qy0 qy1 qy2, .bool false]), (w.heap.size, [.slice u0 u1 u2, .slice v0 v1 v2, .bool true])] [(.slice u0 u1 u2, U), (.slice v0 v1 v2, V)] [(.slice qy0 qy1 qy2, bv ly), (.slice qx0 qx1 qx2, bv lx)]) := (HB1.out.below hB)
    obtain ⟨xa', xc', rfl, _, hr1⟩ := hO1.nb
    obtain ⟨ya', yc', rfl, _, hr2⟩ := hO2.nb
    have HS : Hid (Rd wi xa' lx ∧ Rd wi ya' ly) := ⟨hr1, hr2⟩
    clear hO1 hO2 hr1 hr2 hB
    have k1_0 : wi.cell? ⟨wh.heap.size, 0, none⟩ = some (.slice qx0 qx1 qx2) := Hwi.out.cell 0 0 (Nat.le_of_ble_eq_true rfl) (Nat.le_of_ble_eq_true rfl)
    have k1_1 : wi.cell? ⟨wh.heap.size, 1, none⟩ = some (.slice qy0 qy1 qy2) := Hwi.out.cell 0 1 (Nat.le_of_ble_eq_true rfl) (Nat.le_of_ble_eq_true rfl)
    have k1_2 : wi.cell? ⟨wh.heap.size, 2, none⟩ = some (.bool false) := Hwi.out.cell 0 2 (Nat.le_of_ble_eq_true rfl) (Nat.le_of_ble_eq_true rfl)
    go_wp2_with fail
    clear k1_0 k1_1 k1_2
    have C := on_v hk _ _ (bv lx) (bv ly) false _ (Hwi.out.got 1 (Nat.le_of_ble_eq_true rfl)).nk.1 (Hwi.out.got 0 (Nat.le_of_ble_eq_true rfl)).nk.1
    rw [E2.out.2.2] at C
    refine C.mono ?_
    clear C
    rintro e wj ⟨rfl, hB⟩
    have HSj : Hid (Rd wj xa' lx ∧ Rd wj ya' ly) := ⟨HS.out.1.below hB (Nat.le_refl _), HS.out.2.below hB (Nat.le_refl _)⟩
    have Hwj : Hid (Lf w wj [(wh.heap.size, [.slice qx0 qx1 qx2, .slice qy0 qy1 qy2, .bool false]), (w.heap.size, [.slice u0 u1 u2, .slice v0 v1 v2, .bool true])] [(.slice u0 u1 u2, U), (.slice v0 v1 v2, V)] [(.slice qy0 qy1 qy2, bv ly), (.slice qx0 qx1 qx2, bv lx)]) := (Hwi.out.below hB)
    clear hB
    go_wp2_with fail
    have C := sameBytes_any xa' ax xc' cx lx lx _ HSj.out.1 (HR.out.1.below Hwj.out.bel (Nat.le_refl _)) (Nat.le_trans HR.out.2.2.1 (by decide)) (Nat.le_trans HR.out.2.2.1 (by decide))
    rw [decide_eq_true (rfl : lx = lx)] at C
    refine C.mono ?_
    clear C
    rintro e wk ⟨rfl, q, hq⟩
    have hB : Below wj.heap.size wj wk := (by rw [hq]; exact below_drewN (Below.refl _ _) q)
    clear hq
    have HSk : Hid (Rd wk ya' ly) := HSj.out.2.below hB (Nat.le_refl _)
    have Hwk : Hid (Lf w wk [(wh.heap.size, [.slice qx0 qx1 qx2, .slice qy0 qy1 qy2, .bool false]), (w.heap.size, [.slice u0 u1 u2, .slice v0 v1 v2, .bool true])] [(.slice u0 u1 u2, U), (.slice v0 v1 v2, V)] [(.slice qy0 qy1 qy2, bv ly), (.slice qx0 qx1 qx2, bv lx)]) := (Hwj.out.below hB)
    clear hB
    go_wp2_with fail
    have C := sameBytes_any ya' ay yc' cy ly ly _ HSk.out (HR.out.2.1.below Hwk.out.bel (Nat.le_refl _)) (Nat.le_trans HR.out.2.2.2 (by decide)) (Nat.le_trans HR.out.2.2.2 (by decide))
    rw [decide_eq_true (rfl : ly = ly)] at C
    refine C.mono ?_
    clear C
    rintro e wl ⟨rfl, q, hq⟩
    have hB : Below wk.heap.size wk wl := (by rw [hq]; exact below_drewN (Below.refl _ _) q)
    clear hq
    have Hwl : Hid (Lf w wl [(wh.heap.size, [.slice qx0 qx1 qx2, .slice qy0 qy1 qy2, .bool false]), (w.heap.size, [.slice u0 u1 u2, .slice v0 v1 v2, .bool true])] [(.slice u0 u1 u2, U), (.slice v0 v1 v2, V)] [(.slice qy0 qy1 qy2, bv ly), (.slice qx0 qx1 qx2, bv lx)]) := (Hwk.out.below hB)
    clear hB
    go_wp2
    go_ret
    exact ⟨rfl, Hwl.out.bel⟩
  | false =>
    have k0_0 : wc.cell? ⟨w.heap.size, 0, none⟩ = some (.slice u0 u1 u2) := Hwc.out.cell 0 0 (Nat.le_of_ble_eq_true rfl) (Nat.le_of_ble_eq_true rfl)
    have k0_1 : wc.cell? ⟨w.heap.size, 1, none⟩ = some (.slice v0 v1 v2) := Hwc.out.cell 0 1 (Nat.le_of_ble_eq_true rfl) (Nat.le_of_ble_eq_true rfl)
    have k0_2 : wc.cell? ⟨w.heap.size, 2, none⟩ = some (.bool true) := Hwc.out.cell 0 2 (Nat.le_of_ble_eq_true rfl) (Nat.le_of_ble_eq_true rfl)
    go_wp2_with fail
    clear k0_0 k0_1 k0_2
    refine (decode_good hk ax ay cx cy lx ly _ (HR.out.1.below Hwc.out.bel (Nat.le_refl _)) (HR.out.2.1.below Hwc.out.bel (Nat.le_refl _)) HR.out.2.2.1 HR.out.2.2.2 hd).mono ?_
    rintro e wh ⟨r, rfl, hPa⟩
    obtain ⟨⟨qxv, qyv, rfl, m1, m2, _⟩, hB⟩ := hPa
    obtain ⟨qx0, qx1, qx2, rfl⟩ := m1.nk.sl
    obtain ⟨qy0, qy1, qy2, rfl⟩ := m2.nk.sl
    have Hwh : Hid (Lf w wh [(w.heap.size, [.slice u0 u1 u2, .slice v0 v1 v2, .bool true])] [(.slice u0 u1 u2, U), (.slice v0 v1 v2, V)] [(.slice qy0 qy1 qy2, bv ly), (.slice qx0 qx1 qx2, bv lx)]) := (((Hwc.out.below hB).res m1).res m2)
    clear hB m1 m2
    have HB1 : Hid (Lf w (wh.alloc (.cells #[.slice qx0 qx1 qx2, .slice qy0 qy1 qy2, .bool false] 45)) [(wh.heap.size, [.slice qx0 qx1 qx2, .slice qy0 qy1 qy2, .bool false]), (w.heap.size, [.slice u0 u1 u2, .slice v0 v1 v2, .bool true])] [(.slice u0 u1 u2, U), (.slice v0 v1 v2, V)] [(.slice qy0 qy1 qy2, bv ly), (.slice qx0 qx1 qx2, bv lx)]) := Hwh.out.box [.slice qx0 qx1 qx2, .slice qy0 qy1 qy2, .bool false]
    have E2 : Hid ((lx.length : Int) = s ∧ (ly.length : Int) = s ∧ onB p b (bv lx) (bv ly) false = true) := (by simpa [decB, Bool.and_eq_true, decide_eq_true_eq] using hd : (lx.length : Int) = s ∧ (ly.length : Int) = s ∧ onB p b (bv lx) (bv ly) false = true)
    have k1_0 : (wh.alloc (.cells #[.slice qx0 qx1 qx2, .slice qy0 qy1 qy2, .bool false] 45)).cell? ⟨wh.heap.size, 0, none⟩ = some (.slice qx0 qx1 qx2) := HB1.out.cell 0 0 (Nat.le_of_ble_eq_true rfl) (Nat.le_of_ble_eq_true rfl)
    have k1_1 : (wh.alloc (.cells #[.slice qx0 qx1 qx2, .slice qy0 qy1 qy2, .bool false] 45)).cell? ⟨wh.heap.size, 1, none⟩ = some (.slice qy0 qy1 qy2) := HB1.out.cell 0 1 (Nat.le_of_ble_eq_true rfl) (Nat.le_of_ble_eq_true rfl)
    have k1_2 : (wh.alloc (.cells #[.slice qx0 qx1 qx2, .slice qy0 qy1 qy2, .bool false] 45)).cell? ⟨wh.heap.size, 2, none⟩ = some (.bool false) := HB1.out.cell 0 2 (Nat.le_of_ble_eq_true rfl) (Nat.le_of_ble_eq_true rfl)
    go_wp2_with fail
    clear k1_0 k1_1 k1_2
    generalize (wh.alloc (.cells #[.slice qx0 qx1 qx2, .slice qy0 qy1 qy2, .bool false] 45)) = wv6 at *
    refine (encode_ok hk _ _ (bv lx) (bv ly) _ (HB1.out.got 1 (Nat.le_of_ble_eq_true rfl)).nk.1 (HB1.out.got 0 (Nat.le_of_ble_eq_true rfl)).nk.1 E2.out.2.2).mono ?_
    rintro e wi ⟨av, bw, rfl, hO1, hO2, hB⟩
    rw [tobe_back E2.out.1] at hO1
    rw [tobe_back E2.out.2.1] at hO2
    have Hwi : Hid (Lf w wi [(wh.heap.size, [.slice qx0 qx1 qx2, .slice qy0 qy1 qy2, .bool false]), (w.heap.size, [.slice u0 u1 u2, .slice v0 v1 v2, .bool true])] [(.slice u0 u1 u2, U), (.slice v0 v1 v2, V)] [(.slice qy0 qy1 qy2, bv ly), (.slice qx0 qx1 qx2, bv lx)]) := (HB1.out.below hB)
    obtain ⟨xa', xc', rfl, _, hr1⟩ := hO1.nb
    obtain ⟨ya', yc', rfl, _, hr2⟩ := hO2.nb
    have HS : Hid (Rd wi xa' lx ∧ Rd wi ya' ly) := ⟨hr1, hr2⟩
    clear hO1 hO2 hr1 hr2 hB
    have k1_0 : wi.cell? ⟨wh.heap.size, 0, none⟩ = some (.slice qx0 qx1 qx2) := Hwi.out.cell 0 0 (Nat.le_of_ble_eq_true rfl) (Nat.le_of_ble_eq_true rfl)
    have k1_1 : wi.cell? ⟨wh.heap.size, 1, none⟩ = some (.slice qy0 qy1 qy2) := Hwi.out.cell 0 1 (Nat.le_of_ble_eq_true rfl) (Nat.le_of_ble_eq_true rfl)
    have k1_2 : wi.cell? ⟨wh.heap.size, 2, none⟩ = some (.bool false) := Hwi.out.cell 0 2 (Nat.le_of_ble_eq_true rfl) (Nat.le_of_ble_eq_true rfl)
    go_wp2_with fail
    clear k1_0 k1_1 k1_2
    have C := on_v hk _ _ (bv lx) (bv ly) false _ (Hwi.out.got 1 (Nat.le_of_ble_eq_true rfl)).nk.1 (Hwi.out.got 0 (Nat.le_of_ble_eq_true rfl)).nk.1
    rw [E2.out.2.2] at C
    refine C.mono ?_
    clear C
    rintro e wj ⟨rfl, hB⟩
    have HSj : Hid (Rd wj xa' lx ∧ Rd wj ya' ly) := ⟨HS.out.1.below hB (Nat.le_refl _), HS.out.2.below hB (Nat.le_refl _)⟩
    have Hwj : Hid (Lf w wj [(wh.heap.size, [.slice qx0 qx1 qx2, .slice qy0 qy1 qy2, .bool false]), (w.heap.size, [.slice u0 u1 u2, .slice v0 v1 v2, .bool true])] [(.slice u0 u1 u2, U), (.slice v0 v1 v2, V)] [(.slice qy0 qy1 qy2, bv ly), (.slice qx0 qx1 qx2, bv lx)]) := (Hwi.out.below hB)
    clear hB
    go_wp2_with fail
    have C := sameBytes_any xa' ax xc' cx lx lx _ HSj.out.1 (HR.out.1.below Hwj.out.bel (Nat.le_refl _)) (Nat.le_trans HR.out.2.2.1 (by decide)) (Nat.le_trans HR.out.2.2.1 (by decide))
    rw [decide_eq_true (rfl : lx = lx)] at C
    refine C.mono ?_
    clear C
    rintro e wk ⟨rfl, q, hq⟩
    have hB : Below wj.heap.size wj wk := (by rw [hq]; exact below_drewN (Below.refl _ _) q)
    clear hq
    have HSk : Hid (Rd wk ya' ly) := HSj.out.2.below hB (Nat.le_refl _)
    have Hwk : Hid (Lf w wk [(wh.heap.size, [.slice qx0 qx1 qx2, .slice qy0 qy1 qy2, .bool false]), (w.heap.size, [.slice u0 u1 u2, .slice v0 v1 v2, .bool true])] [(.slice u0 u1 u2, U), (.slice v0 v1 v2, V)] [(.slice qy0 qy1 qy2, bv ly), (.slice qx0 qx1 qx2, bv lx)]) := (Hwj.out.below hB)
    clear hB
    go_wp2_with fail
    have C := sameBytes_any ya' ay yc' cy ly ly _ HSk.out (HR.out.2.1.below Hwk.out.bel (Nat.le_refl _)) (Nat.le_trans HR.out.2.2.2 (by decide)) (Nat.le_trans HR.out.2.2.2 (by decide))
    rw [decide_eq_true (rfl : ly = ly)] at C
    refine C.mono ?_
    clear C
    rintro e wl ⟨rfl, q, hq⟩
    have hB : Below wk.heap.size wk wl := (by rw [hq]; exact below_drewN (Below.refl _ _) q)
    clear hq
    have Hwl : Hid (Lf w wl [(wh.heap.size, [.slice qx0 qx1 qx2, .slice qy0 qy1 qy2, .bool false]), (w.heap.size, [.slice u0 u1 u2, .slice v0 v1 v2, .bool true])] [(.slice u0 u1 u2, U), (.slice v0 v1 v2, V)] [(.slice qy0 qy1 qy2, bv ly), (.slice qx0 qx1 qx2, bv lx)]) := (Hwk.out.below hB)
    clear hB
    go_wp2
    go_ret
    exact ⟨rfl, Hwl.out.bel⟩
set_option maxHeartbeats 20000000 in
theorem back_off_bad {c s : Int} {p b n gx gy : Nat} (hk : Kv c p b n gx gy s) (u v : Value) (U V : Nat) (ax ay : Option Addr) (cx cy : Nat) (lx ly : List UInt8) (w : World) (hu : Nu w u U) (hv : Nu w v V) (hx : Rd w ax lx) (hy : Rd w ay ly) (l1 : lx.length ≤ 100000000) (l2 : ly.length ≤ 100000000) (o1 : onB p b U V false = false) (hd : decB p b s lx ly = false) :
    Calls Tryz.prog 10 #[.int .i64 c, .agg #[u, v, .bool false], .slice ax lx.length cx, .slice ay ly.length cy] w fun e w' => e = .returned (.bool true) ∧ Below w.heap.size w w' := by
  obtain ⟨u0, u1, u2, rfl⟩ := hu.shape
  obtain ⟨v0, v1, v2, rfl⟩ := hv.shape
  have H0 : Hid (Lf w (w.alloc (.cells #[.slice u0 u1 u2, .slice v0 v1 v2, .bool false] 45)) [(w.heap.size, [.slice u0 u1 u2, .slice v0 v1 v2, .bool false])] [(.slice u0 u1 u2, U), (.slice v0 v1 v2, V)] []) := Lf.of1 ((Fm.nil (w := w) (A := []) ar_nil).push (by simp) 45 [.slice u0 u1 u2, .slice v0 v1 v2, .bool false]) (fun q hq => by simp only [List.mem_cons, List.not_mem_nil, or_false] at hq; rcases hq with rfl | rfl <;> assumption)
  have HR : Hid (Rd w ax lx ∧ Rd w ay ly ∧ lx.length ≤ 100000000 ∧ ly.length ≤ 100000000) := ⟨hx, hy, l1, l2⟩
  clear hu hv hx hy l1 l2
  go_enter Tryz.func10, Tryz.ntmps10
  go_wp2_with fail
  generalize (w.alloc (.cells #[.slice u0 u1 u2, .slice v0 v1 v2, .bool false] 45)) = wv1 at *
  refine (started_v _).mono ?_
  rintro e wa ⟨rfl, hB⟩
  have Hwa : Hid (Lf w wa [(w.heap.size, [.slice u0 u1 u2, .slice v0 v1 v2, .bool false])] [(.slice u0 u1 u2, U), (.slice v0 v1 v2, V)] []) := (H0.out.below hB)
  clear hB
  have k0_0 : wa.cell? ⟨w.heap.size, 0, none⟩ = some (.slice u0 u1 u2) := Hwa.out.cell 0 0 (Nat.le_of_ble_eq_true rfl) (Nat.le_of_ble_eq_true rfl)
  have k0_1 : wa.cell? ⟨w.heap.size, 1, none⟩ = some (.slice v0 v1 v2) := Hwa.out.cell 0 1 (Nat.le_of_ble_eq_true rfl) (Nat.le_of_ble_eq_true rfl)
  have k0_2 : wa.cell? ⟨w.heap.size, 2, none⟩ = some (.bool false) := Hwa.out.cell 0 2 (Nat.le_of_ble_eq_true rfl) (Nat.le_of_ble_eq_true rfl)
  go_wp2_with fail
  clear k0_0 k0_1 k0_2
  refine (encode_off hk _ _ U V _ (Hwa.out.arg 0 (Nat.le_of_ble_eq_true rfl)) (Hwa.out.arg 1 (Nat.le_of_ble_eq_true rfl)) o1).mono ?_
  rintro e wb ⟨rfl, hB⟩
  have Hwb : Hid (Lf w wb [(w.heap.size, [.slice u0 u1 u2, .slice v0 v1 v2, .bool false])] [(.slice u0 u1 u2, U), (.slice v0 v1 v2, V)] []) := (Hwa.out.below hB)
  clear hB
  have k0_0 : wb.cell? ⟨w.heap.size, 0, none⟩ = some (.slice u0 u1 u2) := Hwb.out.cell 0 0 (Nat.le_of_ble_eq_true rfl) (Nat.le_of_ble_eq_true rfl)
  have k0_1 : wb.cell? ⟨w.heap.size, 1, none⟩ = some (.slice v0 v1 v2) := Hwb.out.cell 0 1 (Nat.le_of_ble_eq_true rfl) (Nat.le_of_ble_eq_true rfl)
  have k0_2 : wb.cell? ⟨w.heap.size, 2, none⟩ = some (.bool false) := Hwb.out.cell 0 2 (Nat.le_of_ble_eq_true rfl) (Nat.le_of_ble_eq_true rfl)
  go_wp2_with fail
  clear k0_0 k0_1 k0_2
  have C := on_v hk _ _ U V false _ (Hwb.out.arg 0 (Nat.le_of_ble_eq_true rfl)) (Hwb.out.arg 1 (Nat.le_of_ble_eq_true rfl))
  rw [o1] at C
  refine C.mono ?_
  clear C
  rintro e wc ⟨rfl, hB⟩
  have Hwc : Hid (Lf w wc [(w.heap.size, [.slice u0 u1 u2, .slice v0 v1 v2, .bool false])] [(.slice u0 u1 u2, U), (.slice v0 v1 v2, V)] []) := (Hwb.out.below hB)
  clear hB
  have k0_0 : wc.cell? ⟨w.heap.size, 0, none⟩ = some (.slice u0 u1 u2) := Hwc.out.cell 0 0 (Nat.le_of_ble_eq_true rfl) (Nat.le_of_ble_eq_true rfl)
  have k0_1 : wc.cell? ⟨w.heap.size, 1, none⟩ = some (.slice v0 v1 v2) := Hwc.out.cell 0 1 (Nat.le_of_ble_eq_true rfl) (Nat.le_of_ble_eq_true rfl)
  have k0_2 : wc.cell? ⟨w.heap.size, 2, none⟩ = some (.bool false) := Hwc.out.cell 0 2 (Nat.le_of_ble_eq_true rfl) (Nat.le_of_ble_eq_true rfl)
  go_wp2_with fail
  clear k0_0 k0_1 k0_2
  refine (decode_bad hk ax ay cx cy lx ly _ (HR.out.1.below Hwc.out.bel (Nat.le_refl _)) (HR.out.2.1.below Hwc.out.bel (Nat.le_refl _)) HR.out.2.2.1 HR.out.2.2.2 hd).mono ?_
  rintro e wh ⟨rfl, hB⟩
  have Hwh : Hid (Lf w wh [(w.heap.size, [.slice u0 u1 u2, .slice v0 v1 v2, .bool false])] [(.slice u0 u1 u2, U), (.slice v0 v1 v2, V)] []) := (Hwc.out.below hB)
  clear hB
  have HB1 : Hid (Lf w (wh.alloc (.cells #[.slice none 0 0, .slice none 0 0, .bool false] 45)) [(wh.heap.size, [.slice none 0 0, .slice none 0 0, .bool false]), (w.heap.size, [.slice u0 u1 u2, .slice v0 v1 v2, .bool false])] [(.slice u0 u1 u2, U), (.slice v0 v1 v2, V)] []) := Hwh.out.box [.slice none 0 0, .slice none 0 0, .bool false]
  have k1_0 : (wh.alloc (.cells #[.slice none 0 0, .slice none 0 0, .bool false] 45)).cell? ⟨wh.heap.size, 0, none⟩ = some (.slice none 0 0) := HB1.out.cell 0 0 (Nat.le_of_ble_eq_true rfl) (Nat.le_of_ble_eq_true rfl)
  have k1_1 : (wh.alloc (.cells #[.slice none 0 0, .slice none 0 0, .bool false] 45)).cell? ⟨wh.heap.size, 1, none⟩ = some (.slice none 0 0) := HB1.out.cell 0 1 (Nat.le_of_ble_eq_true rfl) (Nat.le_of_ble_eq_true rfl)
  have k1_2 : (wh.alloc (.cells #[.slice none 0 0, .slice none 0 0, .bool false] 45)).cell? ⟨wh.heap.size, 2, none⟩ = some (.bool false) := HB1.out.cell 0 2 (Nat.le_of_ble_eq_true rfl) (Nat.le_of_ble_eq_true rfl)
  go_wp2_with fail
  clear k1_0 k1_1 k1_2
  generalize (wh.alloc (.cells #[.slice none 0 0, .slice none 0 0, .bool false] 45)) = wv6 at *
  refine (same_v _ _ _ _ 0 0 false _ (Mk.none _ 0 384).nm (Mk.none _ 0 384).nm (Mk.none _ 0 384).nm (Mk.none _ 0 384).nm (Mk.none w 0 384).2.1 (Mk.none w 0 384).2.1).mono ?_
  rintro e wi ⟨rfl, hB⟩
  have Hwi : Hid (Lf w wi [(wh.heap.size, [.slice none 0 0, .slice none 0 0, .bool false]), (w.heap.size, [.slice u0 u1 u2, .slice v0 v1 v2, .bool false])] [(.slice u0 u1 u2, U), (.slice v0 v1 v2, V)] []) := (HB1.out.below hB)
  clear hB
  go_wp2
  go_ret
  exact ⟨rfl, Hwi.out.bel⟩
set_option maxHeartbeats 20000000 in
theorem back_off_ok {c s : Int} {p b n gx gy : Nat} (hk : Kv c p b n gx gy s) (u v : Value) (U V : Nat) (ax ay : Option Addr) (cx cy : Nat) (lx ly : List UInt8) (w : World) (hu : Nu w u U) (hv : Nu w v V) (hx : Rd w ax lx) (hy : Rd w ay ly) (l1 : lx.length ≤ 100000000) (l2 : ly.length ≤ 100000000) (o1 : onB p b U V false = false) (hd : decB p b s lx ly = true) :
    Calls Tryz.prog 10 #[.int .i64 c, .agg #[u, v, .bool false], .slice ax lx.length cx, .slice ay ly.length cy] w fun e w' => e = .returned (.bool true) ∧ Below w.heap.size w w' := by
  obtain ⟨u0, u1, u2, rfl⟩ := hu.shape
  obtain ⟨v0, v1, v2, rfl⟩ := hv.shape
  have H0 : Hid (Lf w (w.alloc (.cells #[.slice u0 u1 u2, .slice v0 v1 v2, .bool false] 45)) [(w.heap.size, [.slice u0 u1 u2, .slice v0 v1 v2, .bool false])] [(.slice u0 u1 u2, U), (.slice v0 v1 v2, V)] []) := Lf.of1 ((Fm.nil (w := w) (A := []) ar_nil).push (by simp) 45 [.slice u0 u1 u2, .slice v0 v1 v2, .bool false]) (fun q hq => by simp only [List.mem_cons, List.not_mem_nil, or_false] at hq; rcases hq with rfl | rfl <;> assumption)
  have HR : Hid (Rd w ax lx ∧ Rd w ay ly ∧ lx.length ≤ 100000000 ∧ ly.length ≤ 100000000) := ⟨hx, hy, l1, l2⟩
  clear hu hv hx hy l1 l2
  go_enter Tryz.func10, Tryz.ntmps10
  go_wp2_with fail
  generalize (w.alloc (.cells #[.slice u0 u1 u2, .slice v0 v1 v2, .bool false] 45)) = wv1 at *
  refine (started_v _).mono ?_
  rintro e wa ⟨rfl, hB⟩
  have Hwa : Hid (Lf w wa [(w.heap.size, [.slice u0 u1 u2, .slice v0 v1 v2, .bool false])] [(.slice u0 u1 u2, U), (.slice v0 v1 v2, V)] []) := (H0.out.below hB)
  clear hB
  have k0_0 : wa.cell? ⟨w.heap.size, 0, none⟩ = some (.slice u0 u1 u2) := Hwa.out.cell 0 0 (Nat.le_of_ble_eq_true rfl) (Nat.le_of_ble_eq_true rfl)
  have k0_1 : wa.cell? ⟨w.heap.size, 1, none⟩ = some (.slice v0 v1 v2) := Hwa.out.cell 0 1 (Nat.le_of_ble_eq_true rfl) (Nat.le_of_ble_eq_true rfl)
  have k0_2 : wa.cell? ⟨w.heap.size, 2, none⟩ = some (.bool false) := Hwa.out.cell 0 2 (Nat.le_of_ble_eq_true rfl) (Nat.le_of_ble_eq_true rfl)
  go_wp2_with fail
  clear k0_0 k0_1 k0_2
  refine (encode_off hk _ _ U V _ (Hwa.out.arg 0 (Nat.le_of_ble_eq_true rfl)) (Hwa.out.arg 1 (Nat.le_of_ble_eq_true rfl)) o1).mono ?_
  rintro e wb ⟨rfl, hB⟩
  have Hwb : Hid (Lf w wb [(w.heap.size, [.slice u0 u1 u2, .slice v0 v1 v2, .bool false])] [(.slice u0 u1 u2, U), (.slice v0 v1 v2, V)] []) := (Hwa.out.below hB)
  clear hB
  have k0_0 : wb.cell? ⟨w.heap.size, 0, none⟩ = some (.slice u0 u1 u2) := Hwb.out.cell 0 0 (Nat.le_of_ble_eq_true rfl) (Nat.le_of_ble_eq_true rfl)
  have k0_1 : wb.cell? ⟨w.heap.size, 1, none⟩ = some (.slice v0 v1 v2) := Hwb.out.cell 0 1 (Nat.le_of_ble_eq_true rfl) (Nat.le_of_ble_eq_true rfl)
  have k0_2 : wb.cell? ⟨w.heap.size, 2, none⟩ = some (.bool false) := Hwb.out.cell 0 2 (Nat.le_of_ble_eq_true rfl) (Nat.le_of_ble_eq_true rfl)
  go_wp2_with fail
  clear k0_0 k0_1 k0_2
  have C := on_v hk _ _ U V false _ (Hwb.out.arg 0 (Nat.le_of_ble_eq_true rfl)) (Hwb.out.arg 1 (Nat.le_of_ble_eq_true rfl))
  rw [o1] at C
  refine C.mono ?_
  clear C
  rintro e wc ⟨rfl, hB⟩
  have Hwc : Hid (Lf w wc [(w.heap.size, [.slice u0 u1 u2, .slice v0 v1 v2, .bool false])] [(.slice u0 u1 u2, U), (.slice v0 v1 v2, V)] []) := (Hwb.out.below hB)
  clear hB
  have k0_0 : wc.cell? ⟨w.heap.size, 0, none⟩ = some (.slice u0 u1 u2) := Hwc.out.cell 0 0 (Nat.le_of_ble_eq_true rfl) (Nat.le_of_ble_eq_true rfl)
  have k0_1 : wc.cell? ⟨w.heap.size, 1, none⟩ = some (.slice v0 v1 v2) := Hwc.out.cell 0 1 (Nat.le_of_ble_eq_true rfl) (Nat.le_of_ble_eq_true rfl)
  have k0_2 : wc.cell? ⟨w.heap.size, 2, none⟩ = some (.bool false) := Hwc.out.cell 0 2 (Nat.le_of_ble_eq_true rfl) (Nat.le_of_ble_eq_true rfl)
  go_wp2_with fail
  clear k0_0 k0_1 k0_2
  refine (decode_good hk ax ay cx cy lx ly _ (HR.out.1.below Hwc.out.bel (Nat.le_refl _)) (HR.out.2.1.below Hwc.out.bel (Nat.le_refl _)) HR.out.2.2.1 HR.out.2.2.2 hd).mono ?_
  rintro e wh ⟨r, rfl, hPa⟩
  obtain ⟨⟨qxv, qyv, rfl, m1, m2, _⟩, hB⟩ := hPa
  obtain ⟨qx0, qx1, qx2, rfl⟩ := m1.nk.sl
  obtain ⟨qy0, qy1, qy2, rfl⟩ := m2.nk.sl
  have Hwh : Hid (Lf w wh [(w.heap.size, [.slice u0 u1 u2, .slice v0 v1 v2, .bool false])] [(.slice u0 u1 u2, U), (.slice v0 v1 v2, V)] [(.slice qy0 qy1 qy2, bv ly), (.slice qx0 qx1 qx2, bv lx)]) := (((Hwc.out.below hB).res m1).res m2)
  clear hB m1 m2
  have HB1 : Hid (Lf w (wh.alloc (.cells #[.slice qx0 qx1 qx2, .slice qy0 qy1 qy2, .bool false] 45)) [(wh.heap.size, [.slice qx0 qx1 qx2, .slice qy0 qy1 qy2, .bool false]), (w.heap.size, [.slice u0 u1 u2, .slice v0 v1 v2, .bool false])] [(.slice u0 u1 u2, U), (.slice v0 v1 v2, V)] [(.slice qy0 qy1 qy2, bv ly), (.slice qx0 qx1 qx2, bv lx)]) := Hwh.out.box [.slice qx0 qx1 qx2, .slice qy0 qy1 qy2, .bool false]
  have E2 : Hid ((lx.length : Int) = s ∧ (ly.length : Int) = s ∧ onB p b (bv lx) (bv ly) false = true) := (by simpa [decB, Bool.and_eq_true, decide_eq_true_eq] using hd : (lx.length : Int) = s ∧ (ly.length : Int) = s ∧ onB p b (bv lx) (bv ly) false = true)
  have k1_0 : (wh.alloc (.cells #[.slice qx0 qx1 qx2, .slice qy0 qy1 qy2, .bool false] 45)).cell? ⟨wh.heap.size, 0, none⟩ = some (.slice qx0 qx1 qx2) := HB1.out.cell 0 0 (Nat.le_of_ble_eq_true rfl) (Nat.le_of_ble_eq_true rfl)
  have k1_1 : (wh.alloc (.cells #[.slice qx0 qx1 qx2, .slice qy0 qy1 qy2, .bool false] 45)).cell? ⟨wh.heap.size, 1, none⟩ = some (.slice qy0 qy1 qy2) := HB1.out.cell 0 1 (Nat.le_of_ble_eq_true rfl) (Nat.le_of_ble_eq_true rfl)
  have k1_2 : (wh.alloc (.cells #[.slice qx0 qx1 qx2, .slice qy0 qy1 qy2, .bool false] 45)).cell? ⟨wh.heap.size, 2, none⟩ = some (.bool false) := HB1.out.cell 0 2 (Nat.le_of_ble_eq_true rfl) (Nat.le_of_ble_eq_true rfl)
  go_wp2_with fail
  clear k1_0 k1_1 k1_2
  generalize (wh.alloc (.cells #[.slice qx0 qx1 qx2, .slice qy0 qy1 qy2, .bool false] 45)) = wv6 at *
  refine (encode_ok hk _ _ (bv lx) (bv ly) _ (HB1.out.got 1 (Nat.le_of_ble_eq_true rfl)).nk.1 (HB1.out.got 0 (Nat.le_of_ble_eq_true rfl)).nk.1 E2.out.2.2).mono ?_
  rintro e wi ⟨av, bw, rfl, hO1, hO2, hB⟩
  rw [tobe_back E2.out.1] at hO1
  rw [tobe_back E2.out.2.1] at hO2
  have Hwi : Hid (Lf w wi [(wh.heap.size, [.slice qx0 qx1 qx2, .slice qy0 qy1 qy2, .bool false]), (w.heap.size, [.slice u0 u1 u2, .slice v0 v1 v2, .bool false])] [(.slice u0 u1 u2, U), (.slice v0 v1 v2, V)] [(.slice qy0 qy1 qy2, bv ly), (.slice qx0 qx1 qx2, bv lx)]) := (HB1.out.below hB)
  obtain ⟨xa', xc', rfl, _, hr1⟩ := hO1.nb
  obtain ⟨ya', yc', rfl, _, hr2⟩ := hO2.nb
  have HS : Hid (Rd wi xa' lx ∧ Rd wi ya' ly) := ⟨hr1, hr2⟩
  clear hO1 hO2 hr1 hr2 hB
  have k1_0 : wi.cell? ⟨wh.heap.size, 0, none⟩ = some (.slice qx0 qx1 qx2) := Hwi.out.cell 0 0 (Nat.le_of_ble_eq_true rfl) (Nat.le_of_ble_eq_true rfl)
  have k1_1 : wi.cell? ⟨wh.heap.size, 1, none⟩ = some (.slice qy0 qy1 qy2) := Hwi.out.cell 0 1 (Nat.le_of_ble_eq_true rfl) (Nat.le_of_ble_eq_true rfl)
  have k1_2 : wi.cell? ⟨wh.heap.size, 2, none⟩ = some (.bool false) := Hwi.out.cell 0 2 (Nat.le_of_ble_eq_true rfl) (Nat.le_of_ble_eq_true rfl)
  go_wp2_with fail
  clear k1_0 k1_1 k1_2
  have C := on_v hk _ _ (bv lx) (bv ly) false _ (Hwi.out.got 1 (Nat.le_of_ble_eq_true rfl)).nk.1 (Hwi.out.got 0 (Nat.le_of_ble_eq_true rfl)).nk.1
  rw [E2.out.2.2] at C
  refine C.mono ?_
  clear C
  rintro e wj ⟨rfl, hB⟩
  have HSj : Hid (Rd wj xa' lx ∧ Rd wj ya' ly) := ⟨HS.out.1.below hB (Nat.le_refl _), HS.out.2.below hB (Nat.le_refl _)⟩
  have Hwj : Hid (Lf w wj [(wh.heap.size, [.slice qx0 qx1 qx2, .slice qy0 qy1 qy2, .bool false]), (w.heap.size, [.slice u0 u1 u2, .slice v0 v1 v2, .bool false])] [(.slice u0 u1 u2, U), (.slice v0 v1 v2, V)] [(.slice qy0 qy1 qy2, bv ly), (.slice qx0 qx1 qx2, bv lx)]) := (Hwi.out.below hB)
  clear hB
  go_wp2_with fail
  have C := sameBytes_any xa' ax xc' cx lx lx _ HSj.out.1 (HR.out.1.below Hwj.out.bel (Nat.le_refl _)) (Nat.le_trans HR.out.2.2.1 (by decide)) (Nat.le_trans HR.out.2.2.1 (by decide))
  rw [decide_eq_true (rfl : lx = lx)] at C
  refine C.mono ?_
  clear C
  rintro e wk ⟨rfl, q, hq⟩
  have hB : Below wj.heap.size wj wk := (by rw [hq]; exact below_drewN (Below.refl _ _) q)
  clear hq
  have HSk : Hid (Rd wk ya' ly) := HSj.out.2.below hB (Nat.le_refl _)
  have Hwk : Hid (Lf w wk [(wh.heap.size, [.slice qx0 qx1 qx2, .slice qy0 qy1 qy2, .bool false]), (w.heap.size, [.slice u0 u1 u2, .slice v0 v1 v2, .bool false])] [(.slice u0 u1 u2, U), (.slice v0 v1 v2, V)] [(.slice qy0 qy1 qy2, bv ly), (.slice qx0 qx1 qx2, bv lx)]) := (Hwj.out.below hB)
  clear hB
  go_wp2_with fail
  have C := sameBytes_any ya' ay yc' cy ly ly _ HSk.out (HR.out.2.1.below Hwk.out.bel (Nat.le_refl _)) (Nat.le_trans HR.out.2.2.2 (by decide)) (Nat.le_trans HR.out.2.2.2 (by decide))
  rw [decide_eq_true (rfl : ly = ly)] at C
  refine C.mono ?_
  clear C
  rintro e wl ⟨rfl, q, hq⟩
  have hB : Below wk.heap.size wk wl := (by rw [hq]; exact below_drewN (Below.refl _ _) q)
  clear hq
  have Hwl : Hid (Lf w wl [(wh.heap.size, [.slice qx0 qx1 qx2, .slice qy0 qy1 qy2, .bool false]), (w.heap.size, [.slice u0 u1 u2, .slice v0 v1 v2, .bool false])] [(.slice u0 u1 u2, U), (.slice v0 v1 v2, V)] [(.slice qy0 qy1 qy2, bv ly), (.slice qx0 qx1 qx2, bv lx)]) := (Hwk.out.below hB)
  clear hB
  go_wp2
  go_ret
  exact ⟨rfl, Hwl.out.bel⟩
set_option maxHeartbeats 20000000 in
theorem back_ok_bad {c s : Int} {p b n gx gy : Nat} (hk : Kv c p b n gx gy s) (u v : Value) (U V : Nat) (ax ay : Option Addr) (cx cy : Nat) (lx ly : List UInt8) (w : World) (hu : Nu w u U) (hv : Nu w v V) (hx : Rd w ax lx) (hy : Rd w ay ly) (l1 : lx.length ≤ 100000000) (l2 : ly.length ≤ 100000000) (o1 : onB p b U V false = true) (hd : decB p b s lx ly = false) :
    Calls Tryz.prog 10 #[.int .i64 c, .agg #[u, v, .bool false], .slice ax lx.length cx, .slice ay ly.length cy] w fun e w' => e = .returned (.bool true) ∧ Below w.heap.size w w' := by
  obtain ⟨u0, u1, u2, rfl⟩ := hu.shape
  obtain ⟨v0, v1, v2, rfl⟩ := hv.shape
  have H0 : Hid (Lf w (w.alloc (.cells #[.slice u0 u1 u2, .slice v0 v1 v2, .bool false] 45)) [(w.heap.size, [.slice u0 u1 u2, .slice v0 v1 v2, .bool false])] [(.slice u0 u1 u2, U), (.slice v0 v1 v2, V)] []) := Lf.of1 ((Fm.nil (w := w) (A := []) ar_nil).push (by simp) 45 [.slice u0 u1 u2, .slice v0 v1 v2, .bool false]) (fun q hq => by simp only [List.mem_cons, List.not_mem_nil, or_false] at hq; rcases hq with rfl | rfl <;> assumption)
  have HR : Hid (Rd w ax lx ∧ Rd w ay ly ∧ lx.length ≤ 100000000 ∧ ly.length ≤ 100000000) := ⟨hx, hy, l1, l2⟩
  clear hu hv hx hy l1 l2
  go_enter Tryz.func10, Tryz.ntmps10
  go_wp2_with fail
  generalize (w.alloc (.cells #[.slice u0 u1 u2, .slice v0 v1 v2, .bool false] 45)) = wv1 at *
  refine (started_v _).mono ?_
  rintro e wa ⟨rfl, hB⟩
  have Hwa : Hid (Lf w wa [(w.heap.size, [.slice u0 u1 u2, .slice v0 v1 v2, .bool false])] [(.slice u0 u1 u2, U), (.slice v0 v1 v2, V)] []) := (H0.out.below hB)
  clear hB
  have k0_0 : wa.cell? ⟨w.heap.size, 0, none⟩ = some (.slice u0 u1 u2) := Hwa.out.cell 0 0 (Nat.le_of_ble_eq_true rfl) (Nat.le_of_ble_eq_true rfl)
  have k0_1 : wa.cell? ⟨w.heap.size, 1, none⟩ = some (.slice v0 v1 v2) := Hwa.out.cell 0 1 (Nat.le_of_ble_eq_true rfl) (Nat.le_of_ble_eq_true rfl)
  have k0_2 : wa.cell? ⟨w.heap.size, 2, none⟩ = some (.bool false) := Hwa.out.cell 0 2 (Nat.le_of_ble_eq_true rfl) (Nat.le_of_ble_eq_true rfl)
  go_wp2_with fail
  clear k0_0 k0_1 k0_2
  refine (encode_ok hk _ _ U V _ (Hwa.out.arg 0 (Nat.le_of_ble_eq_true rfl)) (Hwa.out.arg 1 (Nat.le_of_ble_eq_true rfl)) o1).mono ?_
  rintro e wb ⟨xv, yv, rfl, hO1, hO2, hB⟩
  have Hwb : Hid (Lf w wb [(w.heap.size, [.slice u0 u1 u2, .slice v0 v1 v2, .bool false])] [(.slice u0 u1 u2, U), (.slice v0 v1 v2, V)] []) := (Hwa.out.below hB)
  obtain ⟨xa, xc, rfl, _, hr1⟩ := hO1.nb
  obtain ⟨ya, yc, rfl, _, hr2⟩ := hO2.nb
  have HQ : Hid (Rd wb xa (tobe s.toNat U) ∧ Rd wb ya (tobe s.toNat V)) := ⟨hr1, hr2⟩
  clear hO1 hO2 hr1 hr2 hB
  have k0_0 : wb.cell? ⟨w.heap.size, 0, none⟩ = some (.slice u0 u1 u2) := Hwb.out.cell 0 0 (Nat.le_of_ble_eq_true rfl) (Nat.le_of_ble_eq_true rfl)
  have k0_1 : wb.cell? ⟨w.heap.size, 1, none⟩ = some (.slice v0 v1 v2) := Hwb.out.cell 0 1 (Nat.le_of_ble_eq_true rfl) (Nat.le_of_ble_eq_true rfl)
  have k0_2 : wb.cell? ⟨w.heap.size, 2, none⟩ = some (.bool false) := Hwb.out.cell 0 2 (Nat.le_of_ble_eq_true rfl) (Nat.le_of_ble_eq_true rfl)
  go_wp2_with fail
  clear k0_0 k0_1 k0_2
  have C := on_v hk _ _ U V false _ (Hwb.out.arg 0 (Nat.le_of_ble_eq_true rfl)) (Hwb.out.arg 1 (Nat.le_of_ble_eq_true rfl))
  rw [o1] at C
  refine C.mono ?_
  clear C
  rintro e wc ⟨rfl, hB⟩
  have HBc : Hid (Below wb.heap.size wb wc) := hB
  have Hwc : Hid (Lf w wc [(w.heap.size, [.slice u0 u1 u2, .slice v0 v1 v2, .bool false])] [(.slice u0 u1 u2, U), (.slice v0 v1 v2, V)] []) := (Hwb.out.below hB)
  clear hB
  have E1 : Hid (((tobe s.toNat U).length : Int) = s ∧ ((tobe s.toNat V).length : Int) = s ∧ bv (tobe s.toNat U) = U ∧ bv (tobe s.toNat V) = V) := back_ok hk (onB_lt' hk.pm o1).1 (onB_lt' hk.pm o1).2
  have k0_0 : wc.cell? ⟨w.heap.size, 0, none⟩ = some (.slice u0 u1 u2) := Hwc.out.cell 0 0 (Nat.le_of_ble_eq_true rfl) (Nat.le_of_ble_eq_true rfl)
  have k0_1 : wc.cell? ⟨w.heap.size, 1, none⟩ = some (.slice v0 v1 v2) := Hwc.out.cell 0 1 (Nat.le_of_ble_eq_true rfl) (Nat.le_of_ble_eq_true rfl)
  have k0_2 : wc.cell? ⟨w.heap.size, 2, none⟩ = some (.bool false) := Hwc.out.cell 0 2 (Nat.le_of_ble_eq_true rfl) (Nat.le_of_ble_eq_true rfl)
  go_wp2_with fail
  clear k0_0 k0_1 k0_2
  refine (decode_ok hk xa ya xc yc _ _ _ (HQ.out.1.below HBc.out (Nat.le_refl _)) (HQ.out.2.below HBc.out (Nat.le_refl _)) (by rw [tobe_length]; rcases hk.s0 with h | h <;> subst h <;> decide) (by rw [tobe_length]; rcases hk.s0 with h | h <;> subst h <;> decide) E1.out.1 E1.out.2.1 (by rw [E1.out.2.2.1, E1.out.2.2.2]; exact o1)).mono ?_
  rintro e wd ⟨r, rfl, hPa⟩
  rw [E1.out.2.2.1, E1.out.2.2.2] at hPa
  obtain ⟨⟨gxv, gyv, rfl, m1, m2, _⟩, hB⟩ := hPa
  obtain ⟨gx0, gx1, gx2, rfl⟩ := m1.nk.sl
  obtain ⟨gy0, gy1, gy2, rfl⟩ := m2.nk.sl
  have Hwd : Hid (Lf w wd [(w.heap.size, [.slice u0 u1 u2, .slice v0 v1 v2, .bool false])] [(.slice u0 u1 u2, U), (.slice v0 v1 v2, V)] [(.slice gy0 gy1 gy2, V), (.slice gx0 gx1 gx2, U)]) := (((Hwc.out.below hB).res m1).res m2)
  clear hB m1 m2
  have HB1 : Hid (Lf w (wd.alloc (.cells #[.slice gx0 gx1 gx2, .slice gy0 gy1 gy2, .bool false] 45)) [(wd.heap.size, [.slice gx0 gx1 gx2, .slice gy0 gy1 gy2, .bool false]), (w.heap.size, [.slice u0 u1 u2, .slice v0 v1 v2, .bool false])] [(.slice u0 u1 u2, U), (.slice v0 v1 v2, V)] [(.slice gy0 gy1 gy2, V), (.slice gx0 gx1 gx2, U)]) := Hwd.out.box [.slice gx0 gx1 gx2, .slice gy0 gy1 gy2, .bool false]
  have dl : (((tobe s.toNat U).length : Int) != s) = false := by rw [E1.out.1]; simp
  have k0_0 : (wd.alloc (.cells #[.slice gx0 gx1 gx2, .slice gy0 gy1 gy2, .bool false] 45)).cell? ⟨w.heap.size, 0, none⟩ = some (.slice u0 u1 u2) := HB1.out.cell 1 0 (Nat.le_of_ble_eq_true rfl) (Nat.le_of_ble_eq_true rfl)
  have k0_1 : (wd.alloc (.cells #[.slice gx0 gx1 gx2, .slice gy0 gy1 gy2, .bool false] 45)).cell? ⟨w.heap.size, 1, none⟩ = some (.slice v0 v1 v2) := HB1.out.cell 1 1 (Nat.le_of_ble_eq_true rfl) (Nat.le_of_ble_eq_true rfl)
  have k0_2 : (wd.alloc (.cells #[.slice gx0 gx1 gx2, .slice gy0 gy1 gy2, .bool false] 45)).cell? ⟨w.heap.size, 2, none⟩ = some (.bool false) := HB1.out.cell 1 2 (Nat.le_of_ble_eq_true rfl) (Nat.le_of_ble_eq_true rfl)
  have k1_0 : (wd.alloc (.cells #[.slice gx0 gx1 gx2, .slice gy0 gy1 gy2, .bool false] 45)).cell? ⟨wd.heap.size, 0, none⟩ = some (.slice gx0 gx1 gx2) := HB1.out.cell 0 0 (Nat.le_of_ble_eq_true rfl) (Nat.le_of_ble_eq_true rfl)
  have k1_1 : (wd.alloc (.cells #[.slice gx0 gx1 gx2, .slice gy0 gy1 gy2, .bool false] 45)).cell? ⟨wd.heap.size, 1, none⟩ = some (.slice gy0 gy1 gy2) := HB1.out.cell 0 1 (Nat.le_of_ble_eq_true rfl) (Nat.le_of_ble_eq_true rfl)
  have k1_2 : (wd.alloc (.cells #[.slice gx0 gx1 gx2, .slice gy0 gy1 gy2, .bool false] 45)).cell? ⟨wd.heap.size, 2, none⟩ = some (.bool false) := HB1.out.cell 0 2 (Nat.le_of_ble_eq_true rfl) (Nat.le_of_ble_eq_true rfl)
  go_wp2_with fail
  clear k0_0 k0_1 k0_2 k1_0 k1_1 k1_2
  generalize (wd.alloc (.cells #[.slice gx0 gx1 gx2, .slice gy0 gy1 gy2, .bool false] 45)) = wv6 at *
  refine (vcmp _ _ U U _ _ _ (HB1.out.got 1 (Nat.le_of_ble_eq_true rfl)).nk.1 (HB1.out.arg 0 (Nat.le_of_ble_eq_true rfl)) (by decide) (by decide)).mono ?_
  rw [cmp3_eq rfl]
  rintro e we ⟨rfl, q, hq⟩
  have hB : Below wv6.heap.size wv6 we := (by rw [hq]; exact below_drewN (Below.refl _ _) q)
  clear hq
  have Hwe : Hid (Lf w we [(wd.heap.size, [.slice gx0 gx1 gx2, .slice gy0 gy1 gy2, .bool false]), (w.heap.size, [.slice u0 u1 u2, .slice v0 v1 v2, .bool false])] [(.slice u0 u1 u2, U), (.slice v0 v1 v2, V)] [(.slice gy0 gy1 gy2, V), (.slice gx0 gx1 gx2, U)]) := (HB1.out.below hB)
  clear hB
  have k0_0 : we.cell? ⟨w.heap.size, 0, none⟩ = some (.slice u0 u1 u2) := Hwe.out.cell 1 0 (Nat.le_of_ble_eq_true rfl) (Nat.le_of_ble_eq_true rfl)
  have k0_1 : we.cell? ⟨w.heap.size, 1, none⟩ = some (.slice v0 v1 v2) := Hwe.out.cell 1 1 (Nat.le_of_ble_eq_true rfl) (Nat.le_of_ble_eq_true rfl)
  have k0_2 : we.cell? ⟨w.heap.size, 2, none⟩ = some (.bool false) := Hwe.out.cell 1 2 (Nat.le_of_ble_eq_true rfl) (Nat.le_of_ble_eq_true rfl)
  have k1_0 : we.cell? ⟨wd.heap.size, 0, none⟩ = some (.slice gx0 gx1 gx2) := Hwe.out.cell 0 0 (Nat.le_of_ble_eq_true rfl) (Nat.le_of_ble_eq_true rfl)
  have k1_1 : we.cell? ⟨wd.heap.size, 1, none⟩ = some (.slice gy0 gy1 gy2) := Hwe.out.cell 0 1 (Nat.le_of_ble_eq_true rfl) (Nat.le_of_ble_eq_true rfl)
  have k1_2 : we.cell? ⟨wd.heap.size, 2, none⟩ = some (.bool false) := Hwe.out.cell 0 2 (Nat.le_of_ble_eq_true rfl) (Nat.le_of_ble_eq_true rfl)
  go_wp2_with fail
  clear k0_0 k0_1 k0_2 k1_0 k1_1 k1_2
  refine (vcmp _ _ V V _ _ _ (Hwe.out.got 0 (Nat.le_of_ble_eq_true rfl)).nk.1 (Hwe.out.arg 1 (Nat.le_of_ble_eq_true rfl)) (by decide) (by decide)).mono ?_
  rw [cmp3_eq rfl]
  rintro e wf ⟨rfl, q, hq⟩
  have hB : Below we.heap.size we wf := (by rw [hq]; exact below_drewN (Below.refl _ _) q)
  clear hq
  have Hwf : Hid (Lf w wf [(wd.heap.size, [.slice gx0 gx1 gx2, .slice gy0 gy1 gy2, .bool false]), (w.heap.size, [.slice u0 u1 u2, .slice v0 v1 v2, .bool false])] [(.slice u0 u1 u2, U), (.slice v0 v1 v2, V)] [(.slice gy0 gy1 gy2, V), (.slice gx0 gx1 gx2, U)]) := (Hwe.out.below hB)
  clear hB
  have k1_0 : wf.cell? ⟨wd.heap.size, 0, none⟩ = some (.slice gx0 gx1 gx2) := Hwf.out.cell 0 0 (Nat.le_of_ble_eq_true rfl) (Nat.le_of_ble_eq_true rfl)
  have k1_1 : wf.cell? ⟨wd.heap.size, 1, none⟩ = some (.slice gy0 gy1 gy2) := Hwf.out.cell 0 1 (Nat.le_of_ble_eq_true rfl) (Nat.le_of_ble_eq_true rfl)
  have k1_2 : wf.cell? ⟨wd.heap.size, 2, none⟩ = some (.bool false) := Hwf.out.cell 0 2 (Nat.le_of_ble_eq_true rfl) (Nat.le_of_ble_eq_true rfl)
  go_wp2_with fail
  clear k1_0 k1_1 k1_2
  refine (size_v hk _).mono ?_
  rintro e wg ⟨rfl, hB⟩
  have Hwg : Hid (Lf w wg [(wd.heap.size, [.slice gx0 gx1 gx2, .slice gy0 gy1 gy2, .bool false]), (w.heap.size, [.slice u0 u1 u2, .slice v0 v1 v2, .bool false])] [(.slice u0 u1 u2, U), (.slice v0 v1 v2, V)] [(.slice gy0 gy1 gy2, V), (.slice gx0 gx1 gx2, U)]) := (Hwf.out.below hB)
  clear hB
  go_wp2_with fail
  refine (decode_bad hk ax ay cx cy lx ly _ (HR.out.1.below Hwg.out.bel (Nat.le_refl _)) (HR.out.2.1.below Hwg.out.bel (Nat.le_refl _)) HR.out.2.2.1 HR.out.2.2.2 hd).mono ?_
  rintro e wh ⟨rfl, hB⟩
  have Hwh : Hid (Lf w wh [(wd.heap.size, [.slice gx0 gx1 gx2, .slice gy0 gy1 gy2, .bool false]), (w.heap.size, [.slice u0 u1 u2, .slice v0 v1 v2, .bool false])] [(.slice u0 u1 u2, U), (.slice v0 v1 v2, V)] [(.slice gy0 gy1 gy2, V), (.slice gx0 gx1 gx2, U)]) := (Hwg.out.below hB)
  clear hB
  have HB2 : Hid (Lf w (wh.alloc (.cells #[.slice none 0 0, .slice none 0 0, .bool false] 45)) [(wh.heap.size, [.slice none 0 0, .slice none 0 0, .bool false]), (wd.heap.size, [.slice gx0 gx1 gx2, .slice gy0 gy1 gy2, .bool false]), (w.heap.size, [.slice u0 u1 u2, .slice v0 v1 v2, .bool false])] [(.slice u0 u1 u2, U), (.slice v0 v1 v2, V)] [(.slice gy0 gy1 gy2, V), (.slice gx0 gx1 gx2, U)]) := Hwh.out.box [.slice none 0 0, .slice none 0 0, .bool false]
  have k2_0 : (wh.alloc (.cells #[.slice none 0 0, .slice none 0 0, .bool false] 45)).cell? ⟨wh.heap.size, 0, none⟩ = some (.slice none 0 0) := HB2.out.cell 0 0 (Nat.le_of_ble_eq_true rfl) (Nat.le_of_ble_eq_true rfl)
  have k2_1 : (wh.alloc (.cells #[.slice none 0 0, .slice none 0 0, .bool false] 45)).cell? ⟨wh.heap.size, 1, none⟩ = some (.slice none 0 0) := HB2.out.cell 0 1 (Nat.le_of_ble_eq_true rfl) (Nat.le_of_ble_eq_true rfl)
  have k2_2 : (wh.alloc (.cells #[.slice none 0 0, .slice none 0 0, .bool false] 45)).cell? ⟨wh.heap.size, 2, none⟩ = some (.bool false) := HB2.out.cell 0 2 (Nat.le_of_ble_eq_true rfl) (Nat.le_of_ble_eq_true rfl)
  go_wp2_with fail
  clear k2_0 k2_1 k2_2
  generalize (wh.alloc (.cells #[.slice none 0 0, .slice none 0 0, .bool false] 45)) = wv11 at *
  refine (same_v _ _ _ _ 0 0 false _ (Mk.none _ 0 384).nm (Mk.none _ 0 384).nm (Mk.none _ 0 384).nm (Mk.none _ 0 384).nm (Mk.none w 0 384).2.1 (Mk.none w 0 384).2.1).mono ?_
  rintro e wi ⟨rfl, hB⟩
  have Hwi : Hid (Lf w wi [(wh.heap.size, [.slice none 0 0, .slice none 0 0, .bool false]), (wd.heap.size, [.slice gx0 gx1 gx2, .slice gy0 gy1 gy2, .bool false]), (w.heap.size, [.slice u0 u1 u2, .slice v0 v1 v2, .bool false])] [(.slice u0 u1 u2, U), (.slice v0 v1 v2, V)] [(.slice gy0 gy1 gy2, V), (.slice gx0 gx1 gx2, U)]) := (HB2.out.below hB)
  clear hB
  go_wp2
  go_ret
  exact ⟨rfl, Hwi.out.bel⟩
set_option maxHeartbeats 20000000 in
theorem back_ok_ok {c s : Int} {p b n gx gy : Nat} (hk : Kv c p b n gx gy s) (u v : Value) (U V : Nat) (ax ay : Option Addr) (cx cy : Nat) (lx ly : List UInt8) (w : World) (hu : Nu w u U) (hv : Nu w v V) (hx : Rd w ax lx) (hy : Rd w ay ly) (l1 : lx.length ≤ 100000000) (l2 : ly.length ≤ 100000000) (o1 : onB p b U V false = true) (hd : decB p b s lx ly = true) :
    Calls Tryz.prog 10 #[.int .i64 c, .agg #[u, v, .bool false], .slice ax lx.length cx, .slice ay ly.length cy] w fun e w' => e = .returned (.bool true) ∧ Below w.heap.size w w' := by
  obtain ⟨u0, u1, u2, rfl⟩ := hu.shape
  obtain ⟨v0, v1, v2, rfl⟩ := hv.shape
  have H0 : Hid (Lf w (w.alloc (.cells #[.slice u0 u1 u2, .slice v0 v1 v2, .bool false] 45)) [(w.heap.size, [.slice u0 u1 u2, .slice v0 v1 v2, .bool false])] [(.slice u0 u1 u2, U), (.slice v0 v1 v2, V)] []) := Lf.of1 ((Fm.nil (w := w) (A := []) ar_nil).push (by simp) 45 [.slice u0 u1 u2, .slice v0 v1 v2, .bool false]) (fun q hq => by simp only [List.mem_cons, List.not_mem_nil, or_false] at hq; rcases hq with rfl | rfl <;> assumption)
  have HR : Hid (Rd w ax lx ∧ Rd w ay ly ∧ lx.length ≤ 100000000 ∧ ly.length ≤ 100000000) := ⟨hx, hy, l1, l2⟩
  clear hu hv hx hy l1 l2
  go_enter Tryz.func10, Tryz.ntmps10
  go_wp2_with fail
  generalize (w.alloc (.cells #[.slice u0 u1 u2, .slice v0 v1 v2, .bool false] 45)) = wv1 at *
  refine (started_v _).mono ?_
  rintro e wa ⟨rfl, hB⟩
  have Hwa : Hid (Lf w wa [(w.heap.size, [.slice u0 u1 u2, .slice v0 v1 v2, .bool false])] [(.slice u0 u1 u2, U), (.slice v0 v1 v2, V)] []) := (H0.out.below hB)
  clear hB
  have k0_0 : wa.cell? ⟨w.heap.size, 0, none⟩ = some (.slice u0 u1 u2) := Hwa.out.cell 0 0 (Nat.le_of_ble_eq_true rfl) (Nat.le_of_ble_eq_true rfl)
  have k0_1 : wa.cell? ⟨w.heap.size, 1, none⟩ = some (.slice v0 v1 v2) := Hwa.out.cell 0 1 (Nat.le_of_ble_eq_true rfl) (Nat.le_of_ble_eq_true rfl)
  have k0_2 : wa.cell? ⟨w.heap.size, 2, none⟩ = some (.bool false) := Hwa.out.cell 0 2 (Nat.le_of_ble_eq_true rfl) (Nat.le_of_ble_eq_true rfl)
  go_wp2_with fail
  clear k0_0 k0_1 k0_2
  refine (encode_ok hk _ _ U V _ (Hwa.out.arg 0 (Nat.le_of_ble_eq_true rfl)) (Hwa.out.arg 1 (Nat.le_of_ble_eq_true rfl)) o1).mono ?_
  rintro e wb ⟨xv, yv, rfl, hO1, hO2, hB⟩
  have Hwb : Hid (Lf w wb [(w.heap.size, [.slice u0 u1 u2, .slice v0 v1 v2, .bool false])] [(.slice u0 u1 u2, U), (.slice v0 v1 v2, V)] []) := (Hwa.out.below hB)
  obtain ⟨xa, xc, rfl, _, hr1⟩ := hO1.nb
  obtain ⟨ya, yc, rfl, _, hr2⟩ := hO2.nb
  have HQ : Hid (Rd wb xa (tobe s.toNat U) ∧ Rd wb ya (tobe s.toNat V)) := ⟨hr1, hr2⟩
  clear hO1 hO2 hr1 hr2 hB
  have k0_0 : wb.cell? ⟨w.heap.size, 0, none⟩ = some (.slice u0 u1 u2) := Hwb.out.cell 0 0 (Nat.le_of_ble_eq_true rfl) (Nat.le_of_ble_eq_true rfl)
  have k0_1 : wb.cell? ⟨w.heap.size, 1, none⟩ = some (.slice v0 v1 v2) := Hwb.out.cell 0 1 (Nat.le_of_ble_eq_true rfl) (Nat.le_of_ble_eq_true rfl)
  have k0_2 : wb.cell? ⟨w.heap.size, 2, none⟩ = some (.bool false) := Hwb.out.cell 0 2 (Nat.le_of_ble_eq_true rfl) (Nat.le_of_ble_eq_true rfl)
  go_wp2_with fail
  clear k0_0 k0_1 k0_2
  have C := on_v hk _ _ U V false _ (Hwb.out.arg 0 (Nat.le_of_ble_eq_true rfl)) (Hwb.out.arg 1 (Nat.le_of_ble_eq_true rfl))
  rw [o1] at C
  refine C.mono ?_
  clear C
  rintro e wc ⟨rfl, hB⟩
  have HBc : Hid (Below wb.heap.size wb wc) := hB
  have Hwc : Hid (Lf w wc [(w.heap.size, [.slice u0 u1 u2, .slice v0 v1 v2, .bool false])] [(.slice u0 u1 u2, U), (.slice v0 v1 v2, V)] []) := (Hwb.out.below hB)
  clear hB
  have E1 : Hid (((tobe s.toNat U).length : Int) = s ∧ ((tobe s.toNat V).length : Int) = s ∧ bv (tobe s.toNat U) = U ∧ bv (tobe s.toNat V) = V) := back_ok hk (onB_lt' hk.pm o1).1 (onB_lt' hk.pm o1).2
  have k0_0 : wc.cell? ⟨w.heap.size, 0, none⟩ = some (.slice u0 u1 u2) := Hwc.out.cell 0 0 (Nat.le_of_ble_eq_true rfl) (Nat.le_of_ble_eq_true rfl)
  have k0_1 : wc.cell? ⟨w.heap.size, 1, none⟩ = some (.slice v0 v1 v2) := Hwc.out.cell 0 1 (Nat.le_of_ble_eq_true rfl) (Nat.le_of_ble_eq_true rfl)
  have k0_2 : wc.cell? ⟨w.heap.size, 2, none⟩ = some (.bool false) := Hwc.out.cell 0 2 (Nat.le_of_ble_eq_true rfl) (Nat.le_of_ble_eq_true rfl)
  go_wp2_with fail
  clear k0_0 k0_1 k0_2
  refine (decode_ok hk xa ya xc yc _ _ _ (HQ.out.1.below HBc.out (Nat.le_refl _)) (HQ.out.2.below HBc.out (Nat.le_refl _)) (by rw [tobe_length]; rcases hk.s0 with h | h <;> subst h <;> decide) (by rw [tobe_length]; rcases hk.s0 with h | h <;> subst h <;> decide) E1.out.1 E1.out.2.1 (by rw [E1.out.2.2.1, E1.out.2.2.2]; exact o1)).mono ?_
  rintro e wd ⟨r, rfl, hPa⟩
  rw [E1.out.2.2.1, E1.out.2.2.2] at hPa
  obtain ⟨⟨gxv, gyv, rfl, m1, m2, _⟩, hB⟩ := hPa
  obtain ⟨gx0, gx1, gx2, rfl⟩ := m1.nk.sl
  obtain ⟨gy0, gy1, gy2, rfl⟩ := m2.nk.sl
  have Hwd : Hid (Lf w wd [(w.heap.size, [.slice u0 u1 u2, .slice v0 v1 v2, .bool false])] [(.slice u0 u1 u2, U), (.slice v0 v1 v2, V)] [(.slice gy0 gy1 gy2, V), (.slice gx0 gx1 gx2, U)]) := (((Hwc.out.below hB).res m1).res m2)
  clear hB m1 m2
  have HB1 : Hid (Lf w (wd.alloc (.cells #[.slice gx0 gx1 gx2, .slice gy0 gy1 gy2, .bool false] 45)) [(wd.heap.size, [.slice gx0 gx1 gx2, .slice gy0 gy1 gy2, .bool false]), (w.heap.size, [.slice u0 u1 u2, .slice v0 v1 v2, .bool false])] [(.slice u0 u1 u2, U), (.slice v0 v1 v2, V)] [(.slice gy0 gy1 gy2, V), (.slice gx0 gx1 gx2, U)]) := Hwd.out.box [.slice gx0 gx1 gx2, .slice gy0 gy1 gy2, .bool false]
  have dl : (((tobe s.toNat U).length : Int) != s) = false := by rw [E1.out.1]; simp
  have k0_0 : (wd.alloc (.cells #[.slice gx0 gx1 gx2, .slice gy0 gy1 gy2, .bool false] 45)).cell? ⟨w.heap.size, 0, none⟩ = some (.slice u0 u1 u2) := HB1.out.cell 1 0 (Nat.le_of_ble_eq_true rfl) (Nat.le_of_ble_eq_true rfl)
  have k0_1 : (wd.alloc (.cells #[.slice gx0 gx1 gx2, .slice gy0 gy1 gy2, .bool false] 45)).cell? ⟨w.heap.size, 1, none⟩ = some (.slice v0 v1 v2) := HB1.out.cell 1 1 (Nat.le_of_ble_eq_true rfl) (Nat.le_of_ble_eq_true rfl)
  have k0_2 : (wd.alloc (.cells #[.slice gx0 gx1 gx2, .slice gy0 gy1 gy2, .bool false] 45)).cell? ⟨w.heap.size, 2, none⟩ = some (.bool false) := HB1.out.cell 1 2 (Nat.le_of_ble_eq_true rfl) (Nat.le_of_ble_eq_true rfl)
  have k1_0 : (wd.alloc (.cells #[.slice gx0 gx1 gx2, .slice gy0 gy1 gy2, .bool false] 45)).cell? ⟨wd.heap.size, 0, none⟩ = some (.slice gx0 gx1 gx2) := HB1.out.cell 0 0 (Nat.le_of_ble_eq_true rfl) (Nat.le_of_ble_eq_true rfl)
  have k1_1 : (wd.alloc (.cells #[.slice gx0 gx1 gx2, .slice gy0 gy1 gy2, .bool false] 45)).cell? ⟨wd.heap.size, 1, none⟩ = some (.slice gy0 gy1 gy2) := HB1.out.cell 0 1 (Nat.le_of_ble_eq_true rfl) (Nat.le_of_ble_eq_true rfl)
  have k1_2 : (wd.alloc (.cells #[.slice gx0 gx1 gx2, .slice gy0 gy1 gy2, .bool false] 45)).cell? ⟨wd.heap.size, 2, none⟩ = some (.bool false) := HB1.out.cell 0 2 (Nat.le_of_ble_eq_true rfl) (Nat.le_of_ble_eq_true rfl)
  go_wp2_with fail
  clear k0_0 k0_1 k0_2 k1_0 k1_1 k1_2
  generalize (wd.alloc (.cells #[.slice gx0 gx1 gx2, .slice gy0 gy1 gy2, .bool false] 45)) = wv6 at *
  refine (vcmp _ _ U U _ _ _ (HB1.out.got 1 (Nat.le_of_ble_eq_true rfl)).nk.1 (HB1.out.arg 0 (Nat.le_of_ble_eq_true rfl)) (by decide) (by decide)).mono ?_
  rw [cmp3_eq rfl]
  rintro e we ⟨rfl, q, hq⟩
  have hB : Below wv6.heap.size wv6 we := (by rw [hq]; exact below_drewN (Below.refl _ _) q)
  clear hq
  have Hwe : Hid (Lf w we [(wd.heap.size, [.slice gx0 gx1 gx2, .slice gy0 gy1 gy2, .bool false]), (w.heap.size, [.slice u0 u1 u2, .slice v0 v1 v2, .bool false])] [(.slice u0 u1 u2, U), (.slice v0 v1 v2, V)] [(.slice gy0 gy1 gy2, V), (.slice gx0 gx1 gx2, U)]) := (HB1.out.below hB)
  clear hB
  have k0_0 : we.cell? ⟨w.heap.size, 0, none⟩ = some (.slice u0 u1 u2) := Hwe.out.cell 1 0 (Nat.le_of_ble_eq_true rfl) (Nat.le_of_ble_eq_true rfl)
  have k0_1 : we.cell? ⟨w.heap.size, 1, none⟩ = some (.slice v0 v1 v2) := Hwe.out.cell 1 1 (Nat.le_of_ble_eq_true rfl) (Nat.le_of_ble_eq_true rfl)
  have k0_2 : we.cell? ⟨w.heap.size, 2, none⟩ = some (.bool false) := Hwe.out.cell 1 2 (Nat.le_of_ble_eq_true rfl) (Nat.le_of_ble_eq_true rfl)
  have k1_0 : we.cell? ⟨wd.heap.size, 0, none⟩ = some (.slice gx0 gx1 gx2) := Hwe.out.cell 0 0 (Nat.le_of_ble_eq_true rfl) (Nat.le_of_ble_eq_true rfl)
  have k1_1 : we.cell? ⟨wd.heap.size, 1, none⟩ = some (.slice gy0 gy1 gy2) := Hwe.out.cell 0 1 (Nat.le_of_ble_eq_true rfl) (Nat.le_of_ble_eq_true rfl)
  have k1_2 : we.cell? ⟨wd.heap.size, 2, none⟩ = some (.bool false) := Hwe.out.cell 0 2 (Nat.le_of_ble_eq_true rfl) (Nat.le_of_ble_eq_true rfl)
  go_wp2_with fail
  clear k0_0 k0_1 k0_2 k1_0 k1_1 k1_2
  refine (vcmp _ _ V V _ _ _ (Hwe.out.got 0 (Nat.le_of_ble_eq_true rfl)).nk.1 (Hwe.out.arg 1 (Nat.le_of_ble_eq_true rfl)) (by decide) (by decide)).mono ?_
  rw [cmp3_eq rfl]
  rintro e wf ⟨rfl, q, hq⟩
  have hB : Below we.heap.size we wf := (by rw [hq]; exact below_drewN (Below.refl _ _) q)
  clear hq
  have Hwf : Hid (Lf w wf [(wd.heap.size, [.slice gx0 gx1 gx2, .slice gy0 gy1 gy2, .bool false]), (w.heap.size, [.slice u0 u1 u2, .slice v0 v1 v2, .bool false])] [(.slice u0 u1 u2, U), (.slice v0 v1 v2, V)] [(.slice gy0 gy1 gy2, V), (.slice gx0 gx1 gx2, U)]) := (Hwe.out.below hB)
  clear hB
  have k1_0 : wf.cell? ⟨wd.heap.size, 0, none⟩ = some (.slice gx0 gx1 gx2) := Hwf.out.cell 0 0 (Nat.le_of_ble_eq_true rfl) (Nat.le_of_ble_eq_true rfl)
  have k1_1 : wf.cell? ⟨wd.heap.size, 1, none⟩ = some (.slice gy0 gy1 gy2) := Hwf.out.cell 0 1 (Nat.le_of_ble_eq_true rfl) (Nat.le_of_ble_eq_true rfl)
  have k1_2 : wf.cell? ⟨wd.heap.size, 2, none⟩ = some (.bool false) := Hwf.out.cell 0 2 (Nat.le_of_ble_eq_true rfl) (Nat.le_of_ble_eq_true rfl)
  go_wp2_with fail
  clear k1_0 k1_1 k1_2
  refine (size_v hk _).mono ?_
  rintro e wg ⟨rfl, hB⟩
  have Hwg : Hid (Lf w wg [(wd.heap.size, [.slice gx0 gx1 gx2, .slice gy0 gy1 gy2, .bool false]), (w.heap.size, [.slice u0 u1 u2, .slice v0 v1 v2, .bool false])] [(.slice u0 u1 u2, U), (.slice v0 v1 v2, V)] [(.slice gy0 gy1 gy2, V), (.slice gx0 gx1 gx2, U)]) := (Hwf.out.below hB)
  clear hB
  go_wp2_with fail
  refine (decode_good hk ax ay cx cy lx ly _ (HR.out.1.below Hwg.out.bel (Nat.le_refl _)) (HR.out.2.1.below Hwg.out.bel (Nat.le_refl _)) HR.out.2.2.1 HR.out.2.2.2 hd).mono ?_
  rintro e wh ⟨r, rfl, hPa⟩
  obtain ⟨⟨qxv, qyv, rfl, m1, m2, _⟩, hB⟩ := hPa
  obtain ⟨qx0, qx1, qx2, rfl⟩ := m1.nk.sl
  obtain ⟨qy0, qy1, qy2, rfl⟩ := m2.nk.sl
  have Hwh : Hid (Lf w wh [(wd.heap.size, [.slice gx0 gx1 gx2, .slice gy0 gy1 gy2, .bool false]), (w.heap.size, [.slice u0 u1 u2, .slice v0 v1 v2, .bool false])] [(.slice u0 u1 u2, U), (.slice v0 v1 v2, V)] [(.slice qy0 qy1 qy2, bv ly), (.slice qx0 qx1 qx2, bv lx), (.slice gy0 gy1 gy2, V), (.slice gx0 gx1 gx2, U)]) := (((Hwg.out.below hB).res m1).res m2)
  clear hB m1 m2
  have HB2 : Hid (Lf w (wh.alloc (.cells #[.slice qx0 qx1 qx2, .slice qy0 qy1 qy2, .bool false] 45)) [(wh.heap.size, [.slice qx0 qx1 qx2, .slice qy0 qy1 qy2, .bool false]), (wd.heap.size, [.slice gx0 gx1 gx2, .slice gy0 gy1 gy2, .bool false]), (w.heap.size, [.slice u0 u1 u2, .slice v0 v1 v2, .bool false])] [(.slice u0 u1 u2, U), (.slice v0 v1 v2, V)] [(.slice qy0 qy1 qy2, bv ly), (.slice qx0 qx1 qx2, bv lx), (.slice gy0 gy1 gy2, V), (.slice gx0 gx1 gx2, U)]) := Hwh.out.box [.slice qx0 qx1 qx2, .slice qy0 qy1 qy2, .bool false]
  have E2 : Hid ((lx.length : Int) = s ∧ (ly.length : Int) = s ∧ onB p b (bv lx) (bv ly) false = true) := (by simpa [decB, Bool.and_eq_true, decide_eq_true_eq] using hd : (lx.length : Int) = s ∧ (ly.length : Int) = s ∧ onB p b (bv lx) (bv ly) false = true)
  have k2_0 : (wh.alloc (.cells #[.slice qx0 qx1 qx2, .slice qy0 qy1 qy2, .bool false] 45)).cell? ⟨wh.heap.size, 0, none⟩ = some (.slice qx0 qx1 qx2) := HB2.out.cell 0 0 (Nat.le_of_ble_eq_true rfl) (Nat.le_of_ble_eq_true rfl)
  have k2_1 : (wh.alloc (.cells #[.slice qx0 qx1 qx2, .slice qy0 qy1 qy2, .bool false] 45)).cell? ⟨wh.heap.size, 1, none⟩ = some (.slice qy0 qy1 qy2) := HB2.out.cell 0 1 (Nat.le_of_ble_eq_true rfl) (Nat.le_of_ble_eq_true rfl)
  have k2_2 : (wh.alloc (.cells #[.slice qx0 qx1 qx2, .slice qy0 qy1 qy2, .bool false] 45)).cell? ⟨wh.heap.size, 2, none⟩ = some (.bool false) := HB2.out.cell 0 2 (Nat.le_of_ble_eq_true rfl) (Nat.le_of_ble_eq_true rfl)
  go_wp2_with fail
  clear k2_0 k2_1 k2_2
  generalize (wh.alloc (.cells #[.slice qx0 qx1 qx2, .slice qy0 qy1 qy2, .bool false] 45)) = wv11 at *
  refine (encode_ok hk _ _ (bv lx) (bv ly) _ (HB2.out.got 1 (Nat.le_of_ble_eq_true rfl)).nk.1 (HB2.out.got 0 (Nat.le_of_ble_eq_true rfl)).nk.1 E2.out.2.2).mono ?_
  rintro e wi ⟨av, bw, rfl, hO1, hO2, hB⟩
  rw [tobe_back E2.out.1] at hO1
  rw [tobe_back E2.out.2.1] at hO2
  have Hwi : Hid (Lf w wi [(wh.heap.size, [.slice qx0 qx1 qx2, .slice qy0 qy1 qy2, .bool false]), (wd.heap.size, [.slice gx0 gx1 gx2, .slice gy0 gy1 gy2, .bool false]), (w.heap.size, [.slice u0 u1 u2, .slice v0 v1 v2, .bool false])] [(.slice u0 u1 u2, U), (.slice v0 v1 v2, V)] [(.slice qy0 qy1 qy2, bv ly), (.slice qx0 qx1 qx2, bv lx), (.slice gy0 gy1 gy2, V), (.slice gx0 gx1 gx2, U)]) := (HB2.out.below hB)
  obtain ⟨xa', xc', rfl, _, hr1⟩ := hO1.nb
  obtain ⟨ya', yc', rfl, _, hr2⟩ := hO2.nb
  have HS : Hid (Rd wi xa' lx ∧ Rd wi ya' ly) := ⟨hr1, hr2⟩
  clear hO1 hO2 hr1 hr2 hB
  have k2_0 : wi.cell? ⟨wh.heap.size, 0, none⟩ = some (.slice qx0 qx1 qx2) := Hwi.out.cell 0 0 (Nat.le_of_ble_eq_true rfl) (Nat.le_of_ble_eq_true rfl)
  have k2_1 : wi.cell? ⟨wh.heap.size, 1, none⟩ = some (.slice qy0 qy1 qy2) := Hwi.out.cell 0 1 (Nat.le_of_ble_eq_true rfl) (Nat.le_of_ble_eq_true rfl)
  have k2_2 : wi.cell? ⟨wh.heap.size, 2, none⟩ = some (.bool false) := Hwi.out.cell 0 2 (Nat.le_of_ble_eq_true rfl) (Nat.le_of_ble_eq_true rfl)
  go_wp2_with fail
  clear k2_0 k2_1 k2_2
  have C := on_v hk _ _ (bv lx) (bv ly) false _ (Hwi.out.got 1 (Nat.le_of_ble_eq_true rfl)).nk.1 (Hwi.out.got 0 (Nat.le_of_ble_eq_true rfl)).nk.1
  rw [E2.out.2.2] at C
  refine C.mono ?_
  clear C
  rintro e wj ⟨rfl, hB⟩
  have HSj : Hid (Rd wj xa' lx ∧ Rd wj ya' ly) := ⟨HS.out.1.below hB (Nat.le_refl _), HS.out.2.below hB (Nat.le_refl _)⟩
  have Hwj : Hid (Lf w wj [(wh.heap.size, [.slice qx0 qx1 qx2, .slice qy0 qy1 qy2, .bool false]), (wd.heap.size, [.slice gx0 gx1 gx2, .slice gy0 gy1 gy2, .bool false]), (w.heap.size, [.slice u0 u1 u2, .slice v0 v1 v2, .bool false])] [(.slice u0 u1 u2, U), (.slice v0 v1 v2, V)] [(.slice qy0 qy1 qy2, bv ly), (.slice qx0 qx1 qx2, bv lx), (.slice gy0 gy1 gy2, V), (.slice gx0 gx1 gx2, U)]) := (Hwi.out.below hB)
  clear hB
  go_wp2_with fail
  have C := sameBytes_any xa' ax xc' cx lx lx _ HSj.out.1 (HR.out.1.below Hwj.out.bel (Nat.le_refl _)) (Nat.le_trans HR.out.2.2.1 (by decide)) (Nat.le_trans HR.out.2.2.1 (by decide))
  rw [decide_eq_true (rfl : lx = lx)] at C
  refine C.mono ?_
  clear C
  rintro e wk ⟨rfl, q, hq⟩
  have hB : Below wj.heap.size wj wk := (by rw [hq]; exact below_drewN (Below.refl _ _) q)
  clear hq
  have HSk : Hid (Rd wk ya' ly) := HSj.out.2.below hB (Nat.le_refl _)
  have Hwk : Hid (Lf w wk [(wh.heap.size, [.slice qx0 qx1 qx2, .slice qy0 qy1 qy2, .bool false]), (wd.heap.size, [.slice gx0 gx1 gx2, .slice gy0 gy1 gy2, .bool false]), (w.heap.size, [.slice u0 u1 u2, .slice v0 v1 v2, .bool false])] [(.slice u0 u1 u2, U), (.slice v0 v1 v2, V)] [(.slice qy0 qy1 qy2, bv ly), (.slice qx0 qx1 qx2, bv lx), (.slice gy0 gy1 gy2, V), (.slice gx0 gx1 gx2, U)]) := (Hwj.out.below hB)
  clear hB
  go_wp2_with fail
  have C := sameBytes_any ya' ay yc' cy ly ly _ HSk.out (HR.out.2.1.below Hwk.out.bel (Nat.le_refl _)) (Nat.le_trans HR.out.2.2.2 (by decide)) (Nat.le_trans HR.out.2.2.2 (by decide))
  rw [decide_eq_true (rfl : ly = ly)] at C
  refine C.mono ?_
  clear C
  rintro e wl ⟨rfl, q, hq⟩
  have hB : Below wk.heap.size wk wl := (by rw [hq]; exact below_drewN (Below.refl _ _) q)
  clear hq
  have Hwl : Hid (Lf w wl [(wh.heap.size, [.slice qx0 qx1 qx2, .slice qy0 qy1 qy2, .bool false]), (wd.heap.size, [.slice gx0 gx1 gx2, .slice gy0 gy1 gy2, .bool false]), (w.heap.size, [.slice u0 u1 u2, .slice v0 v1 v2, .bool false])] [(.slice u0 u1 u2, U), (.slice v0 v1 v2, V)] [(.slice qy0 qy1 qy2, bv ly), (.slice qx0 qx1 qx2, bv lx), (.slice gy0 gy1 gy2, V), (.slice gx0 gx1 gx2, U)]) := (Hwk.out.below hB)
  clear hB
  go_wp2
  go_ret
  exact ⟨rfl, Hwl.out.bel⟩
theorem back_core (c : Int) (u v : Value) (U V : Nat) (inf : Bool) (ax ay : Option Addr) (cx cy : Nat) (lx ly : List UInt8) (w : World) (hu : Nu w u U) (hv : Nu w v V) (hx : Rd w ax lx) (hy : Rd w ay ly) (l1 : lx.length ≤ 100000000) (l2 : ly.length ≤ 100000000) : Calls Tryz.prog 10 #[.int .i64 c, .agg #[u, v, .bool inf], .slice ax lx.length cx, .slice ay ly.length cy] w fun e w' => e = .returned (.bool true) ∧ Below w.heap.size w w' := by
  have key : ∀ {s : Int} {p b n gx gy : Nat}, Kv c p b n gx gy s → Calls Tryz.prog 10 #[.int .i64 c, .agg #[u, v, .bool inf], .slice ax lx.length cx, .slice ay ly.length cy] w fun e w' => e = .returned (.bool true) ∧ Below w.heap.size w w' := by
    intro s p b n gx gy hk
    cases inf with
    | true =>
      cases hd : decB p b s lx ly with
      | false => exact back_inf_bad hk u v U V ax ay cx cy lx ly w hu hv hx hy l1 l2 hd
      | true => exact back_inf_ok hk u v U V ax ay cx cy lx ly w hu hv hx hy l1 l2 hd
    | false =>
      cases o1 : onB p b U V false with
      | false =>
        cases hd : decB p b s lx ly with
        | false => exact back_off_bad hk u v U V ax ay cx cy lx ly w hu hv hx hy l1 l2 o1 hd
        | true => exact back_off_ok hk u v U V ax ay cx cy lx ly w hu hv hx hy l1 l2 o1 hd
      | true =>
        cases hd : decB p b s lx ly with
        | false => exact back_ok_bad hk u v U V ax ay cx cy lx ly w hu hv hx hy l1 l2 o1 hd
        | true => exact back_ok_ok hk u v U V ax ay cx cy lx ly w hu hv hx hy l1 l2 o1 hd
  by_cases h1 : c = 1
  · subst h1; exact key .k1
  · by_cases h2 : c = 2
    · subst h2; exact key .k2
    · cases inf with
      | true => exact back_n1 c h1 h2 u v U V ax ay cx cy lx ly w hu hv hx hy l1 l2
      | false => exact back_n2 c h1 h2 u v U V ax ay cx cy lx ly w hu hv hx hy l1 l2
end Go.Proofs.YtnifjhmjpbihoaaGreatDoor
