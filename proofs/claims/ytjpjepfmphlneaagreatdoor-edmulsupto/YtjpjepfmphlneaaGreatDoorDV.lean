import Derived.Test.YtjpjepfmphlneaaGreatDoorDU
namespace Go.Proofs.YtjpjepfmphlneaaGreatDoor
open Go.RowKit

set_option maxRecDepth 100000

/-- The point that a ratio stands for. -/
theorem rq_point {r : R4} {P : Nat × Nat} {J : Nat} (h : Rq eP r P) (oP : onE eP eD P) (hJ : Inz r.z eP J) : (fM eP r.x J, fM eP r.y J) = P := by
  have hi : (eP : Int) ∣ (r.z : Int) * J - 1 := by
    have h2 := dvd_modE eP (r.z * J)
    rw [hJ.2, Int.natCast_mul] at h2
    exact lc1 (-1) h2 (by grind)
  have c1 : (eP : Int) ∣ (fM eP r.x J : Int) - (r.x : Int) * J := cg_fM cg_nat cg_nat
  have c2 : (eP : Int) ∣ (fM eP r.y J : Int) - (r.y : Int) * J := cg_fM cg_nat cg_nat
  have e1 := h.ex
  have e2 := h.ey
  refine Prod.ext (eq_of_dvd (fM_lt pmP _ _) oP.1 ?_) (eq_of_dvd (fM_lt pmP _ _) oP.2.1 ?_)
  · exact lc3 1 (J : Int) (P.1 : Int) c1 e1 hi (by grind)
  · exact lc3 1 (J : Int) (P.2 : Int) c2 e2 hi (by grind)
theorem efixed_v (v : Value) (V : Nat) (w : World) (hv : Nu w v V) (hV : V < pw 256) :
    Calls Tryz.prog 62 #[v, .int .i64 32] w fun e w' => ∃ r, e = .returned (.tuple #[r, .bool true]) ∧ Owb w' w.heap.size r (tobe 32 V) ∧ Below w.heap.size w w' := by
  obtain ⟨xs, n1, rfl, k1⟩ := hv
  have hb := bl_pw hV (by decide)
  have hs : (lst (nv Bs xs) : Int) ≤ 32 ∧ (32 : Int) ≤ 16384 := ⟨by unfold lst; omega, by decide⟩
  refine (fixed_nm v xs 32 w n1 (by omega)).mono ?_
  rintro e w' ⟨r, l, rfl, h1, h2, h3⟩
  rw [if_pos hs] at h2
  subst h2
  rw [decide_eq_true hs]
  exact ⟨r, rfl, h1, h3⟩
theorem Fm.butM {w wN w' : World} {bs : List (TypeId × List Value)} {A : List (Value × Nat × Nat)} {g : Nat} (h : Fm w wN bs A []) (hb : But wN w' g) (hg : w.heap.size + bs.length ≤ g) (hA : ∀ q ∈ A, Nk w q.1 q.2.1 q.2.2) : Fm w w' bs A [] := by
  have hB : Below w.heap.size w w' := h.bel.trans (hb.below h.bel.size (by omega))
  refine ⟨fun i hi => ?_, fun q hq => (hA q hq).below hB (Nat.le_refl _), fun q hq => (by cases hq), .nil, Nat.le_trans h.sz hb.size, hB⟩
  have h1 := h.bx i hi
  unfold Bl at *
  rw [hb.block _ (Array.getElem?_eq_some_iff.1 h1).1 (by omega)]
  exact h1
/-- What the ladder stands for. -/
theorem lad_joint {A B : R4} {P Q : Nat × Nat} (hA : Rq eP A P) (hB : Rq eP B Q) (oP : onE eP eD P) (oQ : onE eP eD Q) (a b : Nat) : Rq eP (ldq eP eD A B (pq eP eD A B) (max (bl a) (bl b)) a b) (se eP eD (me eP eD a P) (me eP eD b Q)) :=
  ew.ldq_is hA hB (ew.plus hA hB oP oQ) oP oQ _ a b (Nat.lt_of_lt_of_le (bl_lt a) (Nat.pow_le_pow_right (by decide) (Nat.le_max_left _ _))) (Nat.lt_of_lt_of_le (bl_lt b) (Nat.pow_le_pow_right (by decide) (Nat.le_max_right _ _)))
theorem lad_mul {X Y : Nat} (oP : onE eP eD (X, Y)) (K : Nat) : Rq eP (ldq eP eD ⟨X, Y, 1, X * Y % eP⟩ q0 (pq eP eD ⟨X, Y, 1, X * Y % eP⟩ q0) (max (bl K) (bl 0)) K 0) (me eP eD K (X, Y)) := by
  have h := lad_joint (Rq.of (by decide +kernel) oP) q0_is oP ew.on0 K 0
  rw [ew.m0, ew.zr (ew.mon oP _)] at h
  exact h
set_option maxHeartbeats 8000000 in
theorem encode_no (x y : Value) (X Y : Nat) (inf : Bool) (w : World) (T : Te w) (hx : Nu w x X) (hy : Nu w y Y) (hon : onV X Y inf = false) :
    Calls Tryz.prog 25 #[.agg #[x, y, .bool inf]] w fun e w' => (e = .returned (.tuple #[.slice none 0 0, .int .i64 93])) ∧ Below w.heap.size w w' := by
  obtain ⟨x0, x1, x2, rfl⟩ := hx.shape
  obtain ⟨y0, y1, y2, rfl⟩ := hy.shape
  have HF0 : Hid (Fm w (w.alloc (.cells #[.slice x0 x1 x2, .slice y0 y1 y2, .bool inf] 31)) [(31, [.slice x0 x1 x2, .slice y0 y1 y2, .bool inf])] [(.slice x0 x1 x2, X, X), (.slice y0 y1 y2, Y, Y)] []) := ((Fm.nil (w := w) (A := [(.slice x0 x1 x2, X, X), (.slice y0 y1 y2, Y, Y)]) (ar_cons ⟨hx, Nat.lt_two_pow_self⟩ (ar_cons ⟨hy, Nat.lt_two_pow_self⟩ ar_nil))).push (by simp) 31 [.slice x0 x1 x2, .slice y0 y1 y2, .bool inf])
  have C := on_v _ _ X Y inf _ (T.below HF0.out.bel (Nat.le_refl _)) (HF0.out.arg 0 (okb rfl)).1 (HF0.out.arg 1 (okb rfl)).1
  rw [hon] at C
  clear hx hy T hon
  go_enter Tryz.func25, Tryz.ntmps25
  go_wp2_with fail
  generalize (w.alloc (.cells #[.slice x0 x1 x2, .slice y0 y1 y2, .bool inf] 31)) = w0 at *
  refine C.mono ?_
  clear C
  rintro e w1 ⟨rfl, hB⟩
  have HF1 : Hid (Fm w w1 [(31, [.slice x0 x1 x2, .slice y0 y1 y2, .bool inf])] [(.slice x0 x1 x2, X, X), (.slice y0 y1 y2, Y, Y)] []) := HF0.out.below hB
  clear hB
  go_wp2
  go_ret2
  exact ⟨rfl, HF1.out.bel⟩
set_option maxHeartbeats 8000000 in
theorem encode_even (x y : Value) (X Y : Nat) (inf : Bool) (w : World) (T : Te w) (hx : Nu w x X) (hy : Nu w y Y) (hon : onV X Y inf = true) (hp : X % 2 = 0) :
    Calls Tryz.prog 25 #[.agg #[x, y, .bool inf]] w fun e w' => (∃ v, e = .returned (.tuple #[v, .int .i64 0]) ∧ Owb w' w.heap.size v (encL (X, Y))) ∧ Below w.heap.size w w' := by
  obtain ⟨x0, x1, x2, rfl⟩ := hx.shape
  obtain ⟨y0, y1, y2, rfl⟩ := hy.shape
  have hP := ((onV_iff X Y inf).1 hon).2
  have HA : Hid (∀ q ∈ [(.slice x0 x1 x2, X, 256), (.slice y0 y1 y2, Y, 256)], Nk w q.1 q.2.1 q.2.2) := (ar_cons ⟨hx, lt_pw hP.1⟩ (ar_cons ⟨hy, lt_pw hP.2.1⟩ ar_nil))
  have HF0 : Hid (Fm w (w.alloc (.cells #[.slice x0 x1 x2, .slice y0 y1 y2, .bool inf] 31)) [(31, [.slice x0 x1 x2, .slice y0 y1 y2, .bool inf])] [(.slice x0 x1 x2, X, 256), (.slice y0 y1 y2, Y, 256)] []) := ((Fm.nil (w := w) (A := [(.slice x0 x1 x2, X, 256), (.slice y0 y1 y2, Y, 256)]) (ar_cons ⟨hx, lt_pw hP.1⟩ (ar_cons ⟨hy, lt_pw hP.2.1⟩ ar_nil))).push (by simp) 31 [.slice x0 x1 x2, .slice y0 y1 y2, .bool inf])
  have HP : Hid (onE eP eD (X, Y)) := hP
  have C := on_v _ _ X Y inf _ (T.below HF0.out.bel (Nat.le_refl _)) (HF0.out.arg 0 (okb rfl)).1 (HF0.out.arg 1 (okb rfl)).1
  rw [hon] at C
  clear hx hy T hon hP
  go_enter Tryz.func25, Tryz.ntmps25
  go_wp2_with fail
  generalize (w.alloc (.cells #[.slice x0 x1 x2, .slice y0 y1 y2, .bool inf] 31)) = w0 at *
  refine C.mono ?_
  clear C
  rintro e w1 ⟨rfl, hB⟩
  have HF1 : Hid (Fm w w1 [(31, [.slice x0 x1 x2, .slice y0 y1 y2, .bool inf])] [(.slice x0 x1 x2, X, 256), (.slice y0 y1 y2, Y, 256)] []) := HF0.out.below hB
  clear hB
  have k1 : w1.cell? ⟨w.heap.size, 1, none⟩ = some (.slice y0 y1 y2) := HF1.out.cell 0 1 (okb rfl) (okb rfl)
  go_wp2_with fail
  clear k1
  refine (efixed_v _ Y _ (HF1.out.arg 1 (okb rfl)).1 (HF1.out.arg 1 (okb rfl)).2).mono ?_
  rintro e w2 ⟨v, rfl, hO, hB⟩
  have HF2 : Hid (Fm w w2 [(31, [.slice x0 x1 x2, .slice y0 y1 y2, .bool inf])] [(.slice x0 x1 x2, X, 256), (.slice y0 y1 y2, Y, 256)] []) := HF1.out.below hB
  have hsz := HF1.out.sz
  rw [List.length_singleton] at hsz
  obtain ⟨g, cap, cs, rfl, hg, hgl, hb, hn, ht, hcap, hmx⟩ := hO.blk (by rw [tobe_length]; decide)
  rw [tobe_length] at hn ht ⊢
  have C := reverse_v g 32 cap cs (tobe 32 Y) w2 hb hn ht (by decide)
  clear hO hB ht hb
  go_wp2_with fail
  refine C.mono ?_
  clear C
  rintro e w3 ⟨rfl, cs', hb, hlen, ht, hbut⟩
  have HF3 : Hid (Fm w w3 [(31, [.slice x0 x1 x2, .slice y0 y1 y2, .bool inf])] [(.slice x0 x1 x2, X, 256), (.slice y0 y1 y2, Y, 256)] []) := HF2.out.butM hbut (by rw [List.length_singleton]; omega) HA.out
  clear hbut
  replace ht : cs'.take 32 = (leB 32 Y).map B := ht
  have k0 : w3.cell? ⟨w.heap.size, 0, none⟩ = some (.slice x0 x1 x2) := HF3.out.cell 0 0 (okb rfl) (okb rfl)
  go_wp2_with fail
  clear k0
  refine (ebit0_v _ X _ (HF3.out.arg 0 (okb rfl)).1).mono ?_
  rintro e w3 ⟨rfl, rfl⟩
  rw [decide_eq_false (by omega : ¬ X % 2 = 1)]
  have HX : Hid (Owb w3 w.heap.size (.slice (some ⟨g, 0, none⟩) 32 cap) (encL (X, Y))) := by
    rw [enc_even hp]
    have h := hb.owb' (base := w.heap.size) (l := leB 32 Y) (by omega) (by rw [leB_len]; exact ht) (by rw [leB_len]; omega) (by omega)
    rw [leB_len, hlen, hcap] at h
    exact h
  clear hb ht
  go_wp2
  go_ret2
  exact ⟨⟨_, rfl, HX.out⟩, HF3.out.bel⟩
set_option maxHeartbeats 8000000 in
theorem encode_odd (x y : Value) (X Y : Nat) (inf : Bool) (w : World) (T : Te w) (hx : Nu w x X) (hy : Nu w y Y) (hon : onV X Y inf = true) (hp : X % 2 = 1) :
    Calls Tryz.prog 25 #[.agg #[x, y, .bool inf]] w fun e w' => (∃ v, e = .returned (.tuple #[v, .int .i64 0]) ∧ Owb w' w.heap.size v (encL (X, Y))) ∧ Below w.heap.size w w' := by
  obtain ⟨x0, x1, x2, rfl⟩ := hx.shape
  obtain ⟨y0, y1, y2, rfl⟩ := hy.shape
  have hP := ((onV_iff X Y inf).1 hon).2
  have HA : Hid (∀ q ∈ [(.slice x0 x1 x2, X, 256), (.slice y0 y1 y2, Y, 256)], Nk w q.1 q.2.1 q.2.2) := (ar_cons ⟨hx, lt_pw hP.1⟩ (ar_cons ⟨hy, lt_pw hP.2.1⟩ ar_nil))
  have HF0 : Hid (Fm w (w.alloc (.cells #[.slice x0 x1 x2, .slice y0 y1 y2, .bool inf] 31)) [(31, [.slice x0 x1 x2, .slice y0 y1 y2, .bool inf])] [(.slice x0 x1 x2, X, 256), (.slice y0 y1 y2, Y, 256)] []) := ((Fm.nil (w := w) (A := [(.slice x0 x1 x2, X, 256), (.slice y0 y1 y2, Y, 256)]) (ar_cons ⟨hx, lt_pw hP.1⟩ (ar_cons ⟨hy, lt_pw hP.2.1⟩ ar_nil))).push (by simp) 31 [.slice x0 x1 x2, .slice y0 y1 y2, .bool inf])
  have HP : Hid (onE eP eD (X, Y)) := hP
  have C := on_v _ _ X Y inf _ (T.below HF0.out.bel (Nat.le_refl _)) (HF0.out.arg 0 (okb rfl)).1 (HF0.out.arg 1 (okb rfl)).1
  rw [hon] at C
  clear hx hy T hon hP
  go_enter Tryz.func25, Tryz.ntmps25
  go_wp2_with fail
  generalize (w.alloc (.cells #[.slice x0 x1 x2, .slice y0 y1 y2, .bool inf] 31)) = w0 at *
  refine C.mono ?_
  clear C
  rintro e w1 ⟨rfl, hB⟩
  have HF1 : Hid (Fm w w1 [(31, [.slice x0 x1 x2, .slice y0 y1 y2, .bool inf])] [(.slice x0 x1 x2, X, 256), (.slice y0 y1 y2, Y, 256)] []) := HF0.out.below hB
  clear hB
  have k1 : w1.cell? ⟨w.heap.size, 1, none⟩ = some (.slice y0 y1 y2) := HF1.out.cell 0 1 (okb rfl) (okb rfl)
  go_wp2_with fail
  clear k1
  refine (efixed_v _ Y _ (HF1.out.arg 1 (okb rfl)).1 (HF1.out.arg 1 (okb rfl)).2).mono ?_
  rintro e w2 ⟨v, rfl, hO, hB⟩
  have HF2 : Hid (Fm w w2 [(31, [.slice x0 x1 x2, .slice y0 y1 y2, .bool inf])] [(.slice x0 x1 x2, X, 256), (.slice y0 y1 y2, Y, 256)] []) := HF1.out.below hB
  have hsz := HF1.out.sz
  rw [List.length_singleton] at hsz
  obtain ⟨g, cap, cs, rfl, hg, hgl, hb, hn, ht, hcap, hmx⟩ := hO.blk (by rw [tobe_length]; decide)
  rw [tobe_length] at hn ht ⊢
  have C := reverse_v g 32 cap cs (tobe 32 Y) w2 hb hn ht (by decide)
  clear hO hB ht hb
  go_wp2_with fail
  refine C.mono ?_
  clear C
  rintro e w3 ⟨rfl, cs', hb, hlen, ht, hbut⟩
  have HF3 : Hid (Fm w w3 [(31, [.slice x0 x1 x2, .slice y0 y1 y2, .bool inf])] [(.slice x0 x1 x2, X, 256), (.slice y0 y1 y2, Y, 256)] []) := HF2.out.butM hbut (by rw [List.length_singleton]; omega) HA.out
  clear hbut
  replace ht : cs'.take 32 = (leB 32 Y).map B := ht
  have k0 : w3.cell? ⟨w.heap.size, 0, none⟩ = some (.slice x0 x1 x2) := HF3.out.cell 0 0 (okb rfl) (okb rfl)
  go_wp2_with fail
  clear k0
  refine (ebit0_v _ X _ (HF3.out.arg 0 (okb rfl)).1).mono ?_
  rintro e w3 ⟨rfl, rfl⟩
  rw [decide_eq_true hp]
  obtain ⟨m, d, hmd, hm⟩ := last32 (leB_len 32 Y)
  rw [hmd] at ht
  have hd : d.toNat < 128 := by
    have h2 := le_o d hm
    rw [← hmd, leN_leB 32 Y (by rw [h256]; have := Nat.lt_trans HP.out.2.1 eP_lt; show Y < _; omega), Nat.div_eq_of_lt (Nat.lt_trans HP.out.2.1 eP_lt)] at h2
    omega
  obtain ⟨d', Hd'⟩ : ∃ d', Hid (d' = d ||| 128) := ⟨_, rfl⟩
  have hor := bito80 d hd
  rw [← Hd'.out] at hor
  have e31 : cs'[31]? = some (.int .u8 (d.toNat : Int)) := by
    rw [← List.getElem?_take_of_lt (show 31 < 32 by omega), ht, List.getElem?_map, List.getElem?_append_right (by omega), hm]
    rfl
  have c31 : w3.cell? ⟨g, 31, none⟩ = some (.int .u8 (d.toNat : Int)) := by
    rw [hb.cell 31 (by omega)]
    rw [List.getElem?_eq_getElem (by omega)] at e31
    exact e31
  have f31 := hb.frozen 31
  have HX : Hid (Owb (w3.setCell ⟨g, 31, none⟩ (.int .u8 (d'.toNat : Int))) w.heap.size (.slice (some ⟨g, 0, none⟩) 32 cap) (encL (X, Y)) ∧ Below w.heap.size w (w3.setCell ⟨g, 31, none⟩ (.int .u8 (d'.toNat : Int)))) := by
    have h2 := take_set32 (d' := d') hm (by omega) ht
    have he : encL (X, Y) = m ++ [d'] := enc_odd HP.out hp hmd Hd'.out
    have hl : (m ++ [d']).length = 32 := by rw [List.length_append, hm]; rfl
    rw [he]
    have h := (hb.set 31 (.int .u8 (d'.toNat : Int))).owb' (base := w.heap.size) (l := m ++ [d']) (by omega) (by rw [hl]; exact h2) (by rw [hl, List.length_set]; omega) (by rw [List.length_set]; omega)
    rw [hl, List.length_set, hlen, hcap] at h
    exact ⟨h, HF3.out.bel.trans (((But.refl w3 g).set 31 (.int .u8 (d'.toNat : Int))).below HF3.out.bel.size (by omega))⟩
  clear hb ht e31 hmd
  go_wp2
  go_ret2
  exact ⟨⟨_, rfl, HX.out.1⟩, HX.out.2⟩
set_option maxHeartbeats 8000000 in
theorem add_ok (x y u v : Value) (X Y U V : Nat) (w : World) (T : Te w) (hx : Nu w x X) (hy : Nu w y Y) (hu : Nu w u U) (hv : Nu w v V) (oP : onE eP eD (X, Y)) (oQ : onE eP eD (U, V)) :
    Calls Tryz.prog 17 #[.agg #[x, y, .bool false], .agg #[u, v, .bool false]] w fun e w' => ∃ t, e = .returned (.tuple #[t, .int .i64 0]) ∧ Pe w' w.heap.size t (se eP eD (X, Y) (U, V)) ∧ Below w.heap.size w w' := by
  obtain ⟨x0, x1, x2, rfl⟩ := hx.shape
  obtain ⟨y0, y1, y2, rfl⟩ := hy.shape
  obtain ⟨u0, u1, u2, rfl⟩ := hu.shape
  obtain ⟨v0, v1, v2, rfl⟩ := hv.shape
  have HF0 : Hid (Fm w (((w.alloc (.cells #[.slice x0 x1 x2, .slice y0 y1 y2, .bool false] 31)).alloc (.cells #[.slice u0 u1 u2, .slice v0 v1 v2, .bool false] 31)).alloc (.cells #[.slice none 0 0, .slice none 0 0, .bool false] 31)) [(31, [.slice x0 x1 x2, .slice y0 y1 y2, .bool false]), (31, [.slice u0 u1 u2, .slice v0 v1 v2, .bool false]), (31, [.slice none 0 0, .slice none 0 0, .bool false])] [(.slice x0 x1 x2, X, 256), (.slice y0 y1 y2, Y, 256), (.slice u0 u1 u2, U, 256), (.slice v0 v1 v2, V, 256)] []) := ((((Fm.nil (w := w) (A := [(.slice x0 x1 x2, X, 256), (.slice y0 y1 y2, Y, 256), (.slice u0 u1 u2, U, 256), (.slice v0 v1 v2, V, 256)]) (ar_cons ⟨hx, lt_pw oP.1⟩ (ar_cons ⟨hy, lt_pw oP.2.1⟩ (ar_cons ⟨hu, lt_pw oQ.1⟩ (ar_cons ⟨hv, lt_pw oQ.2.1⟩ ar_nil))))).push (by simp) 31 [.slice x0 x1 x2, .slice y0 y1 y2, .bool false]).push (by simp) 31 [.slice u0 u1 u2, .slice v0 v1 v2, .bool false]).push (by simp) 31 [.slice none 0 0, .slice none 0 0, .bool false])
  have HT : Hid (Te w) := T
  have HO : Hid (onE eP eD (X, Y) ∧ onE eP eD (U, V)) := ⟨oP, oQ⟩
  have C := on_v _ _ X Y false _ (T.below HF0.out.bel (Nat.le_refl _)) (HF0.out.arg 0 (okb rfl)).1 (HF0.out.arg 1 (okb rfl)).1
  rw [(onV_iff X Y false).2 ⟨rfl, oP⟩] at C
  clear hx hy hu hv T oP oQ
  go_enter Tryz.func17, Tryz.ntmps17
  go_wp2_with fail
  generalize (((w.alloc (.cells #[.slice x0 x1 x2, .slice y0 y1 y2, .bool false] 31)).alloc (.cells #[.slice u0 u1 u2, .slice v0 v1 v2, .bool false] 31)).alloc (.cells #[.slice none 0 0, .slice none 0 0, .bool false] 31)) = w0 at *
  refine C.mono ?_
  clear C
  rintro e w1 ⟨rfl, hB⟩
  have HF1 : Hid (Fm w w1 [(31, [.slice x0 x1 x2, .slice y0 y1 y2, .bool false]), (31, [.slice u0 u1 u2, .slice v0 v1 v2, .bool false]), (31, [.slice none 0 0, .slice none 0 0, .bool false])] [(.slice x0 x1 x2, X, 256), (.slice y0 y1 y2, Y, 256), (.slice u0 u1 u2, U, 256), (.slice v0 v1 v2, V, 256)] []) := HF0.out.below hB
  clear hB
  have k0 : w1.cell? ⟨w.heap.size + 1, 0, none⟩ = some (.slice u0 u1 u2) := HF1.out.cell 1 0 (okb rfl) (okb rfl)
  have k1 : w1.cell? ⟨w.heap.size + 1, 1, none⟩ = some (.slice v0 v1 v2) := HF1.out.cell 1 1 (okb rfl) (okb rfl)
  have k2 : w1.cell? ⟨w.heap.size + 1, 2, none⟩ = some (.bool false) := HF1.out.cell 1 2 (okb rfl) (okb rfl)
  have C := on_v _ _ U V false _ (HT.out.below HF1.out.bel (Nat.le_refl _)) (HF1.out.arg 2 (okb rfl)).1 (HF1.out.arg 3 (okb rfl)).1
  rw [(onV_iff U V false).2 ⟨rfl, HO.out.2⟩] at C
  go_wp2_with fail
  refine C.mono ?_
  clear C k0 k1 k2
  rintro e w2 ⟨rfl, hB⟩
  have HF2 : Hid (Fm w w2 [(31, [.slice x0 x1 x2, .slice y0 y1 y2, .bool false]), (31, [.slice u0 u1 u2, .slice v0 v1 v2, .bool false]), (31, [.slice none 0 0, .slice none 0 0, .bool false])] [(.slice x0 x1 x2, X, 256), (.slice y0 y1 y2, Y, 256), (.slice u0 u1 u2, U, 256), (.slice v0 v1 v2, V, 256)] []) := HF1.out.below hB
  clear hB
  go_wp2_with fail
  have HF2d : Hid (Fm w w2.drew [(31, [.slice x0 x1 x2, .slice y0 y1 y2, .bool false]), (31, [.slice u0 u1 u2, .slice v0 v1 v2, .bool false]), (31, [.slice none 0 0, .slice none 0 0, .bool false])] [(.slice x0 x1 x2, X, 256), (.slice y0 y1 y2, Y, 256), (.slice u0 u1 u2, U, 256), (.slice v0 v1 v2, V, 256)] []) := HF2.out.drew
  refine wp_region_K 6 (fun (w' : World) => w'.cell? ⟨w.heap.size, 0, none⟩ = some (.slice x0 x1 x2) ∧ w'.cell? ⟨w.heap.size, 1, none⟩ = some (.slice y0 y1 y2) ∧ w'.cell? ⟨w.heap.size, 2, none⟩ = some (.bool false) ∧ w'.cell? ⟨w.heap.size + 1, 0, none⟩ = some (.slice u0 u1 u2) ∧ w'.cell? ⟨w.heap.size + 1, 1, none⟩ = some (.slice v0 v1 v2) ∧ w'.cell? ⟨w.heap.size + 1, 2, none⟩ = some (.bool false)) (by kernel_rfl) ?_
  have hHeld : ((fun (w' : World) => w'.cell? ⟨w.heap.size, 0, none⟩ = some (.slice x0 x1 x2) ∧ w'.cell? ⟨w.heap.size, 1, none⟩ = some (.slice y0 y1 y2) ∧ w'.cell? ⟨w.heap.size, 2, none⟩ = some (.bool false) ∧ w'.cell? ⟨w.heap.size + 1, 0, none⟩ = some (.slice u0 u1 u2) ∧ w'.cell? ⟨w.heap.size + 1, 1, none⟩ = some (.slice v0 v1 v2) ∧ w'.cell? ⟨w.heap.size + 1, 2, none⟩ = some (.bool false))) (World.drew _) := ⟨HF2d.out.cell 0 0 (okb rfl) (okb rfl), HF2d.out.cell 0 1 (okb rfl) (okb rfl), HF2d.out.cell 0 2 (okb rfl) (okb rfl), HF2d.out.cell 1 0 (okb rfl) (okb rfl), HF2d.out.cell 1 1 (okb rfl) (okb rfl), HF2d.out.cell 1 2 (okb rfl) (okb rfl)⟩
  refine wpAnyK_take 0 [1, 4, 5, 6] (v := ?v1) rfl (by kernel_rfl) (fun _ _ _ h => h) (Or.inl ⟨by rfl, ?hy1⟩) hHeld ?_
  case hy1 => (intro w hSw; (try dsimp only at hSw); go_simp; try with_reducible rfl)
  try simp only [Act.put, List.setIfInBounds_toArray, List.set_cons_zero, List.set_cons_succ]
  refine wpAnyK_take 2 [3, 4, 5, 6] (v := ?v2) rfl (by kernel_rfl) (fun _ _ _ h => h) (Or.inl ⟨by rfl, ?hy2⟩) hHeld ?_
  case hy2 => (intro w hSw; (try dsimp only at hSw); go_simp; try with_reducible rfl)
  try simp only [Act.put, List.setIfInBounds_toArray, List.set_cons_zero, List.set_cons_succ]
  refine wpAnyK_step 1 rfl (by kernel_rfl) (fun K hK => ?_)
  go_simp
  refine (asRatio_v _ _ X Y _ (HT.out.below HF2d.out.bel (Nat.le_refl _)) (HF2d.out.arg 0 (okb rfl)) (HF2d.out.arg 1 (okb rfl))).mono ?_
  rintro e w3 ⟨q1, rfl, hm, hB⟩
  have HF3 : Hid (Fm w w3 [(31, [.slice x0 x1 x2, .slice y0 y1 y2, .bool false]), (31, [.slice u0 u1 u2, .slice v0 v1 v2, .bool false]), (31, [.slice none 0 0, .slice none 0 0, .bool false])] [(.slice x0 x1 x2, X, 256), (.slice y0 y1 y2, Y, 256), (.slice u0 u1 u2, U, 256), (.slice v0 v1 v2, V, 256)] []) := HF2d.out.below hB
  have HQ1 : Hid (Q4 w3 q1 _) := hm.q4
  clear hm hB
  try dsimp only
  refine hK.out _ _ ?hk3 ?_
  case hk3 => exact fun _ => ⟨HF3.out.cell 0 0 (okb rfl) (okb rfl), HF3.out.cell 0 1 (okb rfl) (okb rfl), HF3.out.cell 0 2 (okb rfl) (okb rfl), HF3.out.cell 1 0 (okb rfl) (okb rfl), HF3.out.cell 1 1 (okb rfl) (okb rfl), HF3.out.cell 1 2 (okb rfl) (okb rfl)⟩
  have hHeld : ((fun (w' : World) => w'.cell? ⟨w.heap.size, 0, none⟩ = some (.slice x0 x1 x2) ∧ w'.cell? ⟨w.heap.size, 1, none⟩ = some (.slice y0 y1 y2) ∧ w'.cell? ⟨w.heap.size, 2, none⟩ = some (.bool false) ∧ w'.cell? ⟨w.heap.size + 1, 0, none⟩ = some (.slice u0 u1 u2) ∧ w'.cell? ⟨w.heap.size + 1, 1, none⟩ = some (.slice v0 v1 v2) ∧ w'.cell? ⟨w.heap.size + 1, 2, none⟩ = some (.bool false))) _ := ⟨HF3.out.cell 0 0 (okb rfl) (okb rfl), HF3.out.cell 0 1 (okb rfl) (okb rfl), HF3.out.cell 0 2 (okb rfl) (okb rfl), HF3.out.cell 1 0 (okb rfl) (okb rfl), HF3.out.cell 1 1 (okb rfl) (okb rfl), HF3.out.cell 1 2 (okb rfl) (okb rfl)⟩
  clear hK K
  try simp only [Act.put, List.setIfInBounds_toArray, List.set_cons_zero, List.set_cons_succ]
  refine wpAnyK_step 3 rfl (by kernel_rfl) (fun K hK => ?_)
  go_simp
  refine (asRatio_v _ _ U V _ (HT.out.below HF3.out.bel (Nat.le_refl _)) (HF3.out.arg 2 (okb rfl)) (HF3.out.arg 3 (okb rfl))).mono ?_
  rintro e w4 ⟨q2, rfl, hm, hB⟩
  have HF4 : Hid (Fm w w4 [(31, [.slice x0 x1 x2, .slice y0 y1 y2, .bool false]), (31, [.slice u0 u1 u2, .slice v0 v1 v2, .bool false]), (31, [.slice none 0 0, .slice none 0 0, .bool false])] [(.slice x0 x1 x2, X, 256), (.slice y0 y1 y2, Y, 256), (.slice u0 u1 u2, U, 256), (.slice v0 v1 v2, V, 256)] []) := HF3.out.below hB
  have HQ2 : Hid (Q4 w4 q1 _ ∧ Q4 w4 q2 _) := ⟨HQ1.out.below hB (Nat.le_refl _), hm.q4⟩
  clear hm hB HQ1
  try dsimp only
  refine hK.out _ _ ?hk4 ?_
  case hk4 => exact fun _ => ⟨HF4.out.cell 0 0 (okb rfl) (okb rfl), HF4.out.cell 0 1 (okb rfl) (okb rfl), HF4.out.cell 0 2 (okb rfl) (okb rfl), HF4.out.cell 1 0 (okb rfl) (okb rfl), HF4.out.cell 1 1 (okb rfl) (okb rfl), HF4.out.cell 1 2 (okb rfl) (okb rfl)⟩
  have hHeld : ((fun (w' : World) => w'.cell? ⟨w.heap.size, 0, none⟩ = some (.slice x0 x1 x2) ∧ w'.cell? ⟨w.heap.size, 1, none⟩ = some (.slice y0 y1 y2) ∧ w'.cell? ⟨w.heap.size, 2, none⟩ = some (.bool false) ∧ w'.cell? ⟨w.heap.size + 1, 0, none⟩ = some (.slice u0 u1 u2) ∧ w'.cell? ⟨w.heap.size + 1, 1, none⟩ = some (.slice v0 v1 v2) ∧ w'.cell? ⟨w.heap.size + 1, 2, none⟩ = some (.bool false))) _ := ⟨HF4.out.cell 0 0 (okb rfl) (okb rfl), HF4.out.cell 0 1 (okb rfl) (okb rfl), HF4.out.cell 0 2 (okb rfl) (okb rfl), HF4.out.cell 1 0 (okb rfl) (okb rfl), HF4.out.cell 1 1 (okb rfl) (okb rfl), HF4.out.cell 1 2 (okb rfl) (okb rfl)⟩
  clear hK K
  try simp only [Act.put, List.setIfInBounds_toArray, List.set_cons_zero, List.set_cons_succ]
  refine wpAnyK_step 4 rfl (by kernel_rfl) (fun K hK => ?_)
  go_simp
  refine (plus_v _ _ _ _ _ (HT.out.below HF4.out.bel (Nat.le_refl _)) HQ2.out.1 HQ2.out.2).mono ?_
  rintro e w5 ⟨q3, rfl, hm, hB⟩
  have HF5 : Hid (Fm w w5 [(31, [.slice x0 x1 x2, .slice y0 y1 y2, .bool false]), (31, [.slice u0 u1 u2, .slice v0 v1 v2, .bool false]), (31, [.slice none 0 0, .slice none 0 0, .bool false])] [(.slice x0 x1 x2, X, 256), (.slice y0 y1 y2, Y, 256), (.slice u0 u1 u2, U, 256), (.slice v0 v1 v2, V, 256)] []) := HF4.out.below hB
  have HQ3 : Hid (Q4 w5 q3 _) := hm.q4
  clear hm hB HQ2
  have HR : Hid (Rq eP (pq eP eD ⟨X, Y, 1, X * Y % eP⟩ ⟨U, V, 1, U * V % eP⟩) (se eP eD (X, Y) (U, V))) := ew.plus (Rq.of (by decide +kernel) HO.out.1) (Rq.of (by decide +kernel) HO.out.2) HO.out.1 HO.out.2
  try dsimp only
  refine hK.out _ _ ?hk5 ?_
  case hk5 => exact fun _ => ⟨HF5.out.cell 0 0 (okb rfl) (okb rfl), HF5.out.cell 0 1 (okb rfl) (okb rfl), HF5.out.cell 0 2 (okb rfl) (okb rfl), HF5.out.cell 1 0 (okb rfl) (okb rfl), HF5.out.cell 1 1 (okb rfl) (okb rfl), HF5.out.cell 1 2 (okb rfl) (okb rfl)⟩
  have hHeld : ((fun (w' : World) => w'.cell? ⟨w.heap.size, 0, none⟩ = some (.slice x0 x1 x2) ∧ w'.cell? ⟨w.heap.size, 1, none⟩ = some (.slice y0 y1 y2) ∧ w'.cell? ⟨w.heap.size, 2, none⟩ = some (.bool false) ∧ w'.cell? ⟨w.heap.size + 1, 0, none⟩ = some (.slice u0 u1 u2) ∧ w'.cell? ⟨w.heap.size + 1, 1, none⟩ = some (.slice v0 v1 v2) ∧ w'.cell? ⟨w.heap.size + 1, 2, none⟩ = some (.bool false))) _ := ⟨HF5.out.cell 0 0 (okb rfl) (okb rfl), HF5.out.cell 0 1 (okb rfl) (okb rfl), HF5.out.cell 0 2 (okb rfl) (okb rfl), HF5.out.cell 1 0 (okb rfl) (okb rfl), HF5.out.cell 1 1 (okb rfl) (okb rfl), HF5.out.cell 1 2 (okb rfl) (okb rfl)⟩
  clear hK K
  try simp only [Act.put, List.setIfInBounds_toArray, List.set_cons_zero, List.set_cons_succ]
  refine wpAnyK_step 5 rfl (by kernel_rfl) (fun K hK => ?_)
  go_simp
  refine (point_v _ _ _ (HT.out.below HF5.out.bel (Nat.le_refl _)) HQ3.out HR.out.n HR.out.z).mono ?_
  rintro e w6 ⟨q4, J, hJ, rfl, hm, hB⟩
  rw [rq_point HR.out (ew.son HO.out.1 HO.out.2) hJ] at hm
  have HF6 : Hid (Fm w w6 [(31, [.slice x0 x1 x2, .slice y0 y1 y2, .bool false]), (31, [.slice u0 u1 u2, .slice v0 v1 v2, .bool false]), (31, [.slice none 0 0, .slice none 0 0, .bool false])] [(.slice x0 x1 x2, X, 256), (.slice y0 y1 y2, Y, 256), (.slice u0 u1 u2, U, 256), (.slice v0 v1 v2, V, 256)] []) := HF5.out.below hB
  have HM : Hid (Pe w6 (w.heap.size + 3) q4 (se eP eD (X, Y) (U, V))) := hm.base HF5.out.sz
  clear hm hB hJ
  try dsimp only
  refine hK.out _ _ ?hk6 ?_
  case hk6 => exact fun _ => ⟨HF6.out.cell 0 0 (okb rfl) (okb rfl), HF6.out.cell 0 1 (okb rfl) (okb rfl), HF6.out.cell 0 2 (okb rfl) (okb rfl), HF6.out.cell 1 0 (okb rfl) (okb rfl), HF6.out.cell 1 1 (okb rfl) (okb rfl), HF6.out.cell 1 2 (okb rfl) (okb rfl)⟩
  have hHeld : ((fun (w' : World) => w'.cell? ⟨w.heap.size, 0, none⟩ = some (.slice x0 x1 x2) ∧ w'.cell? ⟨w.heap.size, 1, none⟩ = some (.slice y0 y1 y2) ∧ w'.cell? ⟨w.heap.size, 2, none⟩ = some (.bool false) ∧ w'.cell? ⟨w.heap.size + 1, 0, none⟩ = some (.slice u0 u1 u2) ∧ w'.cell? ⟨w.heap.size + 1, 1, none⟩ = some (.slice v0 v1 v2) ∧ w'.cell? ⟨w.heap.size + 1, 2, none⟩ = some (.bool false))) _ := ⟨HF6.out.cell 0 0 (okb rfl) (okb rfl), HF6.out.cell 0 1 (okb rfl) (okb rfl), HF6.out.cell 0 2 (okb rfl) (okb rfl), HF6.out.cell 1 0 (okb rfl) (okb rfl), HF6.out.cell 1 1 (okb rfl) (okb rfl), HF6.out.cell 1 2 (okb rfl) (okb rfl)⟩
  clear hK K
  try simp only [Act.put, List.setIfInBounds_toArray, List.set_cons_zero, List.set_cons_succ]
  obtain ⟨q10, q20, rfl, m1, m2, m3⟩ := HM.out
  obtain ⟨a0, a1, a2, rfl⟩ := m1.nk.sl
  obtain ⟨b0, b1, b2, rfl⟩ := m2.nk.sl
  clear m1 m2 m3
  have k0 : w6.cell? ⟨w.heap.size + 2, 0, none⟩ = some (.slice none 0 0) := HF6.out.cell 2 0 (okb rfl) (okb rfl)
  have k1 : w6.cell? ⟨w.heap.size + 2, 1, none⟩ = some (.slice none 0 0) := HF6.out.cell 2 1 (okb rfl) (okb rfl)
  have k2 : w6.cell? ⟨w.heap.size + 2, 2, none⟩ = some (.bool false) := HF6.out.cell 2 2 (okb rfl) (okb rfl)
  have l0 : w6.frozen? ⟨w.heap.size + 2, 0, none⟩ = false := HF6.out.frozen 2 0 (okb rfl)
  have l1 : w6.frozen? ⟨w.heap.size + 2, 1, none⟩ = false := HF6.out.frozen 2 1 (okb rfl)
  have l2 : w6.frozen? ⟨w.heap.size + 2, 2, none⟩ = false := HF6.out.frozen 2 2 (okb rfl)
  refine wpAnyK_step 6 rfl (by kernel_rfl) (fun K hK => ?_)
  go_simp
  refine hK.out _ _ ?hk8 ?_
  case hk8 => exact (fun h => nomatch (h.symm.trans (show _ = true by kernel_rfl)))
  clear hK K
  try simp only [Act.put, List.setIfInBounds_toArray, List.set_cons_zero, List.set_cons_succ]
  refine wpAnyK_take0 7 (v := ?v9) rfl (by kernel_rfl) (fun _ _ _ h => h) (Or.inl ⟨by rfl, ?hy9⟩) (fun h => nomatch (h.symm.trans (show _ = true by kernel_rfl))) ?_
  case hy9 => (intro w hSw; go_simp; try with_reducible rfl)
  try simp only [Act.put, List.setIfInBounds_toArray, List.set_cons_zero, List.set_cons_succ]
  refine wpAnyK_done (by kernel_rfl) ?_ _
  go_wp2
  (try simp only [Exit.inBlock, Exit.then])
  have hb := (((But.refl w6 (w.heap.size + 2)).set 0 (.slice a0 a1 a2)).set 1 (.slice b0 b1 b2)).set 2 (.bool false)
  refine bodyPost_ret (v := .tuple #[.agg #[.slice a0 a1 a2, .slice b0 b1 b2, .bool false], .int .i64 0]) ?_ rfl ⟨_, rfl, (HM.out.but hb (by omega)).base (by omega), HF6.out.outB 2 (by simp) hb⟩
  rw [results_cs rfl]; go_simp
set_option maxHeartbeats 8000000 in
theorem mul_ok (k x y : Value) (K X Y : Nat) (w : World) (T : Te w) (hk : Nu w k K) (hx : Nu w x X) (hy : Nu w y Y) (oP : onE eP eD (X, Y)) (hK : bl K ≤ 1024) :
    Calls Tryz.prog 20 #[k, .agg #[x, y, .bool false]] w fun e w' => ∃ t, e = .returned (.tuple #[t, .int .i64 0]) ∧ Pe w' w.heap.size t (me eP eD K (X, Y)) ∧ Below w.heap.size w w' := by
  obtain ⟨x0, x1, x2, rfl⟩ := hx.shape
  obtain ⟨y0, y1, y2, rfl⟩ := hy.shape
  obtain ⟨k0, k1, k2, rfl⟩ := hk.shape
  have hKp : K < pw 1024 := Nat.lt_of_lt_of_le (show K < pw (bl K) from bl_lt K) (pw_mono hK)
  have HF0 : Hid (Fm w ((w.alloc (.cells #[.slice x0 x1 x2, .slice y0 y1 y2, .bool false] 31)).alloc (.cells #[.slice none 0 0, .slice none 0 0, .bool false] 31)) [(31, [.slice x0 x1 x2, .slice y0 y1 y2, .bool false]), (31, [.slice none 0 0, .slice none 0 0, .bool false])] [(.slice x0 x1 x2, X, 256), (.slice y0 y1 y2, Y, 256), (.slice k0 k1 k2, K, 1024)] []) := (((Fm.nil (w := w) (A := [(.slice x0 x1 x2, X, 256), (.slice y0 y1 y2, Y, 256), (.slice k0 k1 k2, K, 1024)]) (ar_cons ⟨hx, lt_pw oP.1⟩ (ar_cons ⟨hy, lt_pw oP.2.1⟩ (ar_cons ⟨hk, hKp⟩ ar_nil)))).push (by simp) 31 [.slice x0 x1 x2, .slice y0 y1 y2, .bool false]).push (by simp) 31 [.slice none 0 0, .slice none 0 0, .bool false])
  have HO : Hid (onE eP eD (X, Y)) := oP
  have HT : Hid (Te w) := T
  have C := on_v _ _ X Y false _ (T.below HF0.out.bel (Nat.le_refl _)) (HF0.out.arg 0 (okb rfl)).1 (HF0.out.arg 1 (okb rfl)).1
  rw [(onV_iff X Y false).2 ⟨rfl, oP⟩] at C
  clear hk hx hy T oP hKp
  go_enter Tryz.func20, Tryz.ntmps20
  go_wp2_with fail
  generalize ((w.alloc (.cells #[.slice x0 x1 x2, .slice y0 y1 y2, .bool false] 31)).alloc (.cells #[.slice none 0 0, .slice none 0 0, .bool false] 31)) = w0 at *
  refine C.mono ?_
  clear C
  rintro e w1 ⟨rfl, hB⟩
  have HF1 : Hid (Fm w w1 [(31, [.slice x0 x1 x2, .slice y0 y1 y2, .bool false]), (31, [.slice none 0 0, .slice none 0 0, .bool false])] [(.slice x0 x1 x2, X, 256), (.slice y0 y1 y2, Y, 256), (.slice k0 k1 k2, K, 1024)] []) := HF0.out.below hB
  clear hB
  have C := vbits _ K _ _ (HF1.out.arg 2 (okb rfl)).1 (by decide)
  obtain ⟨bz, Hbz⟩ : ∃ bz : Int, Hid (bz = ((bl K : Nat) : Int)) := ⟨_, rfl⟩
  rw [← Hbz.out] at C
  have hbz : (bz : Int) ≤ 1024 := by have := Hbz.out; omega
  have HK : Hid (bl K ≤ 1024) := hK
  clear hK
  have hdz : decide ((1024 : Int) < bz) = false := decide_eq_false (by omega)
  go_wp2_with fail
  refine C.mono ?_
  clear C
  rintro e w1 ⟨rfl, rfl⟩
  have k0 : w1.cell? ⟨w.heap.size, 0, none⟩ = some (.slice x0 x1 x2) := HF1.out.cell 0 0 (okb rfl) (okb rfl)
  have k1 : w1.cell? ⟨w.heap.size, 1, none⟩ = some (.slice y0 y1 y2) := HF1.out.cell 0 1 (okb rfl) (okb rfl)
  have k2 : w1.cell? ⟨w.heap.size, 2, none⟩ = some (.bool false) := HF1.out.cell 0 2 (okb rfl) (okb rfl)
  go_wp2_with fail
  clear k0 k1 k2 hbz hdz
  refine (asRatio_v _ _ X Y _ (HT.out.below HF1.out.bel (Nat.le_refl _)) (HF1.out.arg 0 (okb rfl)) (HF1.out.arg 1 (okb rfl))).mono ?_
  rintro e w3 ⟨q1, rfl, hm, hB⟩
  have HF3 : Hid (Fm w w3 [(31, [.slice x0 x1 x2, .slice y0 y1 y2, .bool false]), (31, [.slice none 0 0, .slice none 0 0, .bool false])] [(.slice x0 x1 x2, X, 256), (.slice y0 y1 y2, Y, 256), (.slice k0 k1 k2, K, 1024)] []) := HF1.out.below hB
  have HQ1 : Hid (Q4 w3 q1 _) := hm.q4
  clear hm hB
  go_wp2_with fail
  refine (neutral_v _).mono ?_
  rintro e w4 ⟨q2, rfl, hm, hB⟩
  have HF4 : Hid (Fm w w4 [(31, [.slice x0 x1 x2, .slice y0 y1 y2, .bool false]), (31, [.slice none 0 0, .slice none 0 0, .bool false])] [(.slice x0 x1 x2, X, 256), (.slice y0 y1 y2, Y, 256), (.slice k0 k1 k2, K, 1024)] []) := HF3.out.below hB
  have HQ2 : Hid (Q4 w4 q1 _ ∧ Q4 w4 q2 _) := ⟨HQ1.out.below hB (Nat.le_refl _), hm.q4⟩
  clear hm hB HQ1
  go_wp2_with fail
  refine (ladder_v _ _ _ _ K 0 _ _ _ (HT.out.below HF4.out.bel (Nat.le_refl _)) (HF4.out.arg 2 (okb rfl)) (Nk.none _ 1024) HQ2.out.1 HQ2.out.2).mono ?_
  rintro e w5 ⟨q3, rfl, hm, hB⟩
  have HF5 : Hid (Fm w w5 [(31, [.slice x0 x1 x2, .slice y0 y1 y2, .bool false]), (31, [.slice none 0 0, .slice none 0 0, .bool false])] [(.slice x0 x1 x2, X, 256), (.slice y0 y1 y2, Y, 256), (.slice k0 k1 k2, K, 1024)] []) := HF4.out.below hB
  have HQ3 : Hid (Q4 w5 q3 _) := hm.q4
  clear hm hB HQ2
  have HR : Hid (Rq eP (ldq eP eD ⟨X, Y, 1, X * Y % eP⟩ q0 (pq eP eD ⟨X, Y, 1, X * Y % eP⟩ q0) (max (bl K) (bl 0)) K 0) (me eP eD K (X, Y))) := lad_mul HO.out K
  go_wp2_with fail
  refine (point_v _ _ _ (HT.out.below HF5.out.bel (Nat.le_refl _)) HQ3.out HR.out.n HR.out.z).mono ?_
  rintro e w6 ⟨q4, J, hJ, rfl, hm, hB⟩
  rw [rq_point HR.out (ew.mon HO.out K) hJ] at hm
  have HF6 : Hid (Fm w w6 [(31, [.slice x0 x1 x2, .slice y0 y1 y2, .bool false]), (31, [.slice none 0 0, .slice none 0 0, .bool false])] [(.slice x0 x1 x2, X, 256), (.slice y0 y1 y2, Y, 256), (.slice k0 k1 k2, K, 1024)] []) := HF5.out.below hB
  have HM : Hid (Pe w6 (w.heap.size + 2) q4 (me eP eD K (X, Y))) := hm.base HF5.out.sz
  clear hm hB hJ
  obtain ⟨q10, q20, rfl, m1, m2, m3⟩ := HM.out
  obtain ⟨a0, a1, a2, rfl⟩ := m1.nk.sl
  obtain ⟨b0, b1, b2, rfl⟩ := m2.nk.sl
  clear m1 m2 m3
  have k0 : w6.cell? ⟨w.heap.size + 1, 0, none⟩ = some (.slice none 0 0) := HF6.out.cell 1 0 (okb rfl) (okb rfl)
  have l0 : w6.frozen? ⟨w.heap.size + 1, 0, none⟩ = false := HF6.out.frozen 1 0 (okb rfl)
  have k1 : w6.cell? ⟨w.heap.size + 1, 1, none⟩ = some (.slice none 0 0) := HF6.out.cell 1 1 (okb rfl) (okb rfl)
  have l1 : w6.frozen? ⟨w.heap.size + 1, 1, none⟩ = false := HF6.out.frozen 1 1 (okb rfl)
  have k2 : w6.cell? ⟨w.heap.size + 1, 2, none⟩ = some (.bool false) := HF6.out.cell 1 2 (okb rfl) (okb rfl)
  have l2 : w6.frozen? ⟨w.heap.size + 1, 2, none⟩ = false := HF6.out.frozen 1 2 (okb rfl)
  go_wp2
  (try simp only [Exit.inBlock, Exit.then])
  have hb := (((But.refl w6 (w.heap.size + 1)).set 0 (.slice a0 a1 a2)).set 1 (.slice b0 b1 b2)).set 2 (.bool false)
  refine bodyPost_ret (v := .tuple #[.agg #[.slice a0 a1 a2, .slice b0 b1 b2, .bool false], .int .i64 0]) ?_ rfl ⟨_, rfl, (HM.out.but hb (by omega)).base (by omega), HF6.out.outB 1 (by simp) hb⟩
  rw [results_cs rfl]; go_simp
set_option maxHeartbeats 8000000 in
theorem mul_large (k x y : Value) (K X Y : Nat) (w : World) (T : Te w) (hk : Nu w k K) (hx : Nu w x X) (hy : Nu w y Y) (i : Bool) (h1 : onV X Y i = true) (hK : 1024 < bl K) :
    Calls Tryz.prog 20 #[k, .agg #[x, y, .bool i]] w fun e w' => e = .returned (.tuple #[.agg #[.slice none 0 0, .slice none 0 0, .bool false], .int .i64 10]) ∧ Below w.heap.size w w' := by
  obtain ⟨x0, x1, x2, rfl⟩ := hx.shape
  obtain ⟨y0, y1, y2, rfl⟩ := hy.shape
  obtain ⟨k0, k1, k2, rfl⟩ := hk.shape
  have HF0 : Hid (Fm w ((w.alloc (.cells #[.slice x0 x1 x2, .slice y0 y1 y2, .bool i] 31)).alloc (.cells #[.slice none 0 0, .slice none 0 0, .bool false] 31)) [(31, [.slice x0 x1 x2, .slice y0 y1 y2, .bool i]), (31, [.slice none 0 0, .slice none 0 0, .bool false])] [(.slice x0 x1 x2, X, X), (.slice y0 y1 y2, Y, Y), (.slice k0 k1 k2, K, K)] []) := (((Fm.nil (w := w) (A := [(.slice x0 x1 x2, X, X), (.slice y0 y1 y2, Y, Y), (.slice k0 k1 k2, K, K)]) (ar_cons ⟨hx, Nat.lt_two_pow_self⟩ (ar_cons ⟨hy, Nat.lt_two_pow_self⟩ (ar_cons ⟨hk, Nat.lt_two_pow_self⟩ ar_nil)))).push (by simp) 31 [.slice x0 x1 x2, .slice y0 y1 y2, .bool i]).push (by simp) 31 [.slice none 0 0, .slice none 0 0, .bool false])
  have HT : Hid (Te w) := T
  have C := on_v _ _ X Y i _ (T.below HF0.out.bel (Nat.le_refl _)) (HF0.out.arg 0 (okb rfl)).1 (HF0.out.arg 1 (okb rfl)).1
  rw [h1] at C
  clear hk hx hy T h1
  go_enter Tryz.func20, Tryz.ntmps20
  go_wp2_with fail
  generalize ((w.alloc (.cells #[.slice x0 x1 x2, .slice y0 y1 y2, .bool i] 31)).alloc (.cells #[.slice none 0 0, .slice none 0 0, .bool false] 31)) = w0 at *
  refine C.mono ?_
  clear C
  rintro e w1 ⟨rfl, hB⟩
  have HF1 : Hid (Fm w w1 [(31, [.slice x0 x1 x2, .slice y0 y1 y2, .bool i]), (31, [.slice none 0 0, .slice none 0 0, .bool false])] [(.slice x0 x1 x2, X, X), (.slice y0 y1 y2, Y, Y), (.slice k0 k1 k2, K, K)] []) := HF0.out.below hB
  clear hB
  have C := vbits _ K _ _ (HF1.out.arg 2 (okb rfl)).1 (by decide)
  obtain ⟨bz, Hbz⟩ : ∃ bz : Int, Hid (bz = ((bl K : Nat) : Int)) := ⟨_, rfl⟩
  rw [← Hbz.out] at C
  have hbz : (bz : Int) > 1024 := by have := Hbz.out; omega
  clear hK
  skip
  have hdz : decide ((1024 : Int) < bz) = true := decide_eq_true (by omega)
  go_wp2_with fail
  refine C.mono ?_
  clear C
  rintro e w1 ⟨rfl, rfl⟩
  have k0 : w1.cell? ⟨w.heap.size + 1, 0, none⟩ = some (.slice none 0 0) := HF1.out.cell 1 0 (okb rfl) (okb rfl)
  have l0 : w1.frozen? ⟨w.heap.size + 1, 0, none⟩ = false := HF1.out.frozen 1 0 (okb rfl)
  have k1 : w1.cell? ⟨w.heap.size + 1, 1, none⟩ = some (.slice none 0 0) := HF1.out.cell 1 1 (okb rfl) (okb rfl)
  have l1 : w1.frozen? ⟨w.heap.size + 1, 1, none⟩ = false := HF1.out.frozen 1 1 (okb rfl)
  have k2 : w1.cell? ⟨w.heap.size + 1, 2, none⟩ = some (.bool false) := HF1.out.cell 1 2 (okb rfl) (okb rfl)
  have l2 : w1.frozen? ⟨w.heap.size + 1, 2, none⟩ = false := HF1.out.frozen 1 2 (okb rfl)
  go_wp2
  (try simp only [Exit.inBlock, Exit.then])
  have hb := (((But.refl w1 (w.heap.size + 1)).set 0 (.slice none 0 0)).set 1 (.slice none 0 0)).set 2 (.bool false)
  refine bodyPost_ret (v := .tuple #[.agg #[.slice none 0 0, .slice none 0 0, .bool false], .int .i64 10]) ?_ rfl ⟨rfl, HF1.out.outB 1 (by simp) hb⟩
  rw [results_cs rfl]; go_simp
theorem encode_v (x y : Value) (X Y : Nat) (inf : Bool) (w : World) (T : Te w) (hx : Nu w x X) (hy : Nu w y Y) (hon : onV X Y inf = true) :
    Calls Tryz.prog 25 #[.agg #[x, y, .bool inf]] w fun e w' => (∃ v, e = .returned (.tuple #[v, .int .i64 0]) ∧ Owb w' w.heap.size v (encL (X, Y))) ∧ Below w.heap.size w w' := by
  rcases (show X % 2 = 0 ∨ X % 2 = 1 by omega) with h | h
  · exact encode_even x y X Y inf w T hx hy hon h
  · exact encode_odd x y X Y inf w T hx hy hon h
end Go.Proofs.YtjpjepfmphlneaaGreatDoor
