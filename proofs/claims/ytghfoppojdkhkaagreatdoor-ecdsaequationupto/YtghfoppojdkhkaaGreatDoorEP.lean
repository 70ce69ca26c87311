import Derived.Test.YtghfoppojdkhkaaGreatDoorEZ6
namespace Go.Proofs.YtghfoppojdkhkaaGreatDoor
open Go.RowKit

set_option maxRecDepth 100000

theorem btr {a b c : World} (h1 : Below a.heap.size a b) (h2 : Below b.heap.size b c) : Below a.heap.size a c := h1.trans (h2.mono h1.size)
theorem Kv.nlp {c s : Int} {p b n gx gy : Nat} (hk : Kv c p b n gx gy s) : n < p := by cases hk <;> decide +kernel
theorem Kv.bvt {c s : Int} {p b n gx gy : Nat} (hk : Kv c p b n gx gy s) {V : Nat} (h : V < p) : bv (tobe s.toNat V) = V := by
  have h2 : p < 256 ^ s.toNat := by cases hk <;> decide +kernel
  rw [bv_tobe, Nat.mod_eq_of_lt (Nat.lt_trans h h2)]
theorem Kv.two {c s : Int} {p b n gx gy : Nat} (hk : Kv c p b n gx gy s) (R S : Nat) : ((tobe s.toNat R ++ tobe s.toNat S).length : Int) = 2 * s := by
  rw [List.length_append, tobe_length, tobe_length]
  rcases hk.s0 with h | h <;> subst h <;> rfl
theorem decB_on {c s : Int} {p b n gx gy : Nat} (hk : Kv c p b n gx gy s) {lx ly : List UInt8} (h : decB p b s lx ly = true) : onP p b (.A (bv lx) (bv ly)) := by
  simp only [decB, Bool.and_eq_true, decide_eq_true_eq] at h
  exact ((onB_iff hk.pm).1 h.2.2).1
theorem jt_take {s : Nat} {A B : List UInt8} (hA : A.length = s) : (A ++ B).take s = A ∧ (A ++ B).drop s = B := ⟨List.take_left' hA, List.drop_left' hA⟩
/-- The twin is answered alike. -/
theorem ver_twin {c s : Int} {p b n gx gy : Nat} (hk : Kv c p b n gx gy s) (h : Int) (lx ly m sg : List UInt8) (hl : (sg.length : Int) = 2 * s) (hr : 0 < bv (sg.take s.toNat) ∧ bv (sg.take s.toNat) < n) (ht : 0 < bv (sg.drop s.toNat) ∧ bv (sg.drop s.toNat) < n) :
    verV p b n (.A gx gy) s h lx ly m (tobe s.toNat (bv (sg.take s.toNat)) ++ tobe s.toNat (n - bv (sg.drop s.toNat))) = verV p b n (.A gx gy) s h lx ly m sg := by
  have hp := hk.nlp
  have hkk := jt_take (B := tobe s.toNat (n - bv (sg.drop s.toNat))) (tobe_length s.toNat (bv (sg.take s.toNat)))
  unfold verV
  rw [hkk.1, hkk.2, hk.bvt (Nat.lt_trans hr.2 hp), hk.bvt (show n - bv (sg.drop s.toNat) < p by omega)]
  by_cases h0 : Sha.siz h = 0
  · rw [if_pos h0, if_pos h0]
  rw [if_neg h0, if_neg h0]
  by_cases hd : decB p b s lx ly = false
  · rw [if_pos hd, if_pos hd]
  have hd' : decB p b s lx ly = true := by simpa using hd
  rw [if_neg hd, if_neg hd, if_neg (fun h => h (hk.two _ _)), if_pos ⟨hr, by omega, by omega⟩, if_neg (show ¬ ((sg.length : Int) ≠ 2 * s) from fun h => h hl), if_pos (show (0 < bv (sg.take s.toNat) ∧ bv (sg.take s.toNat) < n) ∧ 0 < bv (sg.drop s.toNat) ∧ bv (sg.drop s.toNat) < n from ⟨hr, ht⟩), hk.gp.twin (decB_on hk hd') (Nat.le_of_lt ht.2) (iv_inz hk.prn ht.1 ht.2).2 (iv_inz hk.prn (by omega) (by omega)).2, mkx_ng]
/-- What is no signature at all is not taken. -/
theorem ver_ne {c s : Int} {p b n gx gy : Nat} (_hk : Kv c p b n gx gy s) (h : Int) (lx ly m sg : List UInt8) (hx : ¬ ((sg.length : Int) = 2 * s ∧ (0 < bv (sg.take s.toNat) ∧ bv (sg.take s.toNat) < n) ∧ 0 < bv (sg.drop s.toNat) ∧ bv (sg.drop s.toNat) < n)) : verV p b n (.A gx gy) s h lx ly m sg ≠ 0 := by
  unfold verV
  by_cases h0 : Sha.siz h = 0
  · rw [if_pos h0]; decide
  rw [if_neg h0]
  by_cases hd : decB p b s lx ly = false
  · rw [if_pos hd]; decide
  rw [if_neg hd]
  by_cases hl : (sg.length : Int) = 2 * s
  · rw [if_neg (fun h => h hl), if_neg (fun h => hx ⟨hl, h⟩)]; decide
  · rw [if_pos hl]; decide
/-- What Verify answers of a key and numbers in their range. -/
theorem ver_in' {c s : Int} {p b n gx gy : Nat} (_hk : Kv c p b n gx gy s) {h : Int} {lx ly m sg : List UInt8} (h0 : Sha.siz h ≠ 0) (hd : decB p b s lx ly = true) (hl : (sg.length : Int) = 2 * s) (hr : 0 < bv (sg.take s.toNat) ∧ bv (sg.take s.toNat) < n) (ht : 0 < bv (sg.drop s.toNat) ∧ bv (sg.drop s.toNat) < n) :
    verV p b n (.A gx gy) s h lx ly m sg = if mkx n (jt p n (.A gx gy) (zV s h m) (bv (sg.take s.toNat)) (iv n (bv (sg.drop s.toNat))) (.A (bv lx) (bv ly))) (bv (sg.take s.toNat)) = true then 0 else 91 := by
  unfold verV
  rw [if_neg h0, if_neg (by rw [hd]; simp), if_neg (fun h => h hl), if_pos ⟨hr, ht⟩]
/-- And of others. -/
theorem ver_91 {c s : Int} {p b n gx gy : Nat} (_hk : Kv c p b n gx gy s) {h : Int} {lx ly m sg : List UInt8} (h0 : Sha.siz h ≠ 0) (hd : decB p b s lx ly = true) (hx : ¬ ((sg.length : Int) = 2 * s ∧ (0 < bv (sg.take s.toNat) ∧ bv (sg.take s.toNat) < n) ∧ 0 < bv (sg.drop s.toNat) ∧ bv (sg.drop s.toNat) < n)) : verV p b n (.A gx gy) s h lx ly m sg = 91 := by
  unfold verV
  rw [if_neg h0, if_neg (by rw [hd]; simp)]
  by_cases hl : (sg.length : Int) = 2 * s
  · rw [if_neg (fun h => h hl), if_neg (fun h => hx ⟨hl, h⟩)]
  · rw [if_pos hl]
/-- A point by its numbers. -/
structure Pv (w : World) (x y : Value) (f : Bool) (X Y : Nat) (P : Pt) : Prop where
  mx : Mk w 0 x X 384
  my : Mk w 0 y Y 384
  pt : ptO X Y f = P
  z : f = true → X = 0 ∧ Y = 0
theorem Pv.below {w w' : World} {x y : Value} {f : Bool} {X Y k : Nat} {P : Pt} (h : Pv w x y f X Y P) (hb : Below k w w') (hn : w.heap.size ≤ k) : Pv w' x y f X Y P := ⟨h.mx.below (hb.mono hn), h.my.below (hb.mono hn), h.pt, h.z⟩
theorem Pa.pv {w w' : World} {v : Value} {P : Pt} (h : Pa w w' v P) : ∃ (x0 y0 : Option Addr) (x1 x2 y1 y2 X Y : Nat) (f : Bool), v = .agg #[.slice x0 x1 x2, .slice y0 y1 y2, .bool f] ∧ Pv w' (.slice x0 x1 x2) (.slice y0 y1 y2) f X Y P := by
  obtain ⟨x0, y0, x1, x2, y1, y2, X, Y, f, rfl, m1, m2, h1, h2⟩ := h.open2
  exact ⟨x0, y0, x1, x2, y1, y2, X, Y, f, rfl, m1.base (Nat.zero_le _), m2.base (Nat.zero_le _), h1, h2⟩
theorem Pv.on {w : World} {x y : Value} {f : Bool} {X Y p b : Nat} {P : Pt} (hp : Pm p) (h : Pv w x y f X Y P) (o : onP p b P) : onB p b X Y f = true := (onB_iff hp).2 ⟨h.pt.symm ▸ o, h.z⟩
theorem Pv.one {w w' : World} {x y x' y' : Value} {f f' : Bool} {X Y X' Y' : Nat} {P : Pt} (h : Pv w x y f X Y P) (h' : Pv w' x' y' f' X' Y' P) : f = f' ∧ X = X' ∧ Y = Y' := by
  have e := h.pt.trans h'.pt.symm
  cases f with
  | true =>
    cases f' with
    | true => exact ⟨rfl, (h.z rfl).1.trans (h'.z rfl).1.symm, (h.z rfl).2.trans (h'.z rfl).2.symm⟩
    | false => cases e
  | false =>
    cases f' with
    | true => cases e
    | false => injection e with e1 e2; exact ⟨rfl, e1, e2⟩
theorem bl_pwx {K k : Nat} (h : K < pw k) : bl K ≤ k := by
  by_cases h0 : K = 0
  · subst h0; exact Nat.zero_le _
  · unfold pw at h
    have h2 := Nat.lt_of_le_of_lt (bl_le K h0) h
    have h3 := (Nat.pow_lt_pow_iff_right (by decide)).1 h2
    have := bl_pos K h0
    omega
theorem bl_384 {K : Nat} (h : K < pw 384) : ¬ 1024 < bl K := by
  have := bl_pwx h
  omega
theorem mul_p {c s : Int} {p b n gx gy : Nat} (hk : Kv c p b n gx gy s) {d x y : Value} {K X Y : Nat} {f : Bool} {P : Pt} {w : World} (hd : Nk w d K 384) (h : Pv w x y f X Y P) (o : onP p b P) : Calls Tryz.prog 23 #[.int .i64 c, d, .agg #[x, y, .bool f]] w fun e w' => ∃ r, e = .returned (.tuple #[r, .int .i64 0]) ∧ Pa w w' r (ml p K P) ∧ Below w.heap.size w w' := by
  refine (mul_ok hk d x y K X Y f w hd.1 h.mx.nk.1 h.my.nk.1 (h.on hk.pm o) (bl_384 hd.2)).mono ?_
  rintro e w' ⟨r, rfl, hr⟩
  rw [h.pt, hk.gp.mm o] at hr
  exact ⟨r, rfl, hr, hr.bel⟩
theorem add_p {c s : Int} {p b n gx gy : Nat} (hk : Kv c p b n gx gy s) {x y u v : Value} {X Y U V : Nat} {f g : Bool} {P Q : Pt} {w : World} (h : Pv w x y f X Y P) (h' : Pv w u v g U V Q) (o : onP p b P) (o' : onP p b Q) : Calls Tryz.prog 29 #[.int .i64 c, .agg #[x, y, .bool f], .agg #[u, v, .bool g]] w fun e w' => ∃ r, e = .returned (.tuple #[r, .int .i64 0]) ∧ Pa w w' r (sm p P Q) ∧ Below w.heap.size w w' := by
  refine (add_ok hk x y u v X Y U V f g w h.mx.nk.1 h.my.nk.1 h'.mx.nk.1 h'.my.nk.1 (h.on hk.pm o) (h'.on hk.pm o')).mono ?_
  rintro e w' ⟨r, rfl, hr⟩
  rw [h.pt, h'.pt] at hr
  exact ⟨r, rfl, hr, hr.bel⟩
theorem same_mk {w : World} {b1 b2 : Nat} {x y : Value} {X : Nat} (h1 : Mk w b1 x X 384) (h2 : Mk w b2 y X 384) : Calls Tryz.prog 25 #[x, y] w fun e w' => e = .returned (.bool true) ∧ ∃ q, w' = w.drewN q := by
  obtain ⟨a1, d1, rfl, _, r1, _⟩ := h1.1.nm (dg_sm Bs_two X)
  obtain ⟨a2, d2, rfl, _, r2, _⟩ := h2.1.nm (dg_sm Bs_two X)
  have C := sameLimbs_any a1 a2 d1 d2 _ _ w r1 r2 (Nat.le_trans h1.2.1 (by decide))
  rw [decide_eq_true rfl] at C
  exact C
theorem from_e {ao : Option Addr} {len c V : Nat} {l : List UInt8} {w : World} (hl : Rd w ao l) (e : l.length = len) (h : len ≤ 48) (hV : V = bv l) : Calls Tryz.prog 11 #[.slice ao len c] w fun e w' => ∃ r, e = .returned r ∧ Rk w w' r V 384 := by
  subst hV
  exact from_v ao len c l w hl e h
theorem bits_p {w : World} {v : Value} {V : Nat} (h : Nu w v V) : Calls Tryz.prog 12 #[v] w fun e w' => e = .returned (.int .i64 ((bl V : Nat) : Int)) ∧ w' = w := vbits v V _ w h (by decide)
theorem bl_is0 (V : Nat) : (((bl V : Nat) : Int) == 0) = decide (¬ 0 < V) := by
  by_cases h : V = 0
  · subst h; rfl
  · have h1 := bl_nz h
    rw [decide_eq_false (by omega)]
    simpa using h1
theorem cmp_ge (a n : Nat) : decide (cmp3 (a : Int) (n : Int) ≥ 0) = decide (¬ a < n) := by
  unfold cmp3
  split
  · rw [decide_eq_false (by omega), decide_eq_false (by omega)]
  · split
    · rw [decide_eq_true (by omega), decide_eq_true (by omega)]
    · rw [decide_eq_true (by omega), decide_eq_true (by omega)]
theorem cmq_ne {a b : Nat} (h : a ≠ b) : cmp3 (a : Int) (b : Int) ≠ 0 := by
  unfold cmp3
  split
  · decide
  · split
    · decide
    · omega
theorem cmq_eq (a : Nat) : cmp3 (a : Int) (a : Int) = 0 := by
  unfold cmp3
  rw [if_neg (Int.lt_irrefl _), if_neg (Int.lt_irrefl _)]
theorem order_none (c : Int) (h1 : c ≠ 1) (h2 : c ≠ 2) (w : World) : Calls Tryz.prog 9 #[.int .i64 c] w fun e w' => e = .returned (.slice none 0 0) ∧ Below w.heap.size w w' := by
  have hf0 : ∀ (a b c d e f g h : Value) (w : World), Sem.run Tryz.prog (Instr.field 68 (.agg #[a, b, c, d, e, f, g, h]) 0) w = .ok (.agg #[a, b]) w := fun _ _ _ _ _ _ _ _ _ => rfl
  have hf1 : ∀ (a b c d e f g h : Value) (w : World), Sem.run Tryz.prog (Instr.field 68 (.agg #[a, b, c, d, e, f, g, h]) 1) w = .ok c w := fun _ _ _ _ _ _ _ _ _ => rfl
  have hf2 : ∀ (a b c d e f g h : Value) (w : World), Sem.run Tryz.prog (Instr.field 68 (.agg #[a, b, c, d, e, f, g, h]) 2) w = .ok d w := fun _ _ _ _ _ _ _ _ _ => rfl
  have hf3 : ∀ (a b c d e f g h : Value) (w : World), Sem.run Tryz.prog (Instr.field 68 (.agg #[a, b, c, d, e, f, g, h]) 3) w = .ok (.agg #[e, f, g]) w := fun _ _ _ _ _ _ _ _ _ => rfl
  have hf4 : ∀ (a b : Value) (w : World), Sem.run Tryz.prog (Instr.field 65 (.agg #[a, b]) 0) w = .ok a w := fun _ _ _ => rfl
  go_enter Tryz.func9, Tryz.ntmps9
  go_wp2_with fail
  refine (of_none c _ h1 h2).mono ?_
  rintro e w1 ⟨rfl, hB⟩
  have HX : Hid (Below w.heap.size w w1) := hB
  clear hB
  go_wp2
  go_ret
  exact ⟨rfl, HX.out⟩
end Go.Proofs.YtghfoppojdkhkaaGreatDoor
