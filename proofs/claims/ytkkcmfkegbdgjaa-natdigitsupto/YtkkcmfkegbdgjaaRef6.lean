import Derived.Test.YtkkcmfkegbdgjaaWr2
import Derived.Test.YtkkcmfkegbdgjaaRef5
namespace Go.Proofs.Ytkkcmfkegbdgjaa
open Go.RowKit

/-- A row of bytes of one's own, made since a world. -/
structure OBb (B0 : Nat) (w ws : World) (v : Value) (xs : List UInt8) : Prop where
  own : Owb ws B0 v xs
  bel : Below B0 w ws
theorem OBb.nil (w : World) : OBb w.heap.size w w (.slice none 0 0) [] := ⟨Owb.nil _ _, Below.refl _ _⟩
theorem Bl.rdb {t : TypeId} {w : World} {b : Nat} {xs : List UInt8} (h : Bl t w b (xs.map B)) : Rd w (some ⟨b, 0, none⟩) xs := by
  refine .inr ⟨b, 0, rfl, h.lt, fun j hj => ?_⟩
  rw [Nat.zero_add, h.cell j (by simpa using hj), List.getElem_map, List.getD_eq_getElem?_getD, List.getElem?_eq_getElem hj]; rfl

/-- append of bytes that can be read, nil ones too, behind a row of one's own. -/
theorem append_rdb {w : World} {ops : Array Oper} {rest : List Oper} {o : Oper} {a : Act} {Q : Exit → Act → World → Prop} (hgd : o.guard = none) (s x : Operand)
    (ho : o.op = .call { callee := .builtin .append, args := #[s, x], argTypes := #[38, 38] })
    (base : Nat) (v : Value) (xs : List UInt8) (hs : a.eval s = v) (hown : Owb w base v xs)
    (ao : Option Addr) (m c : Nat) (l : List UInt8) (hx : a.eval x = .slice ao m c) (hl : l.length = m) (hao : ao = none → m = 0 ∧ c = 0) (hrd : Rd w ao l)
    (hbytes : xs.length + m ≤ 10000000000) (hbase : base ≤ w.heap.size)
    (h : ∀ v' w', Owb w' base v' (xs ++ l) → w.grownBy w' v.ownBlock → wpList Try.prog ops Q rest (a.put o.dst v') w') : wpList Try.prog ops Q (o :: rest) a w := by
  obtain ⟨i, hi, hz, hsize, hby⟩ := info_parts infoB
  cases ao with
  | none =>
    obtain ⟨rfl, rfl⟩ := hao rfl
    obtain rfl := List.eq_nil_of_length_eq_zero hl
    refine wpList_append_own_none hgd s x 38 ho base 5 i 1 Try.underlying38 hi v xs.length (xs.map B) hs hown hx ?_
    exact h v w (by rw [List.append_nil]; exact hown) (World.grownBy.refl _ _)
  | some ad =>
    refine wpList_append_own_wide w hgd s x 38 ho base 5 i (.int .u8 0) 1 1 Try.underlying38 hi hz hsize hby rfl (by decide) v xs.length (xs.map B) hs hown ad m c (l.map B) hx (by simpa using hl) ?_ (oneB l) (by unfold maxLen; omega) (by omega) hbase ?_
    · intro j u hu
      rcases hrd with h0 | ⟨b, off, e, hb, hc⟩
      · subst h0; simp at hu
      · cases e
        have hj : j < l.length := by
          have := (List.getElem?_eq_some_iff.1 hu).1
          simpa using this
        rw [Addr.add_lit, hc j hj]
        simp [List.getElem?_map, List.getElem?_eq_getElem hj] at hu
        rw [← hu, List.getD_eq_getElem?_getD, List.getElem?_eq_getElem hj, Option.getD_some]
    · intro v' w' h1 h2 _
      refine h v' w' ?_ h2
      unfold Owb
      rw [List.map_append, List.length_append, hl]
      exact h1

/-- append of one byte. -/
theorem append_oneb {w wr : World} {ops : Array Oper} {rest : List Oper} {o : Oper} {a : Act} {Q : Exit → Act → World → Prop} (hgd : o.guard = none) (s x : Operand)
    (ho : o.op = .call { callee := .builtin .append, args := #[s, x], argTypes := #[38, 38] })
    (B0 : Nat) (v : Value) (xs : List UInt8) (z : UInt8) (hs : a.eval s = v) (hob : OBb B0 w wr v xs) (hx : a.eval x = .slice (some ⟨wr.heap.size, 0, none⟩) 1 1) (hl : xs.length ≤ 1000000000) (hB : B0 ≤ w.heap.size)
    (h : ∀ v' w', OBb B0 w w' v' (xs ++ [z]) → wpList Try.prog ops Q rest (a.put o.dst v') w') : wpList Try.prog ops Q (o :: rest) a (wr.alloc (.cells #[.int .u8 (z.toNat : Int)] 5)) := by
  have hs2 : B0 ≤ wr.heap.size := Nat.le_trans hB hob.bel.size
  have hbl := alloc_bl wr (([z] : List UInt8).map B) 5
  refine append_rdb hgd s x ho B0 v xs hs (hob.own.below (alloc_below wr _) (Nat.le_refl _)) (some ⟨wr.heap.size, 0, none⟩) 1 1 [z] hx rfl (fun e => by cases e) hbl.rdb (by omega) (by rw [World.size_alloc]; omega) ?_
  intro v' w' h1 h2
  exact h v' w' ⟨h1, hob.bel.trans ((((alloc_below wr _).mono hs2)).grown h2 (by rw [World.size_alloc]; omega) (own_block hob.own))⟩

theorem clamped_any (k m : Int) (w : World) : Calls Try.prog 68 #[.int .i64 k, .int .i64 m] w fun e w' => e = .returned (.int .i64 (if k < 0 then 0 else if 0 ≤ m ∧ m < k then m else k)) ∧ w' = w := by
  by_cases h1 : k < 0
  · have hc1 : decide (k < 0) = true := decide_eq_true h1
    rw [if_pos h1]
    go_enter Try.func68, Try.ntmps68
    go_wp2
    go_ret
    exact ⟨rfl, rfl⟩
  · have hc1 : decide (k < 0) = false := decide_eq_false h1
    rw [if_neg h1]
    by_cases h2 : 0 ≤ m
    · have hc2 : decide (m ≥ 0) = true := decide_eq_true h2
      by_cases h3 : m < k
      · have hc3 : decide (k > m) = true := decide_eq_true h3
        rw [if_pos ⟨h2, h3⟩]
        go_enter Try.func68, Try.ntmps68
        go_wp2
        go_ret
        exact ⟨rfl, rfl⟩
      · have hc3 : decide (k > m) = false := decide_eq_false h3
        rw [if_neg (fun h => h3 h.2)]
        go_enter Try.func68, Try.ntmps68
        go_wp2
        go_ret
        exact ⟨rfl, rfl⟩
    · have hc2 : decide (m ≥ 0) = false := decide_eq_false h2
      rw [if_neg (fun h => h2 h.1)]
      go_enter Try.func68, Try.ntmps68
      go_wp2
      go_ret
      exact ⟨rfl, rfl⟩

set_option maxHeartbeats 400000 in
theorem rfromUint_any (u : Nat) (w : World) (hu : u < 18446744073709551616) :
    Calls Try.prog 40 #[.int .u64 (u : Int)] w fun e w' => ∃ r, e = .returned r ∧ Ow w' w.heap.size r (dg Bs u) ∧ Below w.heap.size w w' := by
  obtain ⟨x, Hx⟩ : ∃ x, Hid (u % 4294967296 = x) := ⟨_, rfl⟩
  obtain ⟨y, Hy⟩ : ∃ y, Hid (u / 4294967296 = y) := ⟨_, rfl⟩
  have hx : x < 4294967296 := by rw [← Hx.out]; omega
  have hy : y < 4294967296 := by rw [← Hy.out]; omega
  have e1 : Int.tmod (u : Int) 4294967296 = (x : Int) := by rw [Int.tmod_eq_emod_of_nonneg (by omega), ← Hx.out]; omega
  have e1' : (u : Int) % 4294967296 = (x : Int) := by rw [← Hx.out]; omega
  have e2 : Int.tdiv (u : Int) 4294967296 = (y : Int) := by rw [Int.tdiv_eq_ediv_of_nonneg (by omega), ← Hy.out]; omega
  have e2' : (u : Int) / 4294967296 = (y : Int) := by rw [← Hy.out]; omega
  have e3 : IntKind.u32.wrap (x : Int) = (x : Int) := by rw [IntKind.wrap_u32]; omega
  have e4 : IntKind.u32.wrap (y : Int) = (y : Int) := by rw [IntKind.wrap_u32]; omega
  have HV : Hid (nv Bs [x, y] = u) := by
    show _ = _
    simp only [nv, Nat.mul_zero, Nat.add_zero]
    rw [Bs_eq, ← Hx.out, ← Hy.out]
    omega
  have hb := alloc_bl w (([x, y] : List Nat).map U) 36
  have hbel := alloc_below w (.cells (([x, y] : List Nat).map U).toArray 36)
  have sL : Sm Bs [x, y] := fun z hz => by
    rw [Bs_eq]
    simp at hz
    omega
  have C := rproper_any (some ⟨w.heap.size, 0, none⟩) 2 2 [x, y] _ hb.rn sL rfl (by decide)
  rw [HV.out, World.size_alloc] at C
  rw [show (([x, y] : List Nat).map U).toArray = #[.int .u32 (x : Int), .int .u32 (y : Int)] from rfl] at C hbel
  have HB : Hid (Below w.heap.size w (w.alloc (.cells #[.int .u32 (x : Int), .int .u32 (y : Int)] 36))) := hbel
  clear hb hbel sL
  go_enter Try.func40, Try.ntmps40
  go_wp2_with fail
  refine C.mono ?_
  clear C
  rintro e w1 ⟨r, rfl, h1, h2⟩
  have HO : Hid (Ow w1 w.heap.size r (dg Bs u) ∧ Below w.heap.size w w1) := ⟨h1.base (by omega), HB.out.trans (h2.mono (by omega))⟩
  clear h1 h2
  go_wp2
  go_ret
  exact ⟨r, rfl, HO.out⟩

set_option maxHeartbeats 400000 in
theorem ruint_nm (v : Value) (xs : List Nat) (w : World) (hv : Nm w v xs) (h1 : xs.length ≤ 100000000) :
    Calls Try.prog 36 #[v] w fun e w' => e = .returned (.tuple #[.int .u64 ((if nv Bs xs < 18446744073709551616 then nv Bs xs else 0 : Nat) : Int), .bool (decide (nv Bs xs < 18446744073709551616))]) ∧ Below w.heap.size w w' := by
  have CP := rproper_nm v xs w hv (by omega)
  have e64 : Bs ^ 2 = 18446744073709551616 := by decide
  have LL : (dg Bs (nv Bs xs)).length ≤ 100000000 := dgl_arg xs _ hv.sm h1
  by_cases hlt : nv Bs xs < 18446744073709551616
  · have hl2 : (dg Bs (nv Bs xs)).length ≤ 2 := dg_len Bs_two 2 _ (by rw [e64]; exact hlt)
    have HS : Hid ((dg Bs (nv Bs xs)).getD 1 0 * 4294967296 + (dg Bs (nv Bs xs)).getD 0 0 = nv Bs xs) := by
      have := small_limbs (dg Bs (nv Bs xs)) (dg_sm Bs_two _) (by rw [dg_nv Bs_two]; exact hlt)
      rw [dg_nv Bs_two] at this
      exact this
    rw [if_pos hlt, decide_eq_true hlt]
    have HL2 : Hid ((dg Bs (nv Bs xs)).length ≤ 2) := hl2
    clear hv h1 hlt e64 hl2 LL
    go_enter Try.func36, Try.ntmps36
    go_wp2_with fail
    refine CP.mono ?_
    clear CP
    rintro e w1 ⟨r, rfl, h2, h3⟩
    obtain ⟨ax, cx, rfl, hcx, hx, sx⟩ := h2.nm (dg_sm Bs_two _)
    have HB : Hid (Below w.heap.size w w1) := h3
    have C1 := rlimb_any ax _ cx 1 _ w1 hx sx rfl
    have C0 := rlimb_any ax _ cx 0 _ w1 hx sx rfl
    have b1 : (dg Bs (nv Bs xs)).getD 1 0 < 4294967296 := by rw [← Bs_eq]; exact sx.getD Bs_pos 1
    have b0 : (dg Bs (nv Bs xs)).getD 0 0 < 4294967296 := by rw [← Bs_eq]; exact sx.getD Bs_pos 0
    obtain ⟨n, Hn⟩ : ∃ n, Hid ((dg Bs (nv Bs xs)).length = n) := ⟨_, rfl⟩
    have hn2 := HL2.out
    rw [Hn.out] at C1 C0 hn2 ⊢
    generalize (dg Bs (nv Bs xs)).getD 1 0 = x1 at *
    generalize (dg Bs (nv Bs xs)).getD 0 0 = x0 at *
    have hc : decide ((n : Int) > 2) = false := decide_eq_false (by omega)
    obtain ⟨V, HV⟩ : ∃ V, Hid (nv Bs xs = V) := ⟨_, rfl⟩
    rw [HV.out] at HS
    have e1 : (x1 : Int) * 4294967296 + (x0 : Int) = (V : Int) := by have := HS.out; omega
    have e2 : IntKind.u64.wrap ((x1 : Int) * 4294967296) = (x1 : Int) * 4294967296 := by rw [IntKind.wrap_u64]; omega
    have hVb : V < 18446744073709551616 := by have := HS.out; omega
    have e3 : IntKind.u64.wrap (V : Int) = (V : Int) := by rw [IntKind.wrap_u64]; omega
    clear h2 h3 hx sx hcx
    go_wp2_with fail
    refine C1.mono ?_
    clear C1
    rintro e w1 ⟨rfl, rfl⟩
    go_wp2_with fail
    refine C0.mono ?_
    clear C0
    rintro e w1 ⟨rfl, rfl⟩
    go_wp2
    go_ret2
    rw [HV.out]
    exact ⟨rfl, HB.out⟩
  · have hl2 : 2 < (dg Bs (nv Bs xs)).length := by
      rcases Nat.lt_or_ge 2 (dg Bs (nv Bs xs)).length with h | h
      · exact h
      · exfalso
        have h3 := dg_up Bs_two (nv Bs xs)
        have h4 : Bs ^ (dg Bs (nv Bs xs)).length ≤ Bs ^ 2 := Nat.pow_le_pow_right Bs_pos h
        rw [e64] at h4
        omega
    rw [if_neg hlt, decide_eq_false hlt]
    have HL2 : Hid (2 < (dg Bs (nv Bs xs)).length) := hl2
    clear hv h1 hlt e64 hl2 LL
    go_enter Try.func36, Try.ntmps36
    go_wp2_with fail
    refine CP.mono ?_
    clear CP
    rintro e w1 ⟨r, rfl, h2, h3⟩
    obtain ⟨ax, cx, rfl, hcx, hx, sx⟩ := h2.nm (dg_sm Bs_two _)
    have HB : Hid (Below w.heap.size w w1) := h3
    obtain ⟨n, Hn⟩ : ∃ n, Hid ((dg Bs (nv Bs xs)).length = n) := ⟨_, rfl⟩
    have hn2 := HL2.out
    rw [Hn.out] at hn2 ⊢
    have hc : decide ((n : Int) > 2) = true := decide_eq_true (by omega)
    clear h2 h3 hx sx hcx
    go_wp2
    go_ret2
    exact ⟨rfl, HB.out⟩

set_option maxHeartbeats 400000 in
theorem byteAt_any (ax : Option Addr) (cx p : Nat) (xs : List Nat) (w : World) (hx : Rn w ax xs) (sx : Sm Bs xs) (hp : p ≤ 1000000000) :
    Calls Try.prog 67 #[.slice ax xs.length cx, .int .i64 (p : Int)] w fun e w' => e = .returned (.int .u8 ((nv Bs xs / 256 ^ p % 256 : Nat) : Int)) ∧ w' = w := by
  obtain ⟨qt, Hqt⟩ : ∃ a, Hid (p / 4 = a) := ⟨_, rfl⟩
  obtain ⟨s, Hs⟩ : ∃ a, Hid (p % 4 = a) := ⟨_, rfl⟩
  have hs4 : s < 4 := by rw [← Hs.out]; omega
  have eq1 : Int.tdiv (p : Int) 4 = (qt : Int) := by rw [Int.tdiv_eq_ediv_of_nonneg (by omega), ← Hqt.out]; omega
  have eq2 : (p : Int) / 4 = (qt : Int) := by rw [← Hqt.out]; omega
  have er1 : Int.tmod (p : Int) 4 = (s : Int) := by rw [Int.tmod_eq_emod_of_nonneg (by omega), ← Hs.out]; omega
  have er2 : (p : Int) % 4 = (s : Int) := by rw [← Hs.out]; omega
  have C := rlimb_any ax xs.length cx qt xs w hx sx rfl
  obtain ⟨x, Hx⟩ : ∃ x, Hid (xs.getD qt 0 = x) := ⟨_, rfl⟩
  have hxb : x < 4294967296 := by rw [← Hx.out, ← Bs_eq]; exact sx.getD Bs_pos qt
  rw [Hx.out] at C
  have HV : Hid (nv Bs xs / 256 ^ p % 256 = x / 256 ^ s % 256) := by
    have h4 := byte_div xs sx p
    rw [Hqt.out, Hs.out, Hx.out, Nat.pow_mul] at h4
    exact h4.symm
  rw [HV.out]
  obtain ⟨t, Ht⟩ : ∃ t, Hid (x / 256 ^ s % 256 = t) := ⟨_, rfl⟩
  rw [Ht.out]
  clear hx sx HV
  go_enter Try.func67, Try.ntmps67
  go_wp2_with fail
  refine C.mono ?_
  clear C
  rintro e w ⟨rfl, rfl⟩
  go_wp2
  go_loopw [5, 6] (fun s5 s6 wr => ∃ (j u : Nat), s5 = .int .u64 (u : Int) ∧ s6 = .int .i64 (j : Int) ∧ j ≤ s ∧ u < 4294967296 ∧ wr = w ∧ Hid (u = x / 256 ^ j)) (fun _ t _ => s - (intOf t).toNat)
  case atStart => exact ⟨0, x, rfl, rfl, Nat.zero_le _, hxb, rfl, by rw [Nat.pow_zero, Nat.div_one]; rfl⟩
  case round =>
    obtain ⟨j, u, rfl, rfl, hj, hu, rfl, HI⟩ := hrel
    by_cases hjs : j < s
    · obtain ⟨y, Hy⟩ : ∃ y, Hid (u / 256 = y) := ⟨_, rfl⟩
      have hy : y < 4294967296 := by rw [← Hy.out]; omega
      have HN : Hid (y = x / 256 ^ (j + 1)) := by show _ = _; rw [← Hy.out, HI.out, Nat.div_div_eq_div_mul, Nat.pow_succ]
      have ed : Int.tdiv (u : Int) 256 = (y : Int) := by rw [Int.tdiv_eq_ediv_of_nonneg (by omega), ← Hy.out]; omega
      have ed2 : (u : Int) / 256 = (y : Int) := by rw [← Hy.out]; omega
      have hjI : (j : Int) < (s : Int) := by omega
      go_wp2
      go_roundw
      case rel => first | exact ⟨j + 1, y, rfl, by go_num, by omega, hy, rfl, HN⟩ | exact ⟨j + 1, y, rfl, by go_num, by omega, hy, trivial, HN⟩
      case measure => simp [intOf]; omega
    · obtain rfl : j = s := by omega
      obtain ⟨z, Hz⟩ : ∃ z, Hid (u % 256 = z) := ⟨_, rfl⟩
      have hz : z < 256 := by rw [← Hz.out]; omega
      have HZ : Hid (t = z) := by show _ = _; rw [← Ht.out, ← HI.out]; exact Hz.out
      have em : Int.tmod (u : Int) 256 = (z : Int) := by rw [Int.tmod_eq_emod_of_nonneg (by omega), ← Hz.out]; omega
      have em2 : (u : Int) % 256 = (z : Int) := by rw [← Hz.out]; omega
      have ew : IntKind.u8.wrap (z : Int) = (z : Int) := by rw [IntKind.wrap_u8]; omega
      have hjI : ¬ (j : Int) < (j : Int) := by omega
      go_wp2
      go_ret
      rw [HZ.out]
      exact ⟨rfl, rfl⟩

end Go.Proofs.Ytkkcmfkegbdgjaa
