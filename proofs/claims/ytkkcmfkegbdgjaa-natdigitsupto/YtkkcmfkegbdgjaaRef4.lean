import Derived.Test.YtkkcmfkegbdgjaaRef3
namespace Go.Proofs.Ytkkcmfkegbdgjaa
open Go.RowKit

theorem dbl_step (B p A c X x v c' b : Nat) (h : A + p * c = 2 * X + b) (hs : v + B * c' = 2 * x + c) : (A + p * v) + (p * B) * c' = 2 * (X + p * x) + b := by
  have h1 := congrArg (p * ·) hs
  have h2 : p * (2 * x) = 2 * (p * x) := Nat.mul_left_comm _ _ _
  simp only [Nat.mul_add, ← Nat.mul_assoc] at h1 h2 ⊢
  omega

theorem dbl_proper (V b : Nat) (ds : List Nat) (c : Nat) (sd : Sm Bs ds) (hl : ds.length = (dg Bs V).length) (hc : c ≤ 1) (hb : b ≤ 1) (h : nv Bs ds + Bs ^ (dg Bs V).length * c = 2 * V + b) :
    (if c = 0 then ds else ds ++ [c]) = dg Bs (2 * V + b) := by
  rcases Nat.eq_zero_or_pos (dg Bs V).length with h0 | h0
  · have hV : V = 0 := by
      have := dg_nv Bs_two V
      rw [List.eq_nil_of_length_eq_zero h0] at this
      exact this.symm
    subst hV
    have hd : ds = [] := List.eq_nil_of_length_eq_zero (by omega)
    subst hd
    rw [h0, Nat.pow_zero] at h
    have hcb : c = b := by simp [nv] at h; omega
    subst hcb
    rcases Nat.eq_zero_or_pos c with h1 | h1
    · subst h1; rw [if_pos rfl, dg_zero]
    · obtain rfl : c = 1 := by omega
      rw [if_neg (by decide), dg_pos Bs_two (by decide), show (2 * 0 + 1) % Bs = 1 from by decide, show (2 * 0 + 1) / Bs = 0 from by decide, dg_zero]
      rfl
  · obtain ⟨m, hm⟩ : ∃ m, (dg Bs V).length = m + 1 := ⟨(dg Bs V).length - 1, by omega⟩
    have hlow := dg_low Bs_two m V hm
    rw [hm] at h hl
    by_cases hc0 : c = 0
    · subst hc0
      rw [if_pos rfl]
      rw [Nat.mul_zero, Nat.add_zero] at h
      have := proper_of_ge Bs_two sd m hl (by rw [h]; omega)
      rw [h] at this
      exact this
    · rw [if_neg hc0]
      have e : nv Bs (ds ++ [c]) = 2 * V + b := by rw [nv_snoc, hl]; exact h
      have := proper_of_ge Bs_two (sd.snoc (x := c) (by rw [Bs_eq]; omega)) (m + 1) (by rw [List.length_append, hl]; rfl) (by
        rw [nv_snoc, hl]
        exact Nat.le_trans (Nat.le_mul_of_pos_right _ (by omega)) (Nat.le_add_left _ _))
      rw [e] at this
      exact this

set_option maxHeartbeats 1000000 in
theorem doubled_any (ax : Option Addr) (cx V : Nat) (bit : Bool) (xs : List Nat) (w : World) (hxs : xs = dg Bs V) (hx : Rn w ax xs) (sx : Sm Bs xs) (h1 : xs.length ≤ 100000000) :
    Calls Try.prog 62 #[.slice ax xs.length cx, .bool bit] w fun e w' => ∃ r, e = .returned r ∧ Ow w' w.heap.size r (dg Bs (2 * V + bit.toNat)) ∧ Below w.heap.size w w' := by
  obtain ⟨b, Hb⟩ : ∃ b, Hid (bit.toNat = b) := ⟨_, rfl⟩
  rw [Hb.out]
  have hb1 : b ≤ 1 := by rw [← Hb.out]; cases bit <;> decide
  have HX : Hid (Rn w ax xs) := hx
  have HSX : Hid (Sm Bs xs) := sx
  have HXE : Hid (xs = dg Bs V) := hxs
  have HN0 : Hid (OB w.heap.size w w (.slice none 0 0) []) := OB.nil w
  have HbB : Hid ((bit = true ∧ b = 1) ∨ (bit = false ∧ b = 0)) := by
    cases bit
    · exact .inr ⟨rfl, Hb.out.symm⟩
    · exact .inl ⟨rfl, Hb.out.symm⟩
  clear hx sx hxs Hb
  rcases HbB.out with ⟨rfl, rfl⟩ | ⟨rfl, rfl⟩
  all_goals
    go_enter Try.func62, Try.ntmps62
    go_wp2
  · clear HbB
    go_loopw [5, 6, 7] (fun s5 s6 s7 wr => ∃ (i c : Nat) (ds : List Nat), s5 = .int .u32 (c : Int) ∧ s7 = .int .i64 (i : Int) ∧ i ≤ xs.length ∧ c ≤ 1 ∧ Hid (OB w.heap.size w wr s6 ds ∧ ds.length = i ∧ Sm Bs ds ∧ nv Bs ds + Bs ^ i * c = 2 * nv Bs (xs.take i) + 1)) (fun _ _ s _ => xs.length - (intOf s).toNat)
    case atStart => exact ⟨0, 1, [], rfl, rfl, Nat.zero_le _, by omega, HN0.out, rfl, Sm.nil _, by simp [nv]⟩
    case round =>
      clear HN0
      obtain ⟨i, c, ds, rfl, rfl, hi, hc, HI⟩ := hrel
      have HDl : Hid (ds.length ≤ 1000000000) := by show _ ≤ _; rw [HI.out.2.1]; omega
      by_cases hlt : i < xs.length
      · obtain ⟨gx, ox, rfl, _, cx'⟩ := (HX.out.below HI.out.1.bel (Nat.le_refl _)).cell (by omega)
        have c1 := cx' i hlt
        obtain ⟨x, Hx⟩ : ∃ x, Hid (xs.getD i 0 = x) := ⟨_, rfl⟩
        rw [Hx.out] at c1
        have hx : x < 4294967296 := by rw [← Hx.out, ← Bs_eq]; exact HSX.out.getD Bs_pos i
        obtain ⟨z, Hz⟩ : ∃ z, Hid ((2 * x + c) % 4294967296 = z) := ⟨_, rfl⟩
        obtain ⟨c', Hc'⟩ : ∃ z, Hid (x / 2147483648 = z) := ⟨_, rfl⟩
        have hz : z < 4294967296 := by rw [← Hz.out]; omega
        have hc' : c' ≤ 1 := by rw [← Hc'.out]; omega
        have ez : IntKind.u32.wrap (IntKind.u32.wrap ((x : Int) * 2) + (c : Int)) = (z : Int) := by rw [IntKind.wrap_u32, IntKind.wrap_u32, ← Hz.out]; omega
        have ez2 : ((x : Int) * 2 % 4294967296 + (c : Int)) % 4294967296 = (z : Int) := by rw [← Hz.out]; omega
        have ez3 : ((x : Int) * 2 + (c : Int)) % 4294967296 = (z : Int) := by rw [← Hz.out]; omega
        have ez4 : (x : Int) * 2 % 4294967296 + (c : Int) = (z : Int) := by rw [← Hz.out]; omega
        have ec : Int.tdiv (x : Int) 2147483648 = (c' : Int) := by rw [Int.tdiv_eq_ediv_of_nonneg (by omega), ← Hc'.out]; omega
        have ec2 : (x : Int) / 2147483648 = (c' : Int) := by rw [← Hc'.out]; omega
        have HN : Hid ((ds ++ [z]).length = i + 1 ∧ Sm Bs (ds ++ [z]) ∧ nv Bs (ds ++ [z]) + Bs ^ (i + 1) * c' = 2 * nv Bs (xs.take (i + 1)) + 1) := by
          refine ⟨by rw [List.length_append, HI.out.2.1]; rfl, HI.out.2.2.1.snoc (by rw [Bs_eq]; omega), ?_⟩
          rw [nv_snoc, nv_take_succ, HI.out.2.1, Hx.out, Nat.pow_succ]
          exact dbl_step _ _ _ _ _ _ _ _ _ HI.out.2.2.2 (by have := Hz.out; have := Hc'.out; rw [Bs_eq]; omega)
        have Hc2 : Hid (∀ (v5 : Value) (w5 : World), OB w.heap.size w w5 v5 (ds ++ [z]) → w5.cell? ⟨gx, ox + i, none⟩ = some (.int .u32 (x : Int))) := fun v5 w5 h5 => by
          obtain ⟨g', o', e', _, cc⟩ := (HX.out.below h5.bel (Nat.le_refl _)).cell (by omega)
          cases e'
          rw [cc i hlt, Hx.out]
        clear cx' Hz Hc'
        go_wp2_with (at_builtin; refine append_one (w := w) rfl (.tmp 15) (.tmp 23) rfl w.heap.size _ ds z rfl HI.out.1 rfl HDl.out (Nat.le_refl _) ?_; intro v5 w5 h5; have c2 := Hc2.out v5 w5 h5)
        have HO : Hid (OB w.heap.size w w5 v5 (ds ++ [z])) := h5
        clear h5 c1 c2
        go_wp2
        go_roundw
        case rel => exact ⟨i + 1, c', ds ++ [z], rfl, by go_num, by omega, hc', HO.out, HN.out⟩
        case measure => simp [intOf]; omega
      · obtain rfl : i = xs.length := by omega
        have hval := HI.out.2.2.2
        rw [List.take_of_length_le (Nat.le_refl _)] at hval
        have HF : Hid ((if c = 0 then ds else ds ++ [c]) = dg Bs (2 * V + 1)) := by
          refine dbl_proper V 1 ds c HI.out.2.2.1 (by rw [HI.out.2.1, HXE.out]) hc (by omega) ?_
          rw [HXE.out, dg_nv Bs_two] at hval
          exact hval
        clear hval
        by_cases hc0 : c = 0
        · subst hc0
          rw [show ((0 : Nat) : Int) = 0 from rfl]
          have hF := HF.out
          rw [if_pos rfl] at hF
          have HO : Hid (OB w.heap.size w wr u6 (dg Bs (2 * V + 1))) := by rw [← hF]; exact HI.out.1
          clear hF
          go_wp2
          go_ret
          exact ⟨_, rfl, HO.out.own, HO.out.bel⟩
        · have hcb : ((c : Int) != 0) = true := by simp; omega
          have hF := HF.out
          rw [if_neg hc0] at hF
          clear hc0
          go_wp2_with (at_builtin; refine append_one (w := w) rfl (.tmp 32) (.tmp 34) rfl w.heap.size _ ds c rfl HI.out.1 rfl HDl.out (Nat.le_refl _) ?_; intro v5 w5 h5)
          rw [hF] at h5
          have HO : Hid (OB w.heap.size w w5 v5 (dg Bs (2 * V + 1))) := h5
          clear h5 hF
          go_wp2
          go_ret
          exact ⟨_, rfl, HO.out.own, HO.out.bel⟩
  · clear HbB
    go_loopw [5, 6, 7] (fun s5 s6 s7 wr => ∃ (i c : Nat) (ds : List Nat), s5 = .int .u32 (c : Int) ∧ s7 = .int .i64 (i : Int) ∧ i ≤ xs.length ∧ c ≤ 1 ∧ Hid (OB w.heap.size w wr s6 ds ∧ ds.length = i ∧ Sm Bs ds ∧ nv Bs ds + Bs ^ i * c = 2 * nv Bs (xs.take i) + 0)) (fun _ _ s _ => xs.length - (intOf s).toNat)
    case atStart => exact ⟨0, 0, [], rfl, rfl, Nat.zero_le _, by omega, HN0.out, rfl, Sm.nil _, by simp [nv]⟩
    case round =>
      clear HN0
      obtain ⟨i, c, ds, rfl, rfl, hi, hc, HI⟩ := hrel
      have HDl : Hid (ds.length ≤ 1000000000) := by show _ ≤ _; rw [HI.out.2.1]; omega
      by_cases hlt : i < xs.length
      · obtain ⟨gx, ox, rfl, _, cx'⟩ := (HX.out.below HI.out.1.bel (Nat.le_refl _)).cell (by omega)
        have c1 := cx' i hlt
        obtain ⟨x, Hx⟩ : ∃ x, Hid (xs.getD i 0 = x) := ⟨_, rfl⟩
        rw [Hx.out] at c1
        have hx : x < 4294967296 := by rw [← Hx.out, ← Bs_eq]; exact HSX.out.getD Bs_pos i
        obtain ⟨z, Hz⟩ : ∃ z, Hid ((2 * x + c) % 4294967296 = z) := ⟨_, rfl⟩
        obtain ⟨c', Hc'⟩ : ∃ z, Hid (x / 2147483648 = z) := ⟨_, rfl⟩
        have hz : z < 4294967296 := by rw [← Hz.out]; omega
        have hc' : c' ≤ 1 := by rw [← Hc'.out]; omega
        have ez : IntKind.u32.wrap (IntKind.u32.wrap ((x : Int) * 2) + (c : Int)) = (z : Int) := by rw [IntKind.wrap_u32, IntKind.wrap_u32, ← Hz.out]; omega
        have ez2 : ((x : Int) * 2 % 4294967296 + (c : Int)) % 4294967296 = (z : Int) := by rw [← Hz.out]; omega
        have ez3 : ((x : Int) * 2 + (c : Int)) % 4294967296 = (z : Int) := by rw [← Hz.out]; omega
        have ez4 : (x : Int) * 2 % 4294967296 + (c : Int) = (z : Int) := by rw [← Hz.out]; omega
        have ec : Int.tdiv (x : Int) 2147483648 = (c' : Int) := by rw [Int.tdiv_eq_ediv_of_nonneg (by omega), ← Hc'.out]; omega
        have ec2 : (x : Int) / 2147483648 = (c' : Int) := by rw [← Hc'.out]; omega
        have HN : Hid ((ds ++ [z]).length = i + 1 ∧ Sm Bs (ds ++ [z]) ∧ nv Bs (ds ++ [z]) + Bs ^ (i + 1) * c' = 2 * nv Bs (xs.take (i + 1)) + 0) := by
          refine ⟨by rw [List.length_append, HI.out.2.1]; rfl, HI.out.2.2.1.snoc (by rw [Bs_eq]; omega), ?_⟩
          rw [nv_snoc, nv_take_succ, HI.out.2.1, Hx.out, Nat.pow_succ]
          exact dbl_step _ _ _ _ _ _ _ _ _ HI.out.2.2.2 (by have := Hz.out; have := Hc'.out; rw [Bs_eq]; omega)
        have Hc2 : Hid (∀ (v5 : Value) (w5 : World), OB w.heap.size w w5 v5 (ds ++ [z]) → w5.cell? ⟨gx, ox + i, none⟩ = some (.int .u32 (x : Int))) := fun v5 w5 h5 => by
          obtain ⟨g', o', e', _, cc⟩ := (HX.out.below h5.bel (Nat.le_refl _)).cell (by omega)
          cases e'
          rw [cc i hlt, Hx.out]
        clear cx' Hz Hc'
        go_wp2_with (at_builtin; refine append_one (w := w) rfl (.tmp 15) (.tmp 23) rfl w.heap.size _ ds z rfl HI.out.1 rfl HDl.out (Nat.le_refl _) ?_; intro v5 w5 h5; have c2 := Hc2.out v5 w5 h5)
        have HO : Hid (OB w.heap.size w w5 v5 (ds ++ [z])) := h5
        clear h5 c1 c2
        go_wp2
        go_roundw
        case rel => exact ⟨i + 1, c', ds ++ [z], rfl, by go_num, by omega, hc', HO.out, HN.out⟩
        case measure => simp [intOf]; omega
      · obtain rfl : i = xs.length := by omega
        have hval := HI.out.2.2.2
        rw [List.take_of_length_le (Nat.le_refl _)] at hval
        have HF : Hid ((if c = 0 then ds else ds ++ [c]) = dg Bs (2 * V + 0)) := by
          refine dbl_proper V 0 ds c HI.out.2.2.1 (by rw [HI.out.2.1, HXE.out]) hc (by omega) ?_
          rw [HXE.out, dg_nv Bs_two] at hval
          exact hval
        clear hval
        by_cases hc0 : c = 0
        · subst hc0
          rw [show ((0 : Nat) : Int) = 0 from rfl]
          have hF := HF.out
          rw [if_pos rfl] at hF
          have HO : Hid (OB w.heap.size w wr u6 (dg Bs (2 * V + 0))) := by rw [← hF]; exact HI.out.1
          clear hF
          go_wp2
          go_ret
          exact ⟨_, rfl, HO.out.own, HO.out.bel⟩
        · have hcb : ((c : Int) != 0) = true := by simp; omega
          have hF := HF.out
          rw [if_neg hc0] at hF
          clear hc0
          go_wp2_with (at_builtin; refine append_one (w := w) rfl (.tmp 32) (.tmp 34) rfl w.heap.size _ ds c rfl HI.out.1 rfl HDl.out (Nat.le_refl _) ?_; intro v5 w5 h5)
          rw [hF] at h5
          have HO : Hid (OB w.heap.size w w5 v5 (dg Bs (2 * V + 0))) := h5
          clear h5 hF
          go_wp2
          go_ret
          exact ⟨_, rfl, HO.out.own, HO.out.bel⟩

set_option maxHeartbeats 1000000 in
theorem doubled_nm (v : Value) (V : Nat) (bit : Bool) (w : World) (hv : Nm w v (dg Bs V)) (h1 : (dg Bs V).length ≤ 100000000) :
    Calls Try.prog 62 #[v, .bool bit] w fun e w' => ∃ r, e = .returned r ∧ Ow w' w.heap.size r (dg Bs (2 * V + bit.toNat)) ∧ Below w.heap.size w w' := by
  obtain ⟨ax, cx, rfl, hcx, hx, sx⟩ := hv
  exact doubled_any ax cx V bit _ w rfl hx sx h1

end Go.Proofs.Ytkkcmfkegbdgjaa
