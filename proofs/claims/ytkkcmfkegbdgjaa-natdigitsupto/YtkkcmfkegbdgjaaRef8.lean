import Derived.Test.YtkkcmfkegbdgjaaRef7
namespace Go.Proofs.Ytkkcmfkegbdgjaa
open Go.RowKit

set_option maxHeartbeats 1000000 in
theorem doubled_gen (ax : Option Addr) (cx : Nat) (bit : Bool) (xs : List Nat) (w : World) (hx : Rn w ax xs) (sx : Sm Bs xs) (h1 : xs.length ≤ 100000000) :
    Calls Try.prog 62 #[.slice ax xs.length cx, .bool bit] w fun e w' => ∃ r L, e = .returned r ∧ Ow w' w.heap.size r L ∧ Sm Bs L ∧ nv Bs L = 2 * nv Bs xs + bit.toNat ∧ L.length ≤ xs.length + 1 ∧ Below w.heap.size w w' := by
  obtain ⟨b, Hb⟩ : ∃ b, Hid (bit.toNat = b) := ⟨_, rfl⟩
  rw [Hb.out]
  have hb1 : b ≤ 1 := by rw [← Hb.out]; cases bit <;> decide
  have HX : Hid (Rn w ax xs) := hx
  have HSX : Hid (Sm Bs xs) := sx
  have HN0 : Hid (OB w.heap.size w w (.slice none 0 0) []) := OB.nil w
  have HbB : Hid ((bit = true ∧ b = 1) ∨ (bit = false ∧ b = 0)) := by
    cases bit
    · exact .inr ⟨rfl, Hb.out.symm⟩
    · exact .inl ⟨rfl, Hb.out.symm⟩
  clear hx sx Hb
  rcases HbB.out with ⟨rfl, rfl⟩ | ⟨rfl, rfl⟩
  all_goals
    go_enter Try.func62, Try.ntmps62
    go_wp2
  · clear HbB
    go_loopw [5, 6, 7] (fun s5 s6 s7 wr => ∃ (i c : Nat) (ds : List Nat), s5 = .int .u32 (c : Int) ∧ s7 = .int .i64 (i : Int) ∧ i ≤ xs.length ∧ c ≤ 1 ∧ Hid (OB w.heap.size w wr s6 ds ∧ ds.length = i ∧ Sm Bs ds ∧ nv Bs ds + Bs ^ i * c = 2 * nv Bs (xs.take i) + 1)) (fun _ _ s _ => xs.length - (intOf s).toNat)
    case atStart => exact ⟨0, 1, [], rfl, rfl, Nat.zero_le _, by omega, HN0.out, rfl, Sm.nil _, by simp [nv]⟩
    case round =>
      clear HN0
      obtain ⟨i, c, ds, rfl, rfl, hi, hc, HI⟩ := hrel
      have HDl : Hid (ds.length ≤ 1000000000) := by show _ ≤ _; rw [HI.out.2.1]; omega
      by_cases hlt : i < xs.length
      · obtain ⟨gx, ox, rfl, _, cx'⟩ := (HX.out.below HI.out.1.bel (Nat.le_refl _)).cell (by omega)
        have c1 := cx' i hlt
        obtain ⟨x, Hx⟩ : ∃ x, Hid (xs.getD i 0 = x) := ⟨_, rfl⟩
        rw [Hx.out] at c1
        have hx : x < 4294967296 := by rw [← Hx.out, ← Bs_eq]; exact HSX.out.getD Bs_pos i
        obtain ⟨z, Hz⟩ : ∃ z, Hid ((2 * x + c) % 4294967296 = z) := ⟨_, rfl⟩
        obtain ⟨c', Hc'⟩ : ∃ z, Hid (x / 2147483648 = z) := ⟨_, rfl⟩
        have hz : z < 4294967296 := by rw [← Hz.out]; omega
        have hc' : c' ≤ 1 := by rw [← Hc'.out]; omega
        have ez : IntKind.u32.wrap (IntKind.u32.wrap ((x : Int) * 2) + (c : Int)) = (z : Int) := by rw [IntKind.wrap_u32, IntKind.wrap_u32, ← Hz.out]; omega
        have ez2 : ((x : Int) * 2 % 4294967296 + (c : Int)) % 4294967296 = (z : Int) := by rw [← Hz.out]; omega
        have ez3 : ((x : Int) * 2 + (c : Int)) % 4294967296 = (z : Int) := by rw [← Hz.out]; omega
        have ez4 : (x : Int) * 2 % 4294967296 + (c : Int) = (z : Int) := by rw [← Hz.out]; omega
        have ec : Int.tdiv (x : Int) 2147483648 = (c' : Int) := by rw [Int.tdiv_eq_ediv_of_nonneg (by omega), ← Hc'.out]; omega
        have ec2 : (x : Int) / 2147483648 = (c' : Int) := by rw [← Hc'.out]; omega
        have HN : Hid ((ds ++ [z]).length = i + 1 ∧ Sm Bs (ds ++ [z]) ∧ nv Bs (ds ++ [z]) + Bs ^ (i + 1) * c' = 2 * nv Bs (xs.take (i + 1)) + 1) := by
          refine ⟨by rw [List.length_append, HI.out.2.1]; rfl, HI.out.2.2.1.snoc (by rw [Bs_eq]; omega), ?_⟩
          rw [nv_snoc, nv_take_succ, HI.out.2.1, Hx.out, Nat.pow_succ]
          exact dbl_step _ _ _ _ _ _ _ _ _ HI.out.2.2.2 (by have := Hz.out; have := Hc'.out; rw [Bs_eq]; omega)
        have Hc2 : Hid (∀ (v5 : Value) (w5 : World), OB w.heap.size w w5 v5 (ds ++ [z]) → w5.cell? ⟨gx, ox + i, none⟩ = some (.int .u32 (x : Int))) := fun v5 w5 h5 => by
          obtain ⟨g', o', e', _, cc⟩ := (HX.out.below h5.bel (Nat.le_refl _)).cell (by omega)
          cases e'
          rw [cc i hlt, Hx.out]
        clear cx' Hz Hc'
        go_wp2_with (at_builtin; refine append_one (w := w) rfl (.tmp 15) (.tmp 23) rfl w.heap.size _ ds z rfl HI.out.1 rfl HDl.out (Nat.le_refl _) ?_; intro v5 w5 h5; have c2 := Hc2.out v5 w5 h5)
        have HO : Hid (OB w.heap.size w w5 v5 (ds ++ [z])) := h5
        clear h5 c1 c2
        go_wp2
        go_roundw
        case rel => exact ⟨i + 1, c', ds ++ [z], rfl, by go_num, by omega, hc', HO.out, HN.out⟩
        case measure => simp [intOf]; omega
      · obtain rfl : i = xs.length := by omega
        have hval := HI.out.2.2.2
        rw [List.take_of_length_le (Nat.le_refl _)] at hval
        have HF : Hid (nv Bs ds + Bs ^ xs.length * c = 2 * nv Bs xs + 1) := hval
        clear hval
        by_cases hc0 : c = 0
        · subst hc0
          rw [show ((0 : Nat) : Int) = 0 from rfl]
          have HO : Hid (OB w.heap.size w wr u6 ds ∧ nv Bs ds = 2 * nv Bs xs + 1) := ⟨HI.out.1, by have h := HF.out; rw [Nat.mul_zero, Nat.add_zero] at h; exact h⟩
          go_wp2
          go_ret
          exact ⟨_, ds, rfl, HO.out.1.own, HI.out.2.2.1, HO.out.2, by rw [HI.out.2.1]; omega, HO.out.1.bel⟩
        · have hcb : ((c : Int) != 0) = true := by simp; omega
          clear hc0
          go_wp2_with (at_builtin; refine append_one (w := w) rfl (.tmp 32) (.tmp 34) rfl w.heap.size _ ds c rfl HI.out.1 rfl HDl.out (Nat.le_refl _) ?_; intro v5 w5 h5)
          have HO : Hid (OB w.heap.size w w5 v5 (ds ++ [c]) ∧ nv Bs (ds ++ [c]) = 2 * nv Bs xs + 1) := ⟨h5, by rw [nv_snoc, HI.out.2.1]; exact HF.out⟩
          clear h5
          go_wp2
          go_ret
          exact ⟨_, ds ++ [c], rfl, HO.out.1.own, HI.out.2.2.1.snoc (by rw [Bs_eq]; omega), HO.out.2, by rw [List.length_append, HI.out.2.1]; exact Nat.le_refl _, HO.out.1.bel⟩
  · clear HbB
    go_loopw [5, 6, 7] (fun s5 s6 s7 wr => ∃ (i c : Nat) (ds : List Nat), s5 = .int .u32 (c : Int) ∧ s7 = .int .i64 (i : Int) ∧ i ≤ xs.length ∧ c ≤ 1 ∧ Hid (OB w.heap.size w wr s6 ds ∧ ds.length = i ∧ Sm Bs ds ∧ nv Bs ds + Bs ^ i * c = 2 * nv Bs (xs.take i) + 0)) (fun _ _ s _ => xs.length - (intOf s).toNat)
    case atStart => exact ⟨0, 0, [], rfl, rfl, Nat.zero_le _, by omega, HN0.out, rfl, Sm.nil _, by simp [nv]⟩
    case round =>
      clear HN0
      obtain ⟨i, c, ds, rfl, rfl, hi, hc, HI⟩ := hrel
      have HDl : Hid (ds.length ≤ 1000000000) := by show _ ≤ _; rw [HI.out.2.1]; omega
      by_cases hlt : i < xs.length
      · obtain ⟨gx, ox, rfl, _, cx'⟩ := (HX.out.below HI.out.1.bel (Nat.le_refl _)).cell (by omega)
        have c1 := cx' i hlt
        obtain ⟨x, Hx⟩ : ∃ x, Hid (xs.getD i 0 = x) := ⟨_, rfl⟩
        rw [Hx.out] at c1
        have hx : x < 4294967296 := by rw [← Hx.out, ← Bs_eq]; exact HSX.out.getD Bs_pos i
        obtain ⟨z, Hz⟩ : ∃ z, Hid ((2 * x + c) % 4294967296 = z) := ⟨_, rfl⟩
        obtain ⟨c', Hc'⟩ : ∃ z, Hid (x / 2147483648 = z) := ⟨_, rfl⟩
        have hz : z < 4294967296 := by rw [← Hz.out]; omega
        have hc' : c' ≤ 1 := by rw [← Hc'.out]; omega
        have ez : IntKind.u32.wrap (IntKind.u32.wrap ((x : Int) * 2) + (c : Int)) = (z : Int) := by rw [IntKind.wrap_u32, IntKind.wrap_u32, ← Hz.out]; omega
        have ez2 : ((x : Int) * 2 % 4294967296 + (c : Int)) % 4294967296 = (z : Int) := by rw [← Hz.out]; omega
        have ez3 : ((x : Int) * 2 + (c : Int)) % 4294967296 = (z : Int) := by rw [← Hz.out]; omega
        have ez4 : (x : Int) * 2 % 4294967296 + (c : Int) = (z : Int) := by rw [← Hz.out]; omega
        have ec : Int.tdiv (x : Int) 2147483648 = (c' : Int) := by rw [Int.tdiv_eq_ediv_of_nonneg (by omega), ← Hc'.out]; omega
        have ec2 : (x : Int) / 2147483648 = (c' : Int) := by rw [← Hc'.out]; omega
        have HN : Hid ((ds ++ [z]).length = i + 1 ∧ Sm Bs (ds ++ [z]) ∧ nv Bs (ds ++ [z]) + Bs ^ (i + 1) * c' = 2 * nv Bs (xs.take (i + 1)) + 0) := by
          refine ⟨by rw [List.length_append, HI.out.2.1]; rfl, HI.out.2.2.1.snoc (by rw [Bs_eq]; omega), ?_⟩
          rw [nv_snoc, nv_take_succ, HI.out.2.1, Hx.out, Nat.pow_succ]
          exact dbl_step _ _ _ _ _ _ _ _ _ HI.out.2.2.2 (by have := Hz.out; have := Hc'.out; rw [Bs_eq]; omega)
        have Hc2 : Hid (∀ (v5 : Value) (w5 : World), OB w.heap.size w w5 v5 (ds ++ [z]) → w5.cell? ⟨gx, ox + i, none⟩ = some (.int .u32 (x : Int))) := fun v5 w5 h5 => by
          obtain ⟨g', o', e', _, cc⟩ := (HX.out.below h5.bel (Nat.le_refl _)).cell (by omega)
          cases e'
          rw [cc i hlt, Hx.out]
        clear cx' Hz Hc'
        go_wp2_with (at_builtin; refine append_one (w := w) rfl (.tmp 15) (.tmp 23) rfl w.heap.size _ ds z rfl HI.out.1 rfl HDl.out (Nat.le_refl _) ?_; intro v5 w5 h5; have c2 := Hc2.out v5 w5 h5)
        have HO : Hid (OB w.heap.size w w5 v5 (ds ++ [z])) := h5
        clear h5 c1 c2
        go_wp2
        go_roundw
        case rel => exact ⟨i + 1, c', ds ++ [z], rfl, by go_num, by omega, hc', HO.out, HN.out⟩
        case measure => simp [intOf]; omega
      · obtain rfl : i = xs.length := by omega
        have hval := HI.out.2.2.2
        rw [List.take_of_length_le (Nat.le_refl _)] at hval
        have HF : Hid (nv Bs ds + Bs ^ xs.length * c = 2 * nv Bs xs + 0) := hval
        clear hval
        by_cases hc0 : c = 0
        · subst hc0
          rw [show ((0 : Nat) : Int) = 0 from rfl]
          have HO : Hid (OB w.heap.size w wr u6 ds ∧ nv Bs ds = 2 * nv Bs xs + 0) := ⟨HI.out.1, by have h := HF.out; rw [Nat.mul_zero, Nat.add_zero] at h; exact h⟩
          go_wp2
          go_ret
          exact ⟨_, ds, rfl, HO.out.1.own, HI.out.2.2.1, HO.out.2, by rw [HI.out.2.1]; omega, HO.out.1.bel⟩
        · have hcb : ((c : Int) != 0) = true := by simp; omega
          clear hc0
          go_wp2_with (at_builtin; refine append_one (w := w) rfl (.tmp 32) (.tmp 34) rfl w.heap.size _ ds c rfl HI.out.1 rfl HDl.out (Nat.le_refl _) ?_; intro v5 w5 h5)
          have HO : Hid (OB w.heap.size w w5 v5 (ds ++ [c]) ∧ nv Bs (ds ++ [c]) = 2 * nv Bs xs + 0) := ⟨h5, by rw [nv_snoc, HI.out.2.1]; exact HF.out⟩
          clear h5
          go_wp2
          go_ret
          exact ⟨_, ds ++ [c], rfl, HO.out.1.own, HI.out.2.2.1.snoc (by rw [Bs_eq]; omega), HO.out.2, by rw [List.length_append, HI.out.2.1]; exact Nat.le_refl _, HO.out.1.bel⟩

theorem half_limb (x D : Nat) (hx : x < 4294967296) : (x + 4294967296 * D) / 2 = x / 2 + D % 2 * 2147483648 + 4294967296 * (D / 2) ∧ (x + 4294967296 * D) % 2 = x % 2 ∧ x / 2 + D % 2 * 2147483648 < 4294967296 := by omega

theorem nv_drop (B : Nat) (xs : List Nat) (k : Nat) (hk : k < xs.length) : nv B (xs.drop k) = xs.getD k 0 + B * nv B (xs.drop (k + 1)) := by
  rw [List.drop_eq_getElem_cons hk, nv, getD_eq _ _ hk]

set_option maxHeartbeats 1000000 in
theorem halved_any (ax : Option Addr) (cx : Nat) (xs : List Nat) (w : World) (hx : Rn w ax xs) (sx : Sm Bs xs) (h1 : xs.length ≤ 100000000) :
    Calls Try.prog 69 #[.slice ax xs.length cx] w fun e w' => ∃ r L, e = .returned r ∧ Ow w' w.heap.size r L ∧ Sm Bs L ∧ nv Bs L = nv Bs xs / 2 ∧ L.length = xs.length ∧ Below w.heap.size w w' := by
  obtain ⟨wm, hmk, hb, hbel, hsz⟩ := madeU w xs.length (by omega)
  have HMS : Hid (MS w wm w.heap.size xs.length (List.replicate xs.length 0)) := ⟨hb, by simp, Sm.zeros _ Bs_pos, hbel⟩
  have HX : Hid (Rn w ax xs) := hx
  have HSX : Hid (Sm Bs xs) := sx
  clear hb hbel hsz hx sx
  go_enter Try.func69, Try.ntmps69
  go_wp2
  clear hmk
  go_loopw [4, 5] (fun s4 s5 wr => ∃ (k c : Nat) (P : List Nat), s4 = .int .u32 (c : Int) ∧ s5 = .int .i64 ((k : Int) - 1) ∧ k ≤ xs.length ∧ c ≤ 2147483648 ∧ Hid (MS w wr w.heap.size xs.length P ∧ c = nv Bs (xs.drop k) % 2 * 2147483648 ∧ nv Bs P = Bs ^ k * (nv Bs (xs.drop k) / 2) ∧ ∀ j, j < k → P.getD j 0 = 0)) (fun _ s _ => (intOf s + 1).toNat)
  case atStart => exact ⟨xs.length, 0, _, rfl, rfl, Nat.le_refl _, by omega, HMS.out, by rw [List.drop_of_length_le (Nat.le_refl _)]; rfl, by rw [nv_zeros, List.drop_of_length_le (Nat.le_refl _)]; simp [nv], fun j _ => getD_zeros _ j⟩
  case round =>
    clear HMS
    obtain ⟨k, c, P, rfl, rfl, hk, hc, HI⟩ := hrel
    rcases k with _ | k
    · have e0 : ((0 : Nat) : Int) - 1 = -1 := rfl
      rw [e0]
      have HO : Hid (Ow wr w.heap.size (.slice (some ⟨w.heap.size, 0, none⟩) xs.length xs.length) P ∧ nv Bs P = nv Bs xs / 2) := by
        have h3 := HI.out.1.bl.ow P.length (Nat.le_refl _) (Nat.le_refl w.heap.size) (by rw [HI.out.1.len]; omega)
        rw [List.take_of_length_le (Nat.le_refl _), HI.out.1.len] at h3
        have h4 := HI.out.2.2.1
        rw [Nat.pow_zero, Nat.one_mul, List.drop_zero] at h4
        exact ⟨h3, h4⟩
      go_wp2
      go_ret
      exact ⟨_, P, rfl, HO.out.1, HI.out.1.sm, HO.out.2, HI.out.1.len, HI.out.1.bel⟩
    · have e0 : ((k + 1 : Nat) : Int) - 1 = (k : Int) := by omega
      rw [e0]
      clear e0
      have hkl : k < xs.length := by omega
      obtain ⟨gx, ox, rfl, _, cx'⟩ := (HX.out.below HI.out.1.bel (Nat.le_refl _)).cell (by omega)
      have c1 := cx' k hkl
      obtain ⟨x, Hx⟩ : ∃ x, Hid (xs.getD k 0 = x) := ⟨_, rfl⟩
      rw [Hx.out] at c1
      have hx : x < 4294967296 := by rw [← Hx.out, ← Bs_eq]; exact HSX.out.getD Bs_pos k
      obtain ⟨D, HD⟩ : ∃ D, Hid (nv Bs (xs.drop (k + 1)) = D) := ⟨_, rfl⟩
      have HDk : Hid (nv Bs (xs.drop k) = x + 4294967296 * D) := by show _ = _; rw [nv_drop Bs xs k hkl, Hx.out, HD.out, Bs_eq]
      obtain ⟨a1, a2, a3⟩ := half_limb x D hx
      have hcD : c = D % 2 * 2147483648 := by have := HI.out.2.1; rw [HD.out] at this; exact this
      rw [← hcD] at a1 a3
      obtain ⟨z, Hz⟩ : ∃ z, Hid (x / 2 + c = z) := ⟨_, rfl⟩
      rw [Hz.out] at a1 a3
      obtain ⟨c', Hc'⟩ : ∃ z, Hid (x % 2 * 2147483648 = z) := ⟨_, rfl⟩
      have hc' : c' ≤ 2147483648 := by rw [← Hc'.out]; omega
      have c3 := HI.out.1.bl.limb k 0 (by rw [HI.out.1.len]; exact hkl) (HI.out.2.2.2 k (by omega))
      have gf := HI.out.1.bl.frozen k
      have ed : Int.tdiv (x : Int) 2 = ((x / 2 : Nat) : Int) := by rw [Int.tdiv_eq_ediv_of_nonneg (by omega)]; omega
      have ez : (x : Int) / 2 + (c : Int) = (z : Int) := by rw [← Hz.out]; omega
      have ezw : IntKind.u32.wrap (z : Int) = (z : Int) := by rw [IntKind.wrap_u32]; omega
      have em : Int.tmod (x : Int) 2 = ((x % 2 : Nat) : Int) := by rw [Int.tmod_eq_emod_of_nonneg (by omega)]; omega
      have ec : (x : Int) % 2 * 2147483648 = (c' : Int) := by rw [← Hc'.out]; omega
      have ecw : IntKind.u32.wrap (c' : Int) = (c' : Int) := by rw [IntKind.wrap_u32]; omega
      have HN : Hid (c' = nv Bs (xs.drop k) % 2 * 2147483648 ∧ nv Bs (P.set k z) = Bs ^ k * (nv Bs (xs.drop k) / 2) ∧ ∀ j, j < k → (P.set k z).getD j 0 = 0) := by
        refine ⟨by rw [HDk.out, a2]; exact Hc'.out.symm, ?_, fun j hj => by rw [getD_set_ne _ _ _ _ (by omega)]; exact HI.out.2.2.2 j (by omega)⟩
        have h3 := nv_set' Bs P k z 0 (by rw [HI.out.1.len]; exact hkl) (HI.out.2.2.2 k (by omega))
        rw [Nat.mul_zero, Nat.add_zero, HI.out.2.2.1, HD.out] at h3
        rw [h3, HDk.out, a1, Nat.pow_succ, Nat.mul_assoc, ← Nat.mul_add, Bs_eq, Nat.add_comm]
      have c1b : (wr.setCell ⟨w.heap.size, k, none⟩ (.int .u32 (z : Int))).cell? ⟨gx, ox + k, none⟩ = some (.int .u32 (x : Int)) := by
        obtain ⟨g', o', e', _, cc⟩ := (HX.out.below (HI.out.1.set k z (by omega)).bel (Nat.le_refl _)).cell (by omega)
        cases e'
        rw [cc k hkl, Hx.out]
      clear cx' a1 a2 hcD Hz Hc' HDk
      go_wp2
      go_roundw
      case rel => exact ⟨k, c', P.set k z, rfl, rfl, by omega, hc', HI.out.1.set k z a3, HN.out⟩
      case measure => simp [intOf]

end Go.Proofs.Ytkkcmfkegbdgjaa
