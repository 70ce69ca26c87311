import Derived.Test.YtgkbbcoagnilgaaDoorBackW
namespace Go.Proofs.YtgkbbcoagnilgaaDoor
open Go.RowKit

set_option maxHeartbeats 1000000 in
theorem back_inf (b E : Nat) (w : World) (_hb : b < 4294967296) (hE : bits .and .u32 ((b : Int) / 8388608) 255 = (E : Int)) (hE2 : ((E : Int) == 255) = true)
    (HS : Hid (∀ w, Calls Tryd.prog 14 #[] w fun e w' => e = .returned (.bool true) ∧ Below w.heap.size w w'))
    (HE : Hid (∀ w, Calls Tryd.prog 16 #[.int .u32 (b : Int)] w fun e w' => e = .returned (.string ⟨#[]⟩) ∧ Below w.heap.size w w')) :
    Calls Tryd.prog 6 #[.int .u32 (b : Int)] w fun e w' => e = .returned (.bool true) ∧ Below w.heap.size w w' := by
  go_enter Tryd.func6, Tryd.ntmps6
  go_wp2_with fail
  refine (HS.out _).mono ?_
  rintro e w1 ⟨rfl, hB1⟩
  go_wp2_with fail
  refine (HE.out _).mono ?_
  rintro e w2 ⟨rfl, hB2⟩
  have c2 := hB1.trans (hB2.mono hB1.size)
  go_wp2
  go_ret
  exact ⟨rfl, c2⟩

set_option maxHeartbeats 1000000 in
theorem back_whole (b E : Nat) (T A : List UInt8) (w : World) (_hb : b < 4294967296) (hE : bits .and .u32 ((b : Int) / 8388608) 255 = (E : Int)) (hE2 : ((E : Int) == 255) = false)
    (HS : Hid (∀ w, Calls Tryd.prog 14 #[] w fun e w' => e = .returned (.bool true) ∧ Below w.heap.size w w'))
    (HE : Hid (∀ w, Calls Tryd.prog 16 #[.int .u32 (b : Int)] w fun e w' => e = .returned (.string ⟨T.toArray⟩) ∧ Below w.heap.size w w'))
    (HN : Hid (∀ w, Calls Tryd.prog 17 #[.string ⟨T.toArray⟩] w fun e w' => e = .returned (.tuple #[.int .u32 (b : Int), .int .i64 0]) ∧ Below w.heap.size w w'))
    (HV : Hid (∀ w, Calls Tryd.prog 10 #[.string ⟨T.toArray⟩] w fun e w' => e = .returned (.bool true) ∧ Below w.heap.size w w'))
    (HC : Hid (∀ w, Calls Tryd.prog 18 #[.string ⟨T.toArray⟩] w fun e w' => e = .returned (.tuple #[.string ⟨A.toArray⟩, .string ⟨#[]⟩]) ∧ ∃ q, w' = w.drewN q)) :
    Calls Tryd.prog 6 #[.int .u32 (b : Int)] w fun e w' => e = .returned (.bool true) ∧ Below w.heap.size w w' := by
  have hbb : ((b : Int) != (b : Int)) = false := by simp
  go_enter Tryd.func6, Tryd.ntmps6
  go_wp2_with fail
  refine (HS.out _).mono ?_
  rintro e w1 ⟨rfl, hB1⟩
  go_wp2_with fail
  refine (HE.out _).mono ?_
  rintro e w2 ⟨rfl, hB2⟩
  have c2 := hB1.trans (hB2.mono hB1.size)
  go_wp2_with fail
  refine (HN.out _).mono ?_
  rintro e w3 ⟨rfl, hB3⟩
  have c3 := c2.trans (hB3.mono c2.size)
  go_wp2_with fail
  refine (HV.out _).mono ?_
  rintro e w4 ⟨rfl, hB4⟩
  have c4 := c3.trans (hB4.mono c3.size)
  go_wp2_with fail
  refine (HC.out _).mono ?_
  rintro e w5 ⟨rfl, q, rfl⟩
  go_wp2
  go_ret
  exact ⟨rfl, below_drewN c4 _⟩

set_option maxHeartbeats 1000000 in
theorem back_dot (b E n : Nat) (T A V : List UInt8) (X : Int) (one : Bool) (w : World) (_hb : b < 4294967296) (hE : bits .and .u32 ((b : Int) / 8388608) 255 = (E : Int)) (hE2 : ((E : Int) == 255) = false)
    (hn : Hid (T.length = n + 2)) (hn2 : n ≤ 1000000) (hX : (X != 0) = true) (hVe : V.isEmpty = false) (_hVn : V.length ≤ 1000000) (hone : ((V.length : Int) == 1) = one)
    (HS : Hid (∀ w, Calls Tryd.prog 14 #[] w fun e w' => e = .returned (.bool true) ∧ Below w.heap.size w w'))
    (HE : Hid (∀ w, Calls Tryd.prog 16 #[.int .u32 (b : Int)] w fun e w' => e = .returned (.string ⟨T.toArray⟩) ∧ Below w.heap.size w w'))
    (HN : Hid (∀ w, Calls Tryd.prog 17 #[.string ⟨T.toArray⟩] w fun e w' => e = .returned (.tuple #[.int .u32 (b : Int), .int .i64 0]) ∧ Below w.heap.size w w'))
    (HV : Hid (∀ w, Calls Tryd.prog 10 #[.string ⟨T.toArray⟩] w fun e w' => e = .returned (.bool true) ∧ Below w.heap.size w w'))
    (HC : Hid (∀ w, Calls Tryd.prog 18 #[.string ⟨T.toArray⟩] w fun e w' => e = .returned (.tuple #[.string ⟨A.toArray⟩, .string ⟨V.toArray⟩]) ∧ ∃ q, w' = w.drewN q))
    (HX : Hid (∀ w, Calls Tryd.prog 12 #[.string ⟨(T.take (if one then n else n + 1)).toArray⟩, .string ⟨T.toArray⟩] w fun e w' => e = .returned (.tuple #[.int .i64 X, .int .i64 0]) ∧ Below w.heap.size w w')) :
    Calls Tryd.prog 6 #[.int .u32 (b : Int)] w fun e w' => e = .returned (.bool true) ∧ Below w.heap.size w w' := by
  have hbb : ((b : Int) != (b : Int)) = false := by simp
  have hT : T.length ≤ 1000002 := by rw [hn.out]; omega
  have p1 := pre_eq T (n + 1)
  have p2 := pre_eq T n
  have s1 : (T.length : Int) - 1 = ((n + 1 : Nat) : Int) := by rw [hn.out]; omega
  have s2 : (T.length : Int) - 2 = (n : Int) := by rw [hn.out]; omega
  have t1 : 2 ≤ T.length := by rw [hn.out]; omega
  have t2 : n + 2 ≤ T.length := by rw [hn.out]; omega
  go_enter Tryd.func6, Tryd.ntmps6
  go_wp2_with fail
  refine (HS.out _).mono ?_
  rintro e w1 ⟨rfl, hB1⟩
  go_wp2_with fail
  refine (HE.out _).mono ?_
  rintro e w2 ⟨rfl, hB2⟩
  have c2 := hB1.trans (hB2.mono hB1.size)
  go_wp2_with fail
  refine (HN.out _).mono ?_
  rintro e w3 ⟨rfl, hB3⟩
  have c3 := c2.trans (hB3.mono c2.size)
  go_wp2_with fail
  refine (HV.out _).mono ?_
  rintro e w4 ⟨rfl, hB4⟩
  have c4 := c3.trans (hB4.mono c3.size)
  go_wp2_with fail
  refine (HC.out _).mono ?_
  rintro e w5 ⟨rfl, q, rfl⟩
  have c5 := below_drewN c4 q
  cases one
  · go_wp2_with fail
    refine (HX.out _).mono ?_
    rintro e w6 ⟨rfl, hB6⟩
    have c6 := c5.trans (hB6.mono c5.size)
    go_wp2
    go_ret
    exact ⟨rfl, c6⟩
  · go_wp2_with fail
    refine (HX.out _).mono ?_
    rintro e w6 ⟨rfl, hB6⟩
    have c6 := c5.trans (hB6.mono c5.size)
    go_wp2
    go_ret
    exact ⟨rfl, c6⟩

theorem dotB_txt (m : Bool) (g f : List UInt8) (hg : allD g) : dotB (txt m g f) = f := by
  have key : ∀ c, isD c = true → c ≠ 46 := fun c h e => by rw [e] at h; exact absurd h (by decide)
  have hgd : ∀ (g : List UInt8) (r : List UInt8), allD g → (g ++ r).dropWhile (fun c => !(c == 46)) = r.dropWhile (fun c => !(c == 46)) := by
    intro g r hg
    induction g with
    | nil => rfl
    | cons a t ih =>
      obtain ⟨_, ht⟩ := allD_cons hg
      rw [List.cons_append, List.dropWhile_cons]
      have := key a (hg a (List.mem_cons_self ..))
      rw [if_pos (by simp [this])]
      exact ih ht
  have e : (txt m g f).dropWhile (fun c => !(c == 46)) = (if f = [] then [] else 46 :: f : List UInt8).dropWhile (fun c => !(c == 46)) := by
    unfold txt
    cases m
    · rw [if_neg (by decide), List.nil_append]; exact hgd g _ hg
    · rw [if_pos rfl, List.singleton_append, List.dropWhile_cons, if_pos (by decide)]; exact hgd g _ hg
  unfold dotB
  rw [e]
  by_cases hf : f = []
  · rw [if_pos hf, hf]; rfl
  · rw [if_neg hf, List.dropWhile_cons, if_neg (by simp)]; rfl

theorem txt_len (m : Bool) (g f : List UInt8) : (txt m g f).length ≤ g.length + f.length + 2 := by
  unfold txt
  cases m <;> by_cases h : f = [] <;> simp [h] <;> omega

theorem txt_snoc (m : Bool) (g f : List UInt8) (c : UInt8) (hf : f ≠ []) : txt m g (f ++ [c]) = txt m g f ++ [c] := by
  unfold txt
  simp [hf]

theorem txt_one (m : Bool) (g : List UInt8) (c : UInt8) : txt m g [c] = txt m g [] ++ [46, c] := by
  unfold txt
  simp

theorem back_law (b : Nat) (w : World) (hb : b < 4294967296) :
    Calls Tryd.prog 6 #[.int .u32 (b : Int)] w fun e w' => e = .returned (.bool true) ∧ Below w.heap.size w w' := by
  have hE : bits .and .u32 ((b : Int) / 8388608) 255 = ((b / 8388608 % 256 : Nat) : Int) := by
    have e1 : (255 : Int) = ((255 : Nat) : Int) := rfl
    have e2 : (b : Int) / 8388608 = ((b / 8388608 : Nat) : Int) := by omega
    rw [e1, e2, u32_and_nat (b / 8388608) 255 (by omega) (by decide), show (255 : Nat) = 2 ^ 8 - 1 from rfl, Nat.and_two_pow_sub_one_eq_mod]
  have he := fun w => exact_any b w hb
  by_cases hs : b % 2147483648 < 2139095040
  · obtain ⟨g, f, hx, hF⟩ := exact_txt b hs
    have hE2 : (((b / 8388608 % 256 : Nat) : Int) == 255) = false := by simp; omega
    obtain ⟨m, hm⟩ : ∃ m, m = decide (2147483648 ≤ b) := ⟨_, rfl⟩
    rw [← hm] at hx
    rw [hx] at he
    have hp := pcut_txt m g f hF.dg hF.df hF.ne hF.bw
    have hlen := txt_len m g f
    have l1 := hF.lg
    have l2 := hF.lf
    have hns := near_self m g f (b % 2147483648) (by omega) hF.val
    have hsb : sbits m (b % 2147483648) = b := by
      unfold sbits
      rw [hm]
      by_cases c : 2147483648 ≤ b
      · rw [if_pos (by simpa using c)]; omega
      · rw [if_neg (by simpa using c)]; omega
    have HN : ∀ w, Calls Tryd.prog 17 #[.string ⟨(txt m g f).toArray⟩] w fun e w' => e = .returned (.tuple #[.int .u32 (b : Int), .int .i64 0]) ∧ Below w.heap.size w w' := fun w => by
      refine (nearest_some_any (txt m g f) w _ hp (by omega)).mono ?_
      rintro e w' ⟨c, rfl, hc, hB⟩
      have : c = b % 2147483648 := hc.one hns (vD_pos _ _) (vD_pos _ _) rfl
      rw [this]
      show Ending.returned (.tuple #[.int .u32 ((sbits m (b % 2147483648) : Nat) : Int), .int .i64 0]) = _ ∧ _
      rw [hsb]
      exact ⟨rfl, hB⟩
    have HV : ∀ w, Calls Tryd.prog 10 #[.string ⟨(txt m g f).toArray⟩] w fun e w' => e = .returned (.bool true) ∧ Below w.heap.size w w' := fun w => by
      have h := valid_any (txt m g f) w (by omega)
      rw [hp] at h
      exact h
    have HC := fun w => lcut_any (txt m g f) w (by omega)
    rw [dotB_txt m g f hF.dg] at HC
    by_cases hf : f = []
    · subst hf
      exact back_whole b _ (txt m g []) _ w hb hE hE2 started_any he HN HV HC
    · obtain ⟨f', c, hfc⟩ : ∃ f' c, f = f' ++ [c] := ⟨f.dropLast, f.getLast hf, (List.dropLast_concat_getLast hf).symm⟩
      have hc48 := hF.last c f' hfc
      have hdne := drop_ne m g f' c hF.dg (by rw [← hfc]; exact hF.df) hc48
      have hdf' : allD f' := fun x hx => hF.df x (by rw [hfc]; exact List.mem_append_left _ hx)
      have hp' := pcut_txt m g f' hF.dg hdf' hF.ne hF.bw
      have hlen' := txt_len m g f'
      have hlf : f.length = f'.length + 1 := by rw [hfc]; simp
      rw [← hfc] at hdne
      have hXq : (okey (m, g, f', false, []) (m, g, f, false, []) != 0) = true := by simpa using hdne
      by_cases hf' : f' = []
      · have e1 : txt m g f = txt m g [] ++ [46, c] := by rw [hfc, hf', List.nil_append]; exact txt_one m g c
        have hn : (txt m g f).length = (txt m g []).length + 2 := by rw [e1]; simp
        refine back_dot b _ (txt m g []).length (txt m g f) _ f (okey (m, g, f', false, []) (m, g, f, false, [])) true w hb hE hE2 hn (by omega) hXq (by simpa using hf) (by omega) ?_ started_any he HN HV HC (fun w => ?_)
        · rw [hlf, hf']; rfl
        · have e2 : (txt m g f).take (if true = true then (txt m g []).length else (txt m g []).length + 1) = txt m g f' := by
            rw [if_pos rfl, e1, hf', List.take_left']
            rfl
          rw [e2]
          exact compare_key hp' hp (by omega) (by omega) w
      · have e1 : txt m g f = txt m g f' ++ [c] := by rw [hfc]; exact txt_snoc m g f' c hf'
        have hn1 : (txt m g f).length = (txt m g f').length + 1 := by rw [e1]; simp
        have hf1 : 1 ≤ f'.length := List.length_pos_iff.2 hf'
        obtain ⟨n, hnn⟩ : ∃ n, (txt m g f').length = n + 1 := ⟨(txt m g f').length - 1, by
          have : 1 ≤ (txt m g f').length := by
            unfold txt
            rw [if_neg hf']
            simp
            omega
          omega⟩
        refine back_dot b _ n (txt m g f) _ f (okey (m, g, f', false, []) (m, g, f, false, [])) false w hb hE hE2 (by show _ = _; omega) (by omega) hXq (by simpa using hf) (by omega) ?_ started_any he HN HV HC (fun w => ?_)
        · simp; omega
        · have e2 : (txt m g f).take (if false = true then n else n + 1) = txt m g f' := by
            rw [if_neg (by decide), e1, ← hnn, List.take_left']
            rfl
          rw [e2]
          exact compare_key hp' hp (by omega) (by omega) w
  · have hx : exactT b = [] := by unfold exactT; rw [if_pos (by omega)]
    rw [hx] at he
    have hE2 : (((b / 8388608 % 256 : Nat) : Int) == 255) = true := by simp; omega
    exact back_inf b _ w hb hE hE2 started_any he

end Go.Proofs.YtgkbbcoagnilgaaDoor
