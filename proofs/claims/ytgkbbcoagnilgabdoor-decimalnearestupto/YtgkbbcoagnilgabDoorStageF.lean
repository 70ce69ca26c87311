import Derived.Test.YtgkbbcoagnilgabDoorStageW
namespace Go.Proofs.YtgkbbcoagnilgabDoor
open Go.RowKit

theorem rnd_exists (num den : Nat) : ∃ b, Rnd num den b := by
  obtain ⟨I, hI⟩ : ∃ I, I = 2139095040 := ⟨_, rfl⟩
  have key : ∀ n, (∃ b, b ≤ n ∧ (b = I ∨ (2 * num < den * (FV b + FV (b + 1)) ∨ 2 * num = den * (FV b + FV (b + 1)) ∧ b % 2 = 0)) ∧ ∀ a, a < b → ¬ (a = I ∨ (2 * num < den * (FV a + FV (a + 1)) ∨ 2 * num = den * (FV a + FV (a + 1)) ∧ a % 2 = 0))) ∨ ∀ a, a ≤ n → ¬ (a = I ∨ (2 * num < den * (FV a + FV (a + 1)) ∨ 2 * num = den * (FV a + FV (a + 1)) ∧ a % 2 = 0)) := by
    intro n
    induction n with
    | zero =>
      by_cases h : (0 = I ∨ (2 * num < den * (FV 0 + FV (0 + 1)) ∨ 2 * num = den * (FV 0 + FV (0 + 1)) ∧ 0 % 2 = 0))
      · exact .inl ⟨0, Nat.le_refl _, h, fun a ha => by omega⟩
      · right
        intro a ha
        obtain rfl : a = 0 := by omega
        exact h
    | succ n ih =>
      rcases ih with ⟨b, h1, h2, h3⟩ | h
      · exact .inl ⟨b, by omega, h2, h3⟩
      · by_cases hn : (n + 1 = I ∨ (2 * num < den * (FV (n + 1) + FV (n + 1 + 1)) ∨ 2 * num = den * (FV (n + 1) + FV (n + 1 + 1)) ∧ (n + 1) % 2 = 0))
        · exact .inl ⟨n + 1, Nat.le_refl _, hn, fun a ha => h a (by omega)⟩
        · right
          intro a ha
          by_cases e : a = n + 1
          · subst e; exact hn
          · exact h a (by omega)
  rcases key I with ⟨b, h1, h2, h3⟩ | h
  · refine ⟨b, by rw [← hI]; exact h1, fun a ha => ?_, fun hb => ?_⟩
    · have hn := h3 a (by omega)
      subst ha
      have hn2 : ¬ (2 * num < den * (FV a + FV (a + 1)) ∨ 2 * num = den * (FV a + FV (a + 1)) ∧ a % 2 = 0) := fun h => hn (.inr h)
      generalize den * (FV a + FV (a + 1)) = M at hn2
      omega
    · rcases h2 with h2 | h2
      · rw [hI] at h2; omega
      · exact h2
  · exact absurd (.inl rfl) (h I (Nat.le_refl _))

theorem pcut_minus3 {l : List UInt8} {x : PartsM} (h : pcut l = some x) : x.1 = decide (l.head? = some 45) := by
  unfold pcut pcut1 pcut2 pcut3 pcut4 at h
  generalize decide (l.head? = some 45) = m at h
  split at h
  · cases h
  split at h
  · cases h
  split at h
  · cases h
  split at h
  · cases h; rfl
  · cases h

theorem near_fix (t : List UInt8) (x : PartsM) (hx : pcut t = some x) (hl : t.length ≤ 1073741824) : ∃ b : Nat, NearS x b ∧ ∀ w, Calls Tryd.prog 8 #[.string ⟨t.toArray⟩] w fun e w' => e = .returned (.tuple #[.int .u32 (sbits x.1 b : Int), .int .i64 0]) ∧ Below w.heap.size w w' := by
  obtain ⟨b, hb⟩ := rnd_exists (vU (zof x) (Pof x) * 2 ^ 160) (vD (zof x) (Pof x))
  refine ⟨b, hb, fun w => ?_⟩
  refine (nearest_some_any t w x hx hl).mono ?_
  rintro e w' ⟨c, rfl, hc, hB⟩
  have : c = b := hc.one hb (vD_pos _ _) (vD_pos _ _) rfl
  rw [this]
  exact ⟨rfl, hB⟩

theorem okC_exp (t : List UInt8) (h : t.all okC = true) : ∀ c ∈ t, c ≠ 101 ∧ c ≠ 69 := fun c hc => by
  have := List.all_eq_true.1 h c hc
  constructor
  · rintro rfl; exact absurd this (by decide)
  · rintro rfl; exact absurd this (by decide)

/-- One half of the law: how twice the text stands to the sum of two float32s side by side. -/
theorem half_any (t : List UInt8) (x : PartsM) (hx : pcut t = some x) (hm : x.1 = false) (hl : t.length ≤ 1048576) (a b : Nat) (ha : a ≤ 2139095040) (hb : b ≤ 2139095040) (P : Int → Prop)
    (hP : P (cmp3 ((2 * (vU (zof x) (Pof x) * 2 ^ 160) : Nat) : Int) ((vD (zof x) (Pof x) * (FV a + FV b) : Nat) : Int))) :
    ∃ Ta Tb : List UInt8, (∀ w, Calls Tryd.prog 12 #[.int .u32 (a : Int)] w fun e w' => e = .returned (.string ⟨Ta.toArray⟩) ∧ Below w.heap.size w w') ∧ (∀ w, Calls Tryd.prog 12 #[.int .u32 (b : Int)] w fun e w' => e = .returned (.string ⟨Tb.toArray⟩) ∧ Below w.heap.size w w') ∧
      (∀ w, Calls Tryd.prog 11 #[.string ⟨Ta.toArray⟩, .string ⟨Tb.toArray⟩] w fun e w' => ∃ O : List UInt8, e = .returned (.string ⟨O.toArray⟩) ∧ (∀ w, Calls Tryd.prog 10 #[.string ⟨t.toArray⟩, .string ⟨O.toArray⟩] w fun e w' => ∃ X, e = .returned (.tuple #[.int .i64 X, .bool (t.all okC)]) ∧ (t.all okC = true → P X) ∧ Below w.heap.size w w') ∧ Below w.heap.size w w') := by
  obtain ⟨ga, fa, ea, va⟩ := value_any a ha
  obtain ⟨gb, fb, eb, vb⟩ := value_any b hb
  have la := exf_le ea
  have lb := exf_le eb
  refine ⟨txt false ga fa, txt false gb fb, va, vb, fun w => ?_⟩
  refine (sum_any ga fa gb fb w ea.dg ea.df eb.dg eb.df ea.ne (by omega) (by omega)).mono ?_
  rintro e w' ⟨G, F, rfl, hS, hB⟩
  refine ⟨txt false G F, rfl, fun w => ?_, hB⟩
  have hSl := hS.2.2.2.2.1
  have hSg := hS.2.2.2.2.2.1
  have hOl := txt_len false G F
  have hpO := pcut_txt false G F hS.1 hS.2.1 hS.2.2.1 hS.2.2.2.1
  have hcl := fun w => lcut_any t w (by omega)
  have hAl : (dotA t).length ≤ t.length := (List.takeWhile_sublist _).length_le
  have hVl : (dotB t).length ≤ t.length := by
    unfold dotB
    rw [List.length_tail]
    have := (List.dropWhile_sublist (l := t) (fun c : UInt8 => !(c == 46))).length_le
    omega
  have plain : t.all okC = true → ∃ g f, x = (false, g, f, false, []) ∧ t = txt false g f ∧ allD g ∧ allD f ∧ g ≠ [] := fun h => by
    obtain ⟨m, g, f, e1, e2, e3, e4, e5⟩ := pcut_noexp hx (okC_exp t h)
    rw [e1] at hm
    obtain rfl : m = false := hm
    exact ⟨g, f, e1, e2, e3, e4, e5⟩
  refine twice_any t (txt false G F) (dotA t) (dotB t) w (by omega) (by omega) (by omega) (t.all okC) rfl (fun h => ?_) P hcl (fun h w => ?_)
  · obtain ⟨g, f, _, e2, e3, e4, _⟩ := plain h
    rw [e2, dotA_txt g f e3, dotB_txt false g f e3]
    unfold txt
    by_cases hf : f = []
    · rw [if_pos hf, if_pos hf]; simp
    · rw [if_neg hf, if_neg hf]; simp
  · obtain ⟨g, f, e1, e2, e3, e4, e5⟩ := plain h
    have hgf : g.length + f.length ≤ t.length := by
      rw [e2]
      unfold txt
      by_cases hf : f = []
      · rw [hf]; simp
      · rw [if_neg hf]; simp
    have hsum := sum_any g f g f w e3 e4 e3 e4 e5 (by omega) (by omega)
    rw [← e2] at hsum
    refine hsum.mono ?_
    rintro e w' ⟨G1, F1, rfl, hD, hB⟩
    refine ⟨txt false G1 F1, rfl, fun w => ?_, hB⟩
    have hDl := hD.2.2.2.2.1
    have hDg := hD.2.2.2.2.2.1
    have hDt := txt_len false G1 F1
    have hpD := pcut_txt false G1 F1 hD.1 hD.2.1 hD.2.2.1 hD.2.2.2.1
    refine (compare_key hpD hpO (by omega) (by omega) w).mono ?_
    rintro e w' ⟨rfl, hB⟩
    refine ⟨_, rfl, ?_, hB⟩
    rw [twice_mid a b g f ga fa gb fb G F G1 F1 e3 e4 hD hS ea eb]
    rw [e1] at hP
    exact hP

theorem stage_law (t : List UInt8) (w : World) (hl : t.length ≤ 1048576) :
    Calls Tryd.prog 3 #[.string ⟨t.toArray⟩] w fun e w' => e = .returned (.bool true) ∧ Below w.heap.size w w' := by
  have hv := fun w => valid_any t w (by omega)
  rcases hx : pcut t with _ | x
  · rw [hx] at hv
    exact stage_none t w started_any (fun w => nearest_none_any t w hx (by omega)) hv
  · rw [hx] at hv
    obtain ⟨n, hn, HN⟩ := near_fix t x hx (by omega)
    have hnI := hn.1
    cases hm : x.1
    · rw [hm] at HN
      have c := @cmp3_of
      have low : ∀ k, n = k + 1 → (0 ≤ cmp3 ((2 * (vU (zof x) (Pof x) * 2 ^ 160) : Nat) : Int) ((vD (zof x) (Pof x) * (FV k + FV n) : Nat) : Int) ∧ (cmp3 ((2 * (vU (zof x) (Pof x) * 2 ^ 160) : Nat) : Int) ((vD (zof x) (Pof x) * (FV k + FV n) : Nat) : Int) = 0 → n % 2 = 0)) := fun k hk => by
        have h := hn.2.1 k hk
        generalize 2 * (vU (zof x) (Pof x) * 2 ^ 160) = A at h
        generalize vD (zof x) (Pof x) * (FV k + FV n) = M at h
        have c := @cmp3_of (A : Int) (M : Int)
        rcases h with h | h
        · rw [c.2.2 (by omega)]; exact ⟨by decide, fun e => by cases e⟩
        · rw [c.2.1 (by omega)]; exact ⟨by decide, fun _ => h.2⟩
      have high : n < 2139095040 → (cmp3 ((2 * (vU (zof x) (Pof x) * 2 ^ 160) : Nat) : Int) ((vD (zof x) (Pof x) * (FV n + FV (n + 1)) : Nat) : Int) ≤ 0 ∧ (cmp3 ((2 * (vU (zof x) (Pof x) * 2 ^ 160) : Nat) : Int) ((vD (zof x) (Pof x) * (FV n + FV (n + 1)) : Nat) : Int) = 0 → n % 2 = 0)) := fun hlt => by
        have h := hn.2.2 hlt
        generalize 2 * (vU (zof x) (Pof x) * 2 ^ 160) = A at h
        generalize vD (zof x) (Pof x) * (FV n + FV (n + 1)) = M at h
        have c := @cmp3_of (A : Int) (M : Int)
        rcases h with h | h
        · rw [c.1 (by omega)]; exact ⟨by decide, fun e => by cases e⟩
        · rw [c.2.1 (by omega)]; exact ⟨by decide, fun _ => h.2⟩
      have g1 : decide ((n : Int) > 2139095040) = false := decide_eq_false (by omega)
      have hp1 : Int.tmod (n : Int) 2 = ((n % 2 : Nat) : Int) := by rw [Int.tmod_eq_emod_of_nonneg (by omega)]; omega
      have hp2 : (n : Int) % 2 = ((n % 2 : Nat) : Int) := by omega
      have hN : ∀ w, Calls Tryd.prog 8 #[.string ⟨t.toArray⟩] w fun e w' => e = .returned (.tuple #[.int .u32 (n : Int), .int .i64 0]) ∧ Below w.heap.size w w' := HN
      rcases Nat.eq_zero_or_pos n with h0 | h0
      · obtain ⟨Ta, Tb, v1, v2, s⟩ := half_any t x hx hm hl n (n + 1) (by omega) (by omega) (fun X => X ≤ 0 ∧ (X = 0 → n % 2 = 0)) (high (by omega))
        exact stage_zero t Ta Tb n (t.all okC) w (n : Int) (n % 2) hp1 hp2 rfl g1 g1 (decide_eq_false (by omega)) (decide_eq_false (by omega)) (decide_eq_true (by omega)) ((n + 1 : Nat) : Int) (by omega) (by rw [IntKind.wrap_u32]; omega) (by rw [IntKind.wrap_u32]; omega) started_any hN hv v1 v2 s
      · obtain ⟨k, hk⟩ : ∃ k, n = k + 1 := ⟨n - 1, by omega⟩
        obtain ⟨Ta, Tb, v1, v2, s⟩ := half_any t x hx hm hl k n (by omega) (by omega) (fun X => 0 ≤ X ∧ (X = 0 → n % 2 = 0)) (low k hk)
        by_cases htop : n < 2139095040
        · obtain ⟨Tc, Td, v3, v4, s2⟩ := half_any t x hx hm hl n (n + 1) (by omega) (by omega) (fun X => X ≤ 0 ∧ (X = 0 → n % 2 = 0)) (high htop)
          exact stage_mid t Ta Tb Tc Td n (t.all okC) w (n : Int) (n % 2) hp1 hp2 rfl g1 g1 (decide_eq_true (by omega)) (decide_eq_true (by omega)) (decide_eq_true (by omega)) (k : Int) (by omega) (by rw [IntKind.wrap_u32]; omega) (by rw [IntKind.wrap_u32]; omega) ((n + 1 : Nat) : Int) (by omega) (by rw [IntKind.wrap_u32]; omega) (by rw [IntKind.wrap_u32]; omega) started_any hN hv v1 v2 s v3 v4 s2
        · exact stage_top t Ta Tb n (t.all okC) w (n : Int) (n % 2) hp1 hp2 rfl g1 g1 (decide_eq_true (by omega)) (decide_eq_true (by omega)) (decide_eq_false (by omega)) (k : Int) (by omega) (by rw [IntKind.wrap_u32]; omega) (by rw [IntKind.wrap_u32]; omega) started_any hN hv v1 v2 s
    · rw [hm] at HN
      have hh := pcut_minus3 hx
      rw [hm] at hh
      obtain ⟨r, hr⟩ : ∃ r, t = 45 :: r := by
        cases t with
        | nil => simp at hh
        | cons c r =>
          have : c = 45 := by simpa using hh.symm
          exact ⟨r, by rw [this]⟩
      exact stage_minus t r hr (by rw [hr]; simp) (sbits true n) (decide_eq_true (by unfold sbits; rw [if_pos rfl]; omega)) (decide_eq_true (by unfold sbits; rw [if_pos rfl]; omega)) w (by omega) started_any HN hv

end Go.Proofs.YtgkbbcoagnilgabDoor
