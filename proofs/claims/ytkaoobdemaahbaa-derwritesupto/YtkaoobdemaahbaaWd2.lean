import Derived.Test.YtkaoobdemaahbaaWd1
namespace Go.Proofs.Ytkaoobdemaahbaa
open Go.RowKit

/-- So many and then so many more. -/
theorem rb_add (N : Nat) : ∀ (l : List E) (a b : Nat), rb N (a + b) l = match rb N a l with
    | none => none
    | some r => rb N b r
  | l, 0, b => by rw [rb_zero, Nat.zero_add]
  | [], a + 1, b => by rw [rb_nil, show a + 1 + b = (a + b) + 1 by omega, rb_nil]
  | t :: r, a + 1, b => by
    rw [rb_cons, show a + 1 + b = (a + b) + 1 by omega, rb_cons]
    by_cases h : t.kids < 0 ∨ (N : Int) < t.kids
    · rw [if_pos h, if_pos h]
    · rw [if_neg h, if_neg h, show a + b + t.kids.toNat = (a + t.kids.toNat) + b by omega]
      exact rb_add N r (a + t.kids.toNat) b
/-- What is behind is the list's end. -/
theorem rb_drop (N : Nat) : ∀ (l : List E) (a : Nat) (r : List E), rb N a l = some r → ∃ k, k ≤ l.length ∧ r = l.drop k ∧ (0 < a → 0 < k)
  | l, 0, r, h => by rw [rb_zero] at h; injection h with h; exact ⟨0, Nat.zero_le _, by rw [List.drop_zero, h], fun h => absurd h (Nat.lt_irrefl _)⟩
  | [], a + 1, r, h => by rw [rb_nil] at h; cases h
  | t :: q, a + 1, r, h => by
    rw [rb_cons] at h
    by_cases hk : t.kids < 0 ∨ (N : Int) < t.kids
    · rw [if_pos hk] at h; cases h
    · rw [if_neg hk] at h
      obtain ⟨k, h1, h2, _⟩ := rb_drop N q (a + t.kids.toNat) r h
      exact ⟨k + 1, by simp; omega, by rw [h2]; rfl, fun _ => by omega⟩

/-- Does none of so many stand too deep? -/
def dks (N : Nat) (f : List E → Bool) : Nat → List E → Bool
  | 0, _ => true
  | n + 1, l => f l && (match rb N 1 l with
    | none => false
    | some r => dks N f n r)
/-- Does no constructed one stand too deep? -/
def dpV (N : Nat) : Nat → List E → Bool
  | 0, l => match l with
    | [] => false
    | t :: _ => !con t.tag
  | d + 1, l => match l with
    | [] => false
    | t :: r => dks N (dpV N d) t.kids.toNat r

/-- What deep answers, where the list is of elements that are right by themselves and whole. -/
def DpC (d : Nat) : Prop := ∀ (ao : Option Addr) (cap : Nat) (xs : List X) (w : World) (k : Nat) (op : Int) (r : List E), Row w ao xs → xs.length ≤ 2000000 → (∀ x ∈ xs, aloneR x.e = true) → rb xs.length 1 ((es xs).drop k) = some r → op = 32 - (d : Int) →
  Calls Try.prog 20 #[.slice ao xs.length cap, .int .i64 (k : Int), .int .i64 op] w fun e w' => e = .returned (.bool (dpV xs.length d ((es xs).drop k))) ∧ w' = w

theorem aloneR_tag {t : E} (h : aloneR t = true) : 0 ≤ t.tag ∧ t.tag ≤ 255 := by
  unfold aloneR at h
  rw [Bool.and_eq_true] at h
  exact tagR_bounds h.1
theorem aloneR_prim {t : E} (h : aloneR t = true) (hc : con t.tag = false) : t.kids = 0 := by
  unfold aloneR at h
  rw [hc] at h
  simp only [Bool.and_eq_true] at h
  have := h.2
  simp at this
  exact this.1
theorem rb_one {N : Nat} {l r : List E} (h : rb N 1 l = some r) : ∃ t q, l = t :: q ∧ 0 ≤ t.kids ∧ t.kids ≤ N ∧ rb N t.kids.toNat q = some r := by
  cases l with
  | nil => rw [rb_nil] at h; cases h
  | cons t q =>
    rw [rb_cons] at h
    by_cases hk : t.kids < 0 ∨ (N : Int) < t.kids
    · rw [if_pos hk] at h; cases h
    · rw [if_neg hk, Nat.zero_add] at h
      exact ⟨t, q, rfl, by omega, by omega, h⟩
theorem rb_succ {N n : Nat} {l r : List E} (h : rb N (n + 1) l = some r) : ∃ q, rb N 1 l = some q ∧ rb N n q = some r := by
  rw [Nat.add_comm, rb_add] at h
  cases hq : rb N 1 l with
  | none => rw [hq] at h; cases h
  | some q => rw [hq] at h; exact ⟨q, rfl, h⟩

set_option maxRecDepth 100000 in
set_option maxHeartbeats 4000000 in
theorem deep_step (d : Nat) (hd : d ≤ 32) (ih : ∀ d', d = d' + 1 → DpC d') : DpC d := by
  intro ao cap xs w k op r hR hlen hal hrb hop
  obtain ⟨N, hN⟩ : ∃ N, xs.length = N := ⟨_, rfl⟩
  have hkl : k < xs.length := by
    rcases Nat.lt_or_ge k xs.length with h | h
    · exact h
    · rw [List.drop_of_length_le (by rw [es_length]; exact h), rb_nil] at hrb; cases hrb
  have hdrop : (es xs).drop k = xs[k].e :: (es xs).drop (k + 1) := by
    rw [List.drop_eq_getElem_cons (by rw [es_length]; exact hkl)]
    simp [es]
  obtain ⟨t, q, e1, k1, k2, hrq⟩ := rb_one hrb
  rw [hdrop] at e1
  injection e1 with e1 e2
  subst e1
  subst e2
  have hax := hal xs[k] (List.getElem_mem hkl)
  obtain ⟨t0, t1⟩ := aloneR_tag hax
  have hpr := aloneR_prim hax
  obtain ⟨g, off, rfl, hg, hc⟩ := hR.at'.resolve_left (fun e => by rw [e] at hkl; simp at hkl)
  have c0 := (hc k hkl).1
  have c2 := (hc k hkl).2.2
  obtain ⟨tn, htn⟩ : ∃ tn : Nat, xs[k].e.tag = (tn : Int) := ⟨xs[k].e.tag.toNat, by omega⟩
  obtain ⟨kn, hkn⟩ : ∃ kn : Nat, xs[k].e.kids = (kn : Int) := ⟨xs[k].e.kids.toNat, by omega⟩
  have CI := rinner_any tn (by omega)
  rw [← htn] at CI
  have hV0 : d = 0 → dpV xs.length d ((es xs).drop k) = !con xs[k].e.tag := by
    rintro rfl
    rw [hdrop]; rfl
  have hV1 : ∀ d', d = d' + 1 → dpV xs.length d ((es xs).drop k) = dks xs.length (dpV xs.length d') kn ((es xs).drop (k + 1)) := by
    rintro d' rfl
    rw [hdrop]
    show dks _ _ xs[k].e.kids.toNat _ = _
    rw [hkn, Int.toNat_natCast]
  rw [hkn, Int.toNat_natCast] at hrq
  rw [hkn] at c2 hpr k2
  have htl : ∃ cc, con xs[k].e.tag = cc := ⟨_, rfl⟩
  obtain ⟨cc, hcc⟩ := htl
  rw [hcc] at CI hV0 hpr
  have hR0 : Hid (Row w (some ⟨g, off, none⟩) xs) := hR
  have HAl : Hid (∀ x ∈ xs, aloneR x.e = true) := hal
  have HN : Hid (xs.length = N) := hN
  obtain ⟨V, HVV⟩ : ∃ V, Hid (dpV xs.length d ((es xs).drop k) = V) := ⟨_, rfl⟩
  rw [HVV.out] at hV0 ⊢
  have HV0 : Hid (d = 0 → V = !cc) := hV0
  have HV1 : Hid (∀ d', d = d' + 1 → V = dks xs.length (dpV xs.length d') kn ((es xs).drop (k + 1))) := fun d' h => by rw [← HVV.out]; exact hV1 d' h
  have HRq : Hid (rb xs.length kn ((es xs).drop (k + 1)) = some r) := hrq
  generalize xs[k].e.tag = tg at CI c0
  rw [hN] at hlen hkl HV1 HRq k2 ⊢
  clear hc hR hal hV0 hV1 hrq hrb hdrop hax hcc htn hkn t0 t1 HVV hN k1
  cases d with
  | zero =>
    have hop2 : op = 32 := by omega
    subst hop2
    clear hop ih hd
    cases cc with
    | true =>
      have eV : V = false := HV0.out rfl
      subst eV
      clear HV0 HV1 HRq hpr
      go_enter Try.func20, Try.ntmps20
      go_wp2_with fail
      refine (CI _).mono ?_
      rintro e w' ⟨rfl, rfl⟩
      clear CI
      go_wp2
      go_ret
      exact ⟨rfl, rfl⟩
    | false =>
      have eV : V = true := HV0.out rfl
      have ek : kn = 0 := by have := hpr rfl; omega
      subst eV
      subst ek
      clear HV0 HV1 HRq hpr
      go_enter Try.func20, Try.ntmps20
      go_wp2_with fail
      refine (CI _).mono ?_
      rintro e w' ⟨rfl, rfl⟩
      clear CI
      go_wp2
      go_loop [8] (fun s8 => s8 = .int .i64 0) (fun _ => 0)
      case atStart => exact rfl
      case round =>
        obtain rfl := hrel
        go_wp2
        go_ret
        exact ⟨rfl, rfl⟩
  | succ d' =>
    have IH := ih d' rfl
    have hop3 : op < 32 := by omega
    have hop4 : 0 ≤ op := by omega
    have hop5 : op + 1 = 32 - (d' : Int) := by omega
    have HV2 : Hid (V = dks N (dpV N d') kn ((es xs).drop (k + 1))) := HV1.out d' rfl
    have dop : decide (op ≥ 32) = false := decide_eq_false (by omega)
    have dop' : decide (32 ≤ op) = false := decide_eq_false (by omega)
    have HIH : Hid (∀ (m : Nat) (q : List E), rb N 1 ((es xs).drop m) = some q → Calls Try.prog 20 #[.slice (some ⟨g, off, none⟩) N cap, .int .i64 (m : Int), .int .i64 (op + 1)] w fun e w' => e = .returned (.bool (dpV N d' ((es xs).drop m))) ∧ w' = w) := fun m q hq => by
      have hlN : xs.length ≤ 2000000 := by rw [HN.out]; exact hlen
      have := IH (some ⟨g, off, none⟩) cap xs w m (op + 1) q hR0.out hlN HAl.out (by rw [HN.out]; exact hq) hop5
      rwa [HN.out] at this
    have HBh : Hid (∀ m : Nat, m ≤ 4000000 → Calls Try.prog 18 #[.slice (some ⟨g, off, none⟩) N cap, .int .i64 (m : Int)] w fun e w' => e = .returned (.int .i64 (rbI (es xs) m)) ∧ w' = w) := fun m hm => by
      have := rbehind_any (some ⟨g, off, none⟩) cap xs w m hR0.out (by rw [HN.out]; exact hlen) hm
      rwa [HN.out] at this
    have HNx : Hid ((es xs).length = N) := by show _ = _; rw [es_length]; exact HN.out
    clear IH ih hop hop5 HV0 HV1 hpr hd
    have key : ∀ b : Bool, cc = b → True := fun _ _ => trivial
    clear key
    have go : ∀ b : Bool, (∀ w : World, Calls Try.prog 26 #[.int .i64 tg] w fun e w' => e = .returned (.bool b) ∧ w' = w) → Calls Try.prog 20 #[.slice (some ⟨g, off, none⟩) N cap, .int .i64 (k : Int), .int .i64 op] w fun e w' => e = .returned (.bool V) ∧ w' = w := by
      intro b CI
      cases b
      all_goals
        go_enter Try.func20, Try.ntmps20
        go_wp2_with fail
        refine (CI _).mono ?_
        rintro e w' ⟨rfl, rfl⟩
        clear CI
        go_wp2
        go_loop [7, 8] (fun s7 s8 => ∃ m i : Nat, s7 = .int .i64 (m : Int) ∧ s8 = .int .i64 (i : Int) ∧ i ≤ kn ∧ m ≤ N ∧ Hid (rb N (kn - i) ((es xs).drop m) = some r ∧ V = dks N (dpV N d') (kn - i) ((es xs).drop m))) (fun _ s8 => kn - (intOf s8).toNat)
        case atStart => exact ⟨k + 1, 0, by go_num, rfl, Nat.zero_le _, by omega, HRq.out, HV2.out⟩
        case round =>
          obtain ⟨m, i, rfl, rfl, hi, hm, HI⟩ := hrel
          by_cases hik : i < kn
          · have hs : kn - i = (kn - (i + 1)) + 1 := by omega
            obtain ⟨hI1, hI2⟩ := HI.out
            rw [hs] at hI1 hI2
            obtain ⟨q, hq1, hq2⟩ := rb_succ hI1
            have hI3 : V = (dpV N d' ((es xs).drop m) && dks N (dpV N d') (kn - (i + 1)) q) := by
              rw [hI2]
              show (dpV N d' ((es xs).drop m) && (match rb N 1 ((es xs).drop m) with | none => false | some r => dks N (dpV N d') (kn - (i + 1)) r)) = _
              rw [hq1]
            obtain ⟨j, hj1, hj2, _⟩ := rb_drop N _ _ _ hq1
            rw [List.length_drop, HNx.out] at hj1
            rw [List.drop_drop] at hj2
            have hbI : rbI (es xs) m = ((m + j : Nat) : Int) := by
              unfold rbI
              rw [HNx.out, hq1, hj2]
              simp only [List.length_drop, HNx.out]
              omega
            have C1 := HIH.out m q hq1
            have C2 := HBh.out m (by omega)
            rw [hbI] at C2
            have HI2 : Hid (rb N (kn - (i + 1)) ((es xs).drop (m + j)) = some r) := by rw [← hj2]; exact hq2
            have HI3 : Hid (V = (dpV N d' ((es xs).drop m) && dks N (dpV N d') (kn - (i + 1)) ((es xs).drop (m + j)))) := by rw [← hj2]; exact hI3
            have hmj : m + j ≤ N := by omega
            clear hI1 hI2 hq1 hq2 hI3 hj2 hbI hs HI hj1
            generalize hbv : dpV N d' ((es xs).drop m) = bv at C1 HI3
            clear hbv
            cases bv with
            | false =>
              have eV : V = false := HI3.out
              subst eV
              clear HI2 HI3 C2
              go_wp2_with fail
              refine C1.mono ?_
              rintro e w' ⟨rfl, rfl⟩
              clear C1
              go_wp2
              go_ret
              exact ⟨rfl, rfl⟩
            | true =>
              have HI4 : Hid (rb N (kn - (i + 1)) ((es xs).drop (m + j)) = some r ∧ V = dks N (dpV N d') (kn - (i + 1)) ((es xs).drop (m + j))) := ⟨HI2.out, HI3.out⟩
              clear HI2 HI3
              go_wp2_with fail
              refine C1.mono ?_
              rintro e w' ⟨rfl, rfl⟩
              clear C1
              go_wp2_with fail
              refine C2.mono ?_
              rintro e w' ⟨rfl, rfl⟩
              clear C2
              go_wp2
              go_round
              · exact ⟨m + j, i + 1, rfl, by go_num, by omega, hmj, HI4⟩
              · show kn - (intOf _).toNat < kn - (intOf _).toNat
                simp only [intOf]
                omega
          · have eV : V = true := by
              have := HI.out.2
              rw [show kn - i = 0 by omega] at this
              exact this
            subst eV
            clear HI
            go_wp2
            go_ret
            exact ⟨rfl, rfl⟩
    exact go cc CI

/-- The document's deep answers so. -/
theorem deep_any : ∀ d : Nat, d ≤ 32 → DpC d
  | 0, h => deep_step 0 h (fun d' e => by omega)
  | d + 1, h => deep_step (d + 1) h (fun d' e => by
    have e' : d' = d := by omega
    rw [e']
    exact deep_any d (by omega))

end Go.Proofs.Ytkaoobdemaahbaa
