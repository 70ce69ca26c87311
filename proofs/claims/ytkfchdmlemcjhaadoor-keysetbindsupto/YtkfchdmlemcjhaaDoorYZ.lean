import Derived.Test.YtkfchdmlemcjhaaDoorJZ
import Derived.Test.YtkfchdmlemcjhaaDoorVE
namespace Go.Proofs.YtkfchdmlemcjhaaDoor
open Go.RowKit

/-- What nmF asks. -/
theorem nm_parts {v : List Nd} {i : Nat} {ar : Int} {met met1 : List (Nat × List UInt8)} (h : nmF v i ar met = some met1) :
    ((ar = -1 ∨ (v.getD ar.toNat (nd0 0)).kind = 6) ∧ (v.getD i (nd0 0)).key = [] ∧ met1 = met) ∨
    (¬ (ar = -1 ∨ (v.getD ar.toNat (nd0 0)).kind = 6) ∧ Lib.validD (v.getD i (nd0 0)).key = true ∧ (ar.toNat, (v.getD i (nd0 0)).key) ∉ met ∧ met1 = met ++ [(ar.toNat, (v.getD i (nd0 0)).key)]) := by
  unfold nmF at h
  split at h
  · rename_i h1
    split at h
    · rename_i h2
      cases h
      exact .inl ⟨h1, h2, rfl⟩
    · cases h
  · rename_i h1
    split at h
    · rename_i h2
      cases h
      exact .inr ⟨h1, h2.1, h2.2, rfl⟩
    · cases h

/-- What has been met stays met. -/
theorem sk_mono {sv : Nat → List (Nat × List UInt8) → Option (Nat × List (Nat × List UInt8))} (hs : ∀ i m j m', sv i m = some (j, m') → ∀ e ∈ m, e ∈ m') : ∀ (f : Nat) (n : Int) (i : Nat) (m : List (Nat × List UInt8)) (j : Nat) (m' : List (Nat × List UInt8)), skF sv f n i m = some (j, m') → ∀ e ∈ m, e ∈ m'
  | 0, n, i, m, j, m', h => by
    unfold skF at h
    split at h
    · cases h
    · cases h; exact fun e he => he
  | f + 1, n, i, m, j, m', h => by
    unfold skF at h
    split at h
    · split at h
      · cases h
      · rename_i k m2 e
        intro x hx
        exact sk_mono hs f (n - 1) k m2 j m' h x (hs _ _ _ _ e x hx)
    · cases h; exact fun e he => he
theorem sv_mono {v : List Nd} : ∀ (f i : Nat) (a d : Int) (m : List (Nat × List UInt8)) (j : Nat) (m' : List (Nat × List UInt8)), svF v f i a d m = some (j, m') → ∀ e ∈ m, e ∈ m'
  | 0, i, a, d, m, j, m', h => by unfold svF at h; cases h
  | f + 1, i, a, d, m, j, m', h => by
    unfold svF at h
    split at h
    · split at h
      · cases h
      · rename_i m2 e
        intro x hx
        refine sk_mono (fun i2 m3 j2 m4 h2 => sv_mono f i2 _ _ m3 j2 m4 h2) _ _ _ m2 j m' h x ?_
        rcases nm_parts e with ⟨_, _, rfl⟩ | ⟨_, _, _, rfl⟩
        · exact hx
        · simp [hx]
    · cases h

/-- A piece of the nodes. -/
def cut (v : List Nd) (i j : Nat) : List Nd := (v.drop i).take (j - i)
theorem cut_app {v : List Nd} {i j k : Nat} (h1 : i ≤ j) (h2 : j ≤ k) : cut v i k = cut v i j ++ cut v j k := by
  unfold cut
  rw [show k - i = (j - i) + (k - j) by omega, List.take_add, List.drop_drop, show i + (j - i) = j by omega]
theorem cut_self (v : List Nd) (i : Nat) : cut v i i = [] := by unfold cut; simp
theorem cut_head {v : List Nd} {i j : Nat} (h : i < j) (hj : j ≤ v.length) : cut v i j = v.getD i (nd0 0) :: cut v (i + 1) j := by
  unfold cut
  rw [dropN (by omega), show j - i = (j - (i + 1)) + 1 by omega, List.take_succ_cons]

/-- The names that a row has, as nmF asks for them. -/
def RK (v : List Nd) (ar : Int) (met : List (Nat × List UInt8)) (a : List (List UInt8)) : Prop :=
  ((ar = -1 ∨ (v.getD ar.toNat (nd0 0)).kind = 6) → ∀ x ∈ a, x = []) ∧
  (¬ (ar = -1 ∨ (v.getD ar.toNat (nd0 0)).kind = 6) → (∀ x ∈ a, Lib.validD x = true) ∧ a.Nodup ∧ ∀ x ∈ a, (ar.toNat, x) ∉ met)

theorem sk_sq {v : List Nd} {sv : Nat → List (Nat × List UInt8) → Option (Nat × List (Nat × List UInt8))} {ar d : Int}
    (hs : ∀ i m j m', sv i m = some (j, m') → (i < j ∧ j ≤ v.length) ∧ Sq d [(v.getD i (nd0 0)).key] (cut v i j) ∧ (∀ e ∈ m, e ∈ m') ∧ RK v ar m [(v.getD i (nd0 0)).key] ∧ (¬ (ar = -1 ∨ (v.getD ar.toNat (nd0 0)).kind = 6) → (ar.toNat, (v.getD i (nd0 0)).key) ∈ m')) :
    ∀ (f : Nat) (n : Int) (i : Nat) (m : List (Nat × List UInt8)) (j : Nat) (m' : List (Nat × List UInt8)), 0 ≤ n → i ≤ v.length → skF sv f n i m = some (j, m') → i ≤ j ∧ j ≤ v.length ∧ ∃ a : List (List UInt8), (a.length : Int) = n ∧ Sq d a (cut v i j) ∧ RK v ar m a
  | 0, n, i, m, j, m', hn, hi, h => by
    unfold skF at h
    split at h
    · cases h
    · cases h
      refine ⟨Nat.le_refl _, hi, [], by simp; omega, by rw [cut_self]; exact .nil _, fun _ x hx => by simp at hx, fun _ => ⟨fun x hx => by simp at hx, List.nodup_nil, fun x hx => by simp at hx⟩⟩
  | f + 1, n, i, m, j, m', hn, hi, h => by
    unfold skF at h
    split at h
    · rename_i hn0
      split at h
      · cases h
      · rename_i k m2 e
        obtain ⟨⟨h1, h2⟩, h3, h4, h5, h6⟩ := hs _ _ _ _ e
        obtain ⟨g1, g2, a, g3, g4, g5⟩ := sk_sq hs f (n - 1) k m2 j m' (by omega) h2 h
        refine ⟨by omega, g2, (v.getD i (nd0 0)).key :: a, by simp only [List.length_cons]; omega, ?_, ?_, ?_⟩
        · rw [cut_app (show i ≤ k by omega) g1]
          exact h3.append g4
        · intro hc x hx
          rcases List.mem_cons.1 hx with rfl | hx
          · exact h5.1 hc _ (by simp)
          · exact g5.1 hc x hx
        · intro hc
          obtain ⟨p1, p2, p3⟩ := h5.2 hc
          obtain ⟨r1, r2, r3⟩ := g5.2 hc
          refine ⟨fun x hx => ?_, ?_, fun x hx => ?_⟩
          · rcases List.mem_cons.1 hx with rfl | hx
            · exact p1 _ (by simp)
            · exact r1 x hx
          · rw [List.nodup_cons]
            exact ⟨fun hm => r3 _ hm (h6 hc), r2⟩
          · rcases List.mem_cons.1 hx with rfl | hx
            · exact p3 _ (by simp)
            · exact fun hm => r3 x hx (h4 _ hm)
    · rename_i hn0
      cases h
      refine ⟨Nat.le_refl _, hi, [], by simp; omega, by rw [cut_self]; exact .nil _, fun _ x hx => by simp at hx, fun _ => ⟨fun x hx => by simp at hx, List.nodup_nil, fun x hx => by simp at hx⟩⟩

theorem wm_nn {n : Nd} {d : Int} (h : wmF n d = true) : 0 ≤ n.kids := by
  unfold wmF at h
  split at h
  · have h2 : n.kids = 0 := congrArg Nd.kids (of_decide_eq_true h)
    omega
  · split at h
    · simp only [Bool.and_eq_true] at h
      have h2 : n.kids = 0 := congrArg Nd.kids (of_decide_eq_true h.2)
      omega
    · split at h
      · simp only [Bool.and_eq_true] at h
        have h2 : n.kids = 0 := congrArg Nd.kids (of_decide_eq_true h.2)
        omega
      · split at h
        · simp only [Bool.and_eq_true, decide_eq_true_eq] at h
          omega
        · cases h

/-- A well shaped value is a value. -/
theorem sv_sq {v : List Nd} : ∀ (f i : Nat) (ar d : Int) (m : List (Nat × List UInt8)) (j : Nat) (m' : List (Nat × List UInt8)), svF v f i ar d m = some (j, m') → (i < j ∧ j ≤ v.length) ∧ Sq d [(v.getD i (nd0 0)).key] (cut v i j) ∧ (∀ e ∈ m, e ∈ m') ∧ RK v ar m [(v.getD i (nd0 0)).key] ∧ (¬ (ar = -1 ∨ (v.getD ar.toNat (nd0 0)).kind = 6) → (ar.toNat, (v.getD i (nd0 0)).key) ∈ m')
  | 0, i, ar, d, m, j, m', h => by unfold svF at h; cases h
  | f + 1, i, ar, d, m, j, m', h => by
    have hgt := svF_gt (f + 1) i ar d m j m' h
    have hmono := sv_mono (f + 1) i ar d m j m' h
    unfold svF at h
    split at h
    · rename_i hi
      split at h
      · cases h
      · rename_i m2 e
        have hwk := wm_kids2 hi.2
        have hm2 := sk_mono (fun i2 m3 j2 m4 h2 => sv_mono f i2 _ _ m3 j2 m4 h2) _ _ _ m2 j m' h
        obtain ⟨_, _, a, ha, hsq, hrk⟩ := sk_sq (v := v) (ar := (i : Int)) (d := d + 1) (fun i2 m3 j2 m4 h2 => sv_sq f i2 _ _ m3 j2 m4 h2) _ _ (i + 1) m2 j m' (wm_nn hi.2) (by omega) h
        have hks : KeysOK (v.getD i (nd0 0)).kind a := by
          unfold RK at hrk
          rw [Int.toNat_natCast] at hrk
          refine ⟨fun h6 => hrk.1 (.inr h6), fun h7 => ?_⟩
          have := hrk.2 (fun h => by rcases h with h | h <;> omega)
          exact ⟨this.1, this.2.1⟩
        refine ⟨hgt, ?_, hmono, ?_, ?_⟩
        · rw [cut_head hgt.1 hgt.2]
          exact Sq.one hi.2 hsq ha.symm hks
        · rcases nm_parts e with ⟨h1, h2, _⟩ | ⟨h1, h2, h3, _⟩
          · exact ⟨fun _ x hx => by rw [List.mem_singleton.1 hx, h2], fun hc => absurd h1 hc⟩
          · refine ⟨fun hc => absurd hc h1, fun _ => ⟨fun x hx => by rw [List.mem_singleton.1 hx]; exact h2, by simp, fun x hx => by rw [List.mem_singleton.1 hx]; exact h3⟩⟩
        · intro hc
          rcases nm_parts e with ⟨h1, _, _⟩ | ⟨_, _, _, h4⟩
          · exact absurd h1 hc
          · refine hm2 _ ?_
            rw [h4]
            simp
    · cases h

theorem shaped_sq {v : List Nd} (h : shapedF v = true) : Sq 0 [[]] v := by
  unfold shapedF at h
  split at h
  · rename_i j m e
    have hj := of_decide_eq_true h
    subst hj
    obtain ⟨h1, h2, _, h4, _⟩ := sv_sq 33 0 (-1) 0 [] v.length m e
    have hk := h4.1 (.inl rfl) (v.getD 0 (nd0 0)).key (List.mem_singleton.2 rfl)
    rw [hk] at h2
    have hc : cut v 0 v.length = v := by unfold cut; simp
    rw [hc] at h2
    exact h2
  · cases h

end Go.Proofs.YtkfchdmlemcjhaaDoor

namespace Go.Proofs.YtkfchdmlemcjhaaDoor
open Go.RowKit

/-- What stands between brackets. -/
def bodyT (obj : Bool) : Bool → List (List UInt8) → List (List UInt8) → List UInt8
  | _, [], _ => []
  | _, _ :: _, [] => []
  | first, k :: ks, t :: ts => ((if first then [] else [44]) ++ (if obj then quoS k ++ [58] else []) ++ t) ++ bodyT obj false ks ts
/-- A node's text, given those of its kids. -/
def txN (n : Nd) (ks ts : List (List UInt8)) : List UInt8 :=
  if n.kind = 1 then [110, 117, 108, 108]
  else if n.kind = 2 then [102, 97, 108, 115, 101]
  else if n.kind = 3 then [116, 114, 117, 101]
  else if n.kind = 4 then n.text
  else if n.kind = 5 then quoS n.text
  else if n.kind = 6 then 91 :: (bodyT false true ks ts ++ [93])
  else if n.kind = 7 then 123 :: (bodyT true true ks ts ++ [125])
  else []

/-- A row of values with their texts. -/
inductive Ts : Int → List (List UInt8) → List Nd → List (List UInt8) → Prop
  | nil (d : Int) : Ts d [] [] []
  | cons {d : Int} {n : Nd} {ks ks' ts ts' : List (List UInt8)} {r r' : List Nd} (hw : wmF n d = true) (h1 : Ts (d + 1) ks r ts) (hn : n.kids = (ks.length : Int)) (hk : KeysOK n.kind ks) (h2 : Ts d ks' r' ts') : Ts d (n.key :: ks') (n :: (r ++ r')) (txN n ks ts :: ts')

theorem Sq.ts {d : Int} {a : List (List UInt8)} {l : List Nd} (h : Sq d a l) : ∃ ts, Ts d a l ts := by
  induction h with
  | nil d => exact ⟨[], .nil d⟩
  | cons hw h1 hn hk h3 ih1 ih2 =>
    obtain ⟨t1, g1⟩ := ih1
    obtain ⟨t2, g2⟩ := ih2
    exact ⟨_, .cons hw g1 hn hk g2⟩

theorem Ts.none {d : Int} {l : List Nd} {ts : List (List UInt8)} (h : Ts d [] l ts) : l = [] ∧ ts = [] := by
  generalize he : ([] : List (List UInt8)) = a at h
  cases h with
  | nil => exact ⟨rfl, rfl⟩
  | cons => cases he

/-- The writer writes these texts. -/
theorem Ts.pr {d : Int} {a : List (List UInt8)} {l : List Nd} {ts : List (List UInt8)} (h : Ts d a l ts) : ∀ (pre post v : List Nd) (f g : Nat) (obj first : Bool), v = pre ++ (l ++ post) → d + f = 33 → (a ≠ [] → d ≤ 32) → v.length ≤ g + pre.length → pkF (prF v f) v obj g first (a.length : Int) pre.length = (bodyT obj first a ts, pre.length + l.length) := by
  induction h with
  | nil d =>
    intro pre post v f g obj first hv hd hd2 hg
    cases g <;> (unfold pkF bodyT; first | rfl | (rw [if_neg (by simp)]; rfl))
  | cons hw h1 hn hk h3 ih1 ih2 =>
    rename_i d n ks ks' t1 t2 r1 r2
    intro pre post v f g obj first hv hd hd2 hg
    have hlen : v.length = pre.length + (1 + r1.length + r2.length + post.length) := by rw [hv]; simp; omega
    have hd3 : d ≤ 32 := hd2 (by simp)
    have hgn : v.getD pre.length (nd0 0) = n := by rw [hv]; simp
    obtain ⟨f, rfl⟩ : ∃ f', f = f' + 1 := ⟨f - 1, by omega⟩
    obtain ⟨g, rfl⟩ : ∃ g', g = g' + 1 := ⟨g - 1, by omega⟩
    have hwk := wm_kids2 hw
    have hpl : (pre ++ [n]).length = pre.length + 1 := by simp
    have hin : ∀ o, pkF (prF v f) v o (v.length + 1) true n.kids (pre.length + 1) = (bodyT o true ks t1, pre.length + 1 + r1.length) := fun o => by
      have := ih1 (pre ++ [n]) (r2 ++ post) v f (v.length + 1) o true (by rw [hv]; simp) (by omega) (fun hks => by
        have : 0 < n.kids := by
          rw [hn]
          have := List.length_pos_iff.2 hks
          omega
        have := hwk.2.2 this
        omega) (by omega)
      rw [hpl] at this
      rw [hn, this]
    have hleaf : n.kind < 6 → r1 = [] := fun hlt => by
      have h0 := hwk.2.1 hlt
      rw [hn] at h0
      have hks : ks = [] := List.eq_nil_of_length_eq_zero (by omega)
      rw [hks] at h1
      exact h1.none.1
    have hpr : prF v (f + 1) pre.length = (txN n ks t1, pre.length + 1 + r1.length) := by
      unfold prF txN
      simp only [hgn, hin]
      split
      · rw [hleaf (by omega)]; rfl
      · split
        · rw [hleaf (by omega)]; rfl
        · split
          · rw [hleaf (by omega)]; rfl
          · split
            · rw [hleaf (by omega)]; rfl
            · split
              · rw [hleaf (by omega)]; rfl
              · split
                · rfl
                · split
                  · rfl
                  · omega
    have hpl2 : (pre ++ (n :: r1)).length = pre.length + 1 + r1.length := by simp; omega
    have h2 := ih2 (pre ++ (n :: r1)) post v (f + 1) g obj false (by rw [hv]; simp) hd (fun _ => hd3) (by rw [hpl2]; omega)
    rw [hpl2] at h2
    unfold pkF
    simp only [List.length_cons]
    rw [if_pos (by omega), hpr, hgn]
    simp only
    rw [show ((ks'.length + 1 : Nat) : Int) - 1 = (ks'.length : Int) by omega, h2]
    simp only [bodyT, List.length_append]
    rw [show pre.length + 1 + r1.length + r2.length = pre.length + (r1.length + r2.length + 1) by omega]

/-- What Print writes of a value. -/
theorem Ts.print {v : List Nd} {t : List UInt8} (h : Ts 0 [[]] v [t]) : (prF v 33 0).1 = t := by
  have h1 := congrArg Prod.fst (h.pr [] [] v 33 (v.length + 1) false true (by simp) (by omega) (fun _ => by omega) (by simp))
  have h0 : ∀ i, (pkF (prF v 33) v false v.length false 0 i).1 = [] := fun i => by cases v.length <;> (unfold pkF; first | rfl | rw [if_neg (by omega)])
  unfold pkF at h1
  simp only [List.length_cons, List.length_nil] at h1
  rw [if_pos (by omega)] at h1
  simp only at h1
  rw [show (((0 + 1 : Nat) : Int) - 1) = 0 by omega, h0] at h1
  simpa [bodyT] using h1

end Go.Proofs.YtkfchdmlemcjhaaDoor

namespace Go.Proofs.YtkfchdmlemcjhaaDoor
open Go.RowKit

theorem at_drop {T A : List UInt8} {p : Nat} (h : T.drop p = A) (i : Nat) : T.getD (p + i) 0 = A.getD i 0 := by rw [← h, Lib.getD_dropU]
theorem len_drop {T A : List UInt8} {p : Nat} (h : T.drop p = A) (hp : p ≤ T.length) : T.length = p + A.length := by rw [← h, List.length_drop]; omega
theorem at_tk {T A set : List UInt8} {p : Nat} {c : UInt8} (h : T.drop p = c :: A) (hp : p ≤ T.length) : tk T set p = set.contains c := by
  have h1 := at_drop h 0
  have h2 := len_drop h hp
  rw [Nat.add_zero, List.getD_cons_zero] at h1
  unfold tk
  rw [h1, decide_eq_true (show p < T.length by rw [h2]; simp), Bool.true_and]
theorem drop_app {T A B : List UInt8} {p : Nat} (h : T.drop p = A ++ B) : T.drop (p + A.length) = B := by
  rw [← List.drop_drop, h, List.drop_left]

theorem all_u8 {P : UInt8 → Prop} (h : ∀ k, k < 256 → P (UInt8.ofNat k)) : ∀ c, P c := fun c => by
  have := h c.toNat (UInt8.toNat_lt c)
  rwa [UInt8.ofNat_toNat] at this

theorem ix_out : ∀ {l : List UInt8} {c : UInt8}, c ∉ l → Lib.indexByte l c = -1
  | [], _, _ => rfl
  | b :: l, c, h => by
    have h1 : ¬ (b == c) = true := by
      simp only [beq_iff_eq]
      exact fun e => h (by simp [e])
    have h2 := ix_out (l := l) (c := c) (fun hm => h (List.mem_cons_of_mem _ hm))
    unfold Lib.indexByte
    rw [if_neg h1, h2]
    rfl
theorem ix_in {l : List UInt8} {c : UInt8} (h : 0 ≤ Lib.indexByte l c) : c ∈ l := by
  by_cases hm : c ∈ l
  · exact hm
  · rw [ix_out hm] at h
    omega

set_option maxRecDepth 100000 in
theorem esc_letter (c : UInt8) (h : 0 ≤ Lib.indexByte escB c) : escV c = [92, escS.getD (Lib.indexByte escB c).toNat 0] ∧ escS.getD (Lib.indexByte escB c).toNat 0 ≠ 117 ∧ escS.getD (Lib.indexByte escB c).toNat 0 ≠ 47 ∧ escL (escS.getD (Lib.indexByte escB c).toNat 0) = some (c.toNat : Int) := by
  have hm := ix_in h
  simp only [escB, List.mem_cons, List.not_mem_nil, or_false] at hm
  rcases hm with rfl | rfl | rfl | rfl | rfl | rfl | rfl <;> decide +kernel
set_option maxRecDepth 100000 in
theorem esc_hex : ∀ c : UInt8, ¬ 0 ≤ Lib.indexByte escB c → c.toNat < 32 → ∃ x y, escV c = [92, 117, 48, 48, x, y] ∧ hexV x = ((c.toNat / 16 : Nat) : Int) ∧ hexV y = ((c.toNat % 16 : Nat) : Int) := by
  intro c h1 h2
  unfold escV
  rw [if_neg h1, if_pos h2]
  refine ⟨_, _, rfl, ?_, ?_⟩
  · have : ∀ k, k < 2 → hexV (([48, 49, 50, 51, 52, 53, 54, 55, 56, 57, 97, 98, 99, 100, 101, 102] : List UInt8).getD k 0) = (k : Int) := by decide +kernel
    exact this _ (by omega)
  · have : ∀ k, k < 16 → hexV (([48, 49, 50, 51, 52, 53, 54, 55, 56, 57, 97, 98, 99, 100, 101, 102] : List UInt8).getD k 0) = (k : Int) := by decide +kernel
    exact this _ (by omega)
theorem esc_none (c : UInt8) (h1 : ¬ 0 ≤ Lib.indexByte escB c) (h2 : ¬ c.toNat < 32) : escV c = [] ∧ c ≠ 34 ∧ c ≠ 92 := by
  refine ⟨?_, fun e => h1 ?_, fun e => h1 ?_⟩
  · unfold escV
    rw [if_neg h1, if_neg h2]
  · rw [e]; decide
  · rw [e]; decide

theorem enc_small {c : UInt8} (h : c.toNat < 128) : Lib.encodeRune (c.toNat : Int) = [c] := by
  unfold Lib.encodeRune
  rw [Lib.encodeRuneZ_one (by omega) (by omega)]
  simp

theorem full_small {c : UInt8} {A : List UInt8} (h : c.toNat < 128) : fullR (c :: A) = true := by
  unfold fullR fullN
  rw [if_neg (by simp), if_pos]
  simp only [List.getD_cons_zero]
  unfold Lib.firstT
  rw [if_pos h]
  simp

theorem unit_four {T : List UInt8} {pl q : Nat} {x y : UInt8} {hx hy : Int} {A : List UInt8} (h : T.drop q = 48 :: 48 :: x :: y :: A) (hq : q ≤ T.length) (ex : hexV x = hx) (ey : hexV y = hy) (h1 : 0 ≤ hx ∧ hx < 2) (h2 : 0 ≤ hy ∧ hy < 16) : unitF T pl false 4 0 q = .ok (hx * 16 + hy) (q + 4) := by
  have hl := len_drop h hq
  simp only [List.length_cons] at hl
  have g0 := at_drop h 0
  have g1 := at_drop h 1
  have g2 := at_drop h 2
  have g3 := at_drop h 3
  simp only [List.getD_cons_zero, List.getD_cons_succ, Nat.add_zero] at g0 g1 g2 g3
  have hz : hexV 48 = 0 := by decide
  unfold unitF
  rw [if_pos (by omega), g0, hz]
  simp only
  rw [if_neg (by omega), if_pos (by decide)]
  unfold unitF
  rw [if_pos (by omega), g1, hz]
  simp only
  rw [if_neg (by omega), if_pos (by decide)]
  unfold unitF
  rw [if_pos (by omega), show q + 1 + 1 = q + 2 by omega, g2, ex]
  simp only
  rw [if_neg (by omega), if_pos (by unfold awF; simp; omega)]
  unfold unitF
  rw [if_pos (by omega), show q + 2 + 1 = q + 3 by omega, g3, ey]
  simp only
  rw [if_neg (by omega), if_pos (by unfold awF; simp; omega)]
  unfold unitF
  congr 1
  simp

/-- One sign of a string, as it is written, is read. -/
theorem chr_small {T A : List UInt8} {p : Nat} {c : UInt8} (hc : c.toNat < 128) (h : T.drop p = escC c ++ A) (hp : p ≤ T.length) (_hA : A ≠ []) : chrF T p = .ok (c.toNat : Int) (p + (escC c).length) ∧ (∃ c1 A1, escC c ++ A = c1 :: A1 ∧ c1 ≠ 34) := by
  by_cases h1 : 0 ≤ Lib.indexByte escB c
  · obtain ⟨e1, e2, e3, e4⟩ := esc_letter c h1
    have eC : escC c = [92, escS.getD (Lib.indexByte escB c).toNat 0] := by unfold escC; rw [if_neg (by rw [e1]; simp), e1]
    generalize escS.getD (Lib.indexByte escB c).toNat 0 = x at *
    rw [eC] at h ⊢
    simp only [List.cons_append, List.nil_append] at h ⊢
    have hl := len_drop h hp
    simp only [List.length_cons] at hl
    have g0 := at_drop h 0
    have g1 := at_drop h 1
    simp only [List.getD_cons_zero, List.getD_cons_succ, Nat.add_zero] at g0 g1
    refine ⟨?_, 92, x :: A, rfl, by decide⟩
    unfold chrF
    simp only
    rw [h, full_small (by decide), if_neg (by decide), g0, if_pos rfl]
    unfold escF
    rw [if_pos (by omega), g1]
    simp only
    rw [if_neg e2, if_neg e3, e4]
    rfl
  · by_cases h2 : c.toNat < 32
    · obtain ⟨x, y, e1, e2, e3⟩ := esc_hex c h1 h2
      have eC : escC c = [92, 117, 48, 48, x, y] := by unfold escC; rw [if_neg (by rw [e1]; simp), e1]
      rw [eC] at h ⊢
      simp only [List.cons_append, List.nil_append] at h ⊢
      have hl := len_drop h hp
      simp only [List.length_cons] at hl
      have g0 := at_drop h 0
      have g1 := at_drop h 1
      simp only [List.getD_cons_zero, List.getD_cons_succ, Nat.add_zero] at g0 g1
      refine ⟨?_, 92, _, rfl, by decide⟩
      have hd : T.drop (p + 2) = 48 :: 48 :: x :: y :: A := by rw [← List.drop_drop, h]; rfl
      unfold chrF
      simp only
      rw [h, full_small (by decide), if_neg (by decide), g0, if_pos rfl]
      unfold escF
      rw [if_pos (by omega), g1]
      simp only
      rw [if_pos trivial]
      unfold pointF
      rw [unit_four hd (by omega) e2 e3 (by omega) (by omega)]
      simp only
      rw [if_pos (by omega)]
      simp only [List.length_cons, List.length_nil]
      congr 1
      omega
    · obtain ⟨e1, e2, e3⟩ := esc_none c h1 h2
      have eC : escC c = [c] := by unfold escC; rw [if_pos e1]
      rw [eC] at h ⊢
      simp only [List.cons_append, List.nil_append] at h ⊢
      have g0 := at_drop h 0
      simp only [List.getD_cons_zero, Nat.add_zero] at g0
      refine ⟨?_, c, A, rfl, e2⟩
      have hd : Lib.decodeL (c :: A) = (c.toNat, 1) := by
        rw [Lib.decodeL_N]
        unfold Lib.decodeN
        rw [List.getD_cons_zero, if_pos hc]
      unfold chrF
      simp only
      rw [h, full_small hc, if_neg (by decide), g0, if_neg e3, if_neg (by rw [UInt8.lt_iff_toNat_lt]; simpa using h2), hd, if_neg (by simp; omega)]
      rfl

end Go.Proofs.YtkfchdmlemcjhaaDoor

namespace Go.Proofs.YtkfchdmlemcjhaaDoor
open Go.RowKit
open Dec (isD nd digs rst cutF cutP cutL badW pcut pcut1 pcut2 pcut3 pcut4 isE isS skS)

theorem first2 {b : Nat} (h : 194 ≤ b ∧ b < 224) : Lib.firstT b % 8 = 2 := by
  unfold Lib.firstT
  repeat' split
  all_goals omega
theorem first3 {b : Nat} (h : 224 ≤ b ∧ b < 240) : Lib.firstT b % 8 = 3 := by
  unfold Lib.firstT
  repeat' split
  all_goals omega
theorem first4 {b : Nat} (h : 240 ≤ b ∧ b ≤ 244) : Lib.firstT b % 8 = 4 := by
  unfold Lib.firstT
  repeat' split
  all_goals omega
theorem full_of {l : List UInt8} (h0 : 0 < l.length) (h : Lib.firstT (l.getD 0 0).toNat % 8 ≤ l.length) : fullR l = true := by
  unfold fullR fullN
  rw [if_neg (by omega), if_pos h]

/-- A letter of several bytes is read as it stands. -/
theorem chr_long {T l A : List UInt8} {p : Nat} (hne : l ≠ []) (h0 : 128 ≤ (l.getD 0 0).toNat) (hv : ¬ ((Lib.decodeL l).1 = 65533 ∧ (Lib.decodeL l).2 = 1)) (h : T.drop p = l.take (Lib.decodeL l).2 ++ A) :
    chrF T p = .ok ((Lib.decodeL l).1 : Int) (p + (Lib.decodeL l).2) ∧ (∀ c ∈ l.take (Lib.decodeL l).2, 128 ≤ c.toNat) := by
  have hc0 : ∀ {x : UInt8} {A' : List UInt8}, T.drop p = x :: A' → 128 ≤ x.toNat → fullR (T.drop p) = true → Lib.decodeL (T.drop p) = Lib.decodeL l → chrF T p = .ok ((Lib.decodeL l).1 : Int) (p + (Lib.decodeL l).2) := by
    intro x A' hd hx hf he
    have g0 := at_drop hd 0
    simp only [List.getD_cons_zero, Nat.add_zero] at g0
    unfold chrF
    simp only
    rw [hf, if_neg (by decide), g0, if_neg (by intro e; rw [e] at hx; revert hx; decide), if_neg (by rw [UInt8.lt_iff_toNat_lt]; simp; omega), he, if_neg hv]
  have hl : 0 < l.length := List.length_pos_iff.2 hne
  have k0 := (l.getD 0 0).toNat_lt
  have k1 := (l.getD 1 0).toNat_lt
  have k2 := (l.getD 2 0).toNat_lt
  have k3 := (l.getD 3 0).toNat_lt
  have hN := Lib.decodeL_N l
  rcases Lib.decodeN_shape l.length (l.getD 0 0).toNat (l.getD 1 0).toNat (l.getD 2 0).toNat (l.getD 3 0).toNat with ⟨c, e⟩ | ⟨c1, c2, c3, cv, e⟩ | ⟨c1, c2, c3, c4, cv, cs, e⟩ | ⟨c1, c2, c3, c4, c5, cv, cw, e⟩ | e
  · omega
  · rw [e] at hN
    have hw : (Lib.decodeL l).2 = 2 := by rw [hN]
    rw [hw, Lib.takeB l (by omega)] at h
    have hd : Lib.decodeL (T.drop p) = Lib.decodeL l := by
      rw [hN, h, Lib.decodeL_N]
      simp only [List.cons_append, List.nil_append, List.getD_cons_zero, List.getD_cons_succ, List.length_cons]
      unfold Lib.decodeN
      rw [if_neg (by omega), if_pos ⟨c1, by omega, c3⟩, if_pos cv]
    refine ⟨hc0 h h0 (full_of (by rw [h]; simp) ?_) hd, ?_⟩
    · rw [h]
      simp only [List.cons_append, List.nil_append, List.getD_cons_zero, List.length_cons]
      rw [first2 (by omega)]
      omega
    · rw [hw, Lib.takeB l (by omega)]
      simp only [List.mem_cons, List.not_mem_nil, or_false]
      rintro c (rfl | rfl) <;> omega
  · rw [e] at hN
    have hw : (Lib.decodeL l).2 = 3 := by rw [hN]
    rw [hw, Lib.takeC l (by omega)] at h
    have hd : Lib.decodeL (T.drop p) = Lib.decodeL l := by
      rw [hN, h, Lib.decodeL_N]
      simp only [List.cons_append, List.nil_append, List.getD_cons_zero, List.getD_cons_succ, List.length_cons]
      unfold Lib.decodeN
      rw [if_neg (by omega), if_neg (by omega), if_pos ⟨c1, ⟨by omega, c3⟩, by omega, c4⟩, if_pos ⟨cv, by omega⟩]
    refine ⟨hc0 h h0 (full_of (by rw [h]; simp) ?_) hd, ?_⟩
    · rw [h]
      simp only [List.cons_append, List.nil_append, List.getD_cons_zero, List.length_cons]
      rw [first3 (by omega)]
      omega
    · rw [hw, Lib.takeC l (by omega)]
      simp only [List.mem_cons, List.not_mem_nil, or_false]
      rintro c (rfl | rfl | rfl) <;> omega
  · rw [e] at hN
    have hw : (Lib.decodeL l).2 = 4 := by rw [hN]
    rw [hw, Lib.takeD l (by omega)] at h
    have hd : Lib.decodeL (T.drop p) = Lib.decodeL l := by
      rw [hN, h, Lib.decodeL_N]
      simp only [List.cons_append, List.nil_append, List.getD_cons_zero, List.getD_cons_succ, List.length_cons]
      unfold Lib.decodeN
      rw [if_neg (by omega), if_neg (by omega), if_neg (by omega), if_pos ⟨c1, ⟨by omega, c3⟩, ⟨by omega, c4⟩, by omega, c5⟩, if_pos ⟨cv, by omega⟩]
    refine ⟨hc0 h h0 (full_of (by rw [h]; simp) ?_) hd, ?_⟩
    · rw [h]
      simp only [List.cons_append, List.nil_append, List.getD_cons_zero, List.length_cons]
      rw [first4 (by omega)]
      omega
    · rw [hw, Lib.takeD l (by omega)]
      simp only [List.mem_cons, List.not_mem_nil, or_false]
      rintro c (rfl | rfl | rfl | rfl) <;> omega
  · rw [e] at hN
    exact absurd ⟨by rw [hN], by rw [hN]⟩ hv

theorem esc_high {c : UInt8} (h : 128 ≤ c.toNat) : escC c = [c] := by
  have hn : ¬ 0 ≤ Lib.indexByte escB c := fun h1 => by
    have hm := ix_in h1
    simp only [escB, List.mem_cons, List.not_mem_nil, or_false] at hm
    rcases hm with rfl | rfl | rfl | rfl | rfl | rfl | rfl <;> revert h <;> decide
  unfold escC
  rw [if_pos (esc_none c hn (by omega)).1]
theorem esc_all : ∀ l : List UInt8, (∀ c ∈ l, 128 ≤ c.toNat) → l.flatMap escC = l
  | [], _ => rfl
  | c :: l, h => by
    rw [List.flatMap_cons, esc_high (h c (by simp)), esc_all l (fun x hx => h x (by simp [hx]))]
    rfl

/-- What is written between quotes is read. -/
theorem quo_back {T : List UInt8} : ∀ (k : Nat) (l B : List UInt8) (n p : Nat) (acc : List UInt8), l.length ≤ k → Lib.validD l = true → T.drop p = l.flatMap escC ++ 34 :: B → p ≤ T.length → T.length < n + p → quoF T n p acc = .ok (acc ++ l) (p + (l.flatMap escC).length + 1) := by
  have hend : ∀ (B : List UInt8) (n p : Nat) (acc : List UInt8), T.drop p = 34 :: B → p ≤ T.length → T.length < n + p → quoF T n p acc = .ok (acc ++ []) (p + 0 + 1) := by
    intro B n p acc h hp hn
    obtain ⟨n, rfl⟩ : ∃ n', n = n' + 1 := ⟨n - 1, by omega⟩
    unfold quoF
    rw [at_tk h hp, if_pos (by decide), List.append_nil]
  intro k
  induction k with
  | zero =>
    intro l B n p acc hl hv h hp hn
    have : l = [] := List.eq_nil_of_length_eq_zero (by omega)
    subst this
    exact hend B n p acc h hp hn
  | succ k ih =>
    intro l B n p acc hl hv h hp hn
    cases l with
    | nil => exact hend B n p acc h hp hn
    | cons c l =>
      obtain ⟨n, rfl⟩ : ∃ n', n = n' + 1 := ⟨n - 1, by omega⟩
      by_cases hc : c.toNat < 128
      · rw [Lib.validD_cons c l hc] at hv
        rw [List.flatMap_cons, List.append_assoc] at h
        obtain ⟨h1, c1, A1, e1, e2⟩ := chr_small hc h hp (by simp)
        have hp2 := chrF_ok h1
        have h2 := ih l B n (p + (escC c).length) (acc ++ Lib.encodeRune (c.toNat : Int)) (by simp at hl; omega) hv (drop_app h) hp2.2 (by omega)
        unfold quoF
        rw [at_tk (h.trans e1) hp, if_neg (by simpa using e2), h1]
        simp only
        rw [h2, enc_small hc, List.flatMap_cons, List.length_append, List.append_assoc]
        congr 1
        omega
      · have hne : c :: l ≠ [] := by simp
        rw [Lib.validD_step _ hne] at hv
        split at hv
        · cases hv
        · rename_i hb
          have hsp : c :: l = (c :: l).take (Lib.decodeL (c :: l)).2 ++ (c :: l).drop (Lib.decodeL (c :: l)).2 := (List.take_append_drop _ _).symm
          have hle := Lib.decodeL_le _ hne
          have hwd := Lib.decodeL_width (c :: l)
          have henc := Lib.encode_decode _ hne hb
          have h3 : (c :: l).flatMap escC = ((c :: l).take (Lib.decodeL (c :: l)).2).flatMap escC ++ ((c :: l).drop (Lib.decodeL (c :: l)).2).flatMap escC := by
            rw [← List.flatMap_append, ← hsp]
          have h128 : ∀ x ∈ (c :: l).take (Lib.decodeL (c :: l)).2, 128 ≤ x.toNat := (chr_long (T := (c :: l).take (Lib.decodeL (c :: l)).2) (p := 0) (A := []) hne (by rw [List.getD_cons_zero]; omega) hb (by simp)).2
          rw [esc_all _ h128] at h3
          rw [h3, List.append_assoc] at h
          have h4 := (chr_long hne (by rw [List.getD_cons_zero]; omega) hb h).1
          have hp2 := chrF_ok h4
          have hlt : ((c :: l).take (Lib.decodeL (c :: l)).2).length = (Lib.decodeL (c :: l)).2 := by rw [List.length_take]; omega
          have h5 := drop_app h
          rw [hlt] at h5
          have h6 := ih ((c :: l).drop (Lib.decodeL (c :: l)).2) B n (p + (Lib.decodeL (c :: l)).2) (acc ++ Lib.encodeRune ((Lib.decodeL (c :: l)).1 : Int)) (by rw [List.length_drop]; simp only [List.length_cons] at hl ⊢; omega) hv h5 hp2.2 (by omega)
          have hhd : ∃ A1, T.drop p = c :: A1 := by
            rw [h]
            obtain ⟨w, hw⟩ : ∃ w, (Lib.decodeL (c :: l)).2 = w + 1 := ⟨(Lib.decodeL (c :: l)).2 - 1, by omega⟩
            rw [hw, List.take_succ_cons]
            exact ⟨_, rfl⟩
          obtain ⟨A1, hA1⟩ := hhd
          unfold quoF
          rw [at_tk hA1 hp, if_neg (by simp; intro e; rw [e] at hc; exact hc (by decide)), h4]
          simp only
          rw [h6, henc, List.append_assoc, List.take_append_drop, h3, List.length_append, hlt]
          congr 1
          omega

/-! numbers -/
theorem dg_eq : ∀ c : UInt8, isD c = digitsS.contains c := all_u8 (by decide +kernel)
theorem spn_app (set : List UInt8) : ∀ (g r : List UInt8), (∀ c ∈ g, set.contains c = true) → (∀ c t, r = c :: t → set.contains c = false) → spn set (g ++ r) = g.length
  | [], r, _, hr => by
    cases r with
    | nil => rfl
    | cons c t =>
      rw [List.nil_append]
      unfold spn
      rw [hr c t rfl]
      rfl
  | c :: g, r, hg, hr => by
    rw [List.cons_append]
    unfold spn
    rw [if_pos (hg c (by simp)), spn_app set g r (fun x hx => hg x (by simp [hx])) hr]
    rfl
theorem skp_app {T g R : List UInt8} {p : Nat} (h : T.drop p = g ++ R) (hg : ∀ c ∈ g, isD c = true) (hr : ∀ c t, R = c :: t → isD c = false) : skp T digitsS p = p + g.length := by
  unfold skp
  rw [h, spn_app digitsS g R (fun c hc => by rw [← dg_eq]; exact hg c hc) (fun c t e => by rw [← dg_eq]; exact hr c t e)]
theorem digs_split (l : List UInt8) : l = digs l ++ rst l := (List.take_append_drop _ _).symm
theorem digs_all (l : List UInt8) : ∀ c ∈ digs l, isD c = true := by
  intro c hc
  unfold digs nd at hc
  obtain ⟨i, hi, rfl⟩ := List.getElem_of_mem hc
  rw [List.getElem_take]
  rw [List.length_take] at hi
  have := List.not_of_lt_findIdx (p := fun c => !isD c) (xs := l) (i := i) (by omega)
  simpa using this
theorem rst_head {l : List UInt8} : ∀ c t, rst l = c :: t → isD c = false := by
  intro c t h
  unfold rst at h
  have hlt : nd l < l.length := by
    rcases Nat.lt_or_ge (nd l) l.length with h1 | h1
    · exact h1
    · rw [List.drop_eq_nil_of_le h1] at h; cases h
  rw [List.drop_eq_getElem_cons hlt] at h
  have h2 := (List.cons.inj h).1
  have := List.findIdx_getElem (p := fun c => !isD c) (xs := l) (w := hlt)
  rw [← h2]
  have h4 : (!isD (l[nd l]'hlt)) = true := this
  cases hx : isD (l[nd l]'hlt) with
  | false => rfl
  | true => rw [hx] at h4; cases h4

/-- What may stand behind a value. -/
def EndB (B : List UInt8) : Prop := ∀ c r, B = c :: r → c = 44 ∨ c = 93 ∨ c = 125
theorem EndB.dig {B : List UInt8} (h : EndB B) : ∀ c r, B = c :: r → isD c = false := fun c r e => by rcases h c r e with rfl | rfl | rfl <;> decide
theorem tk_out {T set : List UInt8} {p : Nat} {R : List UInt8} (h : T.drop p = R) (hp : p ≤ T.length) (hr : ∀ c t, R = c :: t → set.contains c = false) : tk T set p = false := by
  cases R with
  | nil =>
    have := len_drop h hp
    unfold tk
    rw [decide_eq_false (by rw [this]; simp)]
    rfl
  | cons c t =>
    rw [at_tk h hp]
    exact hr c t rfl
theorem EndB.tk {T set B : List UInt8} {p : Nat} (h : EndB B) (hd : T.drop p = B) (hp : p ≤ T.length) (h1 : set.contains 44 = false) (h2 : set.contains 93 = false) (h3 : set.contains 125 = false) : tk T set p = false :=
  tk_out hd hp (fun c t e => by rcases h c t e with rfl | rfl | rfl <;> assumption)

theorem drop_le {T A B : List UInt8} {p : Nat} (h : T.drop p = A ++ B) (hp : p ≤ T.length) : p + A.length ≤ T.length := by
  have := len_drop h hp
  rw [List.length_append] at this
  omega
theorem tk_dig {T D R : List UInt8} {p : Nat} (h : T.drop p = D ++ R) (hp : p ≤ T.length) (hD : ∀ c ∈ D, isD c = true) (hne : D ≠ []) : tk T digitsS p = true := by
  cases D with
  | nil => exact absurd rfl hne
  | cons c t =>
    rw [at_tk h hp, ← dg_eq]
    exact hD c (by simp)

theorem numE_back {T y B : List UInt8} {p : Nat} (h : T.drop p = y ++ B) (hp : p ≤ T.length) (hB : EndB B) (h1 : (cutP y).2.2.1 = []) (h2 : (cutP y).2.2.2 = true) : numE T p = .ok () (p + y.length) := by
  by_cases hE : isE y
  · obtain ⟨c, y', rfl⟩ : ∃ c y', y = c :: y' := by
      cases y with
      | nil => rcases hE with h | h <;> cases h
      | cons c y' => exact ⟨c, y', rfl⟩
    have hc : c = 101 ∨ c = 69 := by unfold isE at hE; simpa using hE
    unfold cutP at h1 h2
    rw [if_pos hE] at h1 h2
    simp only [List.tail_cons] at h1 h2
    have hD : skS y' = digs (skS y') := by
      have := digs_split (skS y')
      rw [h1, List.append_nil] at this
      exact this
    have hall : ∀ x ∈ skS y', isD x = true := by rw [hD]; exact digs_all _
    have hne : skS y' ≠ [] := by
      intro e
      rw [← hD, e] at h2
      cases h2
    unfold numE
    rw [at_tk h hp, if_pos (by rcases hc with rfl | rfl <;> decide)]
    have hd1 : T.drop (p + 1) = y' ++ B := drop_app (A := [c]) h
    have hp1 : p + 1 ≤ T.length := drop_le (A := [c]) h hp
    by_cases hS : isS y'
    · have hsk : skS y' = y'.tail := by unfold skS; rw [if_pos hS]
      obtain ⟨c2, y2, rfl⟩ : ∃ c y2, y' = c :: y2 := by
        cases y' with
        | nil => rcases hS with h | h <;> cases h
        | cons c y' => exact ⟨c, y', rfl⟩
      rw [hsk, List.tail_cons] at hall hne
      have hc2 : c2 = 43 ∨ c2 = 45 := by unfold isS at hS; simpa using hS
      have hd2 : T.drop (p + 2) = y2 ++ B := drop_app (p := p + 1) (A := [c2]) hd1
      have hp2 : p + 2 ≤ T.length := drop_le (p := p + 1) (A := [c2]) hd1 hp1
      have hq : (if tk T [43, 45] (p + 1) = true then p + 2 else p + 1) = p + 2 := by rw [at_tk hd1 hp1, if_pos (by rcases hc2 with rfl | rfl <;> decide)]
      simp only
      rw [hq, tk_dig hd2 hp2 hall hne, if_pos rfl, skp_app hd2 hall hB.dig]
      simp only [List.length_cons]
      congr 1
      omega
    · have hsk : skS y' = y' := by unfold skS; rw [if_neg hS]
      rw [hsk] at hall hne
      have ht : tk T [43, 45] (p + 1) = false := by
        cases y' with
        | nil => exact absurd rfl hne
        | cons x y2 =>
          rw [at_tk hd1 hp1]
          have := hall x (by simp)
          cases hx : ([43, 45] : List UInt8).contains x
          · rfl
          · simp at hx
            rcases hx with rfl | rfl <;> (revert this; decide)
      have hq : (if tk T [43, 45] (p + 1) = true then p + 2 else p + 1) = p + 1 := by rw [ht, if_neg (by decide)]
      simp only
      rw [hq, tk_dig hd1 hp1 hall hne, if_pos rfl, skp_app hd1 hall hB.dig]
      simp only [List.length_cons]
      congr 1
      omega
  · unfold cutP at h1
    rw [if_neg hE] at h1
    simp only at h1
    subst h1
    unfold numE
    rw [hB.tk h hp (by decide) (by decide) (by decide), if_neg (by decide)]
    rfl

theorem numF_back {T y B : List UInt8} {p : Nat} (h : T.drop p = y ++ B) (hp : p ≤ T.length) (hB : EndB B) (h0 : (cutF y).2.2 = true) (h1 : (cutP (cutF y).2.1).2.2.1 = []) (h2 : (cutP (cutF y).2.1).2.2.2 = true) : numF T p = .ok () (p + y.length) := by
  by_cases hd : y.head? = some 46
  · obtain ⟨y', rfl⟩ : ∃ y', y = 46 :: y' := by
      cases y with
      | nil => cases hd
      | cons c y' => exact ⟨y', by simp at hd; rw [hd]⟩
    unfold cutF at h0 h1 h2
    rw [if_pos hd] at h0 h1 h2
    simp only [List.tail_cons] at h0 h1 h2
    have hd1 : T.drop (p + 1) = y' ++ B := drop_app (A := [46]) h
    have hp1 : p + 1 ≤ T.length := drop_le (A := [46]) h hp
    have hsp := digs_split y'
    have hd2 : T.drop (p + 1) = digs y' ++ (rst y' ++ B) := by rw [hd1, ← List.append_assoc, ← hsp]
    have hne : digs y' ≠ [] := fun e => by rw [e] at h0; cases h0
    have hr : ∀ c t, rst y' ++ B = c :: t → isD c = false := by
      intro c t e
      cases hrr : rst y' with
      | nil => rw [hrr] at e; exact hB.dig c t e
      | cons x r =>
        rw [hrr] at e
        have := (List.cons.inj e).1
        rw [← this]
        exact rst_head x r hrr
    have hs := skp_app hd2 (digs_all _) hr
    have hd3 := drop_app hd2
    have hp3 := drop_le hd2 hp1
    have hE := numE_back hd3 hp3 hB h1 h2
    unfold numF
    rw [at_tk h hp, if_pos (by decide), tk_dig hd2 hp1 (digs_all _) hne, if_pos rfl, hs, hE]
    have hlen := congrArg List.length hsp
    rw [List.length_append] at hlen
    simp only [List.length_cons]
    congr 1
    omega
  · unfold cutF at h1 h2
    rw [if_neg hd] at h1 h2
    simp only at h1 h2
    have ht : tk T [46] p = false := by
      refine tk_out h hp (fun c t e => ?_)
      cases y with
      | nil =>
        rcases hB c t e with rfl | rfl | rfl <;> decide
      | cons x y' =>
        have := (List.cons.inj e).1
        subst this
        simp at hd
        simpa using hd
    unfold numF
    rw [ht, if_neg (by decide)]
    exact numE_back h hp hB h1 h2

theorem numI_back {T y B : List UInt8} {p : Nat} {m : Bool} (h : T.drop p = y ++ B) (hp : p ≤ T.length) (hB : EndB B) (hc : (pcut1 m y).isSome = true) : numI T p = .ok () (p + y.length) ∧ ∃ c t, y = c :: t ∧ isD c = true := by
  unfold pcut1 pcut2 at hc
  split at hc
  · cases hc
  · rename_i hw
    unfold pcut3 at hc
    split at hc
    · cases hc
    · rename_i h0
      unfold pcut4 at hc
      split at hc
      · cases hc
      · rename_i h2
        split at hc
        · rename_i h1
          have h0' : (cutF (rst y)).2.2 = true := by cases hx : (cutF (rst y)).2.2 <;> simp_all
          have h2' : (cutP (cutF (rst y)).2.1).2.2.2 = true := by cases hx : (cutP (cutF (rst y)).2.1).2.2.2 <;> simp_all
          have hsp := digs_split y
          have hd2 : T.drop p = digs y ++ (rst y ++ B) := by rw [h, ← List.append_assoc, ← hsp]
          have hlen := congrArg List.length hsp
          rw [List.length_append] at hlen
          have hne : digs y ≠ [] := fun e => by rw [e] at hw; exact hw rfl
          have hr : ∀ c t, rst y ++ B = c :: t → isD c = false := by
            intro c t e
            cases hrr : rst y with
            | nil => rw [hrr] at e; exact hB.dig c t e
            | cons x r =>
              rw [hrr] at e
              have := (List.cons.inj e).1
              rw [← this]
              exact rst_head x r hrr
          have hs := skp_app hd2 (digs_all _) hr
          have hd3 := drop_app hd2
          have hp3 := drop_le hd2 hp
          have hF := numF_back hd3 hp3 hB h0' h1 h2'
          obtain ⟨c, t, hct⟩ : ∃ c t, digs y = c :: t := by
            cases hg : digs y with
            | nil => exact absurd hg hne
            | cons c t => exact ⟨c, t, rfl⟩
          refine ⟨?_, c, t ++ rst y, by rw [← List.cons_append, ← hct]; exact hsp, digs_all y c (by rw [hct]; simp)⟩
          have hd4 := hd2
          rw [hct, List.cons_append] at hd4
          unfold numI
          by_cases h48 : c = 48
          · have ht : t = [] := by
              cases t with
              | nil => rfl
              | cons x t' =>
                exfalso
                apply hw
                unfold badW
                rw [hct, h48]
                simp
            rw [at_tk hd4 hp, if_pos (by rw [h48]; decide)]
            rw [hct, ht] at hF
            simp only [List.length_cons, List.length_nil] at hF
            rw [hF]
            rw [hct, ht] at hlen
            simp only [List.length_cons, List.length_nil] at hlen
            congr 1
            omega
          · rw [at_tk hd4 hp, if_neg (by simpa using h48), tk_dig hd2 hp (digs_all _) hne, if_pos rfl, hs, hF]
            congr 1
            omega
        · cases hc

/-- A number that is written is read. -/
theorem numL_back {T y B : List UInt8} {p : Nat} (h : T.drop p = y ++ B) (hp : p ≤ T.length) (hB : EndB B) (hc : (pcut y).isSome = true) : numL T p = .ok () (p + y.length) ∧ ∃ c t, y = c :: t ∧ (isD c = true ∨ c = 45) := by
  unfold pcut at hc
  by_cases h45 : y.head? = some 45
  · obtain ⟨y', rfl⟩ : ∃ y', y = 45 :: y' := by
      cases y with
      | nil => cases h45
      | cons c y' => exact ⟨y', by simp at h45; rw [h45]⟩
    have hcl : cutL (45 :: y') = y' := by unfold cutL; rw [if_pos h45]; rfl
    rw [hcl] at hc
    have hd1 : T.drop (p + 1) = y' ++ B := drop_app (A := [45]) h
    have hp1 : p + 1 ≤ T.length := drop_le (A := [45]) h hp
    obtain ⟨hI, _⟩ := numI_back hd1 hp1 hB hc
    refine ⟨?_, 45, y', rfl, .inr rfl⟩
    unfold numL
    rw [at_tk h hp, if_pos (by decide), hI]
    simp only [List.length_cons]
    congr 1
    omega
  · have hcl : cutL y = y := by unfold cutL; rw [if_neg h45]
    rw [hcl] at hc
    obtain ⟨hI, c, t, e, hd⟩ := numI_back h hp hB hc
    refine ⟨?_, c, t, e, .inl hd⟩
    have ht : tk T [45] p = false := by
      rw [e] at h
      rw [at_tk h hp]
      cases hx : ([45] : List UInt8).contains c
      · rfl
      · simp at hx
        subst hx
        revert hd
        decide
    unfold numL
    rw [ht, if_neg (by decide)]
    exact hI

theorem lit_back {T : List UInt8} : ∀ (w B : List UInt8) (p : Nat), T.drop p = w ++ B → p ≤ T.length → litF T w p = .ok () (p + w.length)
  | [], B, p, h, hp => rfl
  | c :: w, B, p, h, hp => by
    have hd1 : T.drop (p + 1) = w ++ B := drop_app (A := [c]) h
    have hp1 : p + 1 ≤ T.length := drop_le (A := [c]) h hp
    unfold litF
    rw [at_tk h hp, if_pos (by simp), lit_back w B (p + 1) hd1 hp1]
    simp only [List.length_cons]
    congr 1
    omega

end Go.Proofs.YtkfchdmlemcjhaaDoor

namespace Go.Proofs.YtkfchdmlemcjhaaDoor
open Go.RowKit
open Dec (isD pcut)

/-- The reader comes from one state to another. -/
def Gs (T : List UInt8) (s s' : JS) : Prop := ∃ m, ∀ n, runF T (n + m) s = runF T n s'
theorem Gs.refl (T : List UInt8) (s : JS) : Gs T s s := ⟨0, fun _ => rfl⟩
theorem Gs.trans {T : List UInt8} {a b c : JS} (h : Gs T a b) (h2 : Gs T b c) : Gs T a c := by
  obtain ⟨m, e⟩ := h
  obtain ⟨k, e2⟩ := h2
  exact ⟨k + m, fun n => by rw [← Nat.add_assoc, e, e2]⟩
theorem Gs.step {T : List UInt8} {s s' : JS} (hp : s.pos < T.length) (hb : tk T blanksS s.pos = false) (h : wordF T s = .go s') : Gs T s s' := by
  refine ⟨1, fun n => ?_⟩
  rw [show n + 1 = Nat.succ n from rfl]
  conv => lhs; unfold runF
  simp only
  rw [skp_stop hb, if_neg (by omega)]
  have : ({ s with pos := s.pos } : JS) = s := rfl
  rw [this, h]

/-- What is awaited behind a value. -/
def awOf (s : JS) : Nat := if s.opn = [] then 7 else if (s.nodes.getD (inm s) (nd0 0)).kind = 6 then 5 else 6

/-- A value has been read. -/
structure Pst (s s' : JS) (len : Nat) (l : List Nd) : Prop where
  pos : s'.pos = s.pos + len
  opn : s'.opn = s.opn
  nodes : s'.nodes = upK s.opn s.nodes ++ l
  key : s'.key = []
  aw : s'.aw = awOf s
  met : ∀ e ∈ s'.met, e ∈ s.met ∨ s.nodes.length ≤ e.1
  low : ∀ e ∈ s'.met, e.1 < s'.nodes.length

/-- A state in which something can be read. -/
structure Rdy (s : JS) (d : Int) : Prop where
  op : s.opn ≠ [] → inm s < s.nodes.length
  len : (s.opn.length : Int) = d
  low : ∀ e ∈ s.met, e.1 < s.nodes.length

theorem kidUp_kind (l : List Nd) (i j : Nat) : ((kidUp l i).getD j (nd0 0)).kind = (l.getD j (nd0 0)).kind := by
  unfold kidUp
  rw [List.getD_eq_getElem?_getD, List.getD_eq_getElem?_getD, List.getElem?_modify]
  cases l[j]? with
  | none => simp
  | some x =>
    simp only [Option.getD_some]
    split <;> rfl
theorem upK_kind (xs : List Nat) (l : List Nd) (j : Nat) : ((upK xs l).getD j (nd0 0)).kind = (l.getD j (nd0 0)).kind := by
  unfold upK
  split
  · rfl
  · exact kidUp_kind _ _ _
theorem getD_left {A B : List Nd} {i : Nat} (h : i < A.length) : (A ++ B).getD i (nd0 0) = A.getD i (nd0 0) := by
  rw [List.getD_eq_getElem?_getD, List.getD_eq_getElem?_getD, List.getElem?_append_left h]

theorem add_up {s : JS} (h : s.opn ≠ [] → inm s < s.nodes.length) (n : Nd) : (if s.opn = [] then s.nodes ++ [n] else kidUp (s.nodes ++ [n]) (inm s)) = upK s.opn s.nodes ++ [n] := by
  unfold upK
  split
  · rfl
  · rename_i hx
    exact kidUp_left _ _ _ (h hx)

theorem addF_aw {s : JS} (h : s.opn ≠ [] → inm s < s.nodes.length) (m : Nd) (q : Nat) : (addF m { s with pos := q }).aw = awOf s := by
  have hn := add_up h { m with key := s.key }
  unfold addF endF awOf
  simp only
  by_cases ho : s.opn = []
  · simp only [if_pos ho]
  · rw [if_neg ho] at hn
    simp only [if_neg ho]
    unfold inm at hn ⊢
    simp only
    rw [hn]
    have hk : ((upK s.opn s.nodes ++ [{ m with key := s.key }]).getD (s.opn.getLastD 0) (nd0 0)).kind = (s.nodes.getD (s.opn.getLastD 0) (nd0 0)).kind := by
      rw [getD_left (by rw [upK_length]; exact h ho), upK_kind]
    rw [hk]
    split <;> rfl

theorem addF_met (m : Nd) (s : JS) : (addF m s).met = s.met := by unfold addF; simp only; rw [endF_met]
theorem addF_key (m : Nd) (s : JS) : (addF m s).key = [] := by unfold addF; simp only; rw [endF_key]
theorem addF_nds {s : JS} (h : s.opn ≠ [] → inm s < s.nodes.length) (m : Nd) (q : Nat) : (addF m { s with pos := q }).nodes = upK s.opn s.nodes ++ [{ m with key := s.key }] := by
  unfold addF
  simp only
  rw [endF_nodes]
  exact add_up h _

theorem add_pst {s : JS} {d : Int} (h : Rdy s d) (m : Nd) (len : Nat) : Pst s (addF m { s with pos := s.pos + len }) len [{ m with key := s.key }] := by
  refine ⟨addF_pos _ _, addF_opn _ _, addF_nds h.op m _, addF_key _ _, addF_aw h.op m _, ?_, ?_⟩
  · rw [addF_met]
    exact fun e he => .inl he
  · rw [addF_met, addF_nds h.op]
    intro e he
    have := h.low e he
    simp only [List.length_append, upK_length, List.length_singleton]
    omega

/-- What is awaited in a row of that kind. -/
def awR (obj first : Bool) : Nat := if obj then (if first then 2 else 6) else (if first then 0 else 5)

/-- So many kids more. -/
def upN (c : Nat) (l : List Nd) (i : Nat) : List Nd := l.modify i fun n => { n with kids := n.kids + (c : Int) }
theorem upN_zero (l : List Nd) (i : Nat) : upN 0 l i = l := by
  unfold upN
  have : (fun n : Nd => { n with kids := n.kids + ((0 : Nat) : Int) }) = id := by
    funext n
    cases n
    simp
  rw [this]
  exact List.modify_id i l
theorem upN_kid (c : Nat) (l : List Nd) (i : Nat) : upN c (kidUp l i) i = upN (c + 1) l i := by
  unfold upN kidUp
  rw [List.modify_modify_eq]
  congr 1
  funext n
  simp only [Function.comp]
  congr 1
  push_cast
  omega
theorem upN_left (c : Nat) (r : List Nd) : ∀ (l : List Nd) (i : Nat), i < l.length → upN c (l ++ r) i = upN c l i ++ r
  | [], i, h => by simp at h
  | a :: l, i, h => by
    cases i with
    | zero => rfl
    | succ i =>
      have := upN_left c r l i (by simpa using h)
      unfold upN at this ⊢
      rw [List.cons_append, List.modify_succ_cons, List.modify_succ_cons, this]
      rfl
theorem upN_mid (c : Nat) (A : List Nd) (n : Nd) : upN c (A ++ [n]) A.length = A ++ [{ n with kids := n.kids + (c : Int) }] := by
  induction A with
  | nil => rfl
  | cons a A ih =>
    unfold upN at ih ⊢
    rw [List.cons_append, List.length_cons, List.modify_succ_cons, ih]
    rfl

/-- A row has been read. -/
structure Prw (s s' : JS) (len : Nat) (obj first : Bool) (a : List (List UInt8)) (l : List Nd) : Prop where
  pos : s'.pos = s.pos + len
  opn : s'.opn = s.opn
  nodes : s'.nodes = upN a.length s.nodes (inm s) ++ l
  key : s'.key = []
  aw : s'.aw = awR obj (first && a.isEmpty)
  met : ∀ e ∈ s'.met, e ∈ s.met ∨ (e.1 = inm s ∧ e.2 ∈ a) ∨ s.nodes.length ≤ e.1
  low : ∀ e ∈ s'.met, e.1 < s'.nodes.length

/-- A row of values is read. -/
def RowP (d : Int) (a : List (List UInt8)) (l : List Nd) (ts : List (List UInt8)) : Prop :=
  ∀ (T B : List UInt8) (s : JS) (obj first : Bool), T.drop s.pos = bodyT obj first a ts ++ B → s.pos ≤ T.length → EndB B → Rdy s d → s.opn ≠ [] →
    (s.nodes.getD (inm s) (nd0 0)).kind = (if obj then 7 else 6) → KeysOK (if obj then 7 else 6) a → (obj = true → ∀ k ∈ a, (inm s, k) ∉ s.met) → s.key = [] → s.aw = awR obj first →
    ∃ s', Gs T s s' ∧ Prw s s' (bodyT obj first a ts).length obj first a l

theorem blank_of {T A : List UInt8} {c : UInt8} {p : Nat} (h : T.drop p = c :: A) (hp : p ≤ T.length) (hc : blanksS.contains c = false) : p < T.length ∧ tk T blanksS p = false := by
  have := len_drop h hp
  rw [List.length_cons] at this
  exact ⟨by omega, by rw [at_tk h hp]; exact hc⟩

theorem wm_form {n : Nd} {d : Int} (h : wmF n d = true) :
    ((n.kind = 1 ∨ n.kind = 2 ∨ n.kind = 3) ∧ n = { nd0 n.kind with key := n.key }) ∨
    (n.kind = 4 ∧ (pcut n.text).isSome = true ∧ n = { numN n.text with key := n.key }) ∨
    (n.kind = 5 ∧ Lib.validD n.text = true ∧ n = { nd0 5 with text := n.text, key := n.key }) ∨
    ((n.kind = 6 ∨ n.kind = 7) ∧ 0 ≤ n.kids ∧ d < 32 ∧ n = { nd0 n.kind with kids := n.kids, key := n.key }) := by
  unfold wmF at h
  split at h
  · rename_i h1
    exact .inl ⟨h1, of_decide_eq_true h⟩
  · split at h
    · rename_i h1
      simp only [Bool.and_eq_true] at h
      exact .inr (.inl ⟨h1, h.1, of_decide_eq_true h.2⟩)
    · split at h
      · rename_i h1
        simp only [Bool.and_eq_true] at h
        exact .inr (.inr (.inl ⟨h1, h.1, of_decide_eq_true h.2⟩))
      · split at h
        · rename_i h1
          simp only [Bool.and_eq_true, decide_eq_true_eq] at h
          exact .inr (.inr (.inr ⟨h1, h.1.1, h.1.2, h.2⟩))
        · cases h

/-- How a value's text begins. -/
theorem tx_head {n : Nd} {d : Int} (hw : wmF n d = true) (ks ts : List (List UInt8)) : ∃ c R, txN n ks ts = c :: R ∧ blanksS.contains c = false ∧ c ≠ 93 := by
  unfold txN
  rcases wm_form hw with ⟨h, _⟩ | ⟨h, hp, _⟩ | ⟨h, _⟩ | ⟨h, _⟩
  · rcases h with h | h | h
    · rw [if_pos h]; exact ⟨_, _, rfl, by decide, by decide⟩
    · rw [if_neg (by omega), if_pos h]; exact ⟨_, _, rfl, by decide, by decide⟩
    · rw [if_neg (by omega), if_neg (by omega), if_pos h]; exact ⟨_, _, rfl, by decide, by decide⟩
  · rw [if_neg (by omega), if_neg (by omega), if_neg (by omega), if_pos h]
    obtain ⟨_, c, t, e, hc⟩ := numL_back (T := n.text) (p := 0) (B := []) (by simp) (Nat.zero_le _) (fun c r e => by cases e) hp
    refine ⟨c, t, e, ?_, ?_⟩
    · rcases hc with hc | rfl
      · cases hx : blanksS.contains c
        · rfl
        · simp [blanksS] at hx
          rcases hx with rfl | rfl | rfl | rfl <;> (revert hc; decide)
      · decide
    · rcases hc with hc | rfl
      · intro e
        rw [e] at hc
        revert hc
        decide
      · decide
  · rw [if_neg (by omega), if_neg (by omega), if_neg (by omega), if_neg (by omega), if_pos h]
    unfold quoS
    exact ⟨_, _, rfl, by decide, by decide⟩
  · rcases h with h | h
    · rw [if_neg (by omega), if_neg (by omega), if_neg (by omega), if_neg (by omega), if_neg (by omega), if_pos h]; exact ⟨_, _, rfl, by decide, by decide⟩
    · rw [if_neg (by omega), if_neg (by omega), if_neg (by omega), if_neg (by omega), if_neg (by omega), if_neg (by omega), if_pos h]; exact ⟨_, _, rfl, by decide, by decide⟩

/-- A literal. -/
theorem lit_step {T B w : List UInt8} {s : JS} {d k : Int} (h : Rdy s d) (hd : T.drop s.pos = w ++ B) (hp : s.pos ≤ T.length) : ∃ s', litS T w k s = .go s' ∧ Pst s s' w.length [{ nd0 k with key := s.key }] := by
  refine ⟨_, ?_, add_pst h (nd0 k) w.length⟩
  unfold litS
  rw [lit_back w B s.pos hd hp]

theorem quote_back {T B l : List UInt8} {p : Nat} (hd : T.drop p = quoS l ++ B) (hp : p ≤ T.length) (hv : Lib.validD l = true) : quoF T (T.length + 1) (p + 1) [] = .ok l (p + (quoS l).length) := by
  unfold quoS at hd ⊢
  rw [List.cons_append, List.append_assoc, List.cons_append, List.nil_append] at hd
  have hd1 : T.drop (p + 1) = l.flatMap escC ++ 34 :: B := drop_app (A := [34]) hd
  have hp1 : p + 1 ≤ T.length := drop_le (A := [34]) hd hp
  rw [quo_back l.length l B (T.length + 1) (p + 1) [] (Nat.le_refl _) hv hd1 hp1 (by omega), List.nil_append]
  simp only [List.length_cons, List.length_append, List.length_nil]
  congr 1
  omega

/-- A value is read, given how what stands in it is. -/
theorem val_step {d : Int} {n : Nd} {ks ts : List (List UInt8)} {r : List Nd} (hw : wmF n d = true) (hR : RowP (d + 1) ks r ts) (hr : ks = [] → r = []) (hn : n.kids = (ks.length : Int)) (hk : KeysOK n.kind ks)
    (T B : List UInt8) (s : JS) (hd : T.drop s.pos = txN n ks ts ++ B) (hp : s.pos ≤ T.length) (hB : EndB B) (hs : Rdy s d) (hkey : s.key = n.key) (haw : s.aw = 0 ∨ s.aw = 1) :
    ∃ s', Gs T s s' ∧ Pst s s' (txN n ks ts).length (n :: r) := by
  obtain ⟨c, R, hc, hbl, h93⟩ := tx_head hw ks ts
  have hd0 : T.drop s.pos = c :: (R ++ B) := by rw [hd, hc]; rfl
  obtain ⟨hlt, htb⟩ := blank_of hd0 hp hbl
  have hword : wordF T s = valueF T s := by
    unfold wordF
    rcases haw with h | h
    · rw [if_pos h, at_tk hd0 hp, if_neg (by simpa using h93)]
    · rw [if_neg (by omega), if_pos h]
  have hg := at_drop hd0 0
  simp only [List.getD_cons_zero, Nat.add_zero] at hg
  have leaf : r = [] → ∀ s', valueF T s = .go s' → Pst s s' (txN n ks ts).length [n] → ∃ s', Gs T s s' ∧ Pst s s' (txN n ks ts).length (n :: r) := fun hr0 s' e h => ⟨s', Gs.step hlt htb (hword.trans e), by rw [hr0]; exact h⟩
  have hleaf : n.kids = 0 → r = [] := fun h0 => hr (List.eq_nil_of_length_eq_zero (by omega))
  rcases wm_form hw with ⟨h, e⟩ | ⟨h, hpc, e⟩ | ⟨h, hv, e⟩ | ⟨h, hk0, hd32, e⟩
  · have h0 : n.kids = 0 := by rw [e]; rfl
    have htx : ∀ w : List UInt8, txN n ks ts = w → w.head? = some c := fun w e => by rw [← e, hc]; rfl
    rcases h with h | h | h
    · have ht : txN n ks ts = [110, 117, 108, 108] := by unfold txN; rw [if_pos h]
      rw [ht] at hd ⊢
      have hcc : c = 110 := by have := htx _ ht; simpa using this.symm
      obtain ⟨s', e1, e2⟩ := lit_step (k := 1) hs hd hp
      refine ⟨s', Gs.step hlt htb (hword.trans ?_), ?_⟩
      · unfold valueF
        simp only
        rw [hg, hcc, if_neg (by decide), if_neg (by decide), if_neg (by decide), if_pos rfl, e1]
      · rw [hleaf h0]
        rw [hkey] at e2
        rw [e, h]
        exact e2
    · have ht : txN n ks ts = [102, 97, 108, 115, 101] := by unfold txN; rw [if_neg (by omega), if_pos h]
      rw [ht] at hd ⊢
      have hcc : c = 102 := by have := htx _ ht; simpa using this.symm
      obtain ⟨s', e1, e2⟩ := lit_step (k := 2) hs hd hp
      refine ⟨s', Gs.step hlt htb (hword.trans ?_), ?_⟩
      · unfold valueF
        simp only
        rw [hg, hcc, if_neg (by decide), if_neg (by decide), if_neg (by decide), if_neg (by decide), if_pos rfl, e1]
      · rw [hleaf h0]
        rw [hkey] at e2
        rw [e, h]
        exact e2
    · have ht : txN n ks ts = [116, 114, 117, 101] := by unfold txN; rw [if_neg (by omega), if_neg (by omega), if_pos h]
      rw [ht] at hd ⊢
      have hcc : c = 116 := by have := htx _ ht; simpa using this.symm
      obtain ⟨s', e1, e2⟩ := lit_step (k := 3) hs hd hp
      refine ⟨s', Gs.step hlt htb (hword.trans ?_), ?_⟩
      · unfold valueF
        simp only
        rw [hg, hcc, if_neg (by decide), if_neg (by decide), if_neg (by decide), if_neg (by decide), if_neg (by decide), if_pos rfl, e1]
      · rw [hleaf h0]
        rw [hkey] at e2
        rw [e, h]
        exact e2
  · have h0 : n.kids = 0 := by rw [e]; rfl
    have ht : txN n ks ts = n.text := by unfold txN; rw [if_neg (by omega), if_neg (by omega), if_neg (by omega), if_pos h]
    rw [ht] at hd hc ⊢
    obtain ⟨hN, c', t', ec, hcd⟩ := numL_back hd hp hB hpc
    have hcc : c = c' := by rw [ec] at hc; exact (List.cons.inj hc).1.symm
    rw [← hcc] at hcd
    have hne : ∀ x : UInt8, isD x = false → x ≠ 45 → c ≠ x := fun x h1 h2 e => by
      rcases hcd with h | h
      · rw [e, h1] at h; cases h
      · exact h2 (e.symm.trans h)
    have hsg : sgl T s.pos (s.pos + n.text.length) = n.text := by
      unfold sgl
      rw [hd, Nat.add_sub_cancel_left]
      simp
    refine ⟨addF (numN n.text) { s with pos := s.pos + n.text.length }, Gs.step hlt htb (hword.trans ?_), ?_⟩
    · unfold valueF
      simp only
      rw [hg, if_neg (hne _ (by decide) (by decide)), if_neg (hne _ (by decide) (by decide)), if_neg (hne _ (by decide) (by decide)), if_neg (hne _ (by decide) (by decide)), if_neg (hne _ (by decide) (by decide)), if_neg (hne _ (by decide) (by decide)), hN]
      simp only
      rw [hsg]
    · have := add_pst hs (numN n.text) n.text.length
      rw [show ({ numN n.text with key := s.key } : Nd) = n by rw [hkey]; exact e.symm] at this
      rw [hleaf h0]
      exact this
  · have h0 : n.kids = 0 := by rw [e]; rfl
    have ht : txN n ks ts = quoS n.text := by unfold txN; rw [if_neg (by omega), if_neg (by omega), if_neg (by omega), if_neg (by omega), if_pos h]
    rw [ht] at hd hc ⊢
    have hcc : c = 34 := by unfold quoS at hc; exact (List.cons.inj hc).1.symm
    have hQ := quote_back hd hp hv
    refine ⟨addF { nd0 5 with text := n.text } { s with pos := s.pos + (quoS n.text).length }, Gs.step hlt htb (hword.trans ?_), ?_⟩
    · unfold valueF
      simp only
      rw [hg, hcc, if_neg (by decide), if_neg (by decide), if_pos rfl, hQ]
    · have := add_pst hs { nd0 5 with text := n.text } (quoS n.text).length
      rw [show ({ ({ nd0 5 with text := n.text } : Nd) with key := s.key } : Nd) = n by rw [hkey]; exact e.symm] at this
      rw [hleaf h0]
      exact this
  · -- a list or an object
    obtain ⟨obj, op, cl, hkd, ht, hb, hclw, hcE⟩ : ∃ (obj : Bool) (op cl : UInt8), n.kind = (if obj then 7 else 6) ∧ txN n ks ts = op :: (bodyT obj true ks ts ++ [cl]) ∧
        (c = op → valueF T s = beginF (if obj then 7 else 6) (awR obj true) s) ∧ (∀ s2 : JS, (s2.aw = awR obj true ∨ s2.aw = awR obj false) → tk T [cl] s2.pos = true → wordF T s2 = .go (clsF s2)) ∧ (cl = 93 ∨ cl = 125) := by
      rcases h with h | h
      · refine ⟨false, 91, 93, h, by unfold txN; rw [if_neg (by omega), if_neg (by omega), if_neg (by omega), if_neg (by omega), if_neg (by omega), if_pos h], fun hcc => ?_, fun s2 ha ht => ?_, .inl rfl⟩
        · unfold valueF
          simp only
          rw [hg, hcc, if_neg (by decide), if_pos rfl]
          rfl
        · unfold wordF
          rcases ha with ha | ha
          · have ha : s2.aw = 0 := ha
            rw [if_pos ha, if_pos ht]
          · have ha : s2.aw = 5 := ha
            rw [if_neg (by omega), if_neg (by omega), if_neg (by omega), if_neg (by omega), if_neg (by omega), if_pos ha, if_pos ht]
      · refine ⟨true, 123, 125, h, by unfold txN; rw [if_neg (by omega), if_neg (by omega), if_neg (by omega), if_neg (by omega), if_neg (by omega), if_neg (by omega), if_pos h], fun hcc => ?_, fun s2 ha ht => ?_, .inr rfl⟩
        · unfold valueF
          simp only
          rw [hg, hcc, if_pos rfl]
          rfl
        · unfold wordF
          rcases ha with ha | ha
          · have ha : s2.aw = 2 := ha
            rw [if_neg (by omega), if_neg (by omega), if_pos ha, if_pos ht]
          · have ha : s2.aw = 6 := ha
            rw [if_neg (by omega), if_neg (by omega), if_neg (by omega), if_neg (by omega), if_neg (by omega), if_neg (by omega), if_pos ha, if_pos ht]
    have hcop : c = op := by rw [ht] at hc; exact (List.cons.inj hc).1.symm
    have hV := hb hcop
    rw [ht] at hd ⊢
    have hol : s.opn.length ≠ 32 := by have := hs.len; omega
    have hnds := addF_nds hs.op (nd0 ((if obj then 7 else 6 : Nat) : Int)) (s.pos + 1)
    have hkn : ((if obj then 7 else 6 : Nat) : Int) = n.kind := by rw [hkd]; cases obj <;> rfl
    -- the state behind the opening
    obtain ⟨s1, hs1, e1p, e1o, e1n, e1k, e1a, e1m⟩ : ∃ s1 : JS, beginF (if obj then 7 else 6) (awR obj true) s = .go s1 ∧ s1.pos = s.pos + 1 ∧ s1.opn = s.opn ++ [s.nodes.length] ∧ s1.nodes = upK s.opn s.nodes ++ [{ nd0 n.kind with key := s.key }] ∧ s1.key = [] ∧ s1.aw = awR obj true ∧ s1.met = s.met := by
      unfold beginF
      rw [if_neg hol]
      refine ⟨_, rfl, ?_, ?_, ?_, ?_, rfl, ?_⟩
      · show (addF _ _).pos = _
        rw [addF_pos]
      · show (addF _ _).opn ++ [(addF _ _).nodes.length - 1] = _
        rw [addF_opn, addF_nodes]
        simp
      · show (addF _ _).nodes = _
        rw [hnds, hkn]
      · show (addF _ _).key = _
        exact addF_key _ _
      · show (addF _ _).met = _
        exact addF_met _ _
    have hA : (upK s.opn s.nodes).length = s.nodes.length := upK_length _ _
    have hinm : inm s1 = s.nodes.length := by unfold inm; rw [e1o, last_snoc]
    have hd1 : T.drop s1.pos = bodyT obj true ks ts ++ (cl :: B) := by
      rw [e1p]
      have := drop_app (A := [op]) (B := bodyT obj true ks ts ++ [cl] ++ B) (T := T) (p := s.pos) (by rw [hd]; rfl)
      rw [show s.pos + 1 = s.pos + [op].length from rfl, this]
      simp
    have hp1 : s1.pos ≤ T.length := by rw [e1p]; omega
    have hR1 : Rdy s1 (d + 1) := by
      refine ⟨fun _ => ?_, ?_, ?_⟩
      · rw [hinm, e1n]
        simp [hA]
      · rw [e1o]
        have := hs.len
        simp
        omega
      · rw [e1m, e1n]
        intro e he
        have := hs.low e he
        simp [hA]
        omega
    have hEB : EndB (cl :: B) := fun c r e => by
      have := (List.cons.inj e).1
      rw [← this]
      rcases hcE with h | h <;> simp [h]
    have hkind1 : (s1.nodes.getD (inm s1) (nd0 0)).kind = (if obj then 7 else 6) := by
      rw [hinm, e1n, ← hA, getD_mid, ← hkd]
      rfl
    have hkk : KeysOK (if obj then 7 else 6) ks := by rw [← hkd]; exact hk
    obtain ⟨s2, hG2, hP2⟩ := hR T (cl :: B) s1 obj true hd1 hp1 hEB hR1 (by rw [e1o]; simp) hkind1 hkk (fun _ k _ hm => by
      rw [e1m] at hm
      have := hs.low _ hm
      rw [hinm] at this
      simp only at this
      omega) e1k e1a
    have hd2 : T.drop s2.pos = cl :: B := by rw [hP2.pos]; exact drop_app hd1
    have hp2 : s2.pos ≤ T.length := by rw [hP2.pos]; exact drop_le hd1 hp1
    have hbl2 : blanksS.contains cl = false := by rcases hcE with h | h <;> (rw [h]; decide)
    obtain ⟨hlt2, htb2⟩ := blank_of hd2 hp2 hbl2
    have haw2 : s2.aw = awR obj true ∨ s2.aw = awR obj false := by
      rw [hP2.aw]
      cases ks.isEmpty
      · exact .inr rfl
      · exact .inl rfl
    have hW := hclw s2 haw2 (by rw [at_tk hd2 hp2]; simp)
    have e2n : s2.nodes = upK s.opn s.nodes ++ n :: r := by
      rw [hP2.nodes, hinm, e1n, ← hA, upN_mid]
      have : ({ ({ nd0 n.kind with key := s.key } : Nd) with kids := ({ nd0 n.kind with key := s.key } : Nd).kids + (ks.length : Int) } : Nd) = n := by
        rw [hkey]
        conv => rhs; rw [e, hn]
        simp [nd0]
      rw [this]
      simp
    have e2o : s2.opn.dropLast = s.opn := by rw [hP2.opn, e1o, List.dropLast_concat]
    refine ⟨clsF s2, ((Gs.step hlt htb (hword.trans (hV.trans hs1))).trans hG2).trans (Gs.step hlt2 htb2 hW), ?_⟩
    refine ⟨?_, ?_, ?_, ?_, ?_, ?_, ?_⟩
    · rw [clsF_pos, hP2.pos, e1p]
      simp only [List.length_cons, List.length_append, List.length_nil]
      omega
    · unfold clsF closeF
      rw [endF_opn]
      exact e2o
    · unfold clsF closeF
      rw [endF_nodes]
      exact e2n
    · unfold clsF closeF
      rw [endF_key]
      exact hP2.key
    · unfold clsF closeF endF awOf
      simp only
      rw [e2o]
      by_cases ho : s.opn = []
      · rw [if_pos ho, if_pos ho]
      · rw [if_neg ho, if_neg ho]
        unfold inm
        simp only
        rw [e2n, getD_left (by rw [hA]; exact hs.op ho), upK_kind]
        split <;> rfl
    · unfold clsF closeF
      rw [endF_met]
      intro e he
      rcases hP2.met e he with h | h | h
      · rw [e1m] at h; exact .inl h
      · rw [hinm] at h
        exact .inr (by omega)
      · rw [e1n] at h
        simp [hA] at h
        exact .inr (by omega)
    · unfold clsF closeF
      rw [endF_met, endF_nodes]
      exact hP2.low

theorem Ts.nil_of {d : Int} {l : List Nd} {ts : List (List UInt8)} {a : List (List UInt8)} (h : Ts d a l ts) (ha : a = []) : l = [] := by
  subst ha
  exact h.none.1

/-- The next name and its colon. -/
theorem name_step {T B k : List UInt8} {s : JS} (hd : T.drop s.pos = quoS k ++ 58 :: B) (hp : s.pos ≤ T.length) (hv : Lib.validD k = true) (hm : (inm s, k) ∉ s.met) (haw : s.aw = 2 ∨ s.aw = 3) : Gs T s { s with pos := s.pos + ((quoS k).length + 1), key := k, aw := 1, met := s.met ++ [(inm s, k)] } := by
  have hd0 : T.drop s.pos = 34 :: ((k.flatMap escC ++ [34]) ++ 58 :: B) := by rw [hd]; rfl
  obtain ⟨hlt, htb⟩ := blank_of hd0 hp (by decide)
  have hg := at_drop hd0 0
  simp only [List.getD_cons_zero, Nat.add_zero] at hg
  have hQ := quote_back hd hp hv
  have h1 : wordF T s = .go { s with pos := s.pos + (quoS k).length, key := k, aw := 4, met := s.met ++ [(inm s, k)] } := by
    have hN : nameF T s = .go { s with pos := s.pos + (quoS k).length, key := k, aw := 4, met := s.met ++ [(inm s, k)] } := by
      unfold nameF
      rw [hg, if_neg (by decide), hQ]
      simp only
      rw [if_neg (by simpa using hm)]
    unfold wordF
    rcases haw with h | h
    · rw [if_neg (by omega), if_neg (by omega), if_pos h, at_tk hd0 hp, if_neg (by decide), hN]
    · rw [if_neg (by omega), if_neg (by omega), if_neg (by omega), if_pos h, hN]
  have hd1 := drop_app hd
  have hp1 := drop_le hd hp
  obtain ⟨hlt1, htb1⟩ := blank_of hd1 hp1 (by decide)
  refine (Gs.step hlt htb h1).trans (Gs.step hlt1 htb1 ?_)
  unfold wordF
  simp only
  rw [if_neg (by decide), if_neg (by decide), if_neg (by decide), if_neg (by decide), if_pos trivial]
  unfold markF
  simp only
  rw [at_tk hd1 hp1, if_pos (by decide)]
  rfl

theorem comma_step {T B : List UInt8} {s : JS} {obj : Bool} (hd : T.drop s.pos = 44 :: B) (hp : s.pos ≤ T.length) (haw : s.aw = awR obj false) : Gs T s { s with pos := s.pos + 1, aw := if obj then 3 else 1 } := by
  obtain ⟨hlt, htb⟩ := blank_of hd hp (by decide)
  refine Gs.step hlt htb ?_
  unfold wordF
  cases obj
  · have haw : s.aw = 5 := haw
    rw [if_neg (by omega), if_neg (by omega), if_neg (by omega), if_neg (by omega), if_neg (by omega), if_pos haw, at_tk hd hp, if_neg (by decide)]
    unfold markF
    rw [at_tk hd hp, if_pos (by decide)]
    rfl
  · have haw : s.aw = 6 := haw
    rw [if_neg (by omega), if_neg (by omega), if_neg (by omega), if_neg (by omega), if_neg (by omega), if_neg (by omega), if_pos haw, at_tk hd hp, if_neg (by decide)]
    unfold markF
    rw [at_tk hd hp, if_pos (by decide)]
    rfl

theorem body_end {obj : Bool} {ks ts : List (List UInt8)} {B : List UInt8} (hB : EndB B) : EndB (bodyT obj false ks ts ++ B) := by
  cases ks with
  | nil => unfold bodyT; exact hB
  | cons k ks =>
    cases ts with
    | nil => unfold bodyT; exact hB
    | cons t ts =>
      unfold bodyT
      intro c r e
      simp at e
      exact .inl e.1.symm

/-- What is awaited ahead of a value in a row. -/
def preT (obj first : Bool) (k : List UInt8) : List UInt8 := (if first then [] else [44]) ++ (if obj then quoS k ++ [58] else [])

theorem pre_step {T B k : List UInt8} {s : JS} {obj first : Bool} {d : Int} (hd : T.drop s.pos = preT obj first k ++ B) (hp : s.pos ≤ T.length) (hs : Rdy s d) (ho : s.opn ≠ []) (hv : obj = true → Lib.validD k = true) (hm : obj = true → (inm s, k) ∉ s.met) (hk : obj = false → k = []) (hkey : s.key = []) (haw : s.aw = awR obj first) :
    ∃ s1 : JS, Gs T s s1 ∧ s1.pos = s.pos + (preT obj first k).length ∧ s1.opn = s.opn ∧ s1.nodes = s.nodes ∧ s1.key = k ∧ (s1.aw = 0 ∨ s1.aw = 1) ∧ (∀ e ∈ s1.met, e ∈ s.met ∨ (obj = true ∧ e = (inm s, k))) ∧ Rdy s1 d := by
  have hcm : ∃ s0 : JS, Gs T s s0 ∧ s0.pos = s.pos + (if first then ([] : List UInt8) else [44]).length ∧ s0.opn = s.opn ∧ s0.nodes = s.nodes ∧ s0.key = [] ∧ s0.met = s.met ∧ (obj = true → s0.aw = 2 ∨ s0.aw = 3) ∧ (obj = false → s0.aw = 0 ∨ s0.aw = 1) := by
    cases first
    · have hd' : T.drop s.pos = 44 :: ((if obj then quoS k ++ [58] else []) ++ B) := by rw [hd]; unfold preT; simp
      refine ⟨_, comma_step hd' hp haw, rfl, rfl, rfl, hkey, rfl, fun h => .inr ?_, fun h => .inr ?_⟩ <;> simp [h]
    · refine ⟨s, Gs.refl _ _, rfl, rfl, rfl, hkey, rfl, fun h => .inl ?_, fun h => .inl ?_⟩
      · rw [haw, h]; rfl
      · rw [haw, h]; rfl
  obtain ⟨s0, g0, p0, o0, n0, k0, m0, a0, b0⟩ := hcm
  cases obj
  · refine ⟨s0, g0, ?_, o0, n0, by rw [k0, hk rfl], b0 rfl, fun e he => .inl (m0 ▸ he), ?_⟩
    · rw [p0]; unfold preT; simp
    · exact ⟨fun h => by unfold inm; rw [o0, n0]; exact hs.op (o0 ▸ h), by rw [o0]; exact hs.len, by rw [m0, n0]; exact hs.low⟩
  · have hd1 : T.drop s0.pos = quoS k ++ 58 :: B := by
      rw [p0]
      have h2 : T.drop s.pos = (if first then ([] : List UInt8) else [44]) ++ (quoS k ++ 58 :: B) := by rw [hd]; unfold preT; simp
      exact drop_app h2
    have hp1 : s0.pos ≤ T.length := by
      rw [p0]
      have h2 : T.drop s.pos = (if first then ([] : List UInt8) else [44]) ++ (quoS k ++ 58 :: B) := by rw [hd]; unfold preT; simp
      exact drop_le h2 hp
    have hi0 : inm s0 = inm s := by unfold inm; rw [o0]
    have g1 := name_step hd1 hp1 (hv rfl) (by rw [hi0, m0]; exact hm rfl) (a0 rfl)
    refine ⟨_, g0.trans g1, ?_, o0, n0, rfl, .inr rfl, ?_, ?_⟩
    · show s0.pos + _ = _
      rw [p0]
      unfold preT
      simp only [List.length_append, if_true, List.length_cons, List.length_nil]
      omega
    · intro e he
      rcases List.mem_append.1 he with he | he
      · exact .inl (m0 ▸ he)
      · rw [List.mem_singleton.1 he, hi0]
        exact .inr ⟨rfl, rfl⟩
    · refine ⟨fun h => ?_, by show (s0.opn.length : Int) = d; rw [o0]; exact hs.len, ?_⟩
      · show s0.opn.getLastD 0 < s0.nodes.length
        rw [o0, n0]
        exact hs.op ho
      · show ∀ e ∈ s0.met ++ [(inm s0, k)], e.1 < s0.nodes.length
        intro e he
        rw [n0]
        rcases List.mem_append.1 he with he | he
        · rw [m0] at he; exact hs.low e he
        · rw [List.mem_singleton.1 he, hi0]
          exact hs.op ho

/-- Every row of values is read as it is written. -/
theorem Ts.row {d : Int} {a : List (List UInt8)} {l : List Nd} {ts : List (List UInt8)} (h : Ts d a l ts) : RowP d a l ts := by
  induction h with
  | nil d =>
    intro T B s obj first hd hp hB hs ho hkd hkk hm hkey haw
    refine ⟨s, Gs.refl _ _, ?_⟩
    have hb : bodyT obj first [] [] = [] := by unfold bodyT; rfl
    refine ⟨by rw [hb]; rfl, rfl, ?_, hkey, ?_, fun e he => .inl he, hs.low⟩
    · rw [List.length_nil, upN_zero, List.append_nil]
    · rw [haw]; simp
  | cons hw h1 hn hk h3 ih1 ih2 =>
    rename_i d n ks ks' t1 t2 r1 r2
    intro T B s obj first hd hp hB hs ho hkd hkk hm hkey haw
    have hbody : bodyT obj first (n.key :: ks') (txN n ks t1 :: t2) = preT obj first n.key ++ (txN n ks t1 ++ bodyT obj false ks' t2) := by
      conv => lhs; unfold bodyT
      unfold preT
      simp
    rw [hbody] at hd ⊢
    rw [List.append_assoc] at hd
    have hv : obj = true → Lib.validD n.key = true := fun h => ((hkk.2 (by rw [h]; rfl)).1 _ (by simp))
    have hnd : obj = true → n.key ∉ ks' := fun h => (List.nodup_cons.1 (hkk.2 (by rw [h]; rfl)).2).1
    have hk6 : obj = false → n.key = [] := fun h => hkk.1 (by rw [h]; rfl) _ (by simp)
    obtain ⟨s1, g1, p1, o1, n1, k1, a1, m1, R1⟩ := pre_step hd hp hs ho hv (fun h => hm h _ (by simp)) hk6 hkey haw
    have hd1 : T.drop s1.pos = txN n ks t1 ++ (bodyT obj false ks' t2 ++ B) := by
      rw [p1, drop_app hd, List.append_assoc]
    have hp1 : s1.pos ≤ T.length := by rw [p1]; exact drop_le hd hp
    obtain ⟨s2, g2, P2⟩ := val_step hw ih1 (fun e => h1.nil_of e) hn hk T _ s1 hd1 hp1 (body_end hB) R1 k1 a1
    have hd2 : T.drop s2.pos = bodyT obj false ks' t2 ++ B := by rw [P2.pos]; exact drop_app hd1
    have hp2 : s2.pos ≤ T.length := by rw [P2.pos]; exact drop_le hd1 hp1
    have hi2 : inm s2 = inm s := by unfold inm; rw [P2.opn, o1]
    have hi1 : inm s1 = inm s := by unfold inm; rw [o1]
    have e2n : s2.nodes = kidUp s.nodes (inm s) ++ n :: r1 := by
      rw [P2.nodes, o1, n1]
      unfold upK
      rw [if_neg ho]
      rfl
    have hlt := hs.op ho
    have R2 : Rdy s2 d := by
      refine ⟨fun _ => ?_, by rw [P2.opn, o1]; exact hs.len, P2.low⟩
      rw [hi2, e2n, List.length_append, kidUp_length]
      omega
    have hkd2 : (s2.nodes.getD (inm s2) (nd0 0)).kind = (if obj then 7 else 6) := by
      rw [hi2, e2n, getD_left (by rw [kidUp_length]; exact hlt), kidUp_kind]
      exact hkd
    have hkk2 : KeysOK (if obj then 7 else 6) ks' := ⟨fun h x hx => hkk.1 h x (by simp [hx]), fun h => ⟨fun x hx => (hkk.2 h).1 x (by simp [hx]), (List.nodup_cons.1 (hkk.2 h).2).2⟩⟩
    have hm2 : obj = true → ∀ k ∈ ks', (inm s2, k) ∉ s2.met := by
      intro hobj k hk hmem
      rw [hi2] at hmem
      rcases P2.met _ hmem with h | h
      · rcases m1 _ h with h | ⟨_, h⟩
        · exact hm hobj k (by simp [hk]) h
        · have := (Prod.mk.inj h).2
          exact hnd hobj (this ▸ hk)
      · rw [n1] at h
        simp only at h
        omega
    have ha2 : s2.aw = awR obj false := by
      rw [P2.aw]
      unfold awOf
      rw [o1, if_neg ho, hi1, n1, hkd]
      cases obj <;> rfl
    obtain ⟨s3, g3, P3⟩ := ih2 T B s2 obj false hd2 hp2 hB R2 (by rw [P2.opn, o1]; exact ho) hkd2 hkk2 hm2 P2.key ha2
    refine ⟨s3, (g1.trans g2).trans g3, ?_⟩
    refine ⟨?_, by rw [P3.opn, P2.opn, o1], ?_, P3.key, ?_, ?_, P3.low⟩
    · rw [P3.pos, P2.pos, p1]
      simp only [List.length_append]
      omega
    · rw [P3.nodes, hi2, e2n, upN_left _ _ _ _ (by rw [kidUp_length]; exact hlt), upN_kid]
      simp
    · rw [P3.aw]
      simp
    · intro e he
      rcases P3.met e he with h | h | h
      · rcases P2.met e h with h | h
        · rcases m1 e h with h | ⟨_, h⟩
          · exact .inl h
          · exact .inr (.inl (by rw [h]; simp))
        · rw [n1] at h
          exact .inr (.inr h)
      · rw [hi2] at h
        exact .inr (.inl ⟨h.1, by simp [h.2]⟩)
      · rw [e2n, List.length_append, kidUp_length] at h
        exact .inr (.inr (by omega))

end Go.Proofs.YtkfchdmlemcjhaaDoor

namespace Go.Proofs.YtkfchdmlemcjhaaDoor
open Go.RowKit

/-- What a value costs that is written there: the comma and the name ahead of it. -/
def preC (obj : Bool) (ks : List (List UInt8)) (k : List UInt8) : Nat := (if ks = [] then 0 else 1) + (if obj then (quoS k).length + 1 else 0)
/-- Is the innermost open one an object? -/
def inO (xs : List Nat) (l : List Nd) : Bool := decide (xs ≠ [] ∧ (l.getD (xs.getLastD 0) (nd0 0)).kind = 7)

theorem body_snoc (obj : Bool) (k t : List UInt8) : ∀ (ks ts : List (List UInt8)) (first : Bool), ks.length = ts.length → bodyT obj first (ks ++ [k]) (ts ++ [t]) = bodyT obj first ks ts ++ ((if first && ks.isEmpty then [] else [44]) ++ (if obj then quoS k ++ [58] else []) ++ t)
  | [], [], first, _ => by
    cases first <;> simp [bodyT]
  | [], _ :: _, _, h => by simp at h
  | _ :: _, [], _, h => by simp at h
  | k1 :: ks, t1 :: ts, first, h => by
    have := body_snoc obj k t ks ts false (by simpa using h)
    simp only [List.cons_append, bodyT, this]
    simp

theorem body_len (obj : Bool) (k t : List UInt8) (ks ts : List (List UInt8)) (h : ks.length = ts.length) : (bodyT obj true (ks ++ [k]) (ts ++ [t])).length = (bodyT obj true ks ts).length + (preC obj ks k + t.length) := by
  rw [body_snoc obj k t ks ts true h]
  unfold preC
  cases ks with
  | nil => cases obj <;> simp <;> omega
  | cons a b => cases obj <;> simp <;> omega

theorem Ts.lens {d : Int} {a : List (List UInt8)} {l : List Nd} {ts : List (List UInt8)} (h : Ts d a l ts) : a.length = ts.length := by
  induction h with
  | nil => rfl
  | cons _ _ _ _ _ _ ih => simp only [List.length_cons]; omega
theorem Ts.append {d : Int} {a b : List (List UInt8)} {l m : List Nd} {ts us : List (List UInt8)} (h : Ts d a l ts) (h2 : Ts d b m us) : Ts d (a ++ b) (l ++ m) (ts ++ us) := by
  induction h with
  | nil => exact h2
  | cons hw h1 hn hk h3 ih1 ih2 =>
    have := Ts.cons hw h1 hn hk (ih2 h2)
    simpa using this
theorem Ts.one {d : Int} {n : Nd} {ks ts : List (List UInt8)} {r : List Nd} (hw : wmF n d = true) (h1 : Ts (d + 1) ks r ts) (hn : n.kids = (ks.length : Int)) (hk : KeysOK n.kind ks) : Ts d [n.key] (n :: r) [txN n ks ts] := by
  have := Ts.cons hw h1 hn hk (Ts.nil d)
  rwa [List.append_nil] at this

/-- What has been read so far, and what it costs to write it. -/
inductive Zc (M : List (Nat × List UInt8)) : List Nat → List Nd → List (List UInt8) → Nat → Prop
  | none : Zc M [] [] [] 0
  | done {l : List Nd} {t : List UInt8} (h : Ts 0 [[]] l [t]) : Zc M [] l [[]] t.length
  | opn {xs : List Nat} {l : List Nd} {ks' : List (List UInt8)} {n : Nd} {ks ts : List (List UInt8)} {r : List Nd} {c : Nat} (h : Zc M xs l ks' c) (hp : Pk M xs l ks' n.key) (hw : wmF n (xs.length : Int) = true) (hkd : n.kind = 6 ∨ n.kind = 7) (hr : Ts ((xs.length : Int) + 1) ks r ts) (hn : n.kids = (ks.length : Int)) (hk : KeysOK n.kind ks) (hm : n.kind = 7 → ∀ k ∈ ks, (l.length, k) ∈ M) : Zc M (xs ++ [l.length]) (upK xs l ++ n :: r) ks (c + preC (inO xs l) ks' n.key + 1 + (bodyT (decide (n.kind = 7)) true ks ts).length)

theorem Zc.mono {M M' : List (Nat × List UInt8)} {xs : List Nat} {l : List Nd} {ks : List (List UInt8)} {c : Nat} (h : Zc M xs l ks c) (hs : ∀ e ∈ M, e ∈ M') : Zc M' xs l ks c := by
  induction h with
  | none => exact .none
  | done h => exact .done h
  | opn h hp hw hkd hr hn hk hm ih => exact .opn ih (hp.mono hs) hw hkd hr hn hk (fun h7 k hx => hs _ (hm h7 k hx))

/-- A whole value is read. -/
theorem Zc.add {M : List (Nat × List UInt8)} {xs : List Nat} {l v : List Nd} {ks : List (List UInt8)} {k t : List UInt8} {c : Nat} (h : Zc M xs l ks c) (hp : Pk M xs l ks k) (hc : Ts (xs.length : Int) [k] v [t]) : Zc M xs (upK xs l ++ v) (ks ++ [k]) (c + preC (inO xs l) ks k + t.length) := by
  cases h with
  | none =>
    have := (hp.1 rfl).1
    subst this
    have h2 : Zc M [] v [[]] t.length := .done (by simpa using hc)
    simpa [upK, preC, inO] using h2
  | done h =>
    have := (hp.1 rfl).2
    cases this
  | opn h hp0 hw hkd hr hn hk hm =>
    rename_i ys l0 ks0 n ts r c0
    have hA : (upK ys l0).length = l0.length := upK_length _ _
    have hP := hp.2 (by simp)
    rw [last_snoc, ← hA, getD_mid] at hP
    have e1 : upK (ys ++ [l0.length]) (upK ys l0 ++ n :: r) ++ v = upK ys l0 ++ { n with kids := n.kids + 1 } :: (r ++ v) := by
      rw [upK_snoc, ← hA, kidUp_mid]
      simp
    have e2 : inO (ys ++ [l0.length]) (upK ys l0 ++ n :: r) = decide (n.kind = 7) := by
      unfold inO
      rw [last_snoc, ← hA, getD_mid]
      simp
    rw [e1, e2]
    have hl : ((ys ++ [l0.length]).length : Int) = (ys.length : Int) + 1 := by simp
    rw [hl] at hc
    have h9 := Zc.opn (n := { n with kids := n.kids + 1 }) h hp0 (wm_up hkd hw) hkd (hr.append hc) (by
      show n.kids + 1 = _
      rw [hn]; simp) (by
      refine ⟨fun h6 x hx => ?_, fun h7 => ⟨fun x hx => ?_, ?_⟩⟩
      · rcases List.mem_append.1 hx with hx | hx
        · exact hk.1 h6 x hx
        · rw [List.mem_singleton.1 hx]; exact hP.1 h6
      · rcases List.mem_append.1 hx with hx | hx
        · exact (hk.2 h7).1 x hx
        · rw [List.mem_singleton.1 hx]; exact (hP.2 h7).1
      · rw [List.nodup_append]
        refine ⟨(hk.2 h7).2, by simp, fun a ha b hb => ?_⟩
        rw [List.mem_singleton.1 hb]
        intro e
        exact (hP.2 h7).2.1 (e ▸ ha)) (by
      intro h7 x hx
      rcases List.mem_append.1 hx with hx | hx
      · exact hm h7 x hx
      · rw [List.mem_singleton.1 hx, ← hA]; exact (hP.2 h7).2.2)
    simp only at h9
    rw [body_len _ k t ks ts hr.lens] at h9
    rw [show c0 + preC (inO ys l0) ks0 n.key + 1 + (bodyT (decide (n.kind = 7)) true ks ts).length + preC (decide (n.kind = 7)) ks k + t.length = c0 + preC (inO ys l0) ks0 n.key + 1 + ((bodyT (decide (n.kind = 7)) true ks ts).length + (preC (decide (n.kind = 7)) ks k + t.length)) by omega]
    exact h9

theorem Zc.zp {M : List (Nat × List UInt8)} {xs : List Nat} {l : List Nd} {ks : List (List UInt8)} {c : Nat} (h : Zc M xs l ks c) : Zp M xs l ks := by
  have hsq : ∀ {d : Int} {a : List (List UInt8)} {l : List Nd} {ts : List (List UInt8)}, Ts d a l ts → Sq d a l := fun h => by
    induction h with
    | nil d => exact .nil d
    | cons hw h1 hn hk h3 ih1 ih2 => exact .cons hw ih1 hn hk ih2
  induction h with
  | none => exact .none
  | done h => exact .done (hsq h)
  | opn h hp hw hkd hr hn hk hm ih => exact .opn ih hp hw hkd (hsq hr) hn hk hm

/-- What has been read but is no node yet: a comma, a name, its colon. -/
def penC (s : JS) (ks : List (List UInt8)) : Nat :=
  if s.aw = 1 then (if s.opn = [] then 0 else preC (inO s.opn s.nodes) ks s.key)
  else if s.aw = 4 then preC true ks s.key - 1
  else if s.aw = 3 then (if ks = [] then 0 else 1)
  else 0

/-- The cost is never above the place. -/
structure IL (s : JS) (ks : List (List UInt8)) : Prop where
  iv : IV s ks
  c : ∃ c, Zc s.met s.opn s.nodes ks c ∧ c + penC s ks ≤ s.pos
  e0 : s.aw = 0 ∨ s.aw = 2 → ks = []
  o4 : s.aw = 4 → inO s.opn s.nodes = true

end Go.Proofs.YtkfchdmlemcjhaaDoor

namespace Go.Proofs.YtkfchdmlemcjhaaDoor
open Go.RowKit

theorem IL.at {s : JS} {ks : List (List UInt8)} (h : IL s ks) {p : Nat} (hp : s.pos ≤ p) : IL { s with pos := p } ks := by
  obtain ⟨c, hz, hc⟩ := h.c
  exact ⟨h.iv.at p, ⟨c, hz, by show c + penC s ks ≤ p; omega⟩, h.e0, h.o4⟩

end Go.Proofs.YtkfchdmlemcjhaaDoor

namespace Go.Proofs.YtkfchdmlemcjhaaDoor
open Go.RowKit

end Go.Proofs.YtkfchdmlemcjhaaDoor
