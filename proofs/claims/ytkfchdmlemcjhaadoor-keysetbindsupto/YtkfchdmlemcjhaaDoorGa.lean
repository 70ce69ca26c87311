import Derived.Test.YtkfchdmlemcjhaaDoorYZ
namespace Go.Proofs.YtkfchdmlemcjhaaDoor
open Go.RowKit

/-- What stands in one, as the document takes it: so many, from a place on, with the names so far. -/
def tlF (v : List Nd) (tk : Nat → Option Nat) (ob : Bool) : Nat → Int → Nat → List (List UInt8) → Option Nat
  | 0, n, i, _ => if 0 < n then none else some i
  | f + 1, n, i, ns => if 0 < n then (match tk i with
      | none => none
      | some j => if ob = true ∧ (v.getD i (nd0 0)).key ∈ ns then none else tlF v tk ob f (n - 1) j (ns ++ [(v.getD i (nd0 0)).key])) else some i
/-- The place behind a value, as the document takes it. -/
def tkF (v : List Nd) : Nat → Nat → Bool → Int → Option Nat
  | 0, _, _, _ => none
  | f + 1, i, ob, d =>
    if i < v.length ∧ wmF (v.getD i (nd0 0)) d = true ∧ Lib.validD (v.getD i (nd0 0)).key = true ∧ (ob = true ∨ (v.getD i (nd0 0)).key = []) then
      tlF v (fun j => tkF v f j (decide ((v.getD i (nd0 0)).kind = 7)) (d + 1)) (decide ((v.getD i (nd0 0)).kind = 7)) (v.length + 1) (v.getD i (nd0 0)).kids (i + 1) []
    else none
def tshF (v : List Nd) : Bool := match tkF v 33 0 false 0 with
  | some j => decide (j = v.length)
  | none => false

theorem tl_gt {v : List Nd} {tk : Nat → Option Nat} {ob : Bool} (hs : ∀ i j, tk i = some j → i < j ∧ j ≤ v.length) : ∀ (f : Nat) (n : Int) (i : Nat) (ns : List (List UInt8)) (j : Nat), i ≤ v.length → tlF v tk ob f n i ns = some j → i ≤ j ∧ j ≤ v.length
  | 0, n, i, ns, j, hi, h => by
    unfold tlF at h
    split at h
    · cases h
    · cases h; omega
  | f + 1, n, i, ns, j, hi, h => by
    unfold tlF at h
    split at h
    · split at h
      · cases h
      · rename_i k e
        split at h
        · cases h
        · have h1 := hs _ _ e
          have := tl_gt hs f (n - 1) k _ j h1.2 h
          omega
    · cases h; omega
theorem tk_gt {v : List Nd} : ∀ (f i : Nat) (ob : Bool) (d : Int) (j : Nat), tkF v f i ob d = some j → i < j ∧ j ≤ v.length
  | 0, i, ob, d, j, h => by unfold tkF at h; cases h
  | f + 1, i, ob, d, j, h => by
    unfold tkF at h
    split at h
    · rename_i hi
      have := tl_gt (v := v) (fun i2 j2 h2 => tk_gt f i2 _ _ j2 h2) _ _ (i + 1) [] j (by omega) h
      omega
    · cases h

theorem tl_sq {v : List Nd} {tk : Nat → Option Nat} {ob : Bool} {d : Int}
    (hs : ∀ i j, tk i = some j → (i < j ∧ j ≤ v.length) ∧ Sq d [(v.getD i (nd0 0)).key] (cut v i j) ∧ Lib.validD (v.getD i (nd0 0)).key = true ∧ (ob = true ∨ (v.getD i (nd0 0)).key = [])) :
    ∀ (f : Nat) (n : Int) (i : Nat) (ns : List (List UInt8)) (j : Nat), 0 ≤ n → i ≤ v.length → tlF v tk ob f n i ns = some j → i ≤ j ∧ j ≤ v.length ∧ ∃ a : List (List UInt8), (a.length : Int) = n ∧ Sq d a (cut v i j) ∧ (∀ x ∈ a, Lib.validD x = true) ∧ (ob = false → ∀ x ∈ a, x = []) ∧ (ob = true → a.Nodup ∧ ∀ x ∈ a, x ∉ ns)
  | 0, n, i, ns, j, hn, hi, h => by
    unfold tlF at h
    split at h
    · cases h
    · cases h
      exact ⟨Nat.le_refl _, hi, [], by simp; omega, by rw [cut_self]; exact .nil _, fun x hx => by simp at hx, fun _ x hx => by simp at hx, fun _ => ⟨List.nodup_nil, fun x hx => by simp at hx⟩⟩
  | f + 1, n, i, ns, j, hn, hi, h => by
    unfold tlF at h
    split at h
    · split at h
      · cases h
      · rename_i k e
        split at h
        · cases h
        · rename_i hc
          obtain ⟨⟨h1, h2⟩, h3, h4, h5⟩ := hs _ _ e
          obtain ⟨g1, g2, a, g3, g4, g5, g6, g7⟩ := tl_sq hs f (n - 1) k _ j (by omega) h2 h
          refine ⟨by omega, g2, (v.getD i (nd0 0)).key :: a, by simp only [List.length_cons]; omega, ?_, ?_, ?_, ?_⟩
          · rw [cut_app (show i ≤ k by omega) g1]
            exact h3.append g4
          · intro x hx
            rcases List.mem_cons.1 hx with rfl | hx
            · exact h4
            · exact g5 x hx
          · intro ho x hx
            rcases List.mem_cons.1 hx with rfl | hx
            · rcases h5 with h5 | h5
              · rw [ho] at h5; cases h5
              · exact h5
            · exact g6 ho x hx
          · intro ho
            obtain ⟨r1, r2⟩ := g7 ho
            refine ⟨List.nodup_cons.2 ⟨fun hm => r2 _ hm (by simp), r1⟩, fun x hx => ?_⟩
            rcases List.mem_cons.1 hx with rfl | hx
            · exact fun hm => hc ⟨ho, hm⟩
            · exact fun hm => r2 x hx (List.mem_append_left _ hm)
    · cases h
      exact ⟨Nat.le_refl _, hi, [], by simp; omega, by rw [cut_self]; exact .nil _, fun x hx => by simp at hx, fun _ x hx => by simp at hx, fun _ => ⟨List.nodup_nil, fun x hx => by simp at hx⟩⟩
theorem tk_sq {v : List Nd} : ∀ (f i : Nat) (ob : Bool) (d : Int) (j : Nat), tkF v f i ob d = some j → (i < j ∧ j ≤ v.length) ∧ Sq d [(v.getD i (nd0 0)).key] (cut v i j) ∧ Lib.validD (v.getD i (nd0 0)).key = true ∧ (ob = true ∨ (v.getD i (nd0 0)).key = [])
  | 0, i, ob, d, j, h => by unfold tkF at h; cases h
  | f + 1, i, ob, d, j, h => by
    have hgt := tk_gt (f + 1) i ob d j h
    unfold tkF at h
    split at h
    · rename_i hi
      obtain ⟨hi, hw, hk, ho⟩ := hi
      obtain ⟨_, _, a, ha, hsq, h1, h2, h3⟩ := tl_sq (v := v) (d := d + 1) (fun i2 j2 h2 => tk_sq f i2 _ _ j2 h2) _ _ (i + 1) [] j (wm_nn hw) (by omega) h
      have hks : KeysOK (v.getD i (nd0 0)).kind a := ⟨fun h6 => h2 (decide_eq_false (by omega)), fun h7 => ⟨h1, (h3 (decide_eq_true h7)).1⟩⟩
      refine ⟨hgt, ?_, hk, ho⟩
      rw [cut_head hgt.1 hgt.2]
      exact Sq.one hw hsq ha.symm hks
    · cases h

theorem Sq.tk {d : Int} {a : List (List UInt8)} {l : List Nd} (h : Sq d a l) : ∀ (pre post v : List Nd) (f g : Nat) (ob : Bool) (ns : List (List UInt8)), v = pre ++ (l ++ post) → d + f = 33 → (a ≠ [] → d ≤ 32) → (∀ x ∈ a, Lib.validD x = true) → (ob = false → ∀ x ∈ a, x = []) → (ob = true → a.Nodup ∧ ∀ x ∈ a, x ∉ ns) → v.length ≤ g + pre.length →
    tlF v (fun j => tkF v f j ob d) ob g (a.length : Int) pre.length ns = some (pre.length + l.length) := by
  induction h with
  | nil =>
    intro pre post v f g ob ns hv hd hd2 h1 h2 h3 hg
    cases g <;> (unfold tlF; rw [if_neg (by simp)]; rfl)
  | cons hw h1 hn hk h3 ih1 ih2 =>
    rename_i d n ks ks' r1 r2
    intro pre post v f g ob ns hv hd hd2 hva hno hyes hg
    have hlen : v.length = pre.length + (1 + r1.length + r2.length + post.length) := by rw [hv]; simp; omega
    have hd3 : d ≤ 32 := hd2 (by simp)
    have hgn : v.getD pre.length (nd0 0) = n := by rw [hv]; simp
    obtain ⟨f, rfl⟩ : ∃ f', f = f' + 1 := ⟨f - 1, by omega⟩
    obtain ⟨g, rfl⟩ : ∃ g', g = g' + 1 := ⟨g - 1, by omega⟩
    have hwk := wm_kids2 hw
    have hks : n.kind ≠ 6 → n.kind ≠ 7 → ks = [] := fun h6 h7 => by
      have := hwk.2.1 (by omega)
      rw [hn] at this
      exact List.eq_nil_of_length_eq_zero (by omega)
    have k1 : ∀ x ∈ ks, Lib.validD x = true := fun x hx => by
      by_cases h7 : n.kind = 7
      · exact (hk.2 h7).1 x hx
      · by_cases h6 : n.kind = 6
        · rw [hk.1 h6 x hx]; rfl
        · rw [hks h6 h7] at hx; simp at hx
    have k2 : decide (n.kind = 7) = false → ∀ x ∈ ks, x = [] := fun h7 x hx => by
      by_cases h6 : n.kind = 6
      · exact hk.1 h6 x hx
      · rw [hks h6 (of_decide_eq_false h7)] at hx; simp at hx
    have k3 : decide (n.kind = 7) = true → ks.Nodup ∧ ∀ x ∈ ks, x ∉ ([] : List (List UInt8)) := fun h7 => ⟨(hk.2 (of_decide_eq_true h7)).2, fun x _ => by simp⟩
    have e2 := ih1 (pre ++ [n]) (r2 ++ post) v f (v.length + 1) (decide (n.kind = 7)) [] (by rw [hv]; simp) (by omega) (fun hks => by
      have : 0 < n.kids := by
        rw [hn]
        have := List.length_pos_iff.2 hks
        omega
      have := hwk.2.2 this
      omega) k1 k2 k3 (by omega)
    have hpl : (pre ++ [n]).length = pre.length + 1 := by simp
    rw [hpl] at e2
    have hob : ob = true ∨ n.key = [] := by
      cases ob
      · exact .inr (hno rfl _ (by simp))
      · exact .inl rfl
    have htk : tkF v (f + 1) pre.length ob d = some (pre.length + 1 + r1.length) := by
      unfold tkF
      rw [hgn, if_pos ⟨by omega, hw, hva _ (by simp), hob⟩, hn]
      exact e2
    have hpl2 : (pre ++ (n :: r1)).length = pre.length + 1 + r1.length := by simp; omega
    have e3 := ih2 (pre ++ (n :: r1)) post v (f + 1) g ob (ns ++ [n.key]) (by rw [hv]; simp) hd (fun _ => hd3) (fun x hx => hva x (by simp [hx])) (fun ho x hx => hno ho x (by simp [hx])) (fun ho => by
      obtain ⟨y1, y2⟩ := hyes ho
      obtain ⟨z1, z2⟩ := List.nodup_cons.1 y1
      refine ⟨z2, fun x hx hm => ?_⟩
      rcases List.mem_append.1 hm with hm | hm
      · exact y2 x (by simp [hx]) hm
      · rw [List.mem_singleton.1 hm] at hx; exact z1 hx) (by rw [hpl2]; omega)
    rw [hpl2] at e3
    have hnn : ¬ (ob = true ∧ n.key ∈ ns) := fun hc => (hyes hc.1).2 _ (by simp) hc.2
    unfold tlF
    rw [if_pos (by simp only [List.length_cons]; omega)]
    simp only [htk, hgn]
    rw [if_neg hnn, show ((n.key :: ks').length : Int) - 1 = (ks'.length : Int) by simp only [List.length_cons]; omega, e3]
    simp only [List.length_cons, List.length_append]
    congr 1
    omega

/-- Both say the same of what is well shaped. -/
theorem tsh_eq (v : List Nd) : tshF v = shapedF v := by
  rw [Bool.eq_iff_iff]
  constructor
  · intro h
    unfold tshF at h
    split at h
    · rename_i j e
      have hj := of_decide_eq_true h
      subst hj
      obtain ⟨h1, h2, _, h4⟩ := tk_sq 33 0 false 0 v.length e
      have hk : (v.getD 0 (nd0 0)).key = [] := h4.elim (fun h => by cases h) id
      rw [hk] at h2
      have hc : cut v 0 v.length = v := by unfold cut; simp
      rw [hc] at h2
      exact h2.shaped
    · cases h
  · intro h
    have hs := shaped_sq h
    have e := hs.tk [] [] v 33 (v.length + 1) false [] (by simp) (by omega) (fun _ => by omega) (fun x hx => by rw [List.mem_singleton.1 hx]; rfl) (fun _ x hx => List.mem_singleton.1 hx) (fun h => by cases h) (by omega)
    unfold tlF at e
    rw [if_pos (by simp)] at e
    split at e
    · cases e
    · rename_i j e2
      have e3 : j = v.length := by
        rw [if_neg (fun h => by cases h.1)] at e
        have : ∀ ns, tlF v (fun j => tkF v 33 j false 0) false v.length 0 j ns = some j := fun ns => by cases v.length <;> (unfold tlF; rw [if_neg (by omega)])
        simp only [List.length_cons, List.length_nil] at e
        rw [show (((0 + 1 : Nat) : Int) - 1) = 0 by omega, this] at e
        simp at e
        omega
      unfold tshF
      simp only [List.length_nil] at e2
      rw [e2]
      exact decide_eq_true e3

/-- May a node stand there, its children apart? -/
def plF (n : Nd) : Bool :=
  if n.kind < 1 ∨ 7 < n.kind ∨ n.kids < 0 ∨ (0 < n.kids ∧ n.kind < 6) then false
  else if n.kind = 4 then (Dec.pcut n.text).isSome && (decide ((Dec.wholeV (Dec.pcut n.text)).2 = n.whole) && decide ((Dec.wholeV (Dec.pcut n.text)).1 = n.int))
  else if n.whole = true ∨ n.int ≠ 0 then false
  else if n.kind = 5 then Lib.validD n.text else decide (n.text = [])
theorem wm_pl (n : Nd) (d : Int) (hd : d ≤ 32) : wmF n d = (plF n && !(decide (6 ≤ n.kind) && decide (d = 32))) := by
  obtain ⟨k, y, t, b, i, c⟩ := n
  have hc : (!decide (c < 0) && !decide (0 < c)) = decide (c = 0) := by rw [Bool.eq_iff_iff]; simp; omega
  have h0 : decide (0 ≤ c) = !decide (c < 0) := by rw [Bool.eq_iff_iff]; simp
  have h3 : decide (d < 32) = !decide (d = 32) := by rw [Bool.eq_iff_iff]; simp; omega
  have hs : ∀ x1 x2 x3 : Bool, (x1 && (!b && (x2 && x3))) = (x3 && (!b && x2 && x1)) := by intro x1 x2 x3; cases b <;> cases x1 <;> cases x2 <;> cases x3 <;> rfl
  have hs2 : ∀ x1 x2 x3 x4 : Bool, (!x1 && !x2 && (x3 && (!b && x4))) = (!x1 && (!b && x4 && x3) && !x2) := by intro x1 x2 x3 x4; cases b <;> cases x1 <;> cases x2 <;> cases x3 <;> cases x4 <;> rfl
  have hk : (k < 1 ∨ 7 < k) ∨ k = 1 ∨ k = 2 ∨ k = 3 ∨ k = 4 ∨ k = 5 ∨ k = 6 ∨ k = 7 := by omega
  rcases hk with h | h | h | h | h | h | h | h
  · unfold wmF plF
    simp only
    rw [if_neg (by omega), if_neg (by omega), if_neg (by omega), if_neg (by omega), if_pos (by omega)]
    rfl
  all_goals subst h
  · simp [wmF, plF, nd0]
    rw [hc]; exact hs _ _ _
  · simp [wmF, plF, nd0]
    rw [hc]; exact hs _ _ _
  · simp [wmF, plF, nd0]
    rw [hc]; exact hs _ _ _
  · simp [wmF, plF, numN, whV]
    rw [hc, show decide (b = (Dec.wholeV (Dec.pcut t)).snd) = decide ((Dec.wholeV (Dec.pcut t)).snd = b) from decide_eq_decide.2 ⟨Eq.symm, Eq.symm⟩, show decide (i = (Dec.wholeV (Dec.pcut t)).fst) = decide ((Dec.wholeV (Dec.pcut t)).fst = i) from decide_eq_decide.2 ⟨Eq.symm, Eq.symm⟩]
    generalize decide ((Dec.wholeV (Dec.pcut t)).snd = b) = x1
    generalize decide ((Dec.wholeV (Dec.pcut t)).fst = i) = x2
    generalize (Dec.pcut t).isSome = x3
    generalize decide (c = 0) = x4
    cases x1 <;> cases x2 <;> cases x3 <;> cases x4 <;> rfl
  · simp [wmF, plF, nd0]
    rw [hc]; exact hs _ _ _
  · simp [wmF, plF, nd0]
    rw [h0, h3]; exact hs2 _ _ _ _
  · simp [wmF, plF, nd0]
    rw [h0, h3]; exact hs2 _ _ _ _

end Go.Proofs.YtkfchdmlemcjhaaDoor
