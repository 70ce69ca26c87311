import Derived.WalkKit
namespace Go.Proofs.Ytefpjjonmoofpaa

/-- The value of limbs, the lowest first. -/
def nv (B : Nat) : List Nat → Nat
  | [] => 0
  | x :: r => x + B * nv B r

theorem nv_append (B : Nat) (xs ys : List Nat) : nv B (xs ++ ys) = nv B xs + B ^ xs.length * nv B ys := by
  induction xs with
  | nil => simp [nv]
  | cons x r ih =>
    simp only [List.cons_append, nv, ih, List.length_cons, Nat.pow_succ', Nat.mul_add, Nat.mul_assoc]
    omega

theorem nv_one (B x : Nat) : nv B [x] = x := by simp [nv]
theorem nv_snoc (B : Nat) (xs : List Nat) (x : Nat) : nv B (xs ++ [x]) = nv B xs + B ^ xs.length * x := by rw [nv_append, nv_one]

theorem nv_zeros (B n : Nat) : nv B (List.replicate n 0) = 0 := by
  induction n with
  | zero => rfl
  | succ n ih => simp [List.replicate_succ, nv, ih]

/-- All limbs are below the base. -/
def Sm (B : Nat) (xs : List Nat) : Prop := ∀ x ∈ xs, x < B

theorem Sm.nil (B : Nat) : Sm B [] := fun _ h => by simp at h
theorem Sm.append {B : Nat} {xs ys : List Nat} (h : Sm B xs) (h' : Sm B ys) : Sm B (xs ++ ys) := fun x hx => by
  rcases List.mem_append.1 hx with h1 | h1
  · exact h x h1
  · exact h' x h1
theorem Sm.snoc {B x : Nat} {xs : List Nat} (h : Sm B xs) (hx : x < B) : Sm B (xs ++ [x]) := h.append fun y hy => by
  rw [List.mem_singleton.1 hy]; exact hx
theorem Sm.zeros {B : Nat} (n : Nat) (hB : 0 < B) : Sm B (List.replicate n 0) := fun x hx => by
  rw [(List.mem_replicate.1 hx).2]; exact hB
theorem Sm.take {B : Nat} {xs : List Nat} (h : Sm B xs) (k : Nat) : Sm B (xs.take k) := fun x hx => h x (List.mem_of_mem_take hx)
theorem Sm.drop {B : Nat} {xs : List Nat} (h : Sm B xs) (k : Nat) : Sm B (xs.drop k) := fun x hx => h x (List.mem_of_mem_drop hx)
theorem Sm.get {B : Nat} {xs : List Nat} (h : Sm B xs) (k : Nat) (hk : k < xs.length) : xs[k] < B := h _ (List.getElem_mem hk)
theorem Sm.getD {B : Nat} {xs : List Nat} (h : Sm B xs) (hB : 0 < B) (k : Nat) : xs.getD k 0 < B := by
  rw [List.getD_eq_getElem?_getD]
  by_cases hk : k < xs.length
  · rw [List.getElem?_eq_getElem hk]; exact h.get k hk
  · rw [List.getElem?_eq_none (by omega)]; exact hB
theorem Sm.set {B : Nat} {xs : List Nat} (h : Sm B xs) (k v : Nat) (hv : v < B) : Sm B (xs.set k v) := fun x hx => by
  rcases List.mem_or_eq_of_mem_set hx with h1 | h1
  · exact h x h1
  · rw [h1]; exact hv
theorem Sm.left {B : Nat} {xs ys : List Nat} (h : Sm B (xs ++ ys)) : Sm B xs := fun x hx => h x (List.mem_append_left _ hx)
theorem Sm.right {B : Nat} {xs ys : List Nat} (h : Sm B (xs ++ ys)) : Sm B ys := fun x hx => h x (List.mem_append_right _ hx)

theorem nv_lt {B : Nat} (hB : 0 < B) : ∀ {xs : List Nat}, Sm B xs → nv B xs < B ^ xs.length
  | [], _ => by simp [nv]
  | x :: r, h => by
    have h1 : x < B := h x (by simp)
    have h2 := nv_lt hB (xs := r) fun y hy => h y (by simp [hy])
    have h3 : B * (nv B r + 1) ≤ B * B ^ r.length := Nat.mul_le_mul_left _ h2
    rw [Nat.mul_add] at h3
    simp only [nv, List.length_cons, Nat.pow_succ']
    omega

theorem getD_eq (xs : List Nat) (k : Nat) (hk : k < xs.length) : xs.getD k 0 = xs[k] := by
  rw [List.getD_eq_getElem?_getD, List.getElem?_eq_getElem hk]; rfl
theorem getD_none (xs : List Nat) (k : Nat) (hk : xs.length ≤ k) : xs.getD k 0 = 0 := by
  rw [List.getD_eq_getElem?_getD, List.getElem?_eq_none hk]; rfl

theorem nv_take_succ (B : Nat) (xs : List Nat) (k : Nat) : nv B (xs.take (k + 1)) = nv B (xs.take k) + B ^ k * xs.getD k 0 := by
  by_cases hk : k < xs.length
  · rw [List.take_succ_eq_append_getElem hk, nv_snoc, getD_eq _ _ hk, List.length_take, Nat.min_eq_left (by omega)]
  · rw [List.take_of_length_le (by omega), List.take_of_length_le (by omega), getD_none _ _ (by omega)]; omega

theorem nv_split (B : Nat) (xs : List Nat) (k : Nat) (hk : k ≤ xs.length) : nv B xs = nv B (xs.take k) + B ^ k * nv B (xs.drop k) := by
  have := nv_append B (xs.take k) (xs.drop k)
  rw [List.take_append_drop, List.length_take, Nat.min_eq_left hk] at this
  exact this

theorem nv_set (B : Nat) : ∀ (xs : List Nat) (k v : Nat) (hk : k < xs.length), nv B (xs.set k v) + B ^ k * xs[k] = nv B xs + B ^ k * v
  | x :: r, 0, v, _ => by simp [nv]; omega
  | x :: r, k + 1, v, hk => by
    have h1 := nv_set B r k v (by simpa using hk)
    have h2 := congrArg (B * ·) h1
    simp only [Nat.mul_add] at h2
    simp only [List.set_cons_succ, nv, List.getElem_cons_succ, Nat.pow_succ', Nat.mul_assoc]
    omega

theorem nv_getD {B : Nat} (hB : 0 < B) : ∀ {xs : List Nat} (_ : Sm B xs) (k : Nat), xs.getD k 0 = nv B xs / B ^ k % B
  | [], _, k => by simp [nv]
  | x :: r, h, 0 => by
    have h1 : x < B := h x (by simp)
    simp [nv, Nat.mod_eq_of_lt h1]
  | x :: r, h, k + 1 => by
    have h1 : x < B := h x (by simp)
    have h2 := nv_getD hB (xs := r) (fun y hy => h y (by simp [hy])) k
    rw [List.getD_cons_succ, h2, Nat.pow_succ', ← Nat.div_div_eq_div_mul]
    congr 2
    simp only [nv]
    rw [Nat.add_mul_div_left _ _ hB, Nat.div_eq_of_lt h1, Nat.zero_add]

/-- The limbs of a number, none on top a nought. -/
def dg (B v : Nat) : List Nat := if _h : v = 0 ∨ B < 2 then [] else v % B :: dg B (v / B)
termination_by v
decreasing_by exact Nat.div_lt_self (by omega) (by omega)

theorem dg_zero (B : Nat) : dg B 0 = [] := by rw [dg]; simp
theorem dg_pos {B v : Nat} (hB : 2 ≤ B) (hv : v ≠ 0) : dg B v = v % B :: dg B (v / B) := by rw [dg, dif_neg (by omega)]

theorem dg_nv {B : Nat} (hB : 2 ≤ B) (v : Nat) : nv B (dg B v) = v := by
  induction v using Nat.strongRecOn with
  | _ v ih =>
    by_cases hv : v = 0
    · subst hv; rw [dg_zero]; rfl
    · rw [dg_pos hB hv, nv, ih _ (Nat.div_lt_self (by omega) (by omega))]
      exact Nat.mod_add_div v B

theorem dg_sm {B : Nat} (hB : 2 ≤ B) (v : Nat) : Sm B (dg B v) := by
  induction v using Nat.strongRecOn with
  | _ v ih =>
    by_cases hv : v = 0
    · subst hv; rw [dg_zero]; exact Sm.nil B
    · rw [dg_pos hB hv]
      intro x hx
      rcases List.mem_cons.1 hx with rfl | h
      · exact Nat.mod_lt _ (by omega)
      · exact ih _ (Nat.div_lt_self (by omega) (by omega)) x h

theorem dg_len {B : Nat} (hB : 2 ≤ B) : ∀ (n v : Nat), v < B ^ n → (dg B v).length ≤ n
  | 0, v, h => by
    have : v = 0 := by simp at h; exact h
    subst this; rw [dg_zero]; exact Nat.le_refl _
  | n + 1, v, h => by
    by_cases hv : v = 0
    · subst hv; rw [dg_zero]; exact Nat.zero_le _
    · rw [dg_pos hB hv, List.length_cons]
      have := dg_len hB n (v / B) (by rw [Nat.pow_succ'] at h; exact Nat.div_lt_of_lt_mul h)
      omega

theorem dg_low {B : Nat} (hB : 2 ≤ B) : ∀ (n v : Nat), (dg B v).length = n + 1 → B ^ n ≤ v
  | 0, v, h => by
    have : v ≠ 0 := fun e => by subst e; rw [dg_zero] at h; simp at h
    simp; omega
  | n + 1, v, h => by
    have hv : v ≠ 0 := fun e => by subst e; rw [dg_zero] at h; simp at h
    rw [dg_pos hB hv, List.length_cons] at h
    have h1 := dg_low hB n (v / B) (by omega)
    rw [Nat.pow_succ]
    calc B ^ n * B ≤ v / B * B := Nat.mul_le_mul_right _ h1
      _ ≤ v := Nat.div_mul_le_self v B

theorem dg_up {B : Nat} (hB : 2 ≤ B) (v : Nat) : v < B ^ (dg B v).length := by
  have := nv_lt (by omega) (dg_sm hB v)
  rwa [dg_nv hB] at this

/-- How many limbs stand below the noughts on top. -/
def tl : List Nat → Nat
  | [] => 0
  | x :: r => if tl r = 0 then (if x = 0 then 0 else 1) else tl r + 1

theorem tl_le : ∀ xs : List Nat, tl xs ≤ xs.length
  | [] => Nat.le_refl _
  | x :: r => by
    have := tl_le r
    simp only [tl, List.length_cons]
    (repeat' split) <;> omega

theorem tl_of : ∀ (xs : List Nat) (m : Nat), m ≤ xs.length → (∀ j, m ≤ j → xs.getD j 0 = 0) → (m = 0 ∨ xs.getD (m - 1) 0 ≠ 0) → tl xs = m
  | [], m, h, _, _ => by simp at h; subst h; rfl
  | x :: r, 0, _, h0, _ => by
    have h1 := tl_of r 0 (Nat.zero_le _) (fun j _ => by have := h0 (j + 1) (by omega); rwa [List.getD_cons_succ] at this) (.inl rfl)
    have h2 := h0 0 (by omega)
    rw [List.getD_cons_zero] at h2
    simp [tl, h1, h2]
  | x :: r, 1, _, h0, h1 => by
    have h2 := tl_of r 0 (Nat.zero_le _) (fun j _ => by have := h0 (j + 1) (by omega); rwa [List.getD_cons_succ] at this) (.inl rfl)
    have h3 : x ≠ 0 := by rcases h1 with h | h
                          · omega
                          · simpa using h
    simp [tl, h2, h3]
  | x :: r, m + 2, hm, h0, h1 => by
    have h3 : r.getD (m + 1 - 1) 0 ≠ 0 := by
      rcases h1 with h | h
      · omega
      · simpa using h
    have h2 := tl_of r (m + 1) (by simpa using hm) (fun j hj => by have := h0 (j + 1) (by omega); rwa [List.getD_cons_succ] at this) (.inr h3)
    simp [tl, h2]

theorem tl_nv : ∀ (B : Nat) (xs : List Nat), 0 < B → (nv B xs = 0 ↔ tl xs = 0)
  | _, [], _ => by simp [nv, tl]
  | B, x :: r, hB => by
    have ih := tl_nv B r hB
    have hb : B * nv B r = 0 ↔ nv B r = 0 := by rw [Nat.mul_eq_zero]; omega
    simp only [nv, tl]
    by_cases h : tl r = 0
    · have h1 := hb.2 (ih.2 h)
      simp only [h, if_true]
      split <;> omega
    · have h1 : B * nv B r ≠ 0 := fun e => h (ih.1 (hb.1 e))
      simp only [h, if_false]
      omega

theorem trim_dg {B : Nat} (hB : 2 ≤ B) : ∀ {xs : List Nat}, Sm B xs → xs.take (tl xs) = dg B (nv B xs)
  | [], _ => by simp [nv, dg_zero]
  | x :: r, h => by
    have h1 : x < B := h x (by simp)
    have ih := trim_dg hB (xs := r) fun y hy => h y (by simp [hy])
    have hz := tl_nv B r (by omega)
    by_cases hv : nv B (x :: r) = 0
    · rw [hv, dg_zero, (tl_nv B (x :: r) (by omega)).1 hv, List.take_zero]
    · rw [dg_pos hB hv]
      have e1 : nv B (x :: r) % B = x := by simp [nv, Nat.mod_eq_of_lt h1]
      have e2 : nv B (x :: r) / B = nv B r := by
        simp only [nv]
        rw [Nat.add_mul_div_left _ _ (by omega), Nat.div_eq_of_lt h1, Nat.zero_add]
      rw [e1, e2, ← ih]
      simp only [tl]
      by_cases h2 : tl r = 0
      · have h3 : x ≠ 0 := fun e => hv (by simp [nv, e, hz.2 h2])
        simp [h2, h3]
      · simp [h2]

theorem dg_length {B : Nat} (hB : 2 ≤ B) {xs : List Nat} (h : Sm B xs) : (dg B (nv B xs)).length = tl xs := by
  rw [← trim_dg hB h, List.length_take, Nat.min_eq_left (tl_le xs)]

theorem tl_dg {B : Nat} (hB : 2 ≤ B) (v : Nat) : tl (dg B v) = (dg B v).length := by
  have := dg_length hB (dg_sm hB v)
  rw [dg_nv hB] at this
  exact this.symm

theorem nv_trim {B : Nat} (hB : 2 ≤ B) {xs : List Nat} (h : Sm B xs) : nv B (xs.take (tl xs)) = nv B xs := by rw [trim_dg hB h, dg_nv hB]

theorem dg_inj {B : Nat} (hB : 2 ≤ B) {u v : Nat} (h : dg B u = dg B v) : u = v := by
  have := congrArg (nv B) h
  rwa [dg_nv hB, dg_nv hB] at this

theorem dg_mono {B : Nat} (hB : 2 ≤ B) {u v : Nat} (h : (dg B u).length < (dg B v).length) : u < v := by
  obtain ⟨n, hn⟩ : ∃ n, (dg B v).length = n + 1 := ⟨(dg B v).length - 1, by omega⟩
  have h1 := dg_low hB n v hn
  have h2 := dg_up hB u
  have h3 : B ^ (dg B u).length ≤ B ^ n := Nat.pow_le_pow_right (by omega) (by omega)
  omega

end Go.Proofs.Ytefpjjonmoofpaa
