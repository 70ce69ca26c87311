import Derived.Test.YtgkbbcoagnilgabDoorCutW
import Derived.Test.YtgkbbcoagnilgabDoorValM
namespace Go.Proofs.YtgkbbcoagnilgabDoor
open Go.RowKit

theorem dotB_txt (m : Bool) (g f : List UInt8) (hg : allD g) : dotB (txt m g f) = f := by
  have key : ∀ c, isD c = true → c ≠ 46 := fun c h e => by rw [e] at h; exact absurd h (by decide)
  have hgd : ∀ (g : List UInt8) (r : List UInt8), allD g → (g ++ r).dropWhile (fun c => !(c == 46)) = r.dropWhile (fun c => !(c == 46)) := by
    intro g r hg
    induction g with
    | nil => rfl
    | cons a t ih =>
      obtain ⟨_, ht⟩ := allD_cons hg
      rw [List.cons_append, List.dropWhile_cons]
      have := key a (hg a (List.mem_cons_self ..))
      rw [if_pos (by simp [this])]
      exact ih ht
  have e : (txt m g f).dropWhile (fun c => !(c == 46)) = (if f = [] then [] else 46 :: f : List UInt8).dropWhile (fun c => !(c == 46)) := by
    unfold txt
    cases m
    · rw [if_neg (by decide), List.nil_append]; exact hgd g _ hg
    · rw [if_pos rfl, List.singleton_append, List.dropWhile_cons, if_pos (by decide)]; exact hgd g _ hg
  unfold dotB
  rw [e]
  by_cases hf : f = []
  · rw [if_pos hf, hf]; rfl
  · rw [if_neg hf, List.dropWhile_cons, if_neg (by simp)]; rfl

theorem txt_len (m : Bool) (g f : List UInt8) : (txt m g f).length ≤ g.length + f.length + 2 := by
  unfold txt
  cases m <;> by_cases h : f = [] <;> simp [h] <;> omega

theorem dotA_txt (g f : List UInt8) (hg : allD g) : dotA (txt false g f) = g := by
  have key : ∀ c, isD c = true → c ≠ 46 := fun c h e => by rw [e] at h; exact absurd h (by decide)
  have hgd : ∀ (g : List UInt8) (r : List UInt8), allD g → (g ++ r).takeWhile (fun c => !(c == 46)) = g ++ r.takeWhile (fun c => !(c == 46)) := by
    intro g r hg
    induction g with
    | nil => rfl
    | cons a t ih =>
      obtain ⟨_, ht⟩ := allD_cons hg
      rw [List.cons_append, List.takeWhile_cons]
      have := key a (hg a (List.mem_cons_self ..))
      rw [if_pos (by simp [this]), ih ht]
      rfl
  unfold dotA txt
  rw [if_neg (by decide), List.nil_append, hgd g _ hg]
  by_cases hf : f = []
  · rw [if_pos hf]; simp
  · rw [if_neg hf, List.takeWhile_cons, if_neg (by simp)]; simp

theorem dz_set (z : List UInt8) (p i : Nat) (v : UInt8) (h : i ≠ p) : dz (z.set p v) i = dz z i := by
  unfold dz
  rw [List.length_set, List.getD_eq_getElem?_getD, List.getElem?_set_ne (fun e => h e.symm), ← List.getD_eq_getElem?_getD]

theorem dz_self (z : List UInt8) (p : Nat) (v : UInt8) (h : p < z.length) : dz (z.set p v) p = v.toNat - 48 := by
  unfold dz
  rw [List.length_set, if_pos h, List.getD_eq_getElem?_getD, List.getElem?_set_self h, Option.getD_some]

theorem sn_set (z : List UInt8) (n p : Nat) (v : UInt8) : ∀ m, p + m < n → sn (z.set p v) n m = sn z n m
  | 0, _ => rfl
  | m + 1, h => by
    show (if m < n then dz (z.set p v) (n - 1 - m) else 0) * 10 ^ m + sn (z.set p v) n m = (if m < n then dz z (n - 1 - m) else 0) * 10 ^ m + sn z n m
    rw [sn_set z n p v m (by omega), dz_set z p (n - 1 - m) v (by omega)]

/-- What holds of the digits' sum, the last m places reckoned. -/
structure SumI (L M ds : List UInt8) (n m c : Nat) : Prop where
  val : sn ds n m + c * 10 ^ m = sn L n m + sn M n m
  dig : ∀ i (_ : i < ds.length), n ≤ i + m → isD ds[i] = true
  len : ds.length = n
  one : c ≤ 1

theorem SumI.start (L M : List UInt8) (n : Nat) : SumI L M (List.replicate n 0) n 0 0 :=
  ⟨by simp [sn], fun i hi h => by rw [List.length_replicate] at hi; omega, List.length_replicate .., by omega⟩

theorem SumI.step {L M ds : List UInt8} {n m c a b : Nat} (h : SumI L M ds n m c) (hm : m < n) (ha : a = dz L (n - 1 - m)) (hb : b = dz M (n - 1 - m)) (ha9 : a ≤ 9) (hb9 : b ≤ 9) :
    SumI L M (ds.set (n - 1 - m) (UInt8.ofNat (48 + (c + a + b) % 10))) n (m + 1) ((c + a + b) / 10) := by
  have hr : (c + a + b) % 10 < 10 := Nat.mod_lt _ (by decide)
  have ht := ofNat_toNat _ hr
  have hone := h.one
  refine ⟨?_, fun i hi hn => ?_, by rw [List.length_set]; exact h.len, by omega⟩
  · have e : ∀ z : List UInt8, sn z n (m + 1) = dz z (n - 1 - m) * 10 ^ m + sn z n m := fun z => by
      show (if m < n then _ else 0) * 10 ^ m + _ = _
      rw [if_pos hm]
    rw [e, e, e, dz_self ds _ _ (by rw [h.len]; omega), ht, sn_set ds n (n - 1 - m) _ m (by omega), ← ha, ← hb]
    have hv := h.val
    have e2 : (c + a + b) / 10 * 10 ^ (m + 1) = (c + a + b) / 10 * 10 * 10 ^ m := by rw [Nat.pow_succ, Nat.mul_comm (10 ^ m), Nat.mul_assoc]
    have e3 : (c + a + b) * 10 ^ m = (48 + (c + a + b) % 10 - 48) * 10 ^ m + (c + a + b) / 10 * 10 * 10 ^ m := by
      rw [← Nat.add_mul]
      congr 1
      omega
    rw [Nat.add_mul, Nat.add_mul] at e3
    omega
  · by_cases hp : i = n - 1 - m
    · subst hp
      rw [List.getElem_set_self]
      unfold isD
      rw [ht]
      simp
      omega
    · rw [List.length_set] at hi
      rw [List.getElem_set_ne (fun e => hp e.symm)]
      exact h.dig i hi (by omega)

theorem SumI.done {L M ds : List UInt8} {n c : Nat} (h : SumI L M ds n n c) (hL : L.length = n) (hM : M.length = n) : num ds + c * 10 ^ n = num L + num M ∧ allD ds := by
  have e : ∀ z : List UInt8, z.length = n → sn z n n = num z := fun z hz => by
    have := sn_all z n 0
    rw [Nat.add_zero] at this
    rw [this]
    unfold num
    rw [hz]
  have hv := h.val
  rw [e ds h.len, e L hL, e M hM] at hv
  refine ⟨hv, fun x hx => ?_⟩
  obtain ⟨i, hi, rfl⟩ := List.getElem_of_mem hx
  exact h.dig i hi (by have := h.len; omega)

/-- Noughts at the head taken away, but for the last sign. -/
def tz : List UInt8 → List UInt8
  | [] => []
  | a :: t => if t ≠ [] ∧ a = 48 then tz t else a :: t

theorem tz_keep (s : List UInt8) (h : ¬ (1 < s.length ∧ s.head? = some 48)) : tz s = s := by
  cases s with
  | nil => rfl
  | cons a t =>
    show (if t ≠ [] ∧ a = 48 then tz t else a :: t) = a :: t
    rw [if_neg]
    rintro ⟨h1, h2⟩
    apply h
    subst h2
    cases t with
    | nil => exact absurd rfl h1
    | cons b t => simp

theorem tz_step (a : UInt8) (t : List UInt8) (h1 : t ≠ []) (h2 : a = 48) : tz (a :: t) = tz t := by
  show (if t ≠ [] ∧ a = 48 then tz t else a :: t) = tz t
  rw [if_pos ⟨h1, h2⟩]

theorem tz_good (s : List UInt8) (hs : allD s) (h0 : s ≠ []) : allD (tz s) ∧ tz s ≠ [] ∧ badW (tz s) = false ∧ (tz s).length ≤ s.length ∧ ∀ F, num (tz s ++ F) = num (s ++ F) := by
  induction s with
  | nil => exact absurd rfl h0
  | cons a t ih =>
    by_cases h : t ≠ [] ∧ a = 48
    · rw [tz_step a t h.1 h.2]
      obtain ⟨_, ht⟩ := allD_cons hs
      obtain ⟨i1, i2, i3, i4, i5⟩ := ih ht h.1
      refine ⟨i1, i2, i3, by simp; omega, fun F => ?_⟩
      rw [i5, List.cons_append]
      have e : num (a :: (t ++ F)) = (a.toNat - 48) * 10 ^ (t ++ F).length + num (t ++ F) := by
        unfold num
        rw [List.length_cons, dn_cons]
      rw [e, h.2]
      simp
    · have e : tz (a :: t) = a :: t := by
        show (if t ≠ [] ∧ a = 48 then tz t else a :: t) = a :: t
        rw [if_neg h]
      rw [e]
      refine ⟨hs, by simp, ?_, Nat.le_refl _, fun _ => rfl⟩
      unfold badW
      cases t with
      | nil => simp
      | cons b t =>
        have : a ≠ 48 := fun e => h ⟨by simp, e⟩
        simp [this]

/-- The digits of a sum. -/
theorem sum_num (g f g' f' : List UInt8) (i j i' j' : Nat) (n c : Nat) (ds : List UInt8) (h : SumI (List.replicate i 48 ++ g ++ (f ++ List.replicate j 48)) (List.replicate i' 48 ++ g' ++ (f' ++ List.replicate j' 48)) ds n n c)
    (hn : (List.replicate i (48 : UInt8) ++ g ++ (f ++ List.replicate j 48)).length = n) (hn' : (List.replicate i' (48 : UInt8) ++ g' ++ (f' ++ List.replicate j' 48)).length = n) :
    num ds + c * 10 ^ n = num (g ++ f) * 10 ^ j + num (g' ++ f') * 10 ^ j' ∧ allD ds := by
  have z : ∀ k, num (List.replicate k (48 : UInt8)) = 0 := fun k => num_noughts _ (fun c hc => (List.mem_replicate.1 hc).2)
  have e : ∀ (i j : Nat) (g f : List UInt8), num (List.replicate i 48 ++ g ++ (f ++ List.replicate j 48)) = num (g ++ f) * 10 ^ j := by
    intro i j g f
    rw [List.append_assoc, num_app, z, Nat.zero_mul, Nat.zero_add, ← List.append_assoc, num_app, z, Nat.add_zero, List.length_replicate]
  have := h.done hn hn'
  rw [e, e] at this
  exact this

end Go.Proofs.YtgkbbcoagnilgabDoor
