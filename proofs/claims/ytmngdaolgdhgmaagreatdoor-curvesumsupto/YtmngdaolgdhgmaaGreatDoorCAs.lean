import Derived.Test.YtmngdaolgdhgmaaGreatDoorCDa
import Derived.Test.YtmngdaolgdhgmaaGreatDoorCCp
namespace Go.Proofs.YtmngdaolgdhgmaaGreatDoor
open Go.RowKit

set_option maxRecDepth 100000

def ptX : Pt → Nat × Nat × Bool
  | .O => (0, 0, true)
  | .A x y => (x, y, false)
theorem ptX_of {A B : Nat} {j : Bool} {P : Pt} (h : ptO A B j = P) (hz : j = true → A = 0 ∧ B = 0) : ptX P = (A, B, j) := by
  subst h
  cases j with
  | true => obtain ⟨rfl, rfl⟩ := hz rfl; rfl
  | false => rfl
/-- A point and a code that the program answers, its numbers new and apart. -/
def Pq (w w' : World) (e : Ending) (A B : Nat) (j : Bool) (z : Int) : Prop := ∃ x y, e = .returned (.tuple #[.agg #[x, y, .bool j], .int .i64 z]) ∧ Mk w' w.heap.size x A 384 ∧ Mk w' w.heap.size y B 384 ∧ Apt x y ∧ Below w.heap.size w w'
def Dq (w w' : World) (e : Ending) (A B : Nat) (j : Bool) (z : Int) : Prop := ∃ x y, e = .returned (.tuple #[.agg #[x, y, .bool j], .int .i64 z]) ∧ Mk w' w.heap.size x A 384 ∧ Mk w' w.heap.size y B 384 ∧ Below w.heap.size w w'
abbrev Ans4 := Nat × Nat × Bool × Int
theorem Pq.bad {w w' : World} {e : Ending} (h : e = .returned (.tuple #[.agg #[.slice none 0 0, .slice none 0 0, .bool false], .int .i64 93]) ∧ Below w.heap.size w w') : Pq w w' e 0 0 false 93 := ⟨_, _, h.1, Mk.none _ _ _, Mk.none _ _ _, (fun g e => by cases e), h.2⟩
theorem Dq.bad {w w' : World} {e : Ending} (h : e = .returned (.tuple #[.agg #[.slice none 0 0, .slice none 0 0, .bool false], .int .i64 93]) ∧ Below w.heap.size w w') : Dq w w' e 0 0 false 93 := ⟨_, _, h.1, Mk.none _ _ _, Mk.none _ _ _, h.2⟩
theorem Pq.pa {w w' : World} {e : Ending} {P : Pt} (h : ∃ r, e = .returned (.tuple #[r, .int .i64 0]) ∧ Pa w w' r P) : Pq w w' e (ptX P).1 (ptX P).2.1 (ptX P).2.2 0 := by
  obtain ⟨r, rfl, hr⟩ := h
  cases P with
  | O => obtain ⟨rfl, hB⟩ := hr; exact ⟨_, _, rfl, Mk.none _ _ _, Mk.none _ _ _, (fun g e => by cases e), hB⟩
  | A a c => obtain ⟨⟨x, y, rfl, m1, m2, ma⟩, hB⟩ := hr; exact ⟨_, _, rfl, m1, m2, (fun g e1 e2 => ma g e2 e1), hB⟩
theorem Dq.aq {w w' : World} {e : Ending} {P : Pt} (h : Aq w w' e P) : Dq w w' e (ptX P).1 (ptX P).2.1 (ptX P).2.2 0 := by
  obtain ⟨a, b, j, A, B, rfl, m1, m2, hp, hz, hB⟩ := h
  rw [ptX_of hp hz]
  exact ⟨_, _, rfl, m1, m2, hB⟩
noncomputable def ngV (p b A B : Nat) (inf : Bool) : Ans4 := if onB p b A B inf = true then (A, fS p 0 B, inf, 0) else (0, 0, false, 93)
noncomputable def adV (p b A B : Nat) (inf : Bool) (C D : Nat) (jnf : Bool) : Ans4 := if onB p b A B inf = true ∧ onB p b C D jnf = true then ((ptX (sm p (ptO A B inf) (ptO C D jnf))).1, (ptX (sm p (ptO A B inf) (ptO C D jnf))).2.1, (ptX (sm p (ptO A B inf) (ptO C D jnf))).2.2, 0) else (0, 0, false, 93)
/-- What both sides answer of points. -/
structure As (c : Int) (NG : Nat → Nat → Bool → Ans4) (AD : Nat → Nat → Bool → Nat → Nat → Bool → Ans4) : Prop where
  pneg : ∀ (x y : Value) (A B : Nat) (inf : Bool) (w : World), Nu w x A → Nu w y B → Calls Tryz.prog 22 #[.int .i64 c, .agg #[x, y, .bool inf]] w fun e w' => Pq w w' e (NG A B inf).1 (NG A B inf).2.1 (NG A B inf).2.2.1 (NG A B inf).2.2.2
  dneg : ∀ (x y : Value) (A B : Nat) (inf : Bool) (w : World), Nu w x A → Nu w y B → Calls Tryz.prog 24 #[.int .i64 c, .agg #[x, y, .bool inf]] w fun e w' => Dq w w' e (NG A B inf).1 (NG A B inf).2.1 (NG A B inf).2.2.1 (NG A B inf).2.2.2
  padd : ∀ (x y u v : Value) (A B C D : Nat) (inf jnf : Bool) (w : World), Nu w x A → Nu w y B → Nu w u C → Nu w v D → Calls Tryz.prog 23 #[.int .i64 c, .agg #[x, y, .bool inf], .agg #[u, v, .bool jnf]] w fun e w' => Pq w w' e (AD A B inf C D jnf).1 (AD A B inf C D jnf).2.1 (AD A B inf C D jnf).2.2.1 (AD A B inf C D jnf).2.2.2
  dadd : ∀ (x y u v : Value) (A B C D : Nat) (inf jnf : Bool) (w : World), Nu w x A → Nu w y B → Nu w u C → Nu w v D → Calls Tryz.prog 25 #[.int .i64 c, .agg #[x, y, .bool inf], .agg #[u, v, .bool jnf]] w fun e w' => Dq w w' e (AD A B inf C D jnf).1 (AD A B inf C D jnf).2.1 (AD A B inf C D jnf).2.2.1 (AD A B inf C D jnf).2.2.2
/-- Sum's contract. -/
def SumOk (c : Int) (p b : Nat) : Prop := ∀ (x y u v : Value) (X Y U V : Nat) (inf jnf : Bool) (w : World) (β : Nat), β ≤ w.heap.size → Mk w β x X 384 → Mk w β y Y 384 → Mk w β u U 384 → Mk w β v V 384 → (onP p b (ptO X Y inf) ∧ (inf = true → X = 0 ∧ Y = 0)) → (onP p b (ptO U V jnf) ∧ (jnf = true → U = 0 ∧ V = 0)) → Calls Tryz.prog 56 #[.int .i64 c, .agg #[x, y, .bool inf], .agg #[u, v, .bool jnf]] w fun e w' => Sq w w' β e (sm p (ptO X Y inf) (ptO U V jnf))
theorem As.kv {c s : Int} {p b n gx gy : Nat} (hk : Kv c p b n gx gy s) (HS : SumOk c p b) : As c (ngV p b) (adV p b) where
  pneg x y A B inf w hx hy := by
    unfold ngV
    by_cases ho : onB p b A B inf = true
    · rw [if_pos ho]
      refine (neg_ap hk x y A B inf w hx hy ho).mono ?_
      rintro e w' ⟨u, v, rfl, m1, m2, ma, hB⟩
      exact ⟨u, v, rfl, m1, m2, ma, hB⟩
    · rw [if_neg ho]
      exact (neg_bad hk x y A B inf w hx hy (by simpa using ho)).mono fun _ _ h => Pq.bad h
  dneg x y A B inf w hx hy := by
    unfold ngV
    by_cases ho : onB p b A B inf = true
    · rw [if_pos ho]
      cases inf with
      | true => exact (negq_true hk x y A B w hx hy ho).mono fun _ _ ⟨u, v, h1, m1, m2, hB⟩ => ⟨u, v, h1, m1, m2, hB⟩
      | false => exact (negq_false hk x y A B w hx hy ho).mono fun _ _ ⟨u, v, h1, m1, m2, hB⟩ => ⟨u, v, h1, m1, m2, hB⟩
    · rw [if_neg ho]
      have ho' : onB p b A B inf = false := by simpa using ho
      exact (negq_bad c x y A B inf w hx hy (fun x y w h1 h2 => ho' ▸ onq hk x y A B w h1 h2 inf)).mono fun _ _ h => Dq.bad h
  padd x y u v A B C D inf jnf w hx hy hu hv := by
    unfold adV
    by_cases o1 : onB p b A B inf = true
    · by_cases o2 : onB p b C D jnf = true
      · rw [if_pos ⟨o1, o2⟩]
        exact (add_ok hk x y u v A B C D inf jnf w hx hy hu hv o1 o2).mono fun _ _ h => Pq.pa h
      · rw [if_neg (fun h => o2 h.2)]
        exact (add_bad2 hk x y u v A B C D inf jnf w hx hy hu hv o1 (by simpa using o2)).mono fun _ _ h => Pq.bad h
    · rw [if_neg (fun h => o1 h.1)]
      exact (add_bad1 hk x y u v A B C D inf jnf w hx hy hu hv (by simpa using o1)).mono fun _ _ h => Pq.bad h
  dadd x y u v A B C D inf jnf w hx hy hu hv := by
    unfold adV
    by_cases o1 : onB p b A B inf = true
    · by_cases o2 : onB p b C D jnf = true
      · rw [if_pos ⟨o1, o2⟩]
        exact (dadd_ok hk HS x y u v A B C D inf jnf w hx hy hu hv o1 o2).mono fun _ _ h => Dq.aq h
      · rw [if_neg (fun h => o2 h.2)]
        have o2' : onB p b C D jnf = false := by simpa using o2
        exact (dadd_bad2 c x y u v A B C D inf jnf w hx hy hu hv (fun x y w h1 h2 => o1 ▸ onq hk x y A B w h1 h2 inf) (fun x y w h1 h2 => o2' ▸ onq hk x y C D w h1 h2 jnf)).mono fun _ _ h => Dq.bad h
    · rw [if_neg (fun h => o1 h.1)]
      have o1' : onB p b A B inf = false := by simpa using o1
      exact (dadd_bad1 c x y u v A B C D inf jnf w hx hy hu hv (fun x y w h1 h2 => o1' ▸ onq hk x y A B w h1 h2 inf)).mono fun _ _ h => Dq.bad h
theorem As.none (c : Int) (h1 : c ≠ 1) (h2 : c ≠ 2) : As c (fun _ _ _ => (0, 0, false, 93)) (fun _ _ _ _ _ _ => (0, 0, false, 93)) where
  pneg x y _ _ inf w hx hy := (neg_none c h1 h2 x y inf w (Nu.sl3 hx) (Nu.sl3 hy)).mono fun _ _ h => Pq.bad h
  dneg x y A B inf w hx hy := (negq_bad c x y A B inf w hx hy (fun x y w q1 q2 => onn c h1 h2 x y A B w q1 q2 inf)).mono fun _ _ h => Dq.bad h
  padd x y u v _ _ _ _ inf jnf w hx hy hu hv := (add_none c h1 h2 x y u v inf jnf w (Nu.sl3 hx) (Nu.sl3 hy) (Nu.sl3 hu) (Nu.sl3 hv)).mono fun _ _ h => Pq.bad h
  dadd x y u v A B C D inf jnf w hx hy hu hv := (dadd_bad1 c x y u v A B C D inf jnf w hx hy hu hv (fun x y w q1 q2 => onn c h1 h2 x y A B w q1 q2 inf)).mono fun _ _ h => Dq.bad h
theorem ov_sm {n : Nat} {us : List Nat} (h : Sm Bs us) : Sm Bs (ov n us) := fun y hy => by
  unfold ov at hy
  obtain ⟨i, _, rfl⟩ := List.mem_map.1 hy
  by_cases hi : i < us.length
  · rw [List.getD_eq_getElem?_getD, List.getElem?_eq_getElem hi]; exact h _ (List.getElem_mem hi)
  · rw [getD_none _ _ (by omega)]; exact Bs_pos
end Go.Proofs.YtmngdaolgdhgmaaGreatDoor
