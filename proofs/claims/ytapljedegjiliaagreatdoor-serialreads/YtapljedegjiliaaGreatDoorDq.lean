import Derived.Test.YtapljedegjiliaaGreatDoorDp
namespace Go.Proofs.YtapljedegjiliaaGreatDoor
open Go.RowKit Go.Shelf

/-- A value of the document's, so many brackets deep at most. -/
def vF (t : List UInt8) : Nat → Nat → Lx (List Nd)
  | 0, p => .bad 31 p
  | f + 1, p => valD (fun ob => rowD (vF t f) t ob p) t (32 - f) p

theorem rowL_ok {t : List UInt8} {V : Nat → Lx (List Nd)} (hV : VOk t V) {ob : Bool} {p0 : Nat} : ∀ (n : Nat) (ns : List (List UInt8)) (k : Nat) (rest : List Nd) (p : Nat) (L : List Nd) (q : Nat), p0 + 1 + rest.length ≤ p → rowL V t ob n ns k rest p = .ok L q → p0 < q ∧ q ≤ t.length ∧ 0 < L.length ∧ L.length ≤ q - p0
  | 0, _, _, _, _, _, _, _, h => by unfold rowL at h; cases h
  | n + 1, ns, k, rest, p, L, q, hp, h => by
    unfold rowL at h
    cases e : itD V t ob ns p with
    | bad c b => rw [e] at h; unfold rowN at h; cases h
    | ok y q1 =>
      have hy := it_ok hV e
      rw [e] at h
      unfold rowN at h
      simp only at h
      have g1 := skp_ge t blanksS q1
      split at h
      · rename_i hc
        have hz : skp t blanksS q1 < t.length := bat_lt (by rw [hc]; unfold clB; split <;> decide)
        cases h
        simp only [List.length_cons, List.length_append]
        omega
      · split at h
        · rename_i h44
          have g2 := skp_ge t blanksS (skp t blanksS q1 + 1)
          exact rowL_ok hV n _ _ _ _ L q (by rw [List.length_append]; omega) h
        · cases h
theorem rowL_bad {t : List UInt8} {V : Nat → Lx (List Nd)} (hV : VOk t V) {ob : Bool} : ∀ (n : Nat) (ns : List (List UInt8)) (k : Nat) (rest : List Nd) (p c b : Nat), p ≤ t.length → t.length < n + p → rowL V t ob n ns k rest p = .bad c b → c ≠ 0
  | 0, _, _, _, p, _, _, hp, hn, h => by omega
  | n + 1, ns, k, rest, p, c, b, hp, hn, h => by
    unfold rowL at h
    cases e : itD V t ob ns p with
    | bad c1 b1 => rw [e] at h; unfold rowN at h; cases h; exact it_bad hV hp e
    | ok y q1 =>
      have hy := it_ok hV e
      rw [e] at h
      unfold rowN at h
      simp only at h
      have g1 := skp_ge t blanksS q1
      split at h
      · cases h
      · split at h
        · rename_i h44
          have hz : skp t blanksS q1 < t.length := bat_lt (by rw [h44]; decide)
          have g2 := skp_ge t blanksS (skp t blanksS q1 + 1)
          exact rowL_bad hV n _ _ _ (skp t blanksS (skp t blanksS q1 + 1)) c b (skp_le _ _ _ hz) (by omega) h
        · cases h; decide
theorem rowD_ok {t : List UInt8} {V : Nat → Lx (List Nd)} (hV : VOk t V) {ob : Bool} {p : Nat} {L : List Nd} {q : Nat} (h : rowD V t ob p = .ok L q) : p < q ∧ q ≤ t.length ∧ 0 < L.length ∧ L.length ≤ q - p := by
  unfold rowD at h
  have g := skp_ge t blanksS (p + 1)
  split at h
  · rename_i hc
    have hz : skp t blanksS (p + 1) < t.length := bat_lt (by rw [hc]; unfold clB; split <;> decide)
    cases h
    simp only [List.length_cons, List.length_nil]
    omega
  · exact rowL_ok hV _ _ _ _ _ L q (by simp only [List.length_nil]; omega) h
theorem rowD_bad {t : List UInt8} {V : Nat → Lx (List Nd)} (hV : VOk t V) {ob : Bool} {p c b : Nat} (hp : p < t.length) (h : rowD V t ob p = .bad c b) : c ≠ 0 := by
  unfold rowD at h
  have g := skp_ge t blanksS (p + 1)
  split at h
  · cases h
  · exact rowL_bad hV _ _ _ _ _ c b (skp_le _ _ _ hp) (by omega) h

theorem vF_ok (t : List UInt8) : ∀ f, VOk t (vF t f)
  | 0 => ⟨fun q L q2 h => (by unfold vF at h; cases h), fun q c b h => (by unfold vF at h; cases h; decide)⟩
  | f + 1 => by
    have ih := vF_ok t f
    refine ⟨fun p L q h => ?_, fun p c b h => ?_⟩
    · unfold vF valD at h
      split at h
      · split at h
        · cases h
        · exact rowD_ok ih h
      split at h
      · split at h
        · cases h
        · exact rowD_ok ih h
      split at h
      · cases e : quoF t (t.length + 1) (p + 1) [] with
        | bad c b => rw [e] at h; unfold qsG at h; cases h
        | ok S q1 =>
          rw [e] at h
          unfold qsG at h
          cases h
          have h1 := quo_gt _ _ _ _ _ e
          have h2 := quo_q _ _ _ _ _ e
          simp only [List.length_cons, List.length_nil]
          omega
      split at h
      · unfold nuF at h
        cases e : numL t p with
        | bad c b => rw [e] at h; unfold nuG at h; cases h
        | ok u q1 =>
          rw [e] at h
          unfold nuG at h
          cases h
          have h1 := numL_ok e
          simp only [List.length_cons, List.length_nil]
          omega
      have lit : ∀ (wd : List UInt8) (k : Int), 0 < wd.length → p ≤ t.length → ltF t wd k p = .ok L q → p < q ∧ q ≤ t.length ∧ 0 < L.length ∧ L.length ≤ q - p := fun wd k hw hp h => by
        unfold ltF at h
        cases e : litF t wd p with
        | bad c b => rw [e] at h; unfold ltG at h; cases h
        | ok u q1 =>
          rw [e] at h
          unfold ltG at h
          cases h
          have h1 := litF_ok _ _ _ _ hp e
          simp only [List.length_cons, List.length_nil]
          omega
      split at h
      · rename_i hc
        exact lit _ _ (by decide) (Nat.le_of_lt (bat_lt (by rw [hc]; decide))) h
      split at h
      · rename_i hc
        exact lit _ _ (by decide) (Nat.le_of_lt (bat_lt (by rw [hc]; decide))) h
      split at h
      · rename_i hc
        exact lit _ _ (by decide) (Nat.le_of_lt (bat_lt (by rw [hc]; decide))) h
      · cases h
    · unfold vF valD at h
      split at h
      · rename_i hc
        split at h
        · cases h; decide
        · exact rowD_bad ih (bat_lt (by rw [hc]; decide)) h
      split at h
      · rename_i hc
        split at h
        · cases h; decide
        · exact rowD_bad ih (bat_lt (by rw [hc]; decide)) h
      split at h
      · rename_i hc
        have hlt : p < t.length := bat_lt (by rw [hc]; decide)
        cases e : quoF t (t.length + 1) (p + 1) [] with
        | bad c1 b1 => rw [e] at h; unfold qsG at h; cases h; exact quo_nz _ _ _ _ _ hlt (by omega) e
        | ok S q1 => rw [e] at h; unfold qsG at h; cases h
      split at h
      · unfold nuF at h
        cases e : numL t p with
        | bad c1 b1 => rw [e] at h; unfold nuG at h; cases h; exact numL_nz e
        | ok u q1 => rw [e] at h; unfold nuG at h; cases h
      have lit : ∀ (wd : List UInt8) (k : Int), ltF t wd k p = .bad c b → c ≠ 0 := fun wd k h => by
        unfold ltF at h
        cases e : litF t wd p with
        | bad c1 b1 => rw [e] at h; unfold ltG at h; cases h; exact lit_nz _ _ _ _ e
        | ok u q1 => rw [e] at h; unfold ltG at h; cases h
      split at h
      · exact lit _ _ h
      split at h
      · exact lit _ _ h
      split at h
      · exact lit _ _ h
      · cases h; decide

/-- The document's value, whatever stands there. -/
theorem rvalue_any (t : List UInt8) (ht : t.length ≤ 1000000) : ∀ (f : Nat), f ≤ 32 → ∀ (p : Nat) (w : World), p ≤ t.length →
    Calls Tryz.prog 17 #[.string ⟨t.toArray⟩, .int .i64 p, .int .i64 ((32 - f : Nat) : Int)] w fun e w' => (∃ v, e = .returned v ∧ GotL (vF t (f + 1) p) v w.heap.size w') ∧ Below w.heap.size w w'
  | 0, _, p, w, hp => by
    have := rvalue_step t 32 p w (fun ob => rowD (vF t 0) t ob p) hp ht (Nat.le_refl _) (fun b wq h1 h2 => by omega)
    exact this
  | f + 1, hf, p, w, hp => by
    refine rvalue_step t (32 - (f + 1)) p w (fun ob => rowD (vF t (f + 1)) t ob p) hp ht (by omega) fun b wq h1 h2 => ?_
    have ih := rvalue_any t ht f (by omega)
    have h3 := rrow_any t (32 - f) p b wq (vF t (f + 1)) h1 ht (vF_ok t (f + 1)) fun q wq' hq => ih q wq' hq
    rw [show (((32 - (f + 1) : Nat) : Int) + 1) = ((32 - f : Nat) : Int) by omega]
    exact h3

/-- What the document's Parse answers. -/
def dpG (t : List UInt8) : Lx (List Nd) → List Nd × Nat × Nat
  | .bad c b => ([], c, b)
  | .ok L q => if skp t blanksS q < t.length then ([], 31, skp t blanksS q) else (L, 0, 0)
def dparseF (t : List UInt8) : List Nd × Nat × Nat := if 262144 < t.length then ([], 10, 0) else dpG t (vF t 33 (skp t blanksS 0))

end Go.Proofs.YtapljedegjiliaaGreatDoor
