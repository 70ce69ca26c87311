import Derived.Test.YtidmjojlhcgedaaRt
namespace Go.Proofs.Ytidmjojlhcgedaa
open Go.RowKit Go.Maps
set_option maxRecDepth 100000

/-- Of what was taken, each name's last. -/
def lastOnes : List En → List En
  | [] => []
  | p :: r => if hasF p.1 r then lastOnes r else p :: lastOnes r
theorem livF_snoc (c : Int) (L : List En) (p : En) : livF c (L ++ [p]) = livF c L ++ livF c [p] := List.filter_append ..
theorem hasF_snoc (k : List UInt8) (L : List En) (p : En) : hasF k (L ++ [p]) = (hasF k L || p.1 == k) := by simp [hasF]
theorem hasF_last (k : List UInt8) : ∀ L : List En, hasF k (lastOnes L) = hasF k L
  | [] => rfl
  | p :: r => by
    have ih := hasF_last k r
    unfold lastOnes
    split
    · rename_i h
      rw [ih]
      unfold hasF at h ⊢
      rw [List.any_cons]
      by_cases hk : p.1 == k
      · rw [eq_of_beq hk] at h; rw [h]; simp
      · simp [hk]
    · unfold hasF at ih ⊢
      rw [List.any_cons, List.any_cons, ih]
theorem last_snoc (p : En) : ∀ L : List En, lastOnes (L ++ [p]) = (lastOnes L).filter (fun q => !(q.1 == p.1)) ++ [p]
  | [] => rfl
  | q :: r => by
    have ih := last_snoc p r
    rw [List.cons_append]
    unfold lastOnes
    rw [hasF_snoc, ih]
    by_cases h1 : hasF q.1 r
    · simp [h1]
    · by_cases h2 : p.1 == q.1
      · have e := eq_of_beq h2
        simp [h1, e]
      · have h3 : (q.1 == p.1) = false := by
          simp only [beq_eq_false_iff_ne, ne_eq]
          intro e
          exact h2 (by simp [e])
        simp [h1, h2, h3]
theorem liv_liv {c d : Int} (h : c ≤ d) (L : List En) : livF d (livF c L) = livF d L := by
  unfold livF
  rw [List.filter_filter]
  congr 1
  funext p
  by_cases h1 : d ≤ p.2
  · have : c ≤ p.2 := by omega
    simp [h1, this]
  · simp [h1]
theorem hasF_perm {k : List UInt8} {L M : List En} (h : L.Perm M) : hasF k L = hasF k M := by
  unfold hasF
  exact h.any_eq
theorem ins_perm (k : List UInt8) (e : Int) : ∀ L : List En, (insF k e L).Perm ((k, e) :: L)
  | [] => .refl _
  | p :: r => by
    unfold insF
    split
    · exact .refl _
    · exact ((ins_perm k e r).cons p).trans (.swap ..)

/-- The book and what was taken. -/
structure Tk (b : Bk) (L : List En) : Prop where
  perm : b.L.Perm (livF b.clk (lastOnes L))
  new : b.has = false → L = []
theorem Tk.liv {b : Bk} {L : List En} (h : Tk b L) {c : Int} (hc : b.clk ≤ c ∨ L = []) : (livF c b.L).Perm (livF c (lastOnes L)) := by
  rcases hc with hc | hc
  · rw [← liv_liv hc (lastOnes L)]
    exact h.perm.filter _
  · have := h.perm
    rw [hc] at this ⊢
    have e : b.L = [] := List.perm_nil.1 this
    rw [e]
    exact .refl _
theorem Tk.move {b : Bk} {L : List En} (h : Tk b L) {c : Int} (hc : b.clk ≤ c ∨ L = []) : Tk ⟨true, c, livF c b.L⟩ L := ⟨h.liv hc, fun e => by cases e⟩
theorem Tk.put {b : Bk} {L : List En} (h : Tk b L) {c e : Int} {k : List UInt8} (hc : b.clk ≤ c ∨ L = []) (hk : hasF k (livF c b.L) = false) (he : c ≤ e) : Tk ⟨true, c, insF k e (livF c b.L)⟩ (L ++ [(k, e)]) := by
  refine ⟨?_, fun e => by cases e⟩
  have hp := h.liv hc
  have hk2 : hasF k (livF c (lastOnes L)) = false := by rw [← hasF_perm hp]; exact hk
  have e1 : livF c ((lastOnes L).filter (fun q => !(q.1 == k))) = livF c (lastOnes L) := by
    unfold livF at hk2 ⊢
    rw [List.filter_filter]
    have : ∀ q ∈ (lastOnes L), (decide (c ≤ q.2) && !(q.1 == k)) = decide (c ≤ q.2) := by
      intro q hq
      by_cases h1 : c ≤ q.2
      · have h2 : (q.1 == k) = false := by
          unfold hasF at hk2
          rw [List.any_eq_false] at hk2
          have := hk2 q (List.mem_filter.2 ⟨hq, by simpa using h1⟩)
          simpa using this
        simp [h1, h2]
      · simp [h1]
    exact List.filter_congr this
  show (insF k e (livF c b.L)).Perm (livF c (lastOnes (L ++ [(k, e)])))
  rw [last_snoc, livF_snoc, e1]
  have e2 : livF c [((k, e) : En)] = [(k, e)] := by simp [livF, he]
  rw [e2]
  exact (ins_perm k e _).trans ((hp.cons _).trans (List.perm_append_singleton _ _).symm)

/-- What the law's list says of a name. -/
def liveF (l : List En) (k : List UInt8) (c : Int) : Bool := match l.reverse.find? (fun p => p.1 == k) with | some p => decide (c ≤ p.2) | none => false
theorem liveF_snoc (l : List En) (p : En) (k : List UInt8) (c : Int) : liveF (l ++ [p]) k c = if p.1 == k then decide (c ≤ p.2) else liveF l k c := by
  unfold liveF
  rw [List.reverse_append, List.reverse_singleton, List.singleton_append, List.find?_cons]
  by_cases h : p.1 == k
  · simp [h]
  · simp [h]
theorem live_has (k : List UInt8) (c : Int) (l : List En) : liveF l k c = hasF k (livF c (lastOnes l)) := by
  have key : ∀ n : Nat, ∀ l : List En, l.length = n → liveF l k c = hasF k (livF c (lastOnes l)) := by
    intro n
    induction n with
    | zero =>
      intro l hl
      rw [List.eq_nil_of_length_eq_zero hl]
      rfl
    | succ n ih =>
      intro l hl
      have hne : l ≠ [] := fun e => by rw [e] at hl; simp at hl
      obtain ⟨r, p, rfl⟩ : ∃ r p, l = r ++ [p] := ⟨l.dropLast, l.getLast hne, (List.dropLast_concat_getLast hne).symm⟩
      have hr := ih r (by simpa using hl)
      rw [liveF_snoc, last_snoc, livF_snoc, hr]
      unfold hasF livF
      rw [List.any_append]
      by_cases h : p.1 == k
      · have e := eq_of_beq h
        have h0 : (((lastOnes r).filter (fun q => !(q.1 == p.1))).filter (fun p => decide (c ≤ p.2))).any (fun q => q.1 == k) = false := by
          rw [List.any_eq_false]
          intro q hq
          have := (List.mem_filter.1 (List.mem_filter.1 hq).1).2
          rw [e] at this
          simpa using this
        rw [if_pos h, h0]
        by_cases h1 : c ≤ p.2
        · simp [h1, e]
        · simp [h1]
      · rw [if_neg h]
        have h2 : ([p].filter (fun p => decide (c ≤ p.2))).any (fun q => q.1 == k) = false := by
          rw [List.any_eq_false]
          intro q hq
          have := (List.mem_filter.1 hq).1
          simp at this
          rw [this]
          exact h
        rw [h2, Bool.or_false, List.any_filter, List.any_filter, List.any_filter]
        apply Bool.eq_iff_iff.2
        simp only [List.any_eq_true]
        constructor
        · rintro ⟨q, hq, hv⟩
          refine ⟨q, hq, ?_⟩
          simp only [Bool.and_eq_true] at hv ⊢
          refine ⟨?_, hv⟩
          have e := eq_of_beq hv.2
          simp only [Bool.not_eq_true', beq_eq_false_iff_ne, ne_eq]
          intro e2
          exact h (by rw [← e2, e]; simp)
        · rintro ⟨q, hq, hv⟩
          simp only [Bool.and_eq_true] at hv
          exact ⟨q, hq, by simp [hv.2]⟩
  exact key _ l rfl

end Go.Proofs.Ytidmjojlhcgedaa
