import Derived.Test.YthlfboaidhgnlaaGreatDoorCa
namespace Go.Proofs.YthlfboaidhgnlaaGreatDoor
open Go.RowKit

theorem wm_whole {n : Nd} {d : Int} (h : wmF n d = true) (hw : n.whole = true) : n.kind = 4 := by
  unfold wmF at h
  split at h
  · rw [decide_eq_true_eq] at h; rw [h] at hw; cases hw
  · split at h
    · assumption
    · split at h
      · simp only [Bool.and_eq_true, decide_eq_true_eq] at h; rw [h.2] at hw; cases hw
      · split at h
        · simp only [Bool.and_eq_true, decide_eq_true_eq] at h; rw [h.2] at hw; cases hw
        · cases h
theorem sq_whole {v : List Nd} (h : Sq 0 [[]] v) {i : Nat} (hi : i < v.length) (hw : (v.getD i (nd0 0)).whole = true) : (v.getD i (nd0 0)).kind = 4 := by
  obtain ⟨d, n, ks, r, pre, post, hd, hv, hp, hwm, _⟩ := h.at i hi
  have hg : v.getD i (nd0 0) = n := by rw [hv, ← hp]; simp
  rw [hg] at hw ⊢
  exact wm_whole hwm hw

theorem memL_in (v : List Nd) (key : List UInt8) : ∀ L : List Nat, memL v key L = -1 ∨ ∃ k ∈ L, memL v key L = (k : Int) ∧ (v.getD k (nd0 0)).key = key
  | [] => .inl rfl
  | k :: r => by
    unfold memL
    split
    · rename_i h; exact .inr ⟨k, by simp, rfl, h⟩
    · rcases memL_in v key r with h | ⟨x, hx, h⟩
      · exact .inl h
      · exact .inr ⟨x, List.mem_cons_of_mem _ hx, h⟩
theorem memL_none (v : List Nd) (key : List UInt8) : ∀ L : List Nat, memL v key L = -1 → ∀ k ∈ L, (v.getD k (nd0 0)).key ≠ key
  | [], _ => by simp
  | k :: r, h => by
    unfold memL at h
    split at h
    · omega
    · rename_i hk
      intro x hx
      rcases List.mem_cons.1 hx with rfl | hx
      · exact hk
      · exact memL_none v key r h x hx
/-- The members of an object that was read. -/
theorem mem_at {v : List Nd} (h : Sq 0 [[]] v) (hl : v.length ≤ 262144) (h7 : (v.getD 0 (nd0 0)).kind = 7) {k : Nat} (hk : k ∈ kidsF v 0) : memF v 0 (v.getD k (nd0 0)).key = (k : Int) := by
  have hA := at_of h hl (i := 0) (all_of h hl).1
  obtain ⟨j, hj, e⟩ := List.getElem_of_mem hk
  have := hA.me h7 j hj
  have e2 : (kidsF v ((0 : Nat) : Int)).getD j 0 = k := by
    show (kidsF v 0).getD j 0 = k
    rw [List.getD_eq_getElem?_getD, List.getElem?_eq_getElem hj]
    exact e
  rw [e2] at this
  exact this
theorem mem_in (v : List Nd) (key : List UInt8) : memF v 0 key = -1 ∨ ∃ k ∈ kidsF v 0, memF v 0 key = (k : Int) ∧ (v.getD k (nd0 0)).key = key := by
  unfold memF
  split
  · exact memL_in v key _
  · exact .inl rfl
/-- All members fit just if each member that is asked for does. -/
theorem all_fit {v : List Nd} (h : Sq 0 [[]] v) (hl : v.length ≤ 262144) (h7 : (v.getD 0 (nd0 0)).kind = 7) :
    ((kidsF v 0).all (fitF v) = true) ↔ ∀ key, 0 ≤ memF v 0 key → fitF v (memF v 0 key).toNat = true := by
  rw [List.all_eq_true]
  constructor
  · intro ha key hm
    rcases mem_in v key with h1 | ⟨k, hk, e, _⟩
    · omega
    · rw [e, Int.toNat_natCast]; exact ha k hk
  · intro ha k hk
    have e := mem_at h hl h7 hk
    have := ha (v.getD k (nd0 0)).key (by rw [e]; omega)
    rwa [e, Int.toNat_natCast] at this

/-- Is the member that a text, a time, the audience wants there as it should be, or not at all? -/
def okT (v : List Nd) (k : List UInt8) : Bool := decide (memF v 0 k < 0) || decide ((v.getD (memF v 0 k).toNat (nd0 0)).kind = 5)
def okM (v : List Nd) (k : List UInt8) : Bool := decide (memF v 0 k < 0) || (decide ((v.getD (memF v 0 k).toNat (nd0 0)).kind = 4) && (v.getD (memF v 0 k).toNat (nd0 0)).whole)
def okA (v : List Nd) (k : List UInt8) : Bool := decide (memF v 0 k < 0) || decide ((v.getD (memF v 0 k).toNat (nd0 0)).kind = 5) || (decide ((v.getD (memF v 0 k).toNat (nd0 0)).kind = 6) && allT v (kidsF v (memF v 0 k)))
def okF (v : List Nd) : Bool := okT v kIss && okT v kSub && okT v kJti && okM v kExp && okM v kNbf && okM v kIat && okA v kAud

theorem fit_t {v : List Nd} {k : Nat} {key : List UInt8} (e : (v.getD k (nd0 0)).key = key) (hk : key = kIss ∨ key = kSub ∨ key = kJti) : fitF v k = decide ((v.getD k (nd0 0)).kind = 5) := by
  unfold fitF
  rw [e, if_neg (by rcases hk with rfl | rfl | rfl <;> decide), if_pos hk]
theorem fit_m {v : List Nd} {k : Nat} {key : List UInt8} (e : (v.getD k (nd0 0)).key = key) (hk : key = kExp ∨ key = kNbf ∨ key = kIat) : fitF v k = (v.getD k (nd0 0)).whole := by
  unfold fitF
  rw [e, if_neg (by rcases hk with rfl | rfl | rfl <;> decide), if_neg (by rcases hk with rfl | rfl | rfl <;> decide), if_pos hk]
theorem fit_a {v : List Nd} {k : Nat} (e : (v.getD k (nd0 0)).key = kAud) : fitF v k = (decide ((v.getD k (nd0 0)).kind = 5) || (decide ((v.getD k (nd0 0)).kind = 6) && allT v (kidsF v (k : Int)))) := by
  unfold fitF
  rw [e, if_pos rfl]
  by_cases h : (v.getD k (nd0 0)).kind = 6
  · rw [if_pos h, decide_eq_true h, h]; simp
  · rw [if_neg h, decide_eq_false h]; simp

theorem okT_iff {v : List Nd} {key : List UInt8} (hk : key = kIss ∨ key = kSub ∨ key = kJti) : okT v key = true ↔ (0 ≤ memF v 0 key → fitF v (memF v 0 key).toNat = true) := by
  rcases mem_in v key with h | ⟨k, _, e, ek⟩
  · unfold okT; simp [h]
  · unfold okT
    rw [e, Int.toNat_natCast, fit_t ek hk]
    simp
    omega
theorem okM_iff {v : List Nd} {key : List UInt8} (hv : Sq 0 [[]] v) (hk : key = kExp ∨ key = kNbf ∨ key = kIat) : okM v key = true ↔ (0 ≤ memF v 0 key → fitF v (memF v 0 key).toNat = true) := by
  rcases mem_in v key with h | ⟨k, hi, e, ek⟩
  · unfold okM; simp [h]
  · have h4 := sq_whole hv (kidsF_lt k hi)
    unfold okM
    rw [e, Int.toNat_natCast, fit_m ek hk]
    have h0 : ¬ ((k : Int) < 0) := by omega
    rw [decide_eq_false h0]
    cases hw : (v.getD k (nd0 0)).whole
    · rw [Bool.and_false]; simp
    · rw [decide_eq_true (h4 hw)]; simp
theorem okA_iff {v : List Nd} : okA v kAud = true ↔ (0 ≤ memF v 0 kAud → fitF v (memF v 0 kAud).toNat = true) := by
  rcases mem_in v kAud with h | ⟨k, hi, e, ek⟩
  · unfold okA; simp [h]
  · unfold okA
    rw [e, Int.toNat_natCast, fit_a ek]
    have h0 : ¬ ((k : Int) < 0) := by omega
    rw [decide_eq_false h0]
    simp
/-- What is asked by name is what is asked of all. -/
theorem ok_all {v : List Nd} (h : Sq 0 [[]] v) (hl : v.length ≤ 262144) (h7 : (v.getD 0 (nd0 0)).kind = 7) : okF v = (kidsF v 0).all (fitF v) := by
  rw [Bool.eq_iff_iff, all_fit h hl h7]
  unfold okF
  simp only [Bool.and_eq_true]
  rw [okT_iff (Or.inl rfl), okT_iff (Or.inr (Or.inl rfl)), okT_iff (Or.inr (Or.inr rfl)), okM_iff h (Or.inl rfl), okM_iff h (Or.inr (Or.inl rfl)), okM_iff h (Or.inr (Or.inr rfl)), okA_iff]
  constructor
  · rintro ⟨⟨⟨⟨⟨⟨a, b⟩, c⟩, d⟩, e⟩, f⟩, g⟩ key hm
    by_cases h1 : key = kIss
    · subst h1; exact a hm
    by_cases h2 : key = kSub
    · subst h2; exact b hm
    by_cases h3 : key = kJti
    · subst h3; exact c hm
    by_cases h4 : key = kExp
    · subst h4; exact d hm
    by_cases h5 : key = kNbf
    · subst h5; exact e hm
    by_cases h6 : key = kIat
    · subst h6; exact f hm
    by_cases h8 : key = kAud
    · subst h8; exact g hm
    rcases mem_in v key with hx | ⟨k, hi, ek, e2⟩
    · omega
    · rw [ek, Int.toNat_natCast]
      unfold fitF
      rw [e2, if_neg h8, if_neg (by rintro (h | h | h) <;> contradiction), if_neg (by rintro (h | h | h) <;> contradiction)]
  · intro hh
    exact ⟨⟨⟨⟨⟨⟨hh _, hh _⟩, hh _⟩, hh _⟩, hh _⟩, hh _⟩, hh _⟩

end Go.Proofs.YthlfboaidhgnlaaGreatDoor
