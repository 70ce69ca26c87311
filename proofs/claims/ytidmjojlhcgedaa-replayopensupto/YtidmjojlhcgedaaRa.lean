import Derived.WalkKit
import Derived.Sort.KeysCollected
import Derived.Maps.Ext
namespace Go.Proofs.Ytidmjojlhcgedaa

/-- A name and its end. -/
abbrev En := List UInt8 × Int

/-! ### the order of names -/
theorem bb_irrefl : ∀ a : List UInt8, bytesBefore a a = false
  | [] => rfl
  | c :: r => by simp [bytesBefore, bb_irrefl r]
theorem bb_trans : ∀ {a b c : List UInt8}, bytesBefore a b = true → bytesBefore b c = true → bytesBefore a c = true
  | [], [], _, h, _ => by simp [bytesBefore] at h
  | [], _ :: _, [], _, h => by simp [bytesBefore] at h
  | [], _ :: _, _ :: _, _, _ => rfl
  | _ :: _, [], _, h, _ => by simp [bytesBefore] at h
  | _ :: _, _ :: _, [], _, h => by simp [bytesBefore] at h
  | x :: a, y :: b, z :: c, h1, h2 => by
    simp only [bytesBefore, Bool.or_eq_true, Bool.and_eq_true, decide_eq_true_eq, beq_iff_eq] at h1 h2 ⊢
    rcases h1 with h1 | ⟨rfl, h1⟩
    · rcases h2 with h2 | ⟨rfl, _⟩
      · exact .inl (UInt8.lt_trans h1 h2)
      · exact .inl h1
    · rcases h2 with h2 | ⟨rfl, h2⟩
      · exact .inl h2
      · exact .inr ⟨rfl, bb_trans h1 h2⟩
theorem bb_total : ∀ {a b : List UInt8}, bytesBefore a b = false → a ≠ b → bytesBefore b a = true
  | [], [], _, h => absurd rfl h
  | [], _ :: _, h, _ => by simp [bytesBefore] at h
  | _ :: _, [], _, _ => rfl
  | x :: a, y :: b, h, hne => by
    simp only [bytesBefore, Bool.or_eq_false_iff, decide_eq_false_iff_not] at h
    simp only [bytesBefore, Bool.or_eq_true, Bool.and_eq_true, decide_eq_true_eq, beq_iff_eq]
    obtain ⟨h1, h2⟩ := h
    by_cases e : x = y
    · subst e
      simp at h2
      exact .inr ⟨rfl, bb_total h2 (fun e => hne (by rw [e]))⟩
    · refine .inl ?_
      rw [UInt8.lt_iff_toNat_lt] at h1 ⊢
      have : x.toNat ≠ y.toNat := fun h => e (UInt8.toNat_inj.1 h)
      omega
theorem bb_lt : ∀ {a b : List UInt8}, bytesBefore a b = true ↔ a < b
  | [], [] => by simp [bytesBefore]
  | [], _ :: _ => by simp [bytesBefore]
  | _ :: _, [] => by simp [bytesBefore]
  | x :: a, y :: b => by
    simp only [bytesBefore, Bool.or_eq_true, Bool.and_eq_true, decide_eq_true_eq, beq_iff_eq, List.cons_lt_cons_iff, bb_lt (a := a) (b := b)]
theorem bb_ne {a b : List UInt8} (h : bytesBefore a b = true) : a ≠ b := fun e => by rw [e, bb_irrefl] at h; cases h
theorem bb_asymm {a b : List UInt8} (h : bytesBefore a b = true) : bytesBefore b a = false := by
  cases h2 : bytesBefore b a
  · rfl
  · have := bb_trans h h2; rw [bb_irrefl] at this; cases this

/-- By rising names. -/
def Srt (L : List En) : Prop := L.Pairwise (fun p q => bytesBefore p.1 q.1 = true)

/-- The book's map as a datum. -/
def bkD (L : List En) : DataW Unit := .map (L.map fun p => (.string p.1, .lit (.int .i64 p.2)))

/-- The end of a name. -/
def endF (k : List UInt8) (L : List En) : Option Int := (L.find? (fun p => p.1 == k)).map (·.2)
def hasF (k : List UInt8) (L : List En) : Bool := L.any (fun p => p.1 == k)
/-- What lives on at that clock. -/
def livF (c : Int) (L : List En) : List En := L.filter (fun p => decide (c ≤ p.2))
/-- A name more. -/
def insF (k : List UInt8) (e : Int) : List En → List En
  | [] => [(k, e)]
  | p :: r => if bytesBefore k p.1 then (k, e) :: p :: r else p :: insF k e r

theorem any_map_key (k : List UInt8) (L : List En) : Maps.has (bkD L) (.string k) = hasF k L := by
  unfold Maps.has bkD hasF
  simp only [List.any_map]
  congr 1

theorem size_bkD (L : List En) : Maps.size (bkD L) = L.length := by simp [Maps.size, bkD]

theorem keys_bkD (L : List En) : strKeys (bkD L) = L.map (·.1) := by
  unfold strKeys bkD
  simp only [List.map_map]
  rfl

theorem at_bkD (k : List UInt8) (z : DataW Unit) (L : List En) : (bkD L).atKey (.string k) z = match endF k L with | some e => .lit (.int .i64 e) | none => z := by
  unfold bkD endF DataW.atKey
  simp only [List.find?_map]
  have : ((fun p : Lit × DataW Unit => p.1.sameKey (.string k)) ∘ fun p : En => (Lit.string p.1, DataW.lit (.int .i64 p.2))) = fun p : En => p.1 == k := by
    funext p; rfl
  rw [this]
  cases L.find? (fun p => p.1 == k) <;> rfl

theorem has_end (k : List UInt8) (L : List En) : hasF k L = (endF k L).isSome := by
  unfold hasF endF
  rw [Option.isSome_map, List.isSome_find?]

theorem insert_map (k : List UInt8) (e : Int) : ∀ L : List En, DataW.insert (H := Unit) (.string k, .lit (.int .i64 e)) (L.map fun p => (.string p.1, .lit (.int .i64 p.2))) = (insF k e L).map fun p => (.string p.1, .lit (.int .i64 p.2))
  | [] => rfl
  | p :: r => by
    unfold insF DataW.insert
    by_cases hb : bytesBefore k p.1 = true
    · rw [if_pos hb]; exact if_pos hb
    · rw [if_neg hb]
      exact (if_neg hb).trans (congrArg _ (insert_map k e r))

/-- A name that is not kept is put in. -/
theorem put_bkD {k : List UInt8} {e : Int} {L : List En} (h : hasF k L = false) : (bkD L).put (.string k) (.lit (.int .i64 e)) = bkD (insF k e L) := by
  unfold bkD DataW.put
  simp only
  congr 1
  rw [List.filter_eq_self.2 (fun p hp => ?_), insert_map]
  obtain ⟨q, hq, rfl⟩ := List.mem_map.1 hp
  have := (List.any_eq_false.1 h) q hq
  simpa [Lit.sameKey] using this

theorem del_bkD (k : List UInt8) (L : List En) : (bkD L).del (.string k) = bkD (L.filter fun p => !(p.1 == k)) := by
  unfold bkD DataW.del
  simp only [List.filter_map]
  congr 1

theorem mem_insF {k : List UInt8} {e : Int} : ∀ {L : List En} {p : En}, p ∈ insF k e L ↔ p = (k, e) ∨ p ∈ L
  | [], p => by simp [insF]
  | q :: r, p => by
    unfold insF
    split
    · simp
    · simp only [List.mem_cons, mem_insF (L := r)]
      constructor
      · rintro (h | h | h) <;> simp [h]
      · rintro (h | h | h) <;> simp [h]

theorem length_insF (k : List UInt8) (e : Int) : ∀ L : List En, (insF k e L).length = L.length + 1
  | [] => rfl
  | p :: r => by unfold insF; split <;> simp [length_insF k e r]

theorem Srt.ins {k : List UInt8} {e : Int} : ∀ {L : List En}, Srt L → hasF k L = false → Srt (insF k e L)
  | [], _, _ => by simp [insF, Srt]
  | p :: r, h, hk => by
    obtain ⟨h1, h2⟩ := List.pairwise_cons.1 h
    simp only [hasF, List.any_cons, Bool.or_eq_false_iff] at hk
    obtain ⟨k1, k2⟩ := hk
    unfold insF
    split
    · rename_i hb
      refine List.pairwise_cons.2 ⟨fun q hq => ?_, h⟩
      rcases List.mem_cons.1 hq with rfl | hq
      · exact hb
      · exact bb_trans hb (h1 q hq)
    · rename_i hb
      refine List.pairwise_cons.2 ⟨fun q hq => ?_, Srt.ins h2 k2⟩
      rcases mem_insF.1 hq with rfl | hq
      · exact bb_total (by simpa using hb) (fun e => by simp at e k1; exact k1 e.symm)
      · exact h1 q hq

theorem Srt.liv {L : List En} (h : Srt L) (c : Int) : Srt (livF c L) := h.filter _
theorem Srt.nodup {L : List En} (h : Srt L) : (L.map (·.1)).Nodup := by
  refine List.pairwise_map.2 (h.imp fun h => bb_ne h)
theorem Srt.uniq : ∀ {L : List En}, Srt L → ∀ {p q : En}, p ∈ L → q ∈ L → p.1 = q.1 → p = q
  | [], _, _, _, hp, _, _ => by simp at hp
  | x :: r, h, p, q, hp, hq, e => by
    obtain ⟨h1, h2⟩ := List.pairwise_cons.1 h
    rcases List.mem_cons.1 hp with e1 | hp
    · rcases List.mem_cons.1 hq with e2 | hq
      · rw [e1, e2]
      · exact absurd (e1 ▸ e) (bb_ne (h1 q hq))
    · rcases List.mem_cons.1 hq with e2 | hq
      · exact absurd (e2 ▸ e).symm (bb_ne (h1 p hp))
      · exact Srt.uniq h2 hp hq e

theorem endF_some {k : List UInt8} {e : Int} {L : List En} (h : Srt L) : endF k L = some e ↔ (k, e) ∈ L := by
  unfold endF
  constructor
  · intro hh
    obtain ⟨p, hp, he⟩ := Option.map_eq_some_iff.1 hh
    have h1 := List.find?_some hp
    have h2 := List.mem_of_find?_eq_some hp
    simp only [beq_iff_eq] at h1
    rw [← h1, ← he]; exact h2
  · intro hm
    have : (L.find? (fun p => p.1 == k)).isSome = true := List.find?_isSome.2 ⟨(k, e), hm, by simp⟩
    obtain ⟨p, hp⟩ := Option.isSome_iff_exists.1 this
    have h1 := List.find?_some hp
    have h2 := List.mem_of_find?_eq_some hp
    simp only [beq_iff_eq] at h1
    have := h.uniq h2 hm h1
    rw [hp, this]; rfl

theorem hasF_mem {k : List UInt8} {L : List En} : hasF k L = true ↔ ∃ e, (k, e) ∈ L := by
  unfold hasF
  rw [List.any_eq_true]
  constructor
  · rintro ⟨p, hp, hk⟩
    simp only [beq_iff_eq] at hk
    exact ⟨p.2, by rw [← hk]; exact hp⟩
  · rintro ⟨e, h⟩
    exact ⟨_, h, by simp⟩

/-- Two rising lists with the same members are one. -/
theorem srt_ext : ∀ {L M : List En}, Srt L → Srt M → (∀ p, p ∈ L ↔ p ∈ M) → L = M
  | [], [], _, _, _ => rfl
  | [], q :: s, _, _, h => by have := (h q).2 (by simp); simp at this
  | p :: r, [], _, _, h => by have := (h p).1 (by simp); simp at this
  | p :: r, q :: s, h1, h2, h => by
    obtain ⟨a1, a2⟩ := List.pairwise_cons.1 h1
    obtain ⟨b1, b2⟩ := List.pairwise_cons.1 h2
    have e : p = q := by
      rcases List.mem_cons.1 ((h p).1 (by simp)) with e | hp
      · exact e
      · rcases List.mem_cons.1 ((h q).2 (by simp)) with e | hq
        · exact e.symm
        · have := bb_trans (a1 q hq) (b1 p hp)
          rw [bb_irrefl] at this; cases this
    subst e
    rw [srt_ext a2 b2 (fun x => ⟨fun hx => ?_, fun hx => ?_⟩)]
    · rcases List.mem_cons.1 ((h x).1 (by simp [hx])) with e | hx'
      · have := a1 x hx; rw [e, bb_irrefl] at this; cases this
      · exact hx'
    · rcases List.mem_cons.1 ((h x).2 (by simp [hx])) with e | hx'
      · have := b1 x hx; rw [e, bb_irrefl] at this; cases this
      · exact hx'

/-- What the library sorts is what stands in the book's order. -/
theorem sorted_keys {L : List En} (h : Srt L) {ss : List (List UInt8)} (hp : ss.Perm (strKeys (bkD L))) : ss.mergeSort leB = L.map (·.1) := by
  rw [keys_bkD] at hp
  rw [mergeSort_of_perm hp]
  refine List.mergeSort_of_pairwise ?_
  refine List.pairwise_map.2 (h.imp fun {p q} hb => ?_)
  simp only [leB, decide_eq_true_eq]
  exact List.le_of_lt (bb_lt.1 hb)

theorem mem_livF {c : Int} {L : List En} {p : En} : p ∈ livF c L ↔ p ∈ L ∧ c ≤ p.2 := by simp [livF]
theorem livF_le (c : Int) (L : List En) : (livF c L).length ≤ L.length := List.length_filter_le _ _
theorem livF_of {c : Int} {L : List En} (h : ∀ p ∈ L, c ≤ p.2) : livF c L = L := List.filter_eq_self.2 (fun p hp => by simpa using h p hp)
theorem hasF_ins {k j : List UInt8} {e : Int} {L : List En} : hasF j (insF k e L) = (j == k || hasF j L) := by
  rw [Bool.eq_iff_iff, Bool.or_eq_true, hasF_mem, hasF_mem]
  constructor
  · rintro ⟨x, hx⟩
    rcases mem_insF.1 hx with h | h
    · left; cases h; simp
    · exact .inr ⟨x, h⟩
  · rintro (h | ⟨x, hx⟩)
    · simp only [beq_iff_eq] at h; subst h
      exact ⟨e, mem_insF.2 (.inl rfl)⟩
    · exact ⟨x, mem_insF.2 (.inr hx)⟩

end Go.Proofs.Ytidmjojlhcgedaa
