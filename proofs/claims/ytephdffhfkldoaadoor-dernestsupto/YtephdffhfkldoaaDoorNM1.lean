import Derived.Test.YtephdffhfkldoaaDoorCutLaw
namespace Go.Proofs.YtephdffhfkldoaaDoor
open Go.RowKit

/-- The sequence of two texts. -/
def seq (a b : List UInt8) : List UInt8 := hd 48 (a.length + b.length) ++ (a ++ b)

theorem meas_seq (a b : List UInt8) (h : a.length + b.length ≤ 65000) : meas (seq a b) = some ((hd 48 (a.length + b.length)).length, (hd 48 (a.length + b.length)).length + (a.length + b.length)) ∧ inn (seq a b) (hd 48 (a.length + b.length)).length ((hd 48 (a.length + b.length)).length + (a.length + b.length)) = a ++ b ∧ (seq a b).getD 0 0 = 48 := by
  have hl : (a ++ b).length = a.length + b.length := List.length_append
  have h1 := meas_hd 48 (a ++ b) [] (by omega)
  have h2 := inn_mid (hd 48 (a ++ b).length) (a ++ b) []
  rw [List.append_nil] at h1 h2
  rw [hl] at h1 h2
  refine ⟨h1, h2, ?_⟩
  have := hd_head 48 (a.length + b.length) (a ++ b)
  exact this

theorem seq_length (a b : List UInt8) : (seq a b).length = (hd 48 (a.length + b.length)).length + (a.length + b.length) := by simp [seq]

theorem con48 : con (((48 : UInt8).toNat : Nat) : Int) = true := by decide
theorem sound48 : sound ⟨(((48 : UInt8).toNat : Nat) : Int), [], 0⟩ = true := by decide

/-- What the two answers say of the sequence's. -/
theorem parse_seq (a b : List UInt8) (h : a.length + b.length ≤ 65000) :
    (((parse a).2.1 = 11 → ((parse (seq a b)).2.1 = 11 ∧ (parse (seq a b)).2.2 ≤ (parse a).2.2 + (hd 48 (a.length + b.length)).length) ∨ (parse (seq a b)).2.1 = 80)) ∧
    ((parse a).2.1 = 0 → (parse b).2.1 = 0 → (parse (seq a b)).2.1 ≠ 0 → (parse (seq a b)).2.1 = 11) ∧
    ((parse a).2.1 = 0 → (parse b).2.1 = 0 → (parse (seq a b)).2.1 = 0 → (parse (seq a b)).1 = ⟨48, [], 2⟩ :: ((parse a).1 ++ (parse b).1)) := by
  obtain ⟨hm, hi, hg⟩ := meas_seq a b h
  have hlen := seq_length a b
  have hhl := hd_length 48 (a.length + b.length)
  have hls : (seq a b).length ≤ 65536 := by omega
  have hcs : con (((seq a b).getD 0 0).toNat : Int) = true := by rw [hg]; exact con48
  have hss : sound ⟨(((seq a b).getD 0 0).toNat : Int), [], 0⟩ = true := by rw [hg]; exact sound48
  -- the sequence's answer by what stands in it
  have hS : ∀ r, pk (pe 31) (a ++ b).length (a ++ b) = r → parse (seq a b) = (match r with | .error (p, c) => ([], c, (hd 48 (a.length + b.length)).length + p) | .ok (us, m) => (⟨48, [], m⟩ :: us, 0, 0)) := by
    intro r hr
    unfold parse
    rw [if_neg (by omega)]
    have hr2 : pk (pe 31) (inn (seq a b) (hd 48 (a.length + b.length)).length ((hd 48 (a.length + b.length)).length + (a.length + b.length))).length (inn (seq a b) (hd 48 (a.length + b.length)).length ((hd 48 (a.length + b.length)).length + (a.length + b.length))) = r := by rw [hi]; exact hr
    match r, hr2 with
    | .error (p, c), hr2 => rw [pe_con_err hm hcs hss hr2]
    | .ok (us, m), hr2 =>
      rw [pe_con_ok hm hcs hss hr2]
      simp only
      rw [if_neg (by omega), hg]
      rfl
  have hpa : pe 31 (a ++ b) = pe 31 a ∨ meas a = none := by
    generalize hq : meas a = q
    match q, hq with
    | none, _ => exact .inr rfl
    | some (x, y), hq => exact .inl (pe_append b hq (by omega) 31)
  have hla : a.length ≤ 65536 := by omega
  have hlb : b.length ≤ 65536 := by omega
  have hle := pe_le 31 a hla
  have hleb := pe_le 31 b hlb
  have hparse : ∀ (l : List UInt8), l.length ≤ 65536 → ∀ c, c ≠ 80 → c ≠ 0 → (parse l).2.1 = c → ∃ p, pe 32 l = .error (p, c) ∧ (parse l).2.2 = p := by
    intro l hl c hc hc0 he
    unfold parse at *
    rw [if_neg (by omega)] at *
    generalize hr : pe 32 l = r at *
    match r, hr with
    | .error (p, c'), hr => exact ⟨p, by simp only at he; rw [he], rfl⟩
    | .ok (ts, n), hr =>
      simp only at he
      split at he
      · exact absurd he.symm hc
      · exact absurd he.symm hc0
  have hne : a ≠ [] → (a ++ b).length = ((a ++ b).length - 1) + 1 := fun ha => by
    have := List.length_pos_iff.2 ha
    rw [List.length_append]; omega
  refine ⟨fun hA => ?_, fun hA hB hC => ?_, fun hA hB hC => ?_⟩
  · obtain ⟨p, hp, hp2⟩ := hparse a hla 11 (by decide) (by decide) hA
    have hma : meas a ≠ none := fun e => by rw [pe_none e] at hp; simp at hp
    have hna : a ≠ [] := fun e => by rw [e] at hma; exact hma rfl
    replace hpa := hpa.resolve_right hma
    obtain ⟨p', hp', hle'⟩ : ∃ p', pe 31 a = .error (p', 11) ∧ p' ≤ p := by
      rcases hle with hle | ⟨p', h1, h2, _⟩
      · exact ⟨p, by rw [hle]; exact hp, Nat.le_refl _⟩
      · exact ⟨p', h1, h2 p 11 hp⟩
    have hk : pk (pe 31) (a ++ b).length (a ++ b) = .error (p', 11) := by
      rw [hne hna, pk, if_neg (by simp [hna]), hpa, hp']
    have := hS _ hk
    simp only at this
    rw [this]
    exact .inl ⟨rfl, by show (hd 48 (a.length + b.length)).length + p' ≤ _; omega⟩
  all_goals
    obtain ⟨hEa, _, _, hpa32⟩ := parse_good hA
    obtain ⟨hEb, _, _, hpb32⟩ := parse_good hB
    have hma : meas a ≠ none := fun e => by rw [pe_none e] at hpa32; simp at hpa32
    have hmb : meas b ≠ none := fun e => by rw [pe_none e] at hpb32; simp at hpb32
    have hna : a ≠ [] := fun e => by rw [e] at hma; exact hma rfl
    have hnb : b ≠ [] := fun e => by rw [e] at hmb; exact hmb rfl
    replace hpa := hpa.resolve_right hma
    have hk : pk (pe 31) (a ++ b).length (a ++ b) = (match pe 31 a with | .error e => .error e | .ok (ts, n) => (match pk (pe 31) ((a ++ b).length - 1) ((a ++ b).drop n) with | .error (p, c) => .error (n + p, c) | .ok (us, m) => .ok (ts ++ us, m + 1))) := by
      conv => lhs; rw [hne hna]
      rw [pk, if_neg (by simp [hna]), hpa]
      rfl
    have hb1 : (a ++ b).length - 1 = ((a ++ b).length - 2) + 1 := by
      have h1 := List.length_pos_iff.2 hna
      have h2 := List.length_pos_iff.2 hnb
      rw [List.length_append]; omega
    have hb2 : (a ++ b).length - 2 = ((a ++ b).length - 2) := rfl
    have hend : ∀ k, pk (pe 31) k [] = .ok ([], 0) := fun k => by cases k <;> simp [pk]
    rcases hle with hle | ⟨p', h1, _, _⟩
    · rw [hle, hpa32] at hk
      simp only [List.drop_left] at hk
      rw [hb1, pk, if_neg hnb] at hk
      rcases hleb with hleb | ⟨p', h1, _, _⟩
      · rw [hleb, hpb32] at hk
        simp only [List.drop_length, hend] at hk
        have := hS _ hk
        simp only at this
        first
        | (rw [this] at hC; exact absurd rfl hC)
        | (rw [this]; simp)
      · rw [h1] at hk
        have := hS _ hk
        simp only at this
        first
        | (rw [this] at hC; exact absurd (show (11 : Int) = 0 from hC) (by decide))
        | (rw [this])
    · rw [h1] at hk
      have := hS _ hk
      simp only at this
      first
      | (rw [this] at hC; exact absurd (show (11 : Int) = 0 from hC) (by decide))
      | (rw [this])

end Go.Proofs.YtephdffhfkldoaaDoor
