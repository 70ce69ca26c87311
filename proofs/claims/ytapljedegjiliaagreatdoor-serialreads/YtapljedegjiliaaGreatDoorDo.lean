import Derived.Test.YtapljedegjiliaaGreatDoorDn
namespace Go.Proofs.YtapljedegjiliaaGreatDoor
open Go.RowKit Go.Shelf

def sV (l : List UInt8) : Value := .string ⟨l.toArray⟩
/-- An own list of texts. -/
def OS (B : Nat) (w : World) (v : Value) (l : List (List UInt8)) : Prop := w.ownsRow B 9 1 v l.length (l.map sV)
theorem infoSt : (Tryz.prog.info? 9).map (fun i => (i.zero, i.size, i.bytes)) = some (some (.string ⟨#[]⟩), 1, 16) := by kernel_rfl
theorem os_sr {B : Nat} {w : World} {v : Value} {l : List (List UInt8)} (h : OS B w v l) : SR w v l := by
  by_cases h0 : l = []
  · subst h0
    rcases h.2 with ⟨hv, _⟩ | ⟨g, cap, cur, hv, _⟩
    · exact ⟨none, 0, hv, .inl rfl⟩
    · exact ⟨_, cap, hv, .inl rfl⟩
  · obtain ⟨g, cap, hv, _, _⟩ := World.ownsRow.form h (List.length_pos_iff.2 h0)
    refine ⟨_, cap, hv, .inr ⟨g, 0, rfl, fun j hj => ?_⟩⟩
    subst hv
    rw [Nat.zero_add]
    refine (own_cell h j _ ?_).1
    rw [List.getElem?_map, List.getElem?_eq_getElem hj]
    simp [List.getD_eq_getElem?_getD, hj, sV]
theorem append_s {wr : World} {ops : Array Oper} {rest : List Oper} {o : Oper} {a : Act} {Q : Exit → Act → World → Prop} (hgd : o.guard = none) (s x : Operand)
    (ho : o.op = .call { callee := .builtin .append, args := #[s, x], argTypes := #[22, 22] })
    (B : Nat) (v : Value) (l : List (List UInt8)) (y : List UInt8) (hs : a.eval s = v) (h : OS B wr v l) (bn : Nat) (hbn : bn = wr.heap.size) (hx : a.eval x = .slice (some ⟨bn, 0, none⟩) 1 1) (hl : l.length ≤ 1000000000) (hB : B ≤ wr.heap.size)
    (k : ∀ g cap w', OS B w' (.slice (some ⟨g, 0, none⟩) (l.length + 1) cap) (l ++ [y]) → (wr.alloc (.cells #[.string ⟨y.toArray⟩] 9)).grownBy w' v.ownBlock → (v.ownBlock = some g ∨ wr.heap.size ≤ g) → wpList Tryz.prog ops Q rest (a.put o.dst (.slice (some ⟨g, 0, none⟩) (l.length + 1) cap)) w') : wpList Tryz.prog ops Q (o :: rest) a (wr.alloc (.cells #[.string ⟨y.toArray⟩] 9)) := by
  subst hbn
  obtain ⟨i, hi, hz, hsize, hby⟩ := info_parts infoSt
  have hBl : Bl 9 (wr.alloc (.cells #[.string ⟨y.toArray⟩] 9)) wr.heap.size [sV y] := alloc_bl _ _ _
  have h1 : OS B (wr.alloc (.cells #[.string ⟨y.toArray⟩] 9)) v l := World.ownsRow.alloc h _
  have hsz := alloc_size wr (.cells #[.string ⟨y.toArray⟩] 9)
  refine wpList_append_lies _ hgd s x 22 ho B 9 i (.string ⟨#[]⟩) 1 16 Tryz.underlying22 hi hz hsize hby rfl (by decide) v l.length (l.map sV) hs h1 ⟨wr.heap.size, 0, none⟩ 1 1 [sV y] hx rfl ?_ (by intro u hu; simp at hu; subst hu; rfl) (by decide) (by unfold maxLen; omega) (by omega) (by omega) _ rfl ?_
  · intro j u hu
    obtain ⟨hlt, e⟩ := List.getElem?_eq_some_iff.1 hu
    rw [Addr.add_mid, Nat.zero_add, ← e]
    exact hBl.cell j hlt
  · intro g cap w' h2 h3 h4 _
    refine k g cap w' ?_ h3 ?_
    · unfold OS
      rw [List.length_append, List.map_append]
      exact h2
    · rcases h4 with h4 | h4
      · exact .inl h4
      · exact .inr (by omega)
theorem append_ns {wr : World} {ops : Array Oper} {rest : List Oper} {o : Oper} {a : Act} {Q : Exit → Act → World → Prop} (hgd : o.guard = none) (s x : Operand)
    (ho : o.op = .call { callee := .builtin .append, args := #[s, x], argTypes := #[29, 29] })
    (B B2 : Nat) (v : Value) (l M : List Nd) (g2 c2 : Nat) (hs : a.eval s = v) (h : NO B wr v l) (h2 : NO B2 wr (.slice (some ⟨g2, 0, none⟩) M.length c2) M) (hx : a.eval x = .slice (some ⟨g2, 0, none⟩) M.length c2) (hM : 0 < M.length) (hl : l.length + M.length ≤ 1000000000) (hB : B ≤ wr.heap.size)
    (k : ∀ g cap w', NO B w' (.slice (some ⟨g, 0, none⟩) (l.length + M.length) cap) (l ++ M) → wr.grownBy w' v.ownBlock → (v.ownBlock = some g ∨ g = wr.heap.size) → wpList Tryz.prog ops Q rest (a.put o.dst (.slice (some ⟨g, 0, none⟩) (l.length + M.length) cap)) w') : wpList Tryz.prog ops Q (o :: rest) a wr := by
  obtain ⟨i, hi, hz, hsize, hby⟩ := info_parts infoN
  refine wpList_append_lies _ hgd s x 29 ho B 38 i (.agg #[.int .i64 0, .string ⟨#[]⟩, .string ⟨#[]⟩, .bool false, .int .i64 0, .int .i64 0]) 6 64 Tryz.underlying29 hi hz hsize hby rfl (by decide) v l.length (nCs l) hs h ⟨g2, 0, none⟩ M.length c2 (nCs M) hx (nCs_length M) ?_ (nCs_oneC _) hM (by unfold maxLen; omega) (by omega) (by omega) _ rfl ?_
  · intro j u hu
    rw [Addr.add_mid, Nat.zero_add]
    exact (own_cell h2 j u hu).1
  · intro g cap w' h2 h3 h4 _
    refine k g cap w' ?_ h3 h4
    unfold NO
    rw [List.length_append, nCs_append]
    exact h2

/-- The rows' own node; their items, one after another. -/
def hdN (ob : Bool) (k : Nat) : Nd := ⟨if ob then 7 else 6, [], [], false, 0, k⟩
def clB (ob : Bool) : Int := if ob then 125 else 93
def rowN (t : List UInt8) (ob : Bool) (k : Nat) (rest : List Nd) (next : List (List UInt8) → Nat → List Nd → Nat → Lx (List Nd)) : Lx (List (List UInt8) × List Nd) → Lx (List Nd)
  | .bad c b => .bad c b
  | .ok y q =>
    if bat t (skp t blanksS q) = clB ob then .ok (hdN ob (k + 1) :: (rest ++ y.2)) (skp t blanksS q + 1) else
    if bat t (skp t blanksS q) = 44 then next y.1 (k + 1) (rest ++ y.2) (skp t blanksS (skp t blanksS q + 1)) else .bad 31 (skp t blanksS q)
def rowL (V : Nat → Lx (List Nd)) (t : List UInt8) (ob : Bool) : Nat → List (List UInt8) → Nat → List Nd → Nat → Lx (List Nd)
  | 0, _, _, _, _ => .bad 0 0
  | n + 1, ns, k, rest, p => rowN t ob k rest (rowL V t ob n) (itD V t ob ns p)
def rowD (V : Nat → Lx (List Nd)) (t : List UInt8) (ob : Bool) (p : Nat) : Lx (List Nd) :=
  if bat t (skp t blanksS (p + 1)) = clB ob then .ok [hdN ob 0] (skp t blanksS (p + 1) + 1) else rowL V t ob (t.length + 1) [] 0 [] (skp t blanksS (p + 1))
theorem quo_gt {t : List UInt8} : ∀ (n p : Nat) (acc S : List UInt8) (q : Nat), quoF t n p acc = .ok S q → p < q
  | 0, p, acc, S, q, h => by cases h
  | n + 1, p, acc, S, q, h => by
    unfold quoF at h
    split at h
    · cases h; omega
    · split at h
      · cases h
      · rename_i e
        have h1 := (chrF_ok e).1
        have h2 := quo_gt n _ _ S q h
        omega
/-- What is told of the readings of values. -/
structure VOk (t : List UInt8) (V : Nat → Lx (List Nd)) : Prop where
  ok : ∀ q L q2, V q = .ok L q2 → q < q2 ∧ q2 ≤ t.length ∧ 0 < L.length ∧ L.length ≤ q2 - q
  bad : ∀ q c b, V q = .bad c b → c ≠ 0
theorem keyed_len (S : List UInt8) (L : List Nd) : (keyed S L).length = L.length := by cases L <;> rfl
theorem it_ok {t : List UInt8} {V : Nat → Lx (List Nd)} (hV : VOk t V) {ob : Bool} {ns : List (List UInt8)} {p q : Nat} {y : List (List UInt8) × List Nd} (h : itD V t ob ns p = .ok y q) : p < q ∧ q ≤ t.length ∧ 0 < y.2.length ∧ y.2.length ≤ q - p := by
  unfold itD at h
  split at h
  · cases e : V p with
    | ok L q2 =>
      rw [e] at h
      cases h
      have := hV.ok p L q e
      exact this
    | bad c b => rw [e] at h; cases h
  · split at h
    · cases h
    · cases e : quoF t (t.length + 1) (p + 1) [] with
      | bad c b => rw [e] at h; cases h
      | ok S q1 =>
        rw [e] at h
        have hq := quo_gt _ _ _ _ _ e
        unfold itQ at h
        simp only at h
        split at h
        · cases h
        · split at h
          · cases h
          · have g1 := skp_ge t blanksS q1
            have g2 := skp_ge t blanksS (skp t blanksS q1 + 1)
            cases e2 : V (skp t blanksS (skp t blanksS q1 + 1)) with
            | bad c b => rw [e2] at h; cases h
            | ok L q2 =>
              rw [e2] at h
              cases h
              have := hV.ok _ L q e2
              refine ⟨by omega, this.2.1, ?_, ?_⟩
              · show 0 < (keyed S L).length
                rw [keyed_len]; exact this.2.2.1
              · show (keyed S L).length ≤ _
                rw [keyed_len]; omega
theorem it_bad {t : List UInt8} {V : Nat → Lx (List Nd)} (hV : VOk t V) {ob : Bool} {ns : List (List UInt8)} {p c b : Nat} (_hp : p ≤ t.length) (h : itD V t ob ns p = .bad c b) : c ≠ 0 := by
  unfold itD at h
  split at h
  · cases e : V p with
    | ok L q2 => rw [e] at h; cases h
    | bad c1 b1 => rw [e] at h; cases h; exact hV.bad p c b e
  · split at h
    · cases h; decide
    · rename_i h34
      have hlt : p < t.length := bat_lt (by simp only [ne_eq, Decidable.not_not] at h34; rw [h34]; decide)
      cases e : quoF t (t.length + 1) (p + 1) [] with
      | bad c1 b1 => rw [e] at h; cases h; exact quo_nz _ _ _ _ _ hlt (by omega) e
      | ok S q1 =>
        rw [e] at h
        unfold itQ at h
        simp only at h
        split at h
        · cases h; decide
        · split at h
          · cases h; decide
          · cases e2 : V (skp t blanksS (skp t blanksS q1 + 1)) with
            | bad c1 b1 => rw [e2] at h; cases h; exact hV.bad _ c b e2
            | ok L q2 => rw [e2] at h; cases h
end Go.Proofs.YtapljedegjiliaaGreatDoor
