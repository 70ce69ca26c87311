import Derived.Test.YtfchdjlkndlleaaDoorDs
namespace Go.Proofs.YtfchdjlkndlleaaDoor
open Go.RowKit

/-- The first node of what is read has no name. -/
theorem vF_key (T : List UInt8) : ∀ (f p : Nat) (L : List Nd) (q : Nat), vF T f p = .ok L q → keyed [] L = L
  | 0, p, L, q, h => by unfold vF at h; cases h
  | f + 1, p, L, q, h => by
    have rowk : ∀ (V : Nat → Lx (List Nd)) (ob : Bool) (L : List Nd) (q : Nat), rowD V T ob p = .ok L q → keyed [] L = L := by
      intro V ob L q h
      unfold rowD at h
      split at h
      · cases h; rfl
      · have loop : ∀ (n : Nat) (ns : List (List UInt8)) (k : Nat) (rest : List Nd) (y : Nat), rowL V T ob n ns k rest y = .ok L q → keyed [] L = L := by
          intro n
          induction n with
          | zero => intro ns k rest y h; unfold rowL at h; cases h
          | succ n ih =>
            intro ns k rest y h
            unfold rowL at h
            cases e : itD V T ob ns y with
            | bad c b => rw [e] at h; unfold rowN at h; cases h
            | ok Y q1 =>
              rw [e] at h
              unfold rowN at h
              simp only at h
              split at h
              · cases h; rfl
              · split at h
                · exact ih _ _ _ _ h
                · cases h
        exact loop _ _ _ _ _ h
    unfold vF valD at h
    split at h
    · split at h
      · cases h
      · exact rowk _ _ _ _ h
    split at h
    · split at h
      · cases h
      · exact rowk _ _ _ _ h
    split at h
    · cases e : quoF T (T.length + 1) (p + 1) [] with
      | bad c b => rw [e] at h; unfold qsG at h; cases h
      | ok S q1 => rw [e] at h; unfold qsG at h; cases h; rfl
    split at h
    · unfold nuF at h
      cases e : numL T p with
      | bad c b => rw [e] at h; unfold nuG at h; cases h
      | ok u q1 => rw [e] at h; unfold nuG at h; cases h; rfl
    have lit : ∀ (wd : List UInt8) (k : Int), ltF T wd k p = .ok L q → keyed [] L = L := fun wd k h => by
      unfold ltF at h
      cases e : litF T wd p with
      | bad c b => rw [e] at h; unfold ltG at h; cases h
      | ok u q1 => rw [e] at h; unfold ltG at h; cases h; rfl
    split at h
    · exact lit _ _ h
    split at h
    · exact lit _ _ h
    split at h
    · exact lit _ _ h
    · cases h

theorem kidUp_at (n : Nd) (r : List Nd) : ∀ A : List Nd, kidUp (A ++ n :: r) A.length = A ++ { n with kids := n.kids + 1 } :: r
  | [] => rfl
  | a :: A => by
    have := kidUp_at n r A
    unfold kidUp at this ⊢
    rw [List.cons_append, List.length_cons, List.modify_succ_cons, this]
    rfl

/-- A state in the midst of a row. -/
structure LI (s : JS) (o : List Nat) (A : List Nd) (kk : List UInt8) (ob : Bool) (M0 : List (Nat × List UInt8)) (ns : List (List UInt8)) (k : Nat) (rest : List Nd) : Prop where
  opn : s.opn = o ++ [A.length]
  nodes : s.nodes = A ++ { hdN ob k with key := kk } :: rest
  key : s.key = []
  nm : ∀ S, (A.length, S) ∈ s.met ↔ S ∈ ns
  met : ∀ e ∈ s.met, e ∈ M0 ∨ A.length ≤ e.1
  sub : ∀ e ∈ M0, e ∈ s.met
  low : ∀ e ∈ s.met, e.1 < s.nodes.length
/-- A state behind a row. -/
structure RE (s : JS) (o : List Nat) (A : List Nd) (kk : List UInt8) (M0 : List (Nat × List UInt8)) (q : Nat) (L : List Nd) : Prop where
  pos : s.pos = q
  opn : s.opn = o
  nodes : s.nodes = A ++ keyed kk L
  key : s.key = []
  aw : s.aw = if o = [] then 7 else if (A.getD (o.getLastD 0) (nd0 0)).kind = 6 then 5 else 6
  met : ∀ e ∈ s.met, e ∈ M0 ∨ A.length ≤ e.1
  sub : ∀ e ∈ M0, e ∈ s.met
  low : ∀ e ∈ s.met, e.1 < s.nodes.length
def RO (T : List UInt8) (s : JS) (o : List Nat) (A : List Nd) (kk : List UInt8) (M0 : List (Nat × List UInt8)) : Lx (List Nd) → Prop
  | .ok L q => ∃ s', Gs T s s' ∧ RE s' o A kk M0 q L
  | .bad c b => Bs T s c b
theorem LI.inm {s : JS} {o : List Nat} {A : List Nd} {kk : List UInt8} {ob : Bool} {M0 : List (Nat × List UInt8)} {ns : List (List UInt8)} {k : Nat} {rest : List Nd} (h : LI s o A kk ob M0 ns k rest) : inm s = A.length := by
  unfold Go.Proofs.YtfchdjlkndlleaaDoor.inm
  rw [h.opn, last_snoc]
theorem LI.rdy {s : JS} {o : List Nat} {A : List Nd} {kk : List UInt8} {ob : Bool} {M0 : List (Nat × List UInt8)} {ns : List (List UInt8)} {k op : Nat} {rest : List Nd} (h : LI s o A kk ob M0 ns k rest) (ho : o.length = op) : Rdy s ((op + 1 : Nat) : Int) := by
  refine ⟨fun _ => ?_, ?_, h.low⟩
  · rw [h.inm, h.nodes]
    simp
  · rw [h.opn, List.length_append, List.length_singleton, ho]
theorem LI.aw {s : JS} {o : List Nat} {A : List Nd} {kk : List UInt8} {ob : Bool} {M0 : List (Nat × List UInt8)} {ns : List (List UInt8)} {k : Nat} {rest : List Nd} (h : LI s o A kk ob M0 ns k rest) : awOf s = if ob then 6 else 5 := by
  unfold awOf
  rw [if_neg (by rw [h.opn]; simp), h.inm, h.nodes, getD_mid]
  cases ob <;> rfl
theorem LI.close {s : JS} {o : List Nat} {A : List Nd} {kk : List UInt8} {ob : Bool} {M0 : List (Nat × List UInt8)} {ns : List (List UInt8)} {k : Nat} {rest : List Nd} (h : LI s o A kk ob M0 ns k rest) (ho : o ≠ [] → o.getLastD 0 < A.length) (z : Nat) : RE (clsF { s with pos := z }) o A kk M0 (z + 1) (hdN ob k :: rest) := by
  refine ⟨clsF_pos _, ?_, ?_, ?_, ?_, ?_, ?_, ?_⟩
  · unfold clsF closeF
    rw [endF_opn]
    show s.opn.dropLast = o
    rw [h.opn, List.dropLast_concat]
  · unfold clsF closeF
    rw [endF_nodes]
    exact h.nodes
  · unfold clsF closeF
    rw [endF_key]
    exact h.key
  · unfold clsF closeF endF Go.Proofs.YtfchdjlkndlleaaDoor.inm
    simp only
    rw [h.opn, List.dropLast_concat]
    by_cases h0 : o = []
    · rw [if_pos h0, if_pos h0]
    · rw [if_neg h0, if_neg h0, h.nodes, getD_left (ho h0)]
      split <;> rfl
  · unfold clsF closeF
    rw [endF_met]
    exact h.met
  · unfold clsF closeF
    rw [endF_met]
    exact h.sub
  · unfold clsF closeF
    rw [endF_met, endF_nodes]
    exact h.low
/-- A value has been read in a row. -/
theorem LI.put {s s1 : JS} {o : List Nat} {A : List Nd} {kk : List UInt8} {ob : Bool} {M0 : List (Nat × List UInt8)} {ns : List (List UInt8)} {k q : Nat} {rest l : List Nd} (h : LI s o A kk ob M0 ns k rest) (hp : Pv s s1 q l) : LI s1 o A kk ob M0 ns (k + 1) (rest ++ l) := by
  have hl : A.length < s.nodes.length := by rw [h.nodes]; simp
  refine ⟨hp.opn.trans h.opn, ?_, hp.key, fun S => ?_, fun e he => ?_, fun e he => hp.sub e (h.sub e he), hp.low⟩
  · rw [hp.nodes, h.opn, h.nodes]
    unfold upK
    rw [if_neg (by simp), last_snoc, kidUp_at, List.append_assoc, List.cons_append]
    congr 2
  · rw [← h.nm S]
    constructor
    · intro hm
      rcases hp.met _ hm with h1 | h1
      · exact h1
      · have h1 : s.nodes.length ≤ A.length := h1
        omega
    · exact hp.sub _
  · rcases hp.met e he with h1 | h1
    · exact h.met e h1
    · exact .inr (by omega)

/-- What an item answers. -/
def IO' (T : List UInt8) (s : JS) (o : List Nat) (A : List Nd) (kk : List UInt8) (ob : Bool) (M0 : List (Nat × List UInt8)) (k : Nat) (rest : List Nd) : Lx (List (List UInt8) × List Nd) → Prop
  | .ok Y q => ∃ s1, Gs T s s1 ∧ LI s1 o A kk ob M0 Y.1 (k + 1) (rest ++ Y.2) ∧ s1.pos = q ∧ s1.aw = if ob then 6 else 5
  | .bad c b => Bs T s c b
/-- How values are read. -/
def VRun (T : List UInt8) (op : Nat) (V : Nat → Lx (List Nd)) : Prop :=
  ∀ s : JS, Rdy s (op : Int) → (s.aw = 1 ∨ (s.aw = 0 ∧ tk T [93] (skp T blanksS s.pos) = false)) → s.pos ≤ T.length → VO T s (V (skp T blanksS s.pos))

theorem item_list {T : List UInt8} {V : Nat → Lx (List Nd)} {op : Nat} (hV : VRun T (op + 1) V) (hk : ∀ p L q, V p = .ok L q → keyed [] L = L) {s : JS} {o : List Nat} {A : List Nd} {kk : List UInt8} {M0 : List (Nat × List UInt8)} {ns : List (List UInt8)} {k : Nat} {rest : List Nd} (h : LI s o A kk false M0 ns k rest) (ho : o.length = op)
    (haw : s.aw = 1 ∨ (s.aw = 0 ∧ tk T [93] (skp T blanksS s.pos) = false)) (hp : s.pos ≤ T.length) : IO' T s o A kk false M0 k rest (itD V T false ns (skp T blanksS s.pos)) := by
  have h1 := hV s (h.rdy ho) haw hp
  unfold itD
  rw [if_pos rfl]
  cases e : V (skp T blanksS s.pos) with
  | bad c b => rw [e] at h1; exact h1
  | ok L q =>
    rw [e] at h1
    obtain ⟨s1, hg, hpv⟩ := h1
    rw [h.key, hk _ _ _ e] at hpv
    exact ⟨s1, hg, h.put hpv, hpv.pos, hpv.aw.trans h.aw⟩

theorem item_obj {T : List UInt8} {V : Nat → Lx (List Nd)} {op : Nat} (hV : VRun T (op + 1) V) {s : JS} {o : List Nat} {A : List Nd} {kk : List UInt8} {M0 : List (Nat × List UInt8)} {ns : List (List UInt8)} {k : Nat} {rest : List Nd} (h : LI s o A kk true M0 ns k rest) (ho : o.length = op)
    (haw : s.aw = 3 ∨ (s.aw = 2 ∧ tk T [125] (skp T blanksS s.pos) = false)) (hp : s.pos ≤ T.length) : IO' T s o A kk true M0 k rest (itD V T true ns (skp T blanksS s.pos)) := by
  obtain ⟨y, hy⟩ : ∃ y, skp T blanksS s.pos = y := ⟨_, rfl⟩
  have hyl : y ≤ T.length := by rw [← hy]; exact skp_le _ _ _ hp
  have haw7 : s.aw ≠ 7 := by rcases haw with h | ⟨h, _⟩ <;> omega
  rw [hy] at haw ⊢
  unfold itD
  rw [if_neg (by decide)]
  rcases Nat.lt_or_ge y T.length with hlt | hge
  · have hlt' : skp T blanksS s.pos < T.length := by rw [hy]; exact hlt
    have hword : wordF T { s with pos := skp T blanksS s.pos } = nameF T { s with pos := y } := by
      rw [hy]
      unfold wordF
      rcases haw with h | ⟨h, h2⟩
      · simp only [h]
        rfl
      · simp only [h, h2]
        rfl
    by_cases h34 : bat T y = 34
    · have hg := (bat_is hlt 34).1 h34
      rw [if_neg (fun hx => hx h34)]
      cases e : quoF T (T.length + 1) (y + 1) [] with
      | bad c b =>
        refine Bs.word hlt' (hword.trans ?_)
        unfold nameF
        simp only
        rw [hg, if_neg (fun hx => hx rfl), e]
      | ok S q =>
        have hqT := quo_q _ _ _ _ _ e
        unfold itQ
        simp only
        have hinm : inm { s with pos := y } = A.length := h.inm
        by_cases hin : ns.contains S = true
        · rw [if_pos hin]
          refine Bs.word hlt' (hword.trans ?_)
          unfold nameF
          simp only
          rw [hg, if_neg (fun hx => hx rfl), e]
          simp only
          rw [hinm, if_pos (by rw [List.contains_iff_mem]; exact (h.nm S).2 (List.contains_iff_mem.1 hin))]
        · have hnin : S ∉ ns := fun hx => hin (List.contains_iff_mem.2 hx)
          rw [if_neg hin]
          -- behind the name
          obtain ⟨s2, hs2⟩ : ∃ s2 : JS, s2 = { s with pos := q, key := S, aw := 4, met := s.met ++ [(A.length, S)] } := ⟨_, rfl⟩
          have hG2 : Gs T s s2 := by
            refine Gs.word hlt' (hword.trans ?_)
            unfold nameF
            simp only
            rw [hg, if_neg (fun hx => hx rfl), e]
            simp only
            rw [hinm, if_neg (by rw [List.contains_iff_mem]; exact fun hx => hnin ((h.nm S).1 hx)), hs2]
          have hp2 : s2.pos = q := by rw [hs2]
          obtain ⟨z, hz⟩ : ∃ z, skp T blanksS q = z := ⟨_, rfl⟩
          have hz2 : skp T blanksS s2.pos = z := by rw [hp2]; exact hz
          have hzl : z ≤ T.length := by rw [← hz]; exact skp_le _ _ _ hqT
          rw [hz]
          by_cases h58 : bat T z = 58
          · rw [if_neg (fun hx => hx h58)]
            have hzlt : z < T.length := bat_lt (by rw [h58]; decide)
            have hzg := (bat_is hzlt 58).1 h58
            obtain ⟨s3, hs3⟩ : ∃ s3 : JS, s3 = { s with pos := z + 1, key := S, aw := 1, met := s.met ++ [(A.length, S)] } := ⟨_, rfl⟩
            have hG3 : Gs T s2 s3 := by
              refine Gs.word (by rw [hz2]; exact hzlt) ?_
              rw [hz2, hs2]
              unfold wordF
              simp only
              rw [if_neg (by decide), if_neg (by decide), if_neg (by decide), if_neg (by decide), if_pos trivial]
              unfold markF
              simp only
              rw [if_pos ((tk_is hzlt 58).2 hzg), hs3]
            have hl : A.length < s.nodes.length := by rw [h.nodes]; simp
            have hR3 : Rdy s3 ((op + 1 : Nat) : Int) := by
              have := h.rdy ho
              rw [hs3]
              refine ⟨this.op, this.len, ?_⟩
              intro x hx
              rcases List.mem_append.1 hx with hx | hx
              · exact h.low x hx
              · rw [List.mem_singleton.1 hx]; exact hl
            have h3 := hV s3 hR3 (by rw [hs3]; exact .inl rfl) (by rw [hs3]; exact hzlt)
            have hp3 : s3.pos = z + 1 := by rw [hs3]
            rw [hp3] at h3
            have hk3 : s3.key = S := by rw [hs3]
            cases e2 : V (skp T blanksS (z + 1)) with
            | bad c b => rw [e2] at h3; exact (hG2.trans hG3).bad h3
            | ok L q2 =>
              rw [e2] at h3
              obtain ⟨s4, hg4, hpv⟩ := h3
              rw [hk3] at hpv
              have hLI3 : LI { s3 with key := [] } o A kk true M0 (ns ++ [S]) k rest := by
                rw [hs3]
                refine ⟨h.opn, h.nodes, rfl, fun S2 => ?_, fun x hx => ?_, fun x hx => ?_, fun x hx => ?_⟩
                · simp only [List.mem_append, List.mem_singleton, Prod.mk.injEq, true_and]
                  rw [h.nm S2]
                · rcases List.mem_append.1 hx with hx | hx
                  · exact h.met x hx
                  · rw [List.mem_singleton.1 hx]; exact .inr (Nat.le_refl _)
                · exact List.mem_append_left _ (h.sub x hx)
                · rcases List.mem_append.1 hx with hx | hx
                  · exact h.low x hx
                  · rw [List.mem_singleton.1 hx]; exact hl
              have hpv' : Pv { s3 with key := [] } s4 q2 (keyed S L) := ⟨hpv.pos, hpv.opn, hpv.nodes, hpv.key, hpv.aw, hpv.met, hpv.sub, hpv.low⟩
              exact ⟨s4, (hG2.trans hG3).trans hg4, hLI3.put hpv', hpv'.pos, hpv'.aw.trans hLI3.aw⟩
          · rw [if_pos h58]
            rcases Nat.lt_or_ge z T.length with hzlt | hzge
            · refine hG2.bad (Bs.word (by rw [hz2]; exact hzlt) ?_)
              rw [hz2, hs2]
              unfold wordF
              simp only
              rw [if_neg (by decide), if_neg (by decide), if_neg (by decide), if_neg (by decide), if_pos trivial]
              unfold markF
              simp only
              rw [if_neg (by rw [tk_is hzlt 58]; exact fun hx => h58 ((bat_is hzlt 58).2 hx))]
            · have hzT : z = T.length := by omega
              show Bs T s 31 z
              rw [hzT]
              exact hG2.bad (Bs.stop (hz2.trans hzT) (by rw [hs2]; show 4 ≠ 7; decide))
    · rw [if_pos h34]
      refine Bs.word hlt' (hword.trans ?_)
      unfold nameF
      simp only
      rw [if_pos (fun hx => h34 ((bat_is hlt 34).2 hx))]
  · have hb := bat_out hge
    have hyT : y = T.length := by omega
    rw [if_pos (by rw [hb]; decide)]
    show Bs T s 31 y
    rw [hyT]
    exact Bs.stop (hy.trans hyT) haw7

end Go.Proofs.YtfchdjlkndlleaaDoor
