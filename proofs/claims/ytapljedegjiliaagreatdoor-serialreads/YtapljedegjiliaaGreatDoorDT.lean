import Derived.Test.YtapljedegjiliaaGreatDoorDr
import Derived.Test.YtapljedegjiliaaGreatDoorYZ
namespace Go.Proofs.YtapljedegjiliaaGreatDoor
open Go.RowKit

/-- The reader comes to that fault. -/
def Bs (T : List UInt8) (s : JS) (c p : Nat) : Prop := ∃ m, ∀ n, runF T (n + m) s = .bad c p
theorem Gs.bad {T : List UInt8} {s s' : JS} {c p : Nat} (h : Gs T s s') (h2 : Bs T s' c p) : Bs T s c p := by
  obtain ⟨m, e⟩ := h
  obtain ⟨k, e2⟩ := h2
  exact ⟨k + m, fun n => by rw [← Nat.add_assoc, e, e2]⟩
theorem Gs.word {T : List UInt8} {s s' : JS} (hz : skp T blanksS s.pos < T.length) (h : wordF T { s with pos := skp T blanksS s.pos } = .go s') : Gs T s s' := by
  refine ⟨1, fun n => ?_⟩
  rw [show n + 1 = Nat.succ n from rfl]
  conv => lhs; unfold runF
  simp only
  rw [if_neg (by omega), h]
theorem Bs.word {T : List UInt8} {s : JS} {c p : Nat} (hz : skp T blanksS s.pos < T.length) (h : wordF T { s with pos := skp T blanksS s.pos } = .bad c p) : Bs T s c p := by
  refine ⟨1, fun n => ?_⟩
  rw [show n + 1 = Nat.succ n from rfl]
  conv => lhs; unfold runF
  simp only
  rw [if_neg (by omega), h]
theorem Bs.stop {T : List UInt8} {s : JS} (hz : skp T blanksS s.pos = T.length) (ha : s.aw ≠ 7) : Bs T s 31 T.length := by
  refine ⟨1, fun n => ?_⟩
  rw [show n + 1 = Nat.succ n from rfl]
  conv => lhs; unfold runF
  simp only
  rw [if_pos hz, if_neg ha, hz]

/-- A value has been read, up to that place. -/
structure Pv (s s' : JS) (q : Nat) (l : List Nd) : Prop where
  pos : s'.pos = q
  opn : s'.opn = s.opn
  nodes : s'.nodes = upK s.opn s.nodes ++ l
  key : s'.key = []
  aw : s'.aw = awOf s
  met : ∀ e ∈ s'.met, e ∈ s.met ∨ s.nodes.length ≤ e.1
  sub : ∀ e ∈ s.met, e ∈ s'.met
  low : ∀ e ∈ s'.met, e.1 < s'.nodes.length
theorem add_pv {s : JS} {d : Int} (h : Rdy s d) (m : Nd) (q : Nat) : Pv s (addF m { s with pos := q }) q [{ m with key := s.key }] := by
  refine ⟨addF_pos _ _, addF_opn _ _, addF_nds h.op m _, addF_key _ _, addF_aw h.op m _, ?_, ?_, ?_⟩
  · rw [addF_met]
    exact fun e he => .inl he
  · rw [addF_met]
    exact fun e he => he
  · rw [addF_met, addF_nds h.op]
    intro e he
    have := h.low e he
    simp only [List.length_append, upK_length, List.length_singleton]
    omega
/-- What the reader does from there is what the document's reader answers. -/
def VO (T : List UInt8) (s : JS) : Lx (List Nd) → Prop
  | .ok L q => ∃ s', Gs T s s' ∧ Pv s s' q (keyed s.key L)
  | .bad c b => Bs T s c b

theorem bat_at {T : List UInt8} {z : Nat} (hz : z < T.length) : bat T z = ((T.getD z 0).toNat : Int) := by unfold bat; rw [if_pos hz]
theorem bat_is {T : List UInt8} {z : Nat} (hz : z < T.length) (k : UInt8) : bat T z = (k.toNat : Int) ↔ T.getD z 0 = k := by
  rw [bat_at hz]
  constructor
  · intro h
    exact UInt8.toNat_inj.1 (by omega)
  · intro h
    rw [h]
theorem bat_out {T : List UInt8} {z : Nat} (hz : T.length ≤ z) : bat T z = -1 := by unfold bat; rw [if_neg (by omega)]
theorem tk_is {T : List UInt8} {z : Nat} (hz : z < T.length) (k : UInt8) : tk T [k] z = true ↔ T.getD z 0 = k := by
  unfold tk
  rw [decide_eq_true hz]
  simp
theorem tk_not {T : List UInt8} {z : Nat} (hz : z < T.length) {k : UInt8} (h : T.getD z 0 ≠ k) : tk T [k] z = false := by
  cases e : tk T [k] z
  · rfl
  · exact absurd ((tk_is hz k).1 e) h
theorem dig_in : ∀ c : UInt8, digitsS.contains c = true → 48 ≤ c.toNat ∧ c.toNat ≤ 57 := by
  intro c h
  simp [digitsS] at h
  rcases h with rfl | rfl | rfl | rfl | rfl | rfl | rfl | rfl | rfl | rfl <;> decide
theorem num_else {T : List UInt8} {z : Nat} (hz : z < T.length) (h : ¬ (bat T z = 45 ∨ (48 ≤ bat T z ∧ bat T z ≤ 57))) : numL T z = .bad 31 z := by
  rw [bat_at hz] at h
  have h45 : T.getD z 0 ≠ 45 := fun e => h (Or.inl (by rw [e]; rfl))
  have hd : tk T digitsS z = false := by
    cases e : tk T digitsS z
    · rfl
    · unfold tk at e
      rw [decide_eq_true hz, Bool.true_and] at e
      have := dig_in _ e
      exact absurd (Or.inr ⟨by omega, by omega⟩) h
  have h48 : T.getD z 0 ≠ 48 := fun e => h (Or.inr (by rw [e]; decide))
  unfold numL numI
  rw [tk_not hz h45]
  simp only [Bool.false_eq_true, if_false]
  rw [tk_not hz h48, hd]
  simp

/-- A value, given how its row is read. -/
theorem val_case {T : List UInt8} {s : JS} {op : Nat} (RW : Bool → Lx (List Nd)) (hs : Rdy s (op : Int)) (haw : s.aw = 1 ∨ (s.aw = 0 ∧ tk T [93] (skp T blanksS s.pos) = false)) (hp : s.pos ≤ T.length)
    (hrow : ∀ ob : Bool, skp T blanksS s.pos < T.length → op ≠ 32 → T.getD (skp T blanksS s.pos) 0 = (if ob then 123 else 91) → VO T s (RW ob)) : VO T s (valD RW T op (skp T blanksS s.pos)) := by
  obtain ⟨z, hz⟩ : ∃ z, skp T blanksS s.pos = z := ⟨_, rfl⟩
  have hzl : z ≤ T.length := by rw [← hz]; exact skp_le _ _ _ hp
  rw [hz] at haw hrow ⊢
  rcases Nat.lt_or_ge z T.length with hlt | hge
  · have hlt' : skp T blanksS s.pos < T.length := by rw [hz]; exact hlt
    have hword : wordF T { s with pos := skp T blanksS s.pos } = valueF T { s with pos := z } := by
      rw [hz]
      unfold wordF
      rcases haw with h | ⟨h, h2⟩
      · simp only [h]
        rfl
      · simp only [h, h2]
        rfl
    have go : ∀ s', valueF T { s with pos := z } = .go s' → Gs T s s' := fun s' e => Gs.word hlt' (hword.trans e)
    have no : ∀ c p, valueF T { s with pos := z } = .bad c p → Bs T s c p := fun c p e => Bs.word hlt' (hword.trans e)
    have hop : s.opn.length = op := by have := hs.len; omega
    unfold valD
    by_cases h91 : bat T z = 91
    · have hg := (bat_is hlt 91).1 h91
      rw [if_pos h91]
      by_cases h32 : op = 32
      · rw [if_pos h32]
        refine no 11 z ?_
        unfold valueF
        simp only
        rw [hg, if_neg (by decide), if_pos rfl]
        unfold beginF
        rw [if_pos (hop.trans h32)]
      · rw [if_neg h32]
        exact hrow false hlt h32 hg
    rw [if_neg h91]
    have n91 : T.getD z 0 ≠ 91 := fun e => h91 ((bat_is hlt 91).2 e)
    by_cases h123 : bat T z = 123
    · have hg := (bat_is hlt 123).1 h123
      rw [if_pos h123]
      by_cases h32 : op = 32
      · rw [if_pos h32]
        refine no 11 z ?_
        unfold valueF
        simp only
        rw [hg, if_pos rfl]
        unfold beginF
        rw [if_pos (hop.trans h32)]
      · rw [if_neg h32]
        exact hrow true hlt h32 hg
    rw [if_neg h123]
    have n123 : T.getD z 0 ≠ 123 := fun e => h123 ((bat_is hlt 123).2 e)
    by_cases h34 : bat T z = 34
    · have hg := (bat_is hlt 34).1 h34
      rw [if_pos h34]
      cases e : quoF T (T.length + 1) (z + 1) [] with
      | bad c b =>
        refine no c b ?_
        unfold valueF
        simp only
        rw [hg, if_neg (by decide), if_neg (by decide), if_pos rfl, e]
      | ok S q =>
        refine ⟨_, go _ ?_, add_pv hs { nd0 5 with text := S } q⟩
        unfold valueF
        simp only
        rw [hg, if_neg (by decide), if_neg (by decide), if_pos rfl, e]
    rw [if_neg h34]
    have n34 : T.getD z 0 ≠ 34 := fun e => h34 ((bat_is hlt 34).2 e)
    have lit : ∀ (wd : List UInt8) (k : Int), valueF T { s with pos := z } = litS T wd k { s with pos := z } → VO T s (ltF T wd k z) := fun wd k hv => by
      unfold ltF
      cases e : litF T wd z with
      | bad c b =>
        refine no c b (hv.trans ?_)
        unfold litS
        simp only
        rw [e]
      | ok u q =>
        refine ⟨_, go _ (hv.trans ?_), add_pv hs (nd0 k) q⟩
        unfold litS
        simp only
        rw [e]
    have num : T.getD z 0 ≠ 110 → T.getD z 0 ≠ 102 → T.getD z 0 ≠ 116 → VO T s (nuF T z) := fun n1 n2 n3 => by
      unfold nuF
      have hv : valueF T { s with pos := z } = match numL T z with
        | .ok _ p => .go (addF (numN (sgl T z p)) { s with pos := p })
        | .bad c p => .bad c p := by
        unfold valueF
        simp only
        rw [if_neg n123, if_neg n91, if_neg n34, if_neg n1, if_neg n2, if_neg n3]
        cases numL T z <;> rfl
      cases e : numL T z with
      | bad c b =>
        refine no c b (hv.trans ?_)
        rw [e]
      | ok u q =>
        refine ⟨_, go _ (hv.trans ?_), add_pv hs (numN (sgl T z q)) q⟩
        rw [e]
    by_cases hnu : bat T z = 45 ∨ (48 ≤ bat T z ∧ bat T z ≤ 57)
    · rw [if_pos hnu]
      have hb := bat_at hlt
      refine num (fun e => ?_) (fun e => ?_) (fun e => ?_) <;> (rw [hb, e] at hnu; revert hnu; decide)
    rw [if_neg hnu]
    by_cases h110 : bat T z = 110
    · have hg := (bat_is hlt 110).1 h110
      rw [if_pos h110]
      refine lit _ _ ?_
      unfold valueF
      simp only
      rw [hg, if_neg (by decide), if_neg (by decide), if_neg (by decide), if_pos rfl]
    rw [if_neg h110]
    have n110 : T.getD z 0 ≠ 110 := fun e => h110 ((bat_is hlt 110).2 e)
    by_cases h102 : bat T z = 102
    · have hg := (bat_is hlt 102).1 h102
      rw [if_pos h102]
      refine lit _ _ ?_
      unfold valueF
      simp only
      rw [hg, if_neg (by decide), if_neg (by decide), if_neg (by decide), if_neg (by decide), if_pos rfl]
    rw [if_neg h102]
    have n102 : T.getD z 0 ≠ 102 := fun e => h102 ((bat_is hlt 102).2 e)
    by_cases h116 : bat T z = 116
    · have hg := (bat_is hlt 116).1 h116
      rw [if_pos h116]
      refine lit _ _ ?_
      unfold valueF
      simp only
      rw [hg, if_neg (by decide), if_neg (by decide), if_neg (by decide), if_neg (by decide), if_neg (by decide), if_pos rfl]
    rw [if_neg h116]
    have n116 : T.getD z 0 ≠ 116 := fun e => h116 ((bat_is hlt 116).2 e)
    have := num n110 n102 n116
    unfold nuF at this
    rw [num_else hlt hnu] at this
    exact this
  · have hb := bat_out hge
    have hzT : z = T.length := by omega
    unfold valD
    rw [hb, if_neg (by decide), if_neg (by decide), if_neg (by decide), if_neg (by decide), if_neg (by decide), if_neg (by decide), if_neg (by decide)]
    show Bs T s 31 z
    rw [hzT]
    exact Bs.stop (hz.trans hzT) (by rcases haw with h | ⟨h, _⟩ <;> omega)

end Go.Proofs.YtapljedegjiliaaGreatDoor

namespace Go.Proofs.YtapljedegjiliaaGreatDoor
open Go.RowKit

/-- The first node of what is read has no name. -/
theorem vF_key (T : List UInt8) : ∀ (f p : Nat) (L : List Nd) (q : Nat), vF T f p = .ok L q → keyed [] L = L
  | 0, p, L, q, h => by unfold vF at h; cases h
  | f + 1, p, L, q, h => by
    have rowk : ∀ (V : Nat → Lx (List Nd)) (ob : Bool) (L : List Nd) (q : Nat), rowD V T ob p = .ok L q → keyed [] L = L := by
      intro V ob L q h
      unfold rowD at h
      split at h
      · cases h; rfl
      · have loop : ∀ (n : Nat) (ns : List (List UInt8)) (k : Nat) (rest : List Nd) (y : Nat), rowL V T ob n ns k rest y = .ok L q → keyed [] L = L := by
          intro n
          induction n with
          | zero => intro ns k rest y h; unfold rowL at h; cases h
          | succ n ih =>
            intro ns k rest y h
            unfold rowL at h
            cases e : itD V T ob ns y with
            | bad c b => rw [e] at h; unfold rowN at h; cases h
            | ok Y q1 =>
              rw [e] at h
              unfold rowN at h
              simp only at h
              split at h
              · cases h; rfl
              · split at h
                · exact ih _ _ _ _ h
                · cases h
        exact loop _ _ _ _ _ h
    unfold vF valD at h
    split at h
    · split at h
      · cases h
      · exact rowk _ _ _ _ h
    split at h
    · split at h
      · cases h
      · exact rowk _ _ _ _ h
    split at h
    · cases e : quoF T (T.length + 1) (p + 1) [] with
      | bad c b => rw [e] at h; unfold qsG at h; cases h
      | ok S q1 => rw [e] at h; unfold qsG at h; cases h; rfl
    split at h
    · unfold nuF at h
      cases e : numL T p with
      | bad c b => rw [e] at h; unfold nuG at h; cases h
      | ok u q1 => rw [e] at h; unfold nuG at h; cases h; rfl
    have lit : ∀ (wd : List UInt8) (k : Int), ltF T wd k p = .ok L q → keyed [] L = L := fun wd k h => by
      unfold ltF at h
      cases e : litF T wd p with
      | bad c b => rw [e] at h; unfold ltG at h; cases h
      | ok u q1 => rw [e] at h; unfold ltG at h; cases h; rfl
    split at h
    · exact lit _ _ h
    split at h
    · exact lit _ _ h
    split at h
    · exact lit _ _ h
    · cases h

theorem kidUp_at (n : Nd) (r : List Nd) : ∀ A : List Nd, kidUp (A ++ n :: r) A.length = A ++ { n with kids := n.kids + 1 } :: r
  | [] => rfl
  | a :: A => by
    have := kidUp_at n r A
    unfold kidUp at this ⊢
    rw [List.cons_append, List.length_cons, List.modify_succ_cons, this]
    rfl

/-- A state in the midst of a row. -/
structure LI (s : JS) (o : List Nat) (A : List Nd) (kk : List UInt8) (ob : Bool) (M0 : List (Nat × List UInt8)) (ns : List (List UInt8)) (k : Nat) (rest : List Nd) : Prop where
  opn : s.opn = o ++ [A.length]
  nodes : s.nodes = A ++ { hdN ob k with key := kk } :: rest
  key : s.key = []
  nm : ∀ S, (A.length, S) ∈ s.met ↔ S ∈ ns
  met : ∀ e ∈ s.met, e ∈ M0 ∨ A.length ≤ e.1
  sub : ∀ e ∈ M0, e ∈ s.met
  low : ∀ e ∈ s.met, e.1 < s.nodes.length
/-- A state behind a row. -/
structure RE (s : JS) (o : List Nat) (A : List Nd) (kk : List UInt8) (M0 : List (Nat × List UInt8)) (q : Nat) (L : List Nd) : Prop where
  pos : s.pos = q
  opn : s.opn = o
  nodes : s.nodes = A ++ keyed kk L
  key : s.key = []
  aw : s.aw = if o = [] then 7 else if (A.getD (o.getLastD 0) (nd0 0)).kind = 6 then 5 else 6
  met : ∀ e ∈ s.met, e ∈ M0 ∨ A.length ≤ e.1
  sub : ∀ e ∈ M0, e ∈ s.met
  low : ∀ e ∈ s.met, e.1 < s.nodes.length
def RO (T : List UInt8) (s : JS) (o : List Nat) (A : List Nd) (kk : List UInt8) (M0 : List (Nat × List UInt8)) : Lx (List Nd) → Prop
  | .ok L q => ∃ s', Gs T s s' ∧ RE s' o A kk M0 q L
  | .bad c b => Bs T s c b
theorem LI.inm {s : JS} {o : List Nat} {A : List Nd} {kk : List UInt8} {ob : Bool} {M0 : List (Nat × List UInt8)} {ns : List (List UInt8)} {k : Nat} {rest : List Nd} (h : LI s o A kk ob M0 ns k rest) : inm s = A.length := by
  unfold Go.Proofs.YtapljedegjiliaaGreatDoor.inm
  rw [h.opn, last_snoc]
theorem LI.rdy {s : JS} {o : List Nat} {A : List Nd} {kk : List UInt8} {ob : Bool} {M0 : List (Nat × List UInt8)} {ns : List (List UInt8)} {k op : Nat} {rest : List Nd} (h : LI s o A kk ob M0 ns k rest) (ho : o.length = op) : Rdy s ((op + 1 : Nat) : Int) := by
  refine ⟨fun _ => ?_, ?_, h.low⟩
  · rw [h.inm, h.nodes]
    simp
  · rw [h.opn, List.length_append, List.length_singleton, ho]
theorem LI.aw {s : JS} {o : List Nat} {A : List Nd} {kk : List UInt8} {ob : Bool} {M0 : List (Nat × List UInt8)} {ns : List (List UInt8)} {k : Nat} {rest : List Nd} (h : LI s o A kk ob M0 ns k rest) : awOf s = if ob then 6 else 5 := by
  unfold awOf
  rw [if_neg (by rw [h.opn]; simp), h.inm, h.nodes, getD_mid]
  cases ob <;> rfl
theorem LI.close {s : JS} {o : List Nat} {A : List Nd} {kk : List UInt8} {ob : Bool} {M0 : List (Nat × List UInt8)} {ns : List (List UInt8)} {k : Nat} {rest : List Nd} (h : LI s o A kk ob M0 ns k rest) (ho : o ≠ [] → o.getLastD 0 < A.length) (z : Nat) : RE (clsF { s with pos := z }) o A kk M0 (z + 1) (hdN ob k :: rest) := by
  refine ⟨clsF_pos _, ?_, ?_, ?_, ?_, ?_, ?_, ?_⟩
  · unfold clsF closeF
    rw [endF_opn]
    show s.opn.dropLast = o
    rw [h.opn, List.dropLast_concat]
  · unfold clsF closeF
    rw [endF_nodes]
    exact h.nodes
  · unfold clsF closeF
    rw [endF_key]
    exact h.key
  · unfold clsF closeF endF Go.Proofs.YtapljedegjiliaaGreatDoor.inm
    simp only
    rw [h.opn, List.dropLast_concat]
    by_cases h0 : o = []
    · rw [if_pos h0, if_pos h0]
    · rw [if_neg h0, if_neg h0, h.nodes, getD_left (ho h0)]
      split <;> rfl
  · unfold clsF closeF
    rw [endF_met]
    exact h.met
  · unfold clsF closeF
    rw [endF_met]
    exact h.sub
  · unfold clsF closeF
    rw [endF_met, endF_nodes]
    exact h.low
/-- A value has been read in a row. -/
theorem LI.put {s s1 : JS} {o : List Nat} {A : List Nd} {kk : List UInt8} {ob : Bool} {M0 : List (Nat × List UInt8)} {ns : List (List UInt8)} {k q : Nat} {rest l : List Nd} (h : LI s o A kk ob M0 ns k rest) (hp : Pv s s1 q l) : LI s1 o A kk ob M0 ns (k + 1) (rest ++ l) := by
  have hl : A.length < s.nodes.length := by rw [h.nodes]; simp
  refine ⟨hp.opn.trans h.opn, ?_, hp.key, fun S => ?_, fun e he => ?_, fun e he => hp.sub e (h.sub e he), hp.low⟩
  · rw [hp.nodes, h.opn, h.nodes]
    unfold upK
    rw [if_neg (by simp), last_snoc, kidUp_at, List.append_assoc, List.cons_append]
    congr 2
  · rw [← h.nm S]
    constructor
    · intro hm
      rcases hp.met _ hm with h1 | h1
      · exact h1
      · have h1 : s.nodes.length ≤ A.length := h1
        omega
    · exact hp.sub _
  · rcases hp.met e he with h1 | h1
    · exact h.met e h1
    · exact .inr (by omega)

/-- What an item answers. -/
def IO' (T : List UInt8) (s : JS) (o : List Nat) (A : List Nd) (kk : List UInt8) (ob : Bool) (M0 : List (Nat × List UInt8)) (k : Nat) (rest : List Nd) : Lx (List (List UInt8) × List Nd) → Prop
  | .ok Y q => ∃ s1, Gs T s s1 ∧ LI s1 o A kk ob M0 Y.1 (k + 1) (rest ++ Y.2) ∧ s1.pos = q ∧ s1.aw = if ob then 6 else 5
  | .bad c b => Bs T s c b
/-- How values are read. -/
def VRun (T : List UInt8) (op : Nat) (V : Nat → Lx (List Nd)) : Prop :=
  ∀ s : JS, Rdy s (op : Int) → (s.aw = 1 ∨ (s.aw = 0 ∧ tk T [93] (skp T blanksS s.pos) = false)) → s.pos ≤ T.length → VO T s (V (skp T blanksS s.pos))

theorem item_list {T : List UInt8} {V : Nat → Lx (List Nd)} {op : Nat} (hV : VRun T (op + 1) V) (hk : ∀ p L q, V p = .ok L q → keyed [] L = L) {s : JS} {o : List Nat} {A : List Nd} {kk : List UInt8} {M0 : List (Nat × List UInt8)} {ns : List (List UInt8)} {k : Nat} {rest : List Nd} (h : LI s o A kk false M0 ns k rest) (ho : o.length = op)
    (haw : s.aw = 1 ∨ (s.aw = 0 ∧ tk T [93] (skp T blanksS s.pos) = false)) (hp : s.pos ≤ T.length) : IO' T s o A kk false M0 k rest (itD V T false ns (skp T blanksS s.pos)) := by
  have h1 := hV s (h.rdy ho) haw hp
  unfold itD
  rw [if_pos rfl]
  cases e : V (skp T blanksS s.pos) with
  | bad c b => rw [e] at h1; exact h1
  | ok L q =>
    rw [e] at h1
    obtain ⟨s1, hg, hpv⟩ := h1
    rw [h.key, hk _ _ _ e] at hpv
    exact ⟨s1, hg, h.put hpv, hpv.pos, hpv.aw.trans h.aw⟩

theorem item_obj {T : List UInt8} {V : Nat → Lx (List Nd)} {op : Nat} (hV : VRun T (op + 1) V) {s : JS} {o : List Nat} {A : List Nd} {kk : List UInt8} {M0 : List (Nat × List UInt8)} {ns : List (List UInt8)} {k : Nat} {rest : List Nd} (h : LI s o A kk true M0 ns k rest) (ho : o.length = op)
    (haw : s.aw = 3 ∨ (s.aw = 2 ∧ tk T [125] (skp T blanksS s.pos) = false)) (hp : s.pos ≤ T.length) : IO' T s o A kk true M0 k rest (itD V T true ns (skp T blanksS s.pos)) := by
  obtain ⟨y, hy⟩ : ∃ y, skp T blanksS s.pos = y := ⟨_, rfl⟩
  have hyl : y ≤ T.length := by rw [← hy]; exact skp_le _ _ _ hp
  have haw7 : s.aw ≠ 7 := by rcases haw with h | ⟨h, _⟩ <;> omega
  rw [hy] at haw ⊢
  unfold itD
  rw [if_neg (by decide)]
  rcases Nat.lt_or_ge y T.length with hlt | hge
  · have hlt' : skp T blanksS s.pos < T.length := by rw [hy]; exact hlt
    have hword : wordF T { s with pos := skp T blanksS s.pos } = nameF T { s with pos := y } := by
      rw [hy]
      unfold wordF
      rcases haw with h | ⟨h, h2⟩
      · simp only [h]
        rfl
      · simp only [h, h2]
        rfl
    by_cases h34 : bat T y = 34
    · have hg := (bat_is hlt 34).1 h34
      rw [if_neg (fun hx => hx h34)]
      cases e : quoF T (T.length + 1) (y + 1) [] with
      | bad c b =>
        refine Bs.word hlt' (hword.trans ?_)
        unfold nameF
        simp only
        rw [hg, if_neg (fun hx => hx rfl), e]
      | ok S q =>
        have hqT := quo_q _ _ _ _ _ e
        unfold itQ
        simp only
        have hinm : inm { s with pos := y } = A.length := h.inm
        by_cases hin : ns.contains S = true
        · rw [if_pos hin]
          refine Bs.word hlt' (hword.trans ?_)
          unfold nameF
          simp only
          rw [hg, if_neg (fun hx => hx rfl), e]
          simp only
          rw [hinm, if_pos (by rw [List.contains_iff_mem]; exact (h.nm S).2 (List.contains_iff_mem.1 hin))]
        · have hnin : S ∉ ns := fun hx => hin (List.contains_iff_mem.2 hx)
          rw [if_neg hin]
          -- behind the name
          obtain ⟨s2, hs2⟩ : ∃ s2 : JS, s2 = { s with pos := q, key := S, aw := 4, met := s.met ++ [(A.length, S)] } := ⟨_, rfl⟩
          have hG2 : Gs T s s2 := by
            refine Gs.word hlt' (hword.trans ?_)
            unfold nameF
            simp only
            rw [hg, if_neg (fun hx => hx rfl), e]
            simp only
            rw [hinm, if_neg (by rw [List.contains_iff_mem]; exact fun hx => hnin ((h.nm S).1 hx)), hs2]
          have hp2 : s2.pos = q := by rw [hs2]
          obtain ⟨z, hz⟩ : ∃ z, skp T blanksS q = z := ⟨_, rfl⟩
          have hz2 : skp T blanksS s2.pos = z := by rw [hp2]; exact hz
          have hzl : z ≤ T.length := by rw [← hz]; exact skp_le _ _ _ hqT
          rw [hz]
          by_cases h58 : bat T z = 58
          · rw [if_neg (fun hx => hx h58)]
            have hzlt : z < T.length := bat_lt (by rw [h58]; decide)
            have hzg := (bat_is hzlt 58).1 h58
            obtain ⟨s3, hs3⟩ : ∃ s3 : JS, s3 = { s with pos := z + 1, key := S, aw := 1, met := s.met ++ [(A.length, S)] } := ⟨_, rfl⟩
            have hG3 : Gs T s2 s3 := by
              refine Gs.word (by rw [hz2]; exact hzlt) ?_
              rw [hz2, hs2]
              unfold wordF
              simp only
              rw [if_neg (by decide), if_neg (by decide), if_neg (by decide), if_neg (by decide), if_pos trivial]
              unfold markF
              simp only
              rw [if_pos ((tk_is hzlt 58).2 hzg), hs3]
            have hl : A.length < s.nodes.length := by rw [h.nodes]; simp
            have hR3 : Rdy s3 ((op + 1 : Nat) : Int) := by
              have := h.rdy ho
              rw [hs3]
              refine ⟨this.op, this.len, ?_⟩
              intro x hx
              rcases List.mem_append.1 hx with hx | hx
              · exact h.low x hx
              · rw [List.mem_singleton.1 hx]; exact hl
            have h3 := hV s3 hR3 (by rw [hs3]; exact .inl rfl) (by rw [hs3]; exact hzlt)
            have hp3 : s3.pos = z + 1 := by rw [hs3]
            rw [hp3] at h3
            have hk3 : s3.key = S := by rw [hs3]
            cases e2 : V (skp T blanksS (z + 1)) with
            | bad c b => rw [e2] at h3; exact (hG2.trans hG3).bad h3
            | ok L q2 =>
              rw [e2] at h3
              obtain ⟨s4, hg4, hpv⟩ := h3
              rw [hk3] at hpv
              have hLI3 : LI { s3 with key := [] } o A kk true M0 (ns ++ [S]) k rest := by
                rw [hs3]
                refine ⟨h.opn, h.nodes, rfl, fun S2 => ?_, fun x hx => ?_, fun x hx => ?_, fun x hx => ?_⟩
                · simp only [List.mem_append, List.mem_singleton, Prod.mk.injEq, true_and]
                  rw [h.nm S2]
                · rcases List.mem_append.1 hx with hx | hx
                  · exact h.met x hx
                  · rw [List.mem_singleton.1 hx]; exact .inr (Nat.le_refl _)
                · exact List.mem_append_left _ (h.sub x hx)
                · rcases List.mem_append.1 hx with hx | hx
                  · exact h.low x hx
                  · rw [List.mem_singleton.1 hx]; exact hl
              have hpv' : Pv { s3 with key := [] } s4 q2 (keyed S L) := ⟨hpv.pos, hpv.opn, hpv.nodes, hpv.key, hpv.aw, hpv.met, hpv.sub, hpv.low⟩
              exact ⟨s4, (hG2.trans hG3).trans hg4, hLI3.put hpv', hpv'.pos, hpv'.aw.trans hLI3.aw⟩
          · rw [if_pos h58]
            rcases Nat.lt_or_ge z T.length with hzlt | hzge
            · refine hG2.bad (Bs.word (by rw [hz2]; exact hzlt) ?_)
              rw [hz2, hs2]
              unfold wordF
              simp only
              rw [if_neg (by decide), if_neg (by decide), if_neg (by decide), if_neg (by decide), if_pos trivial]
              unfold markF
              simp only
              rw [if_neg (by rw [tk_is hzlt 58]; exact fun hx => h58 ((bat_is hzlt 58).2 hx))]
            · have hzT : z = T.length := by omega
              show Bs T s 31 z
              rw [hzT]
              exact hG2.bad (Bs.stop (hz2.trans hzT) (by rw [hs2]; show 4 ≠ 7; decide))
    · rw [if_pos h34]
      refine Bs.word hlt' (hword.trans ?_)
      unfold nameF
      simp only
      rw [if_pos (fun hx => h34 ((bat_is hlt 34).2 hx))]
  · have hb := bat_out hge
    have hyT : y = T.length := by omega
    rw [if_pos (by rw [hb]; decide)]
    show Bs T s 31 y
    rw [hyT]
    exact Bs.stop (hy.trans hyT) haw7

end Go.Proofs.YtapljedegjiliaaGreatDoor

namespace Go.Proofs.YtapljedegjiliaaGreatDoor
open Go.RowKit

/-- What is awaited at the beginning of an item. -/
def AwI (T : List UInt8) (ob : Bool) (s : JS) : Prop := if ob then s.aw = 3 ∨ (s.aw = 2 ∧ tk T [125] (skp T blanksS s.pos) = false) else s.aw = 1 ∨ (s.aw = 0 ∧ tk T [93] (skp T blanksS s.pos) = false)

theorem row_run {T : List UInt8} {V : Nat → Lx (List Nd)} {op : Nat} (hV : VRun T (op + 1) V) (hO : VOk T V) (hk : ∀ p L q, V p = .ok L q → keyed [] L = L) {o : List Nat} {A : List Nd} {kk : List UInt8} {ob : Bool} {M0 : List (Nat × List UInt8)} (ho : o.length = op) (hoA : o ≠ [] → o.getLastD 0 < A.length) :
    ∀ (n : Nat) (s : JS) (ns : List (List UInt8)) (k : Nat) (rest : List Nd), LI s o A kk ob M0 ns k rest → AwI T ob s → s.pos ≤ T.length → T.length < n + skp T blanksS s.pos → RO T s o A kk M0 (rowL V T ob n ns k rest (skp T blanksS s.pos))
  | 0, s, ns, k, rest, h, haw, hp, hn => by
    have := skp_le T blanksS s.pos hp
    omega
  | n + 1, s, ns, k, rest, h, haw, hp, hn => by
    have hit : IO' T s o A kk ob M0 k rest (itD V T ob ns (skp T blanksS s.pos)) := by
      cases ob
      · exact item_list hV hk h ho haw hp
      · exact item_obj hV h ho haw hp
    unfold rowL
    cases e : itD V T ob ns (skp T blanksS s.pos) with
    | bad c b => rw [e] at hit; exact hit
    | ok Y q =>
      have hy := it_ok hO e
      rw [e] at hit
      obtain ⟨s1, hg1, hL1, hp1, ha1⟩ := hit
      unfold rowN
      simp only
      obtain ⟨z, hz⟩ : ∃ z, skp T blanksS q = z := ⟨_, rfl⟩
      have hzl : z ≤ T.length := by rw [← hz]; exact skp_le _ _ _ hy.2.1
      have hzg : q ≤ z := by rw [← hz]; exact skp_ge _ _ _
      have hz1 : skp T blanksS s1.pos = z := by rw [hp1]; exact hz
      rw [hz]
      rcases Nat.lt_or_ge z T.length with hlt | hge
      · by_cases hc : bat T z = clB ob
        · rw [if_pos hc]
          refine ⟨_, hg1.trans (Gs.word (s' := clsF { s1 with pos := z }) (by rw [hz1]; exact hlt) ?_), hL1.close hoA z⟩
          rw [hz1]
          unfold wordF
          cases ob
          · have hg := (bat_is hlt 93).1 hc
            have ha : s1.aw = 5 := ha1
            simp only [ha, (tk_is hlt 93).2 hg]
            rfl
          · have hg := (bat_is hlt 125).1 hc
            have ha : s1.aw = 6 := ha1
            simp only [ha, (tk_is hlt 125).2 hg]
            rfl
        · rw [if_neg hc]
          have hword : wordF T { s1 with pos := z } = markF T 44 (if ob then 3 else 1) { s1 with pos := z } := by
            unfold wordF
            cases ob
            · have hg : tk T [93] z = false := tk_not hlt (fun hx => hc ((bat_is hlt 93).2 hx))
              have ha : s1.aw = 5 := ha1
              simp only [ha, hg]
              rfl
            · have hg : tk T [125] z = false := tk_not hlt (fun hx => hc ((bat_is hlt 125).2 hx))
              have ha : s1.aw = 6 := ha1
              simp only [ha, hg]
              rfl
          by_cases h44 : bat T z = 44
          · rw [if_pos h44]
            have hg44 := (bat_is hlt 44).1 h44
            obtain ⟨s2, hs2⟩ : ∃ s2 : JS, s2 = { s1 with pos := z + 1, aw := if ob then 3 else 1 } := ⟨_, rfl⟩
            have hG2 : Gs T s1 s2 := by
              refine Gs.word (by rw [hz1]; exact hlt) ?_
              rw [hz1, hword]
              unfold markF
              simp only
              rw [if_pos ((tk_is hlt 44).2 hg44), hs2]
            have hL2 : LI s2 o A kk ob M0 Y.1 (k + 1) (rest ++ Y.2) := by
              rw [hs2]
              exact ⟨hL1.opn, hL1.nodes, hL1.key, hL1.nm, hL1.met, hL1.sub, hL1.low⟩
            have hp2 : s2.pos = z + 1 := by rw [hs2]
            have hA2 : AwI T ob s2 := by
              rw [hs2]
              unfold AwI
              cases ob <;> exact .inl rfl
            have hge2 := skp_ge T blanksS (z + 1)
            have hge1 := skp_ge T blanksS s.pos
            have ih := row_run hV hO hk ho hoA n s2 Y.1 (k + 1) (rest ++ Y.2) hL2 hA2 (by rw [hp2]; exact hlt) (by rw [hp2]; omega)
            rw [hp2] at ih
            cases e3 : rowL V T ob n Y.1 (k + 1) (rest ++ Y.2) (skp T blanksS (z + 1)) with
            | bad c b => rw [e3] at ih; exact (hg1.trans hG2).bad ih
            | ok L q3 =>
              rw [e3] at ih
              obtain ⟨s3, hg3, hr3⟩ := ih
              exact ⟨s3, (hg1.trans hG2).trans hg3, hr3⟩
          · rw [if_neg h44]
            refine hg1.bad (Bs.word (by rw [hz1]; exact hlt) ?_)
            rw [hz1, hword]
            unfold markF
            simp only
            rw [if_neg (by rw [tk_is hlt 44]; exact fun hx => h44 ((bat_is hlt 44).2 hx))]
      · have hb := bat_out hge
        have hzT : z = T.length := by omega
        rw [hb, if_neg (by unfold clB; split <;> decide), if_neg (by decide)]
        show Bs T s 31 z
        rw [hzT]
        exact hg1.bad (Bs.stop (hz1.trans hzT) (by rw [ha1]; split <;> decide))

/-- A row, from its opening on. -/
theorem row_case {T : List UInt8} {V : Nat → Lx (List Nd)} {op : Nat} (hV : VRun T (op + 1) V) (hO : VOk T V) (hk : ∀ p L q, V p = .ok L q → keyed [] L = L) {s : JS} (hs : Rdy s (op : Int)) (haw : s.aw = 1 ∨ (s.aw = 0 ∧ tk T [93] (skp T blanksS s.pos) = false)) (ob : Bool)
    (hlt : skp T blanksS s.pos < T.length) (hop : op ≠ 32) (hg : T.getD (skp T blanksS s.pos) 0 = (if ob then 123 else 91)) : VO T s (rowD V T ob (skp T blanksS s.pos)) := by
  obtain ⟨z, hz⟩ : ∃ z, skp T blanksS s.pos = z := ⟨_, rfl⟩
  have hlt' := hlt
  rw [hz] at haw hlt hg ⊢
  have hol : s.opn.length ≠ 32 := by have := hs.len; omega
  have hA : (upK s.opn s.nodes).length = s.nodes.length := upK_length _ _
  obtain ⟨s1, hG1, e1p, e1o, e1n, e1k, e1a, e1m⟩ : ∃ s1 : JS, Gs T s s1 ∧ s1.pos = z + 1 ∧ s1.opn = s.opn ++ [s.nodes.length] ∧ s1.nodes = upK s.opn s.nodes ++ [{ hdN ob 0 with key := s.key }] ∧ s1.key = [] ∧ s1.aw = (if ob then 2 else 0) ∧ s1.met = s.met := by
    have hword : wordF T { s with pos := skp T blanksS s.pos } = beginF (if ob then 7 else 6) (if ob then 2 else 0) { s with pos := z } := by
      rw [hz]
      have hv : valueF T { s with pos := z } = beginF (if ob then 7 else 6) (if ob then 2 else 0) { s with pos := z } := by
        unfold valueF
        simp only
        rw [hg]
        cases ob <;> rfl
      rw [← hv]
      unfold wordF
      rcases haw with h | ⟨h, h2⟩
      · simp only [h]
        rfl
      · simp only [h, h2]
        rfl
    have hnds := addF_nds hs.op (nd0 ((if ob then 7 else 6 : Nat) : Int)) (z + 1)
    unfold beginF at hword
    rw [if_neg (show ({ s with pos := z } : JS).opn.length ≠ 32 from hol)] at hword
    refine ⟨_, Gs.word hlt' hword, ?_, ?_, ?_, ?_, rfl, ?_⟩
    · show (addF _ _).pos = _
      rw [addF_pos]
    · show (addF _ _).opn ++ [(addF _ _).nodes.length - 1] = _
      rw [addF_opn, addF_nodes]
      simp
    · show (addF _ _).nodes = _
      refine hnds.trans ?_
      cases ob <;> rfl
    · show (addF _ _).key = _
      exact addF_key _ _
    · show (addF _ _).met = _
      exact addF_met _ _
  have hLI : LI s1 s.opn (upK s.opn s.nodes) s.key ob s.met [] 0 [] := by
    refine ⟨by rw [e1o, hA], e1n, e1k, fun S => ?_, fun e he => .inl (by rw [← e1m]; exact he), fun e he => by rw [e1m]; exact he, fun e he => ?_⟩
    · rw [e1m, hA]
      constructor
      · intro hm
        have := hs.low _ hm
        simp only at this
        omega
      · intro hm
        simp at hm
    · rw [e1m] at he
      have := hs.low e he
      rw [e1n]
      simp [hA]
      omega
  have hoA : s.opn ≠ [] → s.opn.getLastD 0 < (upK s.opn s.nodes).length := fun h0 => by rw [hA]; exact hs.op h0
  -- what a row's end says of the value
  have fin : ∀ s' q L, RE s' s.opn (upK s.opn s.nodes) s.key s.met q L → Pv s s' q (keyed s.key L) := fun s' q L hr => by
    refine ⟨hr.pos, hr.opn, hr.nodes, hr.key, ?_, fun e he => ?_, hr.sub, hr.low⟩
    · rw [hr.aw]
      unfold awOf inm
      by_cases h0 : s.opn = []
      · rw [if_pos h0, if_pos h0]
      · rw [if_neg h0, if_neg h0, upK_kind]
    · rcases hr.met e he with h | h
      · exact .inl h
      · exact .inr (by rw [hA] at h; exact h)
  have ro : ∀ x, RO T s1 s.opn (upK s.opn s.nodes) s.key s.met x → VO T s x := fun x hx => by
    cases x with
    | bad c b => exact hG1.bad hx
    | ok L q =>
      obtain ⟨s', hg', hr⟩ := hx
      exact ⟨s', hG1.trans hg', fin s' q L hr⟩
  have holn : s.opn.length = op := by have := hs.len; omega
  obtain ⟨y, hy⟩ : ∃ y, skp T blanksS (z + 1) = y := ⟨_, rfl⟩
  have hy1 : skp T blanksS s1.pos = y := by rw [e1p]; exact hy
  have hyl : y ≤ T.length := by rw [← hy]; exact skp_le _ _ _ hlt
  have hyg : z + 1 ≤ y := by rw [← hy]; exact skp_ge _ _ _
  unfold rowD
  rw [hy]
  by_cases hc : bat T y = clB ob
  · rw [if_pos hc]
    have hylt : y < T.length := bat_lt (by rw [hc]; unfold clB; split <;> decide)
    refine ro (.ok [hdN ob 0] (y + 1)) ⟨_, Gs.word (s' := clsF { s1 with pos := y }) (by rw [hy1]; exact hylt) ?_, hLI.close hoA y⟩
    rw [hy1]
    unfold wordF
    cases ob
    · have hg2 := (bat_is hylt 93).1 hc
      have ha : s1.aw = 0 := e1a
      simp only [ha, (tk_is hylt 93).2 hg2]
      rfl
    · have hg2 := (bat_is hylt 125).1 hc
      have ha : s1.aw = 2 := e1a
      simp only [ha, (tk_is hylt 125).2 hg2]
      rfl
  · rw [if_neg hc]
    refine ro _ ?_
    have hAw : AwI T ob s1 := by
      unfold AwI
      rw [hy1]
      have tf : ∀ k : UInt8, (k.toNat : Int) = clB ob → tk T [k] y = false := fun k hk => by
        rcases Nat.lt_or_ge y T.length with h | h
        · exact tk_not h (fun hx => hc (by rw [← hk]; exact (bat_is h k).2 hx))
        · unfold tk
          rw [decide_eq_false (by omega), Bool.false_and]
      cases ob
      · exact .inr ⟨e1a, tf 93 rfl⟩
      · exact .inr ⟨e1a, tf 125 rfl⟩
    have := row_run hV hO hk holn hoA (T.length + 1) s1 [] 0 [] hLI hAw (by rw [e1p]; exact hlt) (by omega)
    rw [hy1] at this
    exact this

/-- Every value is read by both alike. -/
theorem val_run (T : List UInt8) : ∀ f, f ≤ 32 → VRun T (32 - f) (vF T (f + 1))
  | 0, _ => fun s hs haw hp => by
    have := val_case (op := 32) (fun ob => rowD (vF T 0) T ob (skp T blanksS s.pos)) hs haw hp (fun ob h1 h2 h3 => absurd rfl h2)
    exact this
  | f + 1, hf => fun s hs haw hp => by
    have ih := val_run T f (by omega)
    rw [show 32 - f = 32 - (f + 1) + 1 by omega] at ih
    have := val_case (op := 32 - (f + 1)) (fun ob => rowD (vF T (f + 1)) T ob (skp T blanksS s.pos)) hs haw hp (fun ob h1 h2 h3 => row_case ih (vF_ok T (f + 1)) (fun p L q h => vF_key T (f + 1) p L q h) hs haw ob h1 h2 h3)
    exact this

/-- Both readers answer alike. -/
theorem dparse_eq (t : List UInt8) : dparseF t = parseF t := by
  unfold dparseF parseF
  by_cases hl : 262144 < t.length
  · rw [if_pos hl, if_pos hl]
  · rw [if_neg hl, if_neg hl]
    have h := val_run t 32 (Nat.le_refl _) start ⟨fun h => absurd rfl h, rfl, fun e he => by cases he⟩ (.inl rfl) (Nat.zero_le _)
    have h : VO t start (vF t 33 (skp t blanksS 0)) := h
    cases e : vF t 33 (skp t blanksS 0) with
    | bad c b =>
      rw [e] at h
      obtain ⟨m, hm⟩ := h
      have hrun : runF t (t.length + 1) start = .bad c b := by
        rw [runF_fuel (t.length + 1) (t.length + 1 + m) start (Nat.zero_le _) (by show t.length < t.length + 1 + 0; omega) (by show t.length < t.length + 1 + m + 0; omega), hm]
      rw [hrun]
      rfl
    | ok L q =>
      have hk := vF_key t 33 _ L q e
      have ho := (vF_ok t 33).ok _ L q e
      rw [e] at h
      obtain ⟨s', ⟨m, hG⟩, P⟩ := h
      have hn : s'.nodes = L := by
        rw [P.nodes]
        show upK [] [] ++ keyed [] L = L
        rw [hk]
        rfl
      have ha : s'.aw = 7 := by rw [P.aw]; rfl
      have hrun : runF t (t.length + 1) start = runF t (t.length + 1) s' := by
        rw [runF_fuel (t.length + 1) (t.length + 1 + m) start (Nat.zero_le _) (by show t.length < t.length + 1 + 0; omega) (by show t.length < t.length + 1 + m + 0; omega), hG]
      rw [hrun]
      unfold runF
      simp only
      rw [P.pos]
      unfold dpG
      simp only
      have hz := skp_le t blanksS q ho.2.1
      by_cases hlt : skp t blanksS q < t.length
      · have hw : wordF t { s' with pos := skp t blanksS q } = .bad 31 (skp t blanksS q) := by
          unfold wordF
          simp only [ha]
          rfl
        rw [if_pos hlt, if_neg (by omega), hw]
      · rw [if_neg hlt, if_pos (by omega), if_pos ha, hn]

end Go.Proofs.YtapljedegjiliaaGreatDoor
