import Derived.Test.YtfchdjlkndlleaaDoorDr
import Derived.Test.YtfchdjlkndlleaaDoorYZ
namespace Go.Proofs.YtfchdjlkndlleaaDoor
open Go.RowKit

/-- The reader comes to that fault. -/
def Bs (T : List UInt8) (s : JS) (c p : Nat) : Prop := ∃ m, ∀ n, runF T (n + m) s = .bad c p
theorem Gs.bad {T : List UInt8} {s s' : JS} {c p : Nat} (h : Gs T s s') (h2 : Bs T s' c p) : Bs T s c p := by
  obtain ⟨m, e⟩ := h
  obtain ⟨k, e2⟩ := h2
  exact ⟨k + m, fun n => by rw [← Nat.add_assoc, e, e2]⟩
theorem Gs.word {T : List UInt8} {s s' : JS} (hz : skp T blanksS s.pos < T.length) (h : wordF T { s with pos := skp T blanksS s.pos } = .go s') : Gs T s s' := by
  refine ⟨1, fun n => ?_⟩
  rw [show n + 1 = Nat.succ n from rfl]
  conv => lhs; unfold runF
  simp only
  rw [if_neg (by omega), h]
theorem Bs.word {T : List UInt8} {s : JS} {c p : Nat} (hz : skp T blanksS s.pos < T.length) (h : wordF T { s with pos := skp T blanksS s.pos } = .bad c p) : Bs T s c p := by
  refine ⟨1, fun n => ?_⟩
  rw [show n + 1 = Nat.succ n from rfl]
  conv => lhs; unfold runF
  simp only
  rw [if_neg (by omega), h]
theorem Bs.stop {T : List UInt8} {s : JS} (hz : skp T blanksS s.pos = T.length) (ha : s.aw ≠ 7) : Bs T s 31 T.length := by
  refine ⟨1, fun n => ?_⟩
  rw [show n + 1 = Nat.succ n from rfl]
  conv => lhs; unfold runF
  simp only
  rw [if_pos hz, if_neg ha, hz]

/-- A value has been read, up to that place. -/
structure Pv (s s' : JS) (q : Nat) (l : List Nd) : Prop where
  pos : s'.pos = q
  opn : s'.opn = s.opn
  nodes : s'.nodes = upK s.opn s.nodes ++ l
  key : s'.key = []
  aw : s'.aw = awOf s
  met : ∀ e ∈ s'.met, e ∈ s.met ∨ s.nodes.length ≤ e.1
  sub : ∀ e ∈ s.met, e ∈ s'.met
  low : ∀ e ∈ s'.met, e.1 < s'.nodes.length
theorem add_pv {s : JS} {d : Int} (h : Rdy s d) (m : Nd) (q : Nat) : Pv s (addF m { s with pos := q }) q [{ m with key := s.key }] := by
  refine ⟨addF_pos _ _, addF_opn _ _, addF_nds h.op m _, addF_key _ _, addF_aw h.op m _, ?_, ?_, ?_⟩
  · rw [addF_met]
    exact fun e he => .inl he
  · rw [addF_met]
    exact fun e he => he
  · rw [addF_met, addF_nds h.op]
    intro e he
    have := h.low e he
    simp only [List.length_append, upK_length, List.length_singleton]
    omega
/-- What the reader does from there is what the document's reader answers. -/
def VO (T : List UInt8) (s : JS) : Lx (List Nd) → Prop
  | .ok L q => ∃ s', Gs T s s' ∧ Pv s s' q (keyed s.key L)
  | .bad c b => Bs T s c b

theorem bat_at {T : List UInt8} {z : Nat} (hz : z < T.length) : bat T z = ((T.getD z 0).toNat : Int) := by unfold bat; rw [if_pos hz]
theorem bat_is {T : List UInt8} {z : Nat} (hz : z < T.length) (k : UInt8) : bat T z = (k.toNat : Int) ↔ T.getD z 0 = k := by
  rw [bat_at hz]
  constructor
  · intro h
    exact UInt8.toNat_inj.1 (by omega)
  · intro h
    rw [h]
theorem bat_out {T : List UInt8} {z : Nat} (hz : T.length ≤ z) : bat T z = -1 := by unfold bat; rw [if_neg (by omega)]
theorem tk_is {T : List UInt8} {z : Nat} (hz : z < T.length) (k : UInt8) : tk T [k] z = true ↔ T.getD z 0 = k := by
  unfold tk
  rw [decide_eq_true hz]
  simp
theorem tk_not {T : List UInt8} {z : Nat} (hz : z < T.length) {k : UInt8} (h : T.getD z 0 ≠ k) : tk T [k] z = false := by
  cases e : tk T [k] z
  · rfl
  · exact absurd ((tk_is hz k).1 e) h
theorem dig_in : ∀ c : UInt8, digitsS.contains c = true → 48 ≤ c.toNat ∧ c.toNat ≤ 57 := by
  intro c h
  simp [digitsS] at h
  rcases h with rfl | rfl | rfl | rfl | rfl | rfl | rfl | rfl | rfl | rfl <;> decide
theorem num_else {T : List UInt8} {z : Nat} (hz : z < T.length) (h : ¬ (bat T z = 45 ∨ (48 ≤ bat T z ∧ bat T z ≤ 57))) : numL T z = .bad 31 z := by
  rw [bat_at hz] at h
  have h45 : T.getD z 0 ≠ 45 := fun e => h (Or.inl (by rw [e]; rfl))
  have hd : tk T digitsS z = false := by
    cases e : tk T digitsS z
    · rfl
    · unfold tk at e
      rw [decide_eq_true hz, Bool.true_and] at e
      have := dig_in _ e
      exact absurd (Or.inr ⟨by omega, by omega⟩) h
  have h48 : T.getD z 0 ≠ 48 := fun e => h (Or.inr (by rw [e]; decide))
  unfold numL numI
  rw [tk_not hz h45]
  simp only [Bool.false_eq_true, if_false]
  rw [tk_not hz h48, hd]
  simp

/-- A value, given how its row is read. -/
theorem val_case {T : List UInt8} {s : JS} {op : Nat} (RW : Bool → Lx (List Nd)) (hs : Rdy s (op : Int)) (haw : s.aw = 1 ∨ (s.aw = 0 ∧ tk T [93] (skp T blanksS s.pos) = false)) (hp : s.pos ≤ T.length)
    (hrow : ∀ ob : Bool, skp T blanksS s.pos < T.length → op ≠ 32 → T.getD (skp T blanksS s.pos) 0 = (if ob then 123 else 91) → VO T s (RW ob)) : VO T s (valD RW T op (skp T blanksS s.pos)) := by
  obtain ⟨z, hz⟩ : ∃ z, skp T blanksS s.pos = z := ⟨_, rfl⟩
  have hzl : z ≤ T.length := by rw [← hz]; exact skp_le _ _ _ hp
  rw [hz] at haw hrow ⊢
  rcases Nat.lt_or_ge z T.length with hlt | hge
  · have hlt' : skp T blanksS s.pos < T.length := by rw [hz]; exact hlt
    have hword : wordF T { s with pos := skp T blanksS s.pos } = valueF T { s with pos := z } := by
      rw [hz]
      unfold wordF
      rcases haw with h | ⟨h, h2⟩
      · simp only [h]
        rfl
      · simp only [h, h2]
        rfl
    have go : ∀ s', valueF T { s with pos := z } = .go s' → Gs T s s' := fun s' e => Gs.word hlt' (hword.trans e)
    have no : ∀ c p, valueF T { s with pos := z } = .bad c p → Bs T s c p := fun c p e => Bs.word hlt' (hword.trans e)
    have hop : s.opn.length = op := by have := hs.len; omega
    unfold valD
    by_cases h91 : bat T z = 91
    · have hg := (bat_is hlt 91).1 h91
      rw [if_pos h91]
      by_cases h32 : op = 32
      · rw [if_pos h32]
        refine no 11 z ?_
        unfold valueF
        simp only
        rw [hg, if_neg (by decide), if_pos rfl]
        unfold beginF
        rw [if_pos (hop.trans h32)]
      · rw [if_neg h32]
        exact hrow false hlt h32 hg
    rw [if_neg h91]
    have n91 : T.getD z 0 ≠ 91 := fun e => h91 ((bat_is hlt 91).2 e)
    by_cases h123 : bat T z = 123
    · have hg := (bat_is hlt 123).1 h123
      rw [if_pos h123]
      by_cases h32 : op = 32
      · rw [if_pos h32]
        refine no 11 z ?_
        unfold valueF
        simp only
        rw [hg, if_pos rfl]
        unfold beginF
        rw [if_pos (hop.trans h32)]
      · rw [if_neg h32]
        exact hrow true hlt h32 hg
    rw [if_neg h123]
    have n123 : T.getD z 0 ≠ 123 := fun e => h123 ((bat_is hlt 123).2 e)
    by_cases h34 : bat T z = 34
    · have hg := (bat_is hlt 34).1 h34
      rw [if_pos h34]
      cases e : quoF T (T.length + 1) (z + 1) [] with
      | bad c b =>
        refine no c b ?_
        unfold valueF
        simp only
        rw [hg, if_neg (by decide), if_neg (by decide), if_pos rfl, e]
      | ok S q =>
        refine ⟨_, go _ ?_, add_pv hs { nd0 5 with text := S } q⟩
        unfold valueF
        simp only
        rw [hg, if_neg (by decide), if_neg (by decide), if_pos rfl, e]
    rw [if_neg h34]
    have n34 : T.getD z 0 ≠ 34 := fun e => h34 ((bat_is hlt 34).2 e)
    have lit : ∀ (wd : List UInt8) (k : Int), valueF T { s with pos := z } = litS T wd k { s with pos := z } → VO T s (ltF T wd k z) := fun wd k hv => by
      unfold ltF
      cases e : litF T wd z with
      | bad c b =>
        refine no c b (hv.trans ?_)
        unfold litS
        simp only
        rw [e]
      | ok u q =>
        refine ⟨_, go _ (hv.trans ?_), add_pv hs (nd0 k) q⟩
        unfold litS
        simp only
        rw [e]
    have num : T.getD z 0 ≠ 110 → T.getD z 0 ≠ 102 → T.getD z 0 ≠ 116 → VO T s (nuF T z) := fun n1 n2 n3 => by
      unfold nuF
      have hv : valueF T { s with pos := z } = match numL T z with
        | .ok _ p => .go (addF (numN (sgl T z p)) { s with pos := p })
        | .bad c p => .bad c p := by
        unfold valueF
        simp only
        rw [if_neg n123, if_neg n91, if_neg n34, if_neg n1, if_neg n2, if_neg n3]
        cases numL T z <;> rfl
      cases e : numL T z with
      | bad c b =>
        refine no c b (hv.trans ?_)
        rw [e]
      | ok u q =>
        refine ⟨_, go _ (hv.trans ?_), add_pv hs (numN (sgl T z q)) q⟩
        rw [e]
    by_cases hnu : bat T z = 45 ∨ (48 ≤ bat T z ∧ bat T z ≤ 57)
    · rw [if_pos hnu]
      have hb := bat_at hlt
      refine num (fun e => ?_) (fun e => ?_) (fun e => ?_) <;> (rw [hb, e] at hnu; revert hnu; decide)
    rw [if_neg hnu]
    by_cases h110 : bat T z = 110
    · have hg := (bat_is hlt 110).1 h110
      rw [if_pos h110]
      refine lit _ _ ?_
      unfold valueF
      simp only
      rw [hg, if_neg (by decide), if_neg (by decide), if_neg (by decide), if_pos rfl]
    rw [if_neg h110]
    have n110 : T.getD z 0 ≠ 110 := fun e => h110 ((bat_is hlt 110).2 e)
    by_cases h102 : bat T z = 102
    · have hg := (bat_is hlt 102).1 h102
      rw [if_pos h102]
      refine lit _ _ ?_
      unfold valueF
      simp only
      rw [hg, if_neg (by decide), if_neg (by decide), if_neg (by decide), if_neg (by decide), if_pos rfl]
    rw [if_neg h102]
    have n102 : T.getD z 0 ≠ 102 := fun e => h102 ((bat_is hlt 102).2 e)
    by_cases h116 : bat T z = 116
    · have hg := (bat_is hlt 116).1 h116
      rw [if_pos h116]
      refine lit _ _ ?_
      unfold valueF
      simp only
      rw [hg, if_neg (by decide), if_neg (by decide), if_neg (by decide), if_neg (by decide), if_neg (by decide), if_pos rfl]
    rw [if_neg h116]
    have n116 : T.getD z 0 ≠ 116 := fun e => h116 ((bat_is hlt 116).2 e)
    have := num n110 n102 n116
    unfold nuF at this
    rw [num_else hlt hnu] at this
    exact this
  · have hb := bat_out hge
    have hzT : z = T.length := by omega
    unfold valD
    rw [hb, if_neg (by decide), if_neg (by decide), if_neg (by decide), if_neg (by decide), if_neg (by decide), if_neg (by decide), if_neg (by decide)]
    show Bs T s 31 z
    rw [hzT]
    exact Bs.stop (hz.trans hzT) (by rcases haw with h | ⟨h, _⟩ <;> omega)

end Go.Proofs.YtfchdjlkndlleaaDoor
