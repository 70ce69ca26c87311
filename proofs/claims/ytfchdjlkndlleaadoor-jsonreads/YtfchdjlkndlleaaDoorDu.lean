import Derived.Test.YtfchdjlkndlleaaDoorDt
namespace Go.Proofs.YtfchdjlkndlleaaDoor
open Go.RowKit

/-- What is awaited at the beginning of an item. -/
def AwI (T : List UInt8) (ob : Bool) (s : JS) : Prop := if ob then s.aw = 3 ∨ (s.aw = 2 ∧ tk T [125] (skp T blanksS s.pos) = false) else s.aw = 1 ∨ (s.aw = 0 ∧ tk T [93] (skp T blanksS s.pos) = false)

theorem row_run {T : List UInt8} {V : Nat → Lx (List Nd)} {op : Nat} (hV : VRun T (op + 1) V) (hO : VOk T V) (hk : ∀ p L q, V p = .ok L q → keyed [] L = L) {o : List Nat} {A : List Nd} {kk : List UInt8} {ob : Bool} {M0 : List (Nat × List UInt8)} (ho : o.length = op) (hoA : o ≠ [] → o.getLastD 0 < A.length) :
    ∀ (n : Nat) (s : JS) (ns : List (List UInt8)) (k : Nat) (rest : List Nd), LI s o A kk ob M0 ns k rest → AwI T ob s → s.pos ≤ T.length → T.length < n + skp T blanksS s.pos → RO T s o A kk M0 (rowL V T ob n ns k rest (skp T blanksS s.pos))
  | 0, s, ns, k, rest, h, haw, hp, hn => by
    have := skp_le T blanksS s.pos hp
    omega
  | n + 1, s, ns, k, rest, h, haw, hp, hn => by
    have hit : IO' T s o A kk ob M0 k rest (itD V T ob ns (skp T blanksS s.pos)) := by
      cases ob
      · exact item_list hV hk h ho haw hp
      · exact item_obj hV h ho haw hp
    unfold rowL
    cases e : itD V T ob ns (skp T blanksS s.pos) with
    | bad c b => rw [e] at hit; exact hit
    | ok Y q =>
      have hy := it_ok hO e
      rw [e] at hit
      obtain ⟨s1, hg1, hL1, hp1, ha1⟩ := hit
      unfold rowN
      simp only
      obtain ⟨z, hz⟩ : ∃ z, skp T blanksS q = z := ⟨_, rfl⟩
      have hzl : z ≤ T.length := by rw [← hz]; exact skp_le _ _ _ hy.2.1
      have hzg : q ≤ z := by rw [← hz]; exact skp_ge _ _ _
      have hz1 : skp T blanksS s1.pos = z := by rw [hp1]; exact hz
      rw [hz]
      rcases Nat.lt_or_ge z T.length with hlt | hge
      · by_cases hc : bat T z = clB ob
        · rw [if_pos hc]
          refine ⟨_, hg1.trans (Gs.word (s' := clsF { s1 with pos := z }) (by rw [hz1]; exact hlt) ?_), hL1.close hoA z⟩
          rw [hz1]
          unfold wordF
          cases ob
          · have hg := (bat_is hlt 93).1 hc
            have ha : s1.aw = 5 := ha1
            simp only [ha, (tk_is hlt 93).2 hg]
            rfl
          · have hg := (bat_is hlt 125).1 hc
            have ha : s1.aw = 6 := ha1
            simp only [ha, (tk_is hlt 125).2 hg]
            rfl
        · rw [if_neg hc]
          have hword : wordF T { s1 with pos := z } = markF T 44 (if ob then 3 else 1) { s1 with pos := z } := by
            unfold wordF
            cases ob
            · have hg : tk T [93] z = false := tk_not hlt (fun hx => hc ((bat_is hlt 93).2 hx))
              have ha : s1.aw = 5 := ha1
              simp only [ha, hg]
              rfl
            · have hg : tk T [125] z = false := tk_not hlt (fun hx => hc ((bat_is hlt 125).2 hx))
              have ha : s1.aw = 6 := ha1
              simp only [ha, hg]
              rfl
          by_cases h44 : bat T z = 44
          · rw [if_pos h44]
            have hg44 := (bat_is hlt 44).1 h44
            obtain ⟨s2, hs2⟩ : ∃ s2 : JS, s2 = { s1 with pos := z + 1, aw := if ob then 3 else 1 } := ⟨_, rfl⟩
            have hG2 : Gs T s1 s2 := by
              refine Gs.word (by rw [hz1]; exact hlt) ?_
              rw [hz1, hword]
              unfold markF
              simp only
              rw [if_pos ((tk_is hlt 44).2 hg44), hs2]
            have hL2 : LI s2 o A kk ob M0 Y.1 (k + 1) (rest ++ Y.2) := by
              rw [hs2]
              exact ⟨hL1.opn, hL1.nodes, hL1.key, hL1.nm, hL1.met, hL1.sub, hL1.low⟩
            have hp2 : s2.pos = z + 1 := by rw [hs2]
            have hA2 : AwI T ob s2 := by
              rw [hs2]
              unfold AwI
              cases ob <;> exact .inl rfl
            have hge2 := skp_ge T blanksS (z + 1)
            have hge1 := skp_ge T blanksS s.pos
            have ih := row_run hV hO hk ho hoA n s2 Y.1 (k + 1) (rest ++ Y.2) hL2 hA2 (by rw [hp2]; exact hlt) (by rw [hp2]; omega)
            rw [hp2] at ih
            cases e3 : rowL V T ob n Y.1 (k + 1) (rest ++ Y.2) (skp T blanksS (z + 1)) with
            | bad c b => rw [e3] at ih; exact (hg1.trans hG2).bad ih
            | ok L q3 =>
              rw [e3] at ih
              obtain ⟨s3, hg3, hr3⟩ := ih
              exact ⟨s3, (hg1.trans hG2).trans hg3, hr3⟩
          · rw [if_neg h44]
            refine hg1.bad (Bs.word (by rw [hz1]; exact hlt) ?_)
            rw [hz1, hword]
            unfold markF
            simp only
            rw [if_neg (by rw [tk_is hlt 44]; exact fun hx => h44 ((bat_is hlt 44).2 hx))]
      · have hb := bat_out hge
        have hzT : z = T.length := by omega
        rw [hb, if_neg (by unfold clB; split <;> decide), if_neg (by decide)]
        show Bs T s 31 z
        rw [hzT]
        exact hg1.bad (Bs.stop (hz1.trans hzT) (by rw [ha1]; split <;> decide))

/-- A row, from its opening on. -/
theorem row_case {T : List UInt8} {V : Nat → Lx (List Nd)} {op : Nat} (hV : VRun T (op + 1) V) (hO : VOk T V) (hk : ∀ p L q, V p = .ok L q → keyed [] L = L) {s : JS} (hs : Rdy s (op : Int)) (haw : s.aw = 1 ∨ (s.aw = 0 ∧ tk T [93] (skp T blanksS s.pos) = false)) (ob : Bool)
    (hlt : skp T blanksS s.pos < T.length) (hop : op ≠ 32) (hg : T.getD (skp T blanksS s.pos) 0 = (if ob then 123 else 91)) : VO T s (rowD V T ob (skp T blanksS s.pos)) := by
  obtain ⟨z, hz⟩ : ∃ z, skp T blanksS s.pos = z := ⟨_, rfl⟩
  have hlt' := hlt
  rw [hz] at haw hlt hg ⊢
  have hol : s.opn.length ≠ 32 := by have := hs.len; omega
  have hA : (upK s.opn s.nodes).length = s.nodes.length := upK_length _ _
  obtain ⟨s1, hG1, e1p, e1o, e1n, e1k, e1a, e1m⟩ : ∃ s1 : JS, Gs T s s1 ∧ s1.pos = z + 1 ∧ s1.opn = s.opn ++ [s.nodes.length] ∧ s1.nodes = upK s.opn s.nodes ++ [{ hdN ob 0 with key := s.key }] ∧ s1.key = [] ∧ s1.aw = (if ob then 2 else 0) ∧ s1.met = s.met := by
    have hword : wordF T { s with pos := skp T blanksS s.pos } = beginF (if ob then 7 else 6) (if ob then 2 else 0) { s with pos := z } := by
      rw [hz]
      have hv : valueF T { s with pos := z } = beginF (if ob then 7 else 6) (if ob then 2 else 0) { s with pos := z } := by
        unfold valueF
        simp only
        rw [hg]
        cases ob <;> rfl
      rw [← hv]
      unfold wordF
      rcases haw with h | ⟨h, h2⟩
      · simp only [h]
        rfl
      · simp only [h, h2]
        rfl
    have hnds := addF_nds hs.op (nd0 ((if ob then 7 else 6 : Nat) : Int)) (z + 1)
    unfold beginF at hword
    rw [if_neg (show ({ s with pos := z } : JS).opn.length ≠ 32 from hol)] at hword
    refine ⟨_, Gs.word hlt' hword, ?_, ?_, ?_, ?_, rfl, ?_⟩
    · show (addF _ _).pos = _
      rw [addF_pos]
    · show (addF _ _).opn ++ [(addF _ _).nodes.length - 1] = _
      rw [addF_opn, addF_nodes]
      simp
    · show (addF _ _).nodes = _
      refine hnds.trans ?_
      cases ob <;> rfl
    · show (addF _ _).key = _
      exact addF_key _ _
    · show (addF _ _).met = _
      exact addF_met _ _
  have hLI : LI s1 s.opn (upK s.opn s.nodes) s.key ob s.met [] 0 [] := by
    refine ⟨by rw [e1o, hA], e1n, e1k, fun S => ?_, fun e he => .inl (by rw [← e1m]; exact he), fun e he => by rw [e1m]; exact he, fun e he => ?_⟩
    · rw [e1m, hA]
      constructor
      · intro hm
        have := hs.low _ hm
        simp only at this
        omega
      · intro hm
        simp at hm
    · rw [e1m] at he
      have := hs.low e he
      rw [e1n]
      simp [hA]
      omega
  have hoA : s.opn ≠ [] → s.opn.getLastD 0 < (upK s.opn s.nodes).length := fun h0 => by rw [hA]; exact hs.op h0
  -- what a row's end says of the value
  have fin : ∀ s' q L, RE s' s.opn (upK s.opn s.nodes) s.key s.met q L → Pv s s' q (keyed s.key L) := fun s' q L hr => by
    refine ⟨hr.pos, hr.opn, hr.nodes, hr.key, ?_, fun e he => ?_, hr.sub, hr.low⟩
    · rw [hr.aw]
      unfold awOf inm
      by_cases h0 : s.opn = []
      · rw [if_pos h0, if_pos h0]
      · rw [if_neg h0, if_neg h0, upK_kind]
    · rcases hr.met e he with h | h
      · exact .inl h
      · exact .inr (by rw [hA] at h; exact h)
  have ro : ∀ x, RO T s1 s.opn (upK s.opn s.nodes) s.key s.met x → VO T s x := fun x hx => by
    cases x with
    | bad c b => exact hG1.bad hx
    | ok L q =>
      obtain ⟨s', hg', hr⟩ := hx
      exact ⟨s', hG1.trans hg', fin s' q L hr⟩
  have holn : s.opn.length = op := by have := hs.len; omega
  obtain ⟨y, hy⟩ : ∃ y, skp T blanksS (z + 1) = y := ⟨_, rfl⟩
  have hy1 : skp T blanksS s1.pos = y := by rw [e1p]; exact hy
  have hyl : y ≤ T.length := by rw [← hy]; exact skp_le _ _ _ hlt
  have hyg : z + 1 ≤ y := by rw [← hy]; exact skp_ge _ _ _
  unfold rowD
  rw [hy]
  by_cases hc : bat T y = clB ob
  · rw [if_pos hc]
    have hylt : y < T.length := bat_lt (by rw [hc]; unfold clB; split <;> decide)
    refine ro (.ok [hdN ob 0] (y + 1)) ⟨_, Gs.word (s' := clsF { s1 with pos := y }) (by rw [hy1]; exact hylt) ?_, hLI.close hoA y⟩
    rw [hy1]
    unfold wordF
    cases ob
    · have hg2 := (bat_is hylt 93).1 hc
      have ha : s1.aw = 0 := e1a
      simp only [ha, (tk_is hylt 93).2 hg2]
      rfl
    · have hg2 := (bat_is hylt 125).1 hc
      have ha : s1.aw = 2 := e1a
      simp only [ha, (tk_is hylt 125).2 hg2]
      rfl
  · rw [if_neg hc]
    refine ro _ ?_
    have hAw : AwI T ob s1 := by
      unfold AwI
      rw [hy1]
      have tf : ∀ k : UInt8, (k.toNat : Int) = clB ob → tk T [k] y = false := fun k hk => by
        rcases Nat.lt_or_ge y T.length with h | h
        · exact tk_not h (fun hx => hc (by rw [← hk]; exact (bat_is h k).2 hx))
        · unfold tk
          rw [decide_eq_false (by omega), Bool.false_and]
      cases ob
      · exact .inr ⟨e1a, tf 93 rfl⟩
      · exact .inr ⟨e1a, tf 125 rfl⟩
    have := row_run hV hO hk holn hoA (T.length + 1) s1 [] 0 [] hLI hAw (by rw [e1p]; exact hlt) (by omega)
    rw [hy1] at this
    exact this

/-- Every value is read by both alike. -/
theorem val_run (T : List UInt8) : ∀ f, f ≤ 32 → VRun T (32 - f) (vF T (f + 1))
  | 0, _ => fun s hs haw hp => by
    have := val_case (op := 32) (fun ob => rowD (vF T 0) T ob (skp T blanksS s.pos)) hs haw hp (fun ob h1 h2 h3 => absurd rfl h2)
    exact this
  | f + 1, hf => fun s hs haw hp => by
    have ih := val_run T f (by omega)
    rw [show 32 - f = 32 - (f + 1) + 1 by omega] at ih
    have := val_case (op := 32 - (f + 1)) (fun ob => rowD (vF T (f + 1)) T ob (skp T blanksS s.pos)) hs haw hp (fun ob h1 h2 h3 => row_case ih (vF_ok T (f + 1)) (fun p L q h => vF_key T (f + 1) p L q h) hs haw ob h1 h2 h3)
    exact this

/-- Both readers answer alike. -/
theorem dparse_eq (t : List UInt8) : dparseF t = parseF t := by
  unfold dparseF parseF
  by_cases hl : 262144 < t.length
  · rw [if_pos hl, if_pos hl]
  · rw [if_neg hl, if_neg hl]
    have h := val_run t 32 (Nat.le_refl _) start ⟨fun h => absurd rfl h, rfl, fun e he => by cases he⟩ (.inl rfl) (Nat.zero_le _)
    have h : VO t start (vF t 33 (skp t blanksS 0)) := h
    cases e : vF t 33 (skp t blanksS 0) with
    | bad c b =>
      rw [e] at h
      obtain ⟨m, hm⟩ := h
      have hrun : runF t (t.length + 1) start = .bad c b := by
        rw [runF_fuel (t.length + 1) (t.length + 1 + m) start (Nat.zero_le _) (by show t.length < t.length + 1 + 0; omega) (by show t.length < t.length + 1 + m + 0; omega), hm]
      rw [hrun]
      rfl
    | ok L q =>
      have hk := vF_key t 33 _ L q e
      have ho := (vF_ok t 33).ok _ L q e
      rw [e] at h
      obtain ⟨s', ⟨m, hG⟩, P⟩ := h
      have hn : s'.nodes = L := by
        rw [P.nodes]
        show upK [] [] ++ keyed [] L = L
        rw [hk]
        rfl
      have ha : s'.aw = 7 := by rw [P.aw]; rfl
      have hrun : runF t (t.length + 1) start = runF t (t.length + 1) s' := by
        rw [runF_fuel (t.length + 1) (t.length + 1 + m) start (Nat.zero_le _) (by show t.length < t.length + 1 + 0; omega) (by show t.length < t.length + 1 + m + 0; omega), hG]
      rw [hrun]
      unfold runF
      simp only
      rw [P.pos]
      unfold dpG
      simp only
      have hz := skp_le t blanksS q ho.2.1
      by_cases hlt : skp t blanksS q < t.length
      · have hw : wordF t { s' with pos := skp t blanksS q } = .bad 31 (skp t blanksS q) := by
          unfold wordF
          simp only [ha]
          rfl
        rw [if_pos hlt, if_neg (by omega), hw]
      · rw [if_neg hlt, if_pos (by omega), if_pos ha, hn]

end Go.Proofs.YtfchdjlkndlleaaDoor
