import Derived.Test.YtkaiecpdkieedaaGreatDoorIZ
import Derived.Test.YtkaiecpdkieedaaGreatDoorTZ
import Derived.Test.YtkaiecpdkieedaaGreatDoorWZ
import Derived.Test.YtkaiecpdkieedaaGreatDoorHZ
import Derived.Test.YtkaiecpdkieedaaGreatDoorYZ
import Derived.Laws.Tables
import Derived.Deep.AppendLies
import Derived.Laws.AppendOwnNone
import Derived.Deep.MidRow
namespace Go.Proofs.YtkaiecpdkieedaaGreatDoor
open Go.RowKit

theorem NR.but2 {w w' : World} {v : Value} {l : List Nd} {ao : Option Addr} {cap b : Nat} (h : NR w v l ao cap) (hne : ∀ g off, ao = some ⟨g, off, none⟩ → g ≠ b) (hb : But w w' b) : NR w' v l ao cap := by
  refine ⟨h.val, h.cap, ?_⟩
  rcases h.cell with h0 | ⟨g, off, e, hg, hc⟩
  · exact .inl h0
  · exact .inr ⟨g, off, e, Nat.lt_of_lt_of_le hg hb.size, fun j u hu => cell_but (hc j u hu) fun _ => hb.block g hg (hne g off e)⟩
theorem Alg.but {w w' : World} {b : Nat} (h : Alg w) (hb : But w w' b) (hne : b ≠ 0) : Alg w' := fun j v hv => cell_but (h j v hv) fun _ => hb.block _ h.lt (fun e => hne e.symm)
theorem rdL_drop {v : List Nd} {L : List Nat} {j : Nat} (hj : j < L.length) (s : Hs) : rdL v (L.drop j) s = match setH (v.getD (L.getD j 0) (nd0 0)) s with
    | none => none
    | some s' => rdL v (L.drop (j + 1)) s' := by
  have e : L.getD j 0 = L[j] := by rw [List.getD_eq_getElem?_getD, List.getElem?_eq_getElem hj]; rfl
  rw [e, List.drop_eq_getElem_cons hj]
  rfl

set_option maxRecDepth 100000 in
set_option maxHeartbeats 8000000 in
theorem hread_any (l : List Nd) (ao : Option Addr) (cap b : Nat) (w : World) (h : NR w (.slice ao l.length cap) l ao cap) (hne : ∀ g off, ao = some ⟨g, off, none⟩ → g ≠ b) (hl : l.length ≤ 1000000000) (hpos : 0 < l.length)
    (hb : Bl 33 w b (hsC hs0)) (hA : Alg w) (hbA : b ≠ 0) :
    Calls Tryz.prog 7 #[.pointer (some ⟨b, 0, none⟩), .slice ao l.length cap] w fun e w' => e = .returned (.bool (readF l).isSome) ∧ But w w' b ∧ ∀ s, readF l = some s → Bl 33 w' b (hsC s) := by
  obtain ⟨g, off, rfl, hcell⟩ := h.at hpos
  obtain ⟨K, hK⟩ : ∃ K, (l.getD 0 (nd0 0)).kind = K := ⟨_, rfl⟩
  have ck := hcell 0 (.int .i64 K) (by omega) (by rw [← hK]; rfl)
  simp only [Nat.zero_mul, Nat.add_zero] at ck
  by_cases h7 : K = 7
  · have q7 : (K == 7) = true := by simpa using h7
    have HF : Hid (readF l = match rdL l (kidsF l 0) hs0 with
        | none => none
        | some s => if s.a && s.k then some s else none) := by
      show _ = _
      unfold readF
      rw [if_neg (fun hx => hx (hK.trans h7))]
      cases rdL l (kidsF l 0) hs0 <;> rfl
    have HN : Hid (NR w (.slice (some ⟨g, off, none⟩) l.length cap) l (some ⟨g, off, none⟩) cap) := h
    have HLT : Hid (∀ k ∈ kidsF l 0, k < l.length) := kidsF_lt
    have CM := members_any b w
    have hlen : (kidsF l 0).length ≤ 1000000000 := by
      unfold kidsF
      rw [if_pos ⟨by omega, by omega⟩]
      have := kidsF_len (v := l) (l.length + 1) ((0 : Int).toNat + 1) (l.getD (0 : Int).toNat (nd0 0)).kids (by show 0 + 1 ≤ _; omega)
      omega
    have HKs : Hid (∀ wq, NR wq (.slice (some ⟨g, off, none⟩) l.length cap) l (some ⟨g, off, none⟩) cap → Calls Tryz.prog 14 #[.slice (some ⟨g, off, none⟩) l.length cap, .int .i64 0] wq fun e w' => ∃ r, e = .returned r ∧ OI wq.heap.size wq w' r (kidsF l 0)) := fun wq hq => kids_any _ l _ cap 0 wq hq hl
    have HBL : Hid (Bl 33 w b (hsC hs0)) := hb
    have HA : Hid (Alg w) := hA
    have HNE : Hid (g ≠ b) := hne g off rfl
    subst h7
    generalize kidsF l 0 = L at *
    clear h hne hb hA hcell hK
    have hbv : 0 < (l.length : Int) := by omega
    go_enter Tryz.func7, Tryz.ntmps7
    go_wp2_with fail
    refine CM.mono ?_
    clear CM
    rintro e w1 ⟨rfl, hB1, hs1, hm1⟩
    have CK := HKs.out w1 (HN.out.below hB1 (Nat.le_refl _))
    clear HKs
    go_wp2_with fail
    refine CK.mono ?_
    clear CK
    rintro e w2 ⟨r, rfl, hoi⟩
    obtain ⟨ka, kc, rfl, hkc, hkat⟩ := hoi.at
    have HAT : Hid (∀ wx, But w2 wx b → ∀ j, j < L.length → ∃ g, ka = some ⟨g, 0, none⟩ ∧ wx.cell? ⟨g, j, none⟩ = some (iV (L.getD j 0))) := fun wx hx j hj => by
      obtain ⟨g', e, hc⟩ := hkat j hj
      refine ⟨g', e, cell_but hc fun _ => hx.block g' (World.block_lt_of_cell? _ _ hc) ?_⟩
      have h1 := (hoi.own.lt g' (by rw [e]; rfl)).1
      have h2 := HBL.out.lt
      have h3 := hB1.size
      omega
    have HB2 : Hid (Below w.heap.size w w2) := hB1.trans (hoi.bel.mono hB1.size)
    have hM2 : w2.heap[w.heap.size]? = some (.map (mE b).toArray 3) := (hoi.bel.block _ hs1).trans hm1
    have HMM : Hid (∀ wx, But w2 wx b → wx.heap[w.heap.size]? = some (.map (mE b).toArray 3)) := fun wx hx => (hx.block _ (by have := hoi.bel.size; omega) (by have := HBL.out.lt; omega)).trans hM2
    have HN2 : Hid (∀ wx, But w2 wx b → NR wx (.slice (some ⟨g, off, none⟩) l.length cap) l (some ⟨g, off, none⟩) cap) := fun wx hx => (HN.out.below HB2.out (Nat.le_refl _)).but2 (fun g' off' e => by cases e; exact HNE.out) hx
    have HA2 : Hid (∀ wx, But w2 wx b → Alg wx) := fun wx hx => (HA.out.bel HB2.out (Nat.le_refl _)).but hx hbA
    have HL2 : Hid (Bl 33 w2 b (hsC hs0)) := HBL.out.below HB2.out HBL.out.lt
    have HBU : Hid (But w w2 b) := But.of_below HB2.out
    clear hoi hkat hM2 hm1 hB1 hs1 HN HA HBL HB2 ck
    generalize w.heap.size = mb at HMM ⊢
    go_wp2
    go_loopw [20] (fun s20 wx => ∃ (j : Nat) (s : Hs), s20 = .int .i64 j ∧ j ≤ L.length ∧ But w2 wx b ∧ Bl 33 wx b (hsC s) ∧ rdL l (L.drop j) s = rdL l L hs0) (fun x _ => L.length - (intOf x).toNat)
    case atStart => exact ⟨0, hs0, rfl, Nat.zero_le _, But.refl _ _, HL2.out, rfl⟩
    case round =>
      obtain ⟨j, s, rfl, hj, hbt, hbl, hrd⟩ := hrel
      have HT : Hid (But w2 wr b) := hbt
      have HL : Hid (Bl 33 wr b (hsC s)) := hbl
      have HR : Hid (rdL l (L.drop j) s = rdL l L hs0) := hrd
      clear hbt hbl hrd
      by_cases hjl : j < L.length
      · have q0 : decide ((j : Int) < (L.length : Int)) = true := by simp; omega
        obtain ⟨kg, rfl, ckj⟩ := HAT.out wr HT.out j hjl
        have hkl : L.getD j 0 < l.length := HLT.out _ (by rw [List.getD_eq_getElem?_getD, List.getElem?_eq_getElem hjl]; exact List.getElem_mem hjl)
        have hr2 := HR.out
        rw [rdL_drop hjl] at hr2
        generalize L.getD j 0 = k at *
        obtain ⟨g', off', e', hc2⟩ := (HN2.out wr HT.out).at hkl
        cases e'
        obtain ⟨n, hn⟩ : ∃ n, l.getD k (nd0 0) = n := ⟨_, rfl⟩
        rw [hn] at hc2 hr2
        obtain ⟨nk, nky, nt, nw, ni, nq⟩ := n
        have ck0 := hc2 0 (.int .i64 nk) (by omega) rfl
        have ck1 := hc2 1 (.string ⟨nky.toArray⟩) (by omega) rfl
        have ck2 := hc2 2 (.string ⟨nt.toArray⟩) (by omega) rfl
        rw [Nat.add_zero] at ck0
        unfold iV at ckj
        have hM := HMM.out wr HT.out
        have HR2 : Hid ((match setH ⟨nk, nky, nt, nw, ni, nq⟩ s with
          | none => none
          | some s' => rdL l (L.drop (j + 1)) s') = rdL l L hs0) := hr2
        clear hr2 hc2 hn HR
        by_cases hAk : nky = kA ∨ nky = kK ∨ nky = kT
        · by_cases h5 : nk = 5
          · subst h5
            rcases hAk with rfl | rfl | rfl
            · have lk := look_str wr mb _ _ ⟨kA.toArray⟩ _ _ hM (find_A b)
              have CA := setAlg_any nt b s wr HL.out (HA2.out wr HT.out)
              have HR3 : Hid (rdL l (L.drop (j + 1)) ⟨⟨(ofF nt : Int), s.h.kid, s.h.typ, s.h.has⟩, true, s.k⟩ = rdL l L hs0) := by
                show _ = _
                rw [← HR2.out]
                unfold setH
                rw [if_neg (fun hx => hx rfl)]
                rw [if_pos rfl]
              unfold fnV at lk
              clear hM HR2
              go_wp2_with fail
              refine CA.mono ?_
              clear CA
              rintro e w3 ⟨rfl, hT3, hL3⟩
              go_wp2
              go_roundw
              case rel => exact ⟨j + 1, ⟨⟨(ofF nt : Int), s.h.kid, s.h.typ, s.h.has⟩, true, s.k⟩, by go_num, by omega, HT.out.trans hT3, hL3, HR3.out⟩
              case measure => simp [intOf]; omega
            · have lk := look_str wr mb _ _ ⟨kK.toArray⟩ _ _ hM (find_K b)
              have CA := setKid_any nt b s wr HL.out
              have HR3 : Hid (rdL l (L.drop (j + 1)) ⟨⟨s.h.alg, nt, s.h.typ, s.h.has⟩, s.a, true⟩ = rdL l L hs0) := by
                show _ = _
                rw [← HR2.out]
                unfold setH
                rw [if_neg (fun hx => hx rfl)]
                rw [if_neg (show kK ≠ kA by decide), if_pos rfl]
              unfold fnV at lk
              clear hM HR2
              go_wp2_with fail
              refine CA.mono ?_
              clear CA
              rintro e w3 ⟨rfl, hT3, hL3⟩
              go_wp2
              go_roundw
              case rel => exact ⟨j + 1, ⟨⟨s.h.alg, nt, s.h.typ, s.h.has⟩, s.a, true⟩, by go_num, by omega, HT.out.trans hT3, hL3, HR3.out⟩
              case measure => simp [intOf]; omega
            · have lk := look_str wr mb _ _ ⟨kT.toArray⟩ _ _ hM (find_T b)
              have CA := setTyp_any nt b s wr HL.out
              have HR3 : Hid (rdL l (L.drop (j + 1)) ⟨⟨s.h.alg, s.h.kid, nt, true⟩, s.a, s.k⟩ = rdL l L hs0) := by
                show _ = _
                rw [← HR2.out]
                unfold setH
                rw [if_neg (fun hx => hx rfl)]
                rw [if_neg (show kT ≠ kA by decide), if_neg (show kT ≠ kK by decide), if_pos rfl]
              unfold fnV at lk
              clear hM HR2
              go_wp2_with fail
              refine CA.mono ?_
              clear CA
              rintro e w3 ⟨rfl, hT3, hL3⟩
              go_wp2
              go_roundw
              case rel => exact ⟨j + 1, ⟨⟨s.h.alg, s.h.kid, nt, true⟩, s.a, s.k⟩, by go_num, by omega, HT.out.trans hT3, hL3, HR3.out⟩
              case measure => simp [intOf]; omega
          · have q5 : (nk == 5) = false := by simpa using h5
            have q5' : (nk != 5) = true := by simpa using h5
            have HE : Hid (readF l = none) := by
              show _ = _
              rw [HF.out, ← HR2.out]
              unfold setH
              rw [if_pos h5]
            clear HR2 h5
            rcases hAk with rfl | rfl | rfl
            · have lk := look_str wr mb _ _ ⟨kA.toArray⟩ _ _ hM (find_A b)
              clear hM
              go_wp2
              go_ret
              rw [HE.out]
              exact ⟨rfl, HBU.out.trans HT.out, fun s hs => by cases hs⟩
            · have lk := look_str wr mb _ _ ⟨kK.toArray⟩ _ _ hM (find_K b)
              clear hM
              go_wp2
              go_ret
              rw [HE.out]
              exact ⟨rfl, HBU.out.trans HT.out, fun s hs => by cases hs⟩
            · have lk := look_str wr mb _ _ ⟨kT.toArray⟩ _ _ hM (find_T b)
              clear hM
              go_wp2
              go_ret
              rw [HE.out]
              exact ⟨rfl, HBU.out.trans HT.out, fun s hs => by cases hs⟩
        · have hAA : nky ≠ kA := fun e => hAk (Or.inl e)
          have hKK : nky ≠ kK := fun e => hAk (Or.inr (Or.inl e))
          have hTT : nky ≠ kT := fun e => hAk (Or.inr (Or.inr e))
          have lk := look_str0 wr mb _ _ ⟨nky.toArray⟩ hM (find_0 b hAA hKK hTT)
          have HE : Hid (readF l = none) := by
            show _ = _
            rw [HF.out, ← HR2.out]
            unfold setH
            simp only [hAA, hKK, hTT, if_false, ite_self]
          clear hM HR2 hAk hAA hKK hTT
          go_wp2
          go_ret
          rw [HE.out]
          exact ⟨rfl, HBU.out.trans HT.out, fun s hs => by cases hs⟩
      · have q0 : decide ((j : Int) < (L.length : Int)) = false := by simp; omega
        have HE : Hid (readF l = if s.a && s.k then some s else none) := by
          show _ = _
          rw [HF.out, ← HR.out, List.drop_eq_nil_of_le (by omega)]
          rfl
        have c4 : wr.cell? ⟨b, 4, none⟩ = some (.bool s.a) := HL.out.cell 4 (by simp [hsC])
        have c5 : wr.cell? ⟨b, 5, none⟩ = some (.bool s.k) := HL.out.cell 5 (by simp [hsC])
        clear HR
        cases ha : s.a
        · rw [ha] at c4
          go_wp2
          go_ret
          rw [HE.out, ha]
          exact ⟨rfl, HBU.out.trans HT.out, fun s hs => by cases hs⟩
        · rw [ha] at c4
          cases hk : s.k
          · rw [hk] at c5
            go_wp2
            go_ret
            rw [HE.out, ha, hk]
            exact ⟨rfl, HBU.out.trans HT.out, fun s hs => by cases hs⟩
          · rw [hk] at c5
            go_wp2
            go_ret
            rw [HE.out, ha, hk]
            exact ⟨rfl, HBU.out.trans HT.out, fun s' hs => by cases hs; exact HL.out⟩
  · have q7 : (K == 7) = false := by simpa using h7
    have HE : Hid (readF l = none) := by show _ = _; unfold readF; rw [if_pos (by rw [hK]; exact h7)]
    clear h hne hb hA hcell hK
    go_enter Tryz.func7, Tryz.ntmps7
    go_wp2
    go_ret
    rw [HE.out]
    exact ⟨rfl, But.refl _ _, fun s hs => by cases hs⟩

end Go.Proofs.YtkaiecpdkieedaaGreatDoor

namespace Go.Proofs.YtkaiecpdkieedaaGreatDoor
open Go.RowKit

/-- How long a member is, written. -/
def lnN (n : Nd) : Nat := (quoS n.key).length + 1 + (quoS n.text).length
theorem pr_str {v : List Nd} {f i : Nat} (h : (v.getD i (nd0 0)).kind = 5) : prF v (f + 1) i = (quoS (v.getD i (nd0 0)).text, i + 1) := by
  unfold prF
  simp only [h]
  rfl
theorem pr_obj {v : List Nd} {f i : Nat} (h : (v.getD i (nd0 0)).kind = 7) : (prF v (f + 1) i).1 = 123 :: ((pkF (prF v f) v true (v.length + 1) true (v.getD i (nd0 0)).kids (i + 1)).1 ++ [125]) := by
  unfold prF
  simp only [h]
  rfl
theorem pk_str {v : List Nd} {f : Nat} : ∀ (n g i : Nat) (first : Bool), (∀ j, i ≤ j → j < i + n → (v.getD j (nd0 0)).kind = 5) → n < g →
    (pkF (prF v (f + 1)) v true g first (n : Int) i).1.length = ((List.range' i n).map fun j => lnN (v.getD j (nd0 0))).sum + (if first then n - 1 else n)
  | 0, g, i, first, _, hg => by
    cases g with
    | zero => omega
    | succ g =>
      unfold pkF
      rw [if_neg (by omega)]
      simp
  | n + 1, g, i, first, h, hg => by
    cases g with
    | zero => omega
    | succ g =>
      have h5 := h i (Nat.le_refl _) (by omega)
      unfold pkF
      rw [if_pos (by omega), pr_str h5]
      have ih := pk_str (f := f) n g (i + 1) false (fun j h1 h2 => h j (by omega) (by omega)) (by omega)
      rw [show ((n + 1 : Nat) : Int) - 1 = (n : Int) by omega]
      simp only [List.length_append, ih, List.range'_succ, List.map_cons, List.sum_cons, lnN, if_true, if_false, List.length_cons, List.length_nil, Bool.false_eq_true]
      cases first <;> simp <;> omega
theorem pr_len {v : List Nd} {n : Nat} (h7 : (v.getD 0 (nd0 0)).kind = 7) (hk : (v.getD 0 (nd0 0)).kids = (n : Int)) (h5 : ∀ j, 1 ≤ j → j < 1 + n → (v.getD j (nd0 0)).kind = 5) (hn : 1 ≤ n) (hl : n ≤ v.length) :
    (prF v 33 0).1.length = 1 + n + ((List.range' 1 n).map fun j => lnN (v.getD j (nd0 0))).sum := by
  rw [pr_obj h7, hk]
  have := pk_str (f := 31) n (v.length + 1) 1 true h5 (by omega)
  simp only [List.length_cons, List.length_append, List.length_nil, Nat.zero_add]
  rw [this]
  simp
  omega
theorem ch_range {v : List Nd} : ∀ (K : List Nat) (i e : Nat), Ch v i K e → (∀ j ∈ K, bhN v j = j + 1) → K = List.range' i K.length ∧ e = i + K.length
  | [], i, e, h, _ => ⟨rfl, by rw [Ch] at h; simp [h]⟩
  | k :: r, i, e, h, hb => by
    rw [Ch] at h
    obtain ⟨rfl, h⟩ := h
    rw [hb k (by simp)] at h
    obtain ⟨h1, h2⟩ := ch_range r (k + 1) e h fun j hj => hb j (by simp [hj])
    refine ⟨?_, by simp only [List.length_cons]; omega⟩
    rw [List.length_cons, List.range'_succ, ← h1]

theorem hprint_facts (h : Hd) : ((hprintF h).2 ≠ 0 ∧ (hprintF h).1 = [] ∧ ((hprintF h).2 = 111 ∨ (hprintF h).2 = 110 ∨ (hprintF h).2 = 10)) ∨
    ((hprintF h).2 = 0 ∧ (hprintF h).1.length ≤ 262144 ∧ hparseF (hprintF h).1 = (⟨h.alg, h.kid, if h.has then h.typ else [], h.has⟩, 0)) := by
  unfold hprintF
  by_cases h1 : nameF' h.alg = []
  · rw [if_pos h1]
    exact Or.inl ⟨by decide, rfl, Or.inl rfl⟩
  rw [if_neg h1]
  by_cases h2 : Lib.validD h.kid = false ∨ (h.has = true ∧ Lib.validD h.typ = false)
  · rw [if_pos h2]
    exact Or.inl ⟨by decide, rfl, Or.inr (Or.inl rfl)⟩
  rw [if_neg h2]
  have hs : Sq 0 [[]] (wrF h) := wr_sq (by cases e : Lib.validD h.kid; exact absurd (Or.inl e) h2; rfl) (fun ht => by cases e : Lib.validD h.typ; exact absurd (Or.inr ⟨ht, e⟩) h2; rfl)
  rcases print_facts (wrF h) with ⟨hb, -⟩ | ⟨-, e⟩ | ⟨-, e, hl, hp⟩
  · rw [hs.shaped] at hb
    cases hb
  · rw [e]
    exact Or.inl ⟨by decide, rfl, Or.inr (Or.inr rfl)⟩
  · refine Or.inr ⟨e, hl, ?_⟩
    have hn := name_in h1
    unfold hparseF
    rw [hp, if_neg (fun h => h rfl)]
    dsimp only
    rw [read_wr, hn.2.2]
    dsimp only
    rw [if_neg (by omega)]

/-- A header that is read has a text, no longer, and comes back from it. -/
theorem hparse_facts (t : List UInt8) (e : (hparseF t).2 = 0) : (1 ≤ (hparseF t).1.alg ∧ (hparseF t).1.alg ≤ 12) ∧ (hprintF (hparseF t).1).2 = 0 ∧ (hprintF (hparseF t).1).1.length ≤ t.length ∧ hparseF (hprintF (hparseF t).1).1 = hparseF t := by
  have h0 : (parseF t).2.1 = 0 := by
    by_cases hc : (parseF t).2.1 = 0
    · exact hc
    · unfold hparseF at e
      rw [if_pos hc] at e
      exact absurd e hc
  have hs := parse_val h0
  have hlen := parse_len h0
  have htl : t.length ≤ 262144 := by
    have h1 := h0
    unfold parseF at h1
    split at h1
    · cases h1
    · omega
  have hvl : (parseF t).1.length ≤ 262144 := (parse_bd t).1
  have hF : hparseF t = match readF (parseF t).1 with
    | none => (hd0, 110)
    | some s => if s.h.alg = 0 then (hd0, 111) else (s.h, 0) := by
    unfold hparseF
    rw [if_neg (fun h => h h0)]
    cases readF (parseF t).1 <;> rfl
  generalize (parseF t).1 = v at hs hlen hvl hF
  have hT := top_of hs hvl
  by_cases hg : goodF v
  · have hG := good_at hT hg
    obtain ⟨a, k, ea, ek, hal, hkl, h7, ha5, hk5, ka, kk, h⟩ := hG
    have hln := hT.ln
    have hK5 : ∀ i ∈ kidsF v 0, (v.getD i (nd0 0)).kind = 5 := by
      have hr : ∃ s, rdL v (kidsF v 0) hs0 = some s := by
        have : ∃ s, readF v = some s := by
          rcases h with ⟨-, -, -, hr⟩ | ⟨-, t, -, -, -, -, -, hr⟩ <;> exact ⟨_, hr⟩
        obtain ⟨s, hr⟩ := this
        unfold readF at hr
        rw [if_neg (fun h => h h7)] at hr
        split at hr
        · cases hr
        · rename_i s1 e1
          exact ⟨s1, e1⟩
      obtain ⟨s, hr⟩ := hr
      exact fun i hi => ((rd_ok _ _ _ hr).1 i hi).1
    obtain ⟨hKr, hve⟩ := ch_range _ _ _ hT.ch fun j hj => (str_of' hs hvl (kidsF_lt j hj) (hK5 j hj)).1
    obtain ⟨n, hn⟩ : ∃ n, (kidsF v 0).length = n := ⟨_, rfl⟩
    rw [hn] at hKr hve hln
    have va := (str_of' hs hvl hal ha5).2
    have vk := (str_of' hs hvl hkl hk5).2
    have key : ∀ hd : Hd, hparseF t = (hd, 0) → hd.alg = (ofF (v.getD a (nd0 0)).text : Int) → ofF (v.getD a (nd0 0)).text ≠ 0 → hd.kid = (v.getD k (nd0 0)).text → Lib.validD hd.typ = true → (hd.has = false → hd.typ = []) → (prF (wrF hd) 33 0).1.length ≤ t.length →
        (1 ≤ (hparseF t).1.alg ∧ (hparseF t).1.alg ≤ 12) ∧ (hprintF (hparseF t).1).2 = 0 ∧ (hprintF (hparseF t).1).1.length ≤ t.length ∧ hparseF (hprintF (hparseF t).1).1 = hparseF t := by
      intro hd e1 e2 e3 e4 e5 e6 e7
      rw [e1]
      have hnm : nameF' hd.alg = (v.getD a (nd0 0)).text := by rw [e2]; exact name_of e3
      have hof := of_lt (v.getD a (nd0 0)).text
      have hne : nameF' hd.alg ≠ [] := by rw [e2]; exact name_ne (by omega) (by omega)
      have hsq : Sq 0 [[]] (wrF hd) := wr_sq (by rw [e4]; exact vk) (fun _ => e5)
      have hpr : hprintF hd = ((prF (wrF hd) 33 0).1, 0) := by
        unfold hprintF
        rw [if_neg hne, if_neg]
        · unfold printF
          rw [if_neg (by rw [hsq.shaped]; decide), if_neg (by omega)]
        · rintro (hx | ⟨-, hx⟩)
          · rw [e4, vk] at hx; cases hx
          · rw [e5] at hx; cases hx
      have hf := hprint_facts hd
      rw [hpr] at hf ⊢
      refine ⟨⟨by show 1 ≤ hd.alg; omega, by show hd.alg ≤ 12; omega⟩, rfl, e7, ?_⟩
      rcases hf with ⟨hx, -⟩ | ⟨-, -, hx⟩
      · exact absurd rfl hx
      · refine hx.trans ?_
        have : (if hd.has then hd.typ else []) = hd.typ := by
          cases hh : hd.has
          · exact (e6 hh).symm
          · rfl
        rw [this]
    have hlv : n ≤ v.length := by omega
    rcases h with ⟨hk2, et, hsum, hr⟩ | ⟨hk3, u, eu, hul, hu5, ku, hsum, hr⟩
    · obtain rfl : n = 2 := by omega
      have hpv := pr_len (v := v) (n := 2) h7 hk2 (fun j h1 h2 => hK5 j (by rw [hKr]; simp; omega)) (by omega) hlv
      rw [← hKr, hsum lnN] at hpv
      rw [hr] at hF
      dsimp only at hF
      by_cases h00 : (ofF (v.getD a (nd0 0)).text : Int) = 0
      · rw [if_pos h00] at hF
        rw [hF] at e
        cases e
      · rw [if_neg h00] at hF
        refine key _ hF rfl (by omega) rfl (show Lib.validD [] = true by decide +kernel) (fun _ => rfl) ?_
        have hnm := name_of (l := (v.getD a (nd0 0)).text) (by omega)
        refine Nat.le_trans (Nat.le_of_eq ?_) hlen
        rw [hpv, pr_len (n := 2) (by rfl) (by rfl) (fun j h1 h2 => by rcases (show j = 1 ∨ j = 2 by omega) with rfl | rfl <;> rfl) (by omega) (by show 2 ≤ 3; decide)]
        simp only [List.getD_eq_getElem?_getD] at ka kk hnm
        simp [List.range', wrF, lnN, hnm, ka, kk]
    · obtain rfl : n = 3 := by omega
      have vu := (str_of' hs hvl hul hu5).2
      have hpv := pr_len (v := v) (n := 3) h7 hk3 (fun j h1 h2 => hK5 j (by rw [hKr]; simp; omega)) (by omega) hlv
      rw [← hKr, hsum lnN] at hpv
      rw [hr] at hF
      dsimp only at hF
      by_cases h00 : (ofF (v.getD a (nd0 0)).text : Int) = 0
      · rw [if_pos h00] at hF
        rw [hF] at e
        cases e
      · rw [if_neg h00] at hF
        refine key _ hF rfl (by omega) rfl vu (fun h => by cases h) ?_
        have hnm := name_of (l := (v.getD a (nd0 0)).text) (by omega)
        refine Nat.le_trans (Nat.le_of_eq ?_) hlen
        rw [hpv, pr_len (n := 3) (by rfl) (by rfl) (fun j h1 h2 => by rcases (show j = 1 ∨ j = 2 ∨ j = 3 by omega) with rfl | rfl | rfl <;> rfl) (by omega) (by show 3 ≤ 4; decide)]
        simp only [List.getD_eq_getElem?_getD] at ka kk ku hnm
        simp [List.range', wrF, lnN, hnm, ka, kk, ku]
        omega
  · rw [read_bad hT hg] at hF
    rw [hF] at e
    cases e

end Go.Proofs.YtkaiecpdkieedaaGreatDoor

namespace Go.Proofs.YtkaiecpdkieedaaGreatDoor
open Go.RowKit

def hdC (h : Hd) : List Value := [.int .i64 h.alg, .string ⟨h.kid.toArray⟩, .string ⟨h.typ.toArray⟩, .bool h.has]
theorem set_bl2 {t : TypeId} {w : World} {b : Nat} {old new : List Value} (h : Bl t w b old) : Bl t (w.setRow b new.toArray) b new := setRow_heap _ _ _ _ _ _ h
theorem setRow_below2 {w0 w : World} {n b : Nat} (new : Array Value) (h : Below n w0 w) (hb : n ≤ b) : Below n w0 (w.setRow b new) := ⟨h.os, h.tape, h.output, by simpa [World.setRow] using h.size, fun k hk => (setRow_other w b k _ (by omega)).trans (h.block k hk)⟩
theorem results_hd {fn : Func} {u p : Tmp} (h : fn.results = #[.cell p 24, .tmp u]) (tmps : Array Value) (w : World) (b : Nat) (hd : Hd) (x : Value) (hu : tmps.getD u undef = x) (hp : tmps.getD p undef = .pointer (some ⟨b, 0, none⟩)) (hb : Bl 24 w b (hdC hd)) :
    (results fn tmps).run Tryz.prog w = .ok (.tuple #[hdV hd, x]) w := by
  have hr : (loadVar 24 ⟨b, 0, none⟩).run Tryz.prog w = .ok (hdV hd) w := by
    refine run_loadVar_mid w b 0 24 (hdC hd) _ ?_ Tryz.underlying24 rfl (by kernel_rfl)
    intro j v hv
    obtain ⟨hj, e⟩ := List.getElem?_eq_some_iff.1 hv
    rw [Nat.zero_add, ← e]
    exact hb.cell j hj
  have hr2 : (results fn tmps).run Tryz.prog w = ((asAddr (tmps.getD p undef)).run Tryz.prog w).andThen fun a w₁ => ((loadVar 24 a).run Tryz.prog w₁).andThen fun v w₂ => .ok (.tuple #[v, tmps.getD u undef]) w₂ := by
    simp only [results, h]
    simp [Sem.run_bind, Result.andThen]
  rw [hr2, hp]
  unfold asAddr
  simp only [Sem.run_pure, Result.andThen_ok]
  rw [hr, hu]
  rfl

set_option maxRecDepth 100000 in
set_option maxHeartbeats 8000000 in
theorem hparse_any (t : List UInt8) (w : World) (hG : GL w.heap.size w) (hA : Alg w) :
    Calls Tryz.prog 4 #[.string ⟨t.toArray⟩] w fun e w' => e = .returned (.tuple #[hdV (hparseF t).1, .int .i64 ((hparseF t).2 : Nat)]) ∧ Below w.heap.size w w' := by
  obtain ⟨w0, hw0⟩ : ∃ w0 : World, w.alloc (.cells (hdC hd0).toArray 24) = w0 := ⟨_, rfl⟩
  have HB0 : Hid (Below w.heap.size w w0) := by rw [← hw0]; exact alloc_below _ _
  have HBox0 : Hid (Bl 24 w0 w.heap.size (hdC hd0)) := by rw [← hw0]; exact alloc_bl _ _ _
  have C0 := parse_all t w0 ((hG.below HB0.out).up HB0.out.size)
  have HS0 : Hid (w.heap.size < w0.heap.size) := HBox0.out.lt
  have HA : Hid (Alg w) := hA
  have HW0 : Hid (w.alloc (.cells (hdC hd0).toArray 24) = w0) := hw0
  have HFacts := parse_facts t
  have hbd := parse_bd t
  clear hG hA hw0
  obtain ⟨l, hl⟩ : ∃ l, (parseF t).1 = l := ⟨_, rfl⟩
  obtain ⟨c, hc⟩ : ∃ c, (parseF t).2.1 = c := ⟨_, rfl⟩
  obtain ⟨p, hp⟩ : ∃ p, (parseF t).2.2 = p := ⟨_, rfl⟩
  have HP : Hid (hparseF t = if c ≠ 0 then (hd0, c) else match readF l with
    | none => (hd0, 110)
    | some s => if s.h.alg = 0 then (hd0, 111) else (s.h, 0)) := by
    show _ = _
    unfold hparseF
    rw [hl, hc]
    cases readF l <;> rfl
  have hsh : c = 0 → 0 < l.length := fun h0 => by
    have := (parse_val (t := t) (hc.trans h0)).len
    rw [hl] at this
    simp only [List.length_cons, List.length_nil] at this
    omega
  rw [hl, hc, hp] at C0
  rw [hl] at hbd
  clear HFacts hl hc hp
  go_enter Tryz.func4, Tryz.ntmps4
  go_wp2_with fail
  have e0 : (Obj.cells #[Value.int .i64 0, .string { data := #[] }, .string { data := #[] }, .bool false] 24) = .cells (hdC hd0).toArray 24 := rfl
  rw [e0, HW0.out]
  clear e0 HW0
  refine C0.mono ?_
  clear C0
  rintro e w1 ⟨hB1, v, rfl, hno⟩
  obtain ⟨ao, cap, hN⟩ := hno.nr
  obtain ⟨rfl, hcap, _⟩ := id hN
  have HB1 : Hid (Below w.heap.size w w1) := HB0.out.trans (hB1.mono HB0.out.size)
  have HBox1 : Hid (Bl 24 w1 w.heap.size (hdC hd0)) := HBox0.out.below hB1 HS0.out
  have HN : Hid (NR w1 (.slice ao l.length cap) l ao cap) := hN
  have HS1 : Hid (w.heap.size < w1.heap.size) := HBox1.out.lt
  clear hno hN hB1 HB0 HBox0 HS0
  by_cases h0 : c = 0
  · subst h0
    have hpos := hsh rfl
    have hll := hbd.1
    have HP2 : Hid (hparseF t = match readF l with
      | none => (hd0, 110)
      | some s => if s.h.alg = 0 then (hd0, 111) else (s.h, 0)) := by show _ = _; rw [HP.out, if_neg (fun h => h rfl)]
    clear hsh hbd HP
    obtain ⟨w2, hw2⟩ : ∃ w2 : World, w1.alloc (.cells (hsC hs0).toArray 33) = w2 := ⟨_, rfl⟩
    have hBl2 : Bl 33 w2 w1.heap.size (hsC hs0) := by rw [← hw2]; exact alloc_bl _ _ _
    have hB2 : Below w1.heap.size w1 w2 := by rw [← hw2]; exact alloc_below _ _
    have HW2 : Hid (w1.alloc (.cells (hsC hs0).toArray 33) = w2) := hw2
    have hbA : w1.heap.size ≠ 0 := by have := HA.out.lt; have := HS1.out; omega
    have CR := hread_any l ao cap w1.heap.size w2 (HN.out.below hB2 (Nat.le_refl _)) (fun g off e => by
      rcases HN.out.cell with h0 | ⟨g', off', e', hg, _⟩
      · subst h0; simp at hpos
      · rw [e] at e'; cases e'; omega) (by omega) hpos hBl2 (HA.out.bel (HB1.out.trans (hB2.mono (Nat.le_of_lt HS1.out))) (Nat.le_refl _)) hbA
    have HB3 : Hid (Below w.heap.size w w2) := HB1.out.trans (hB2.mono (Nat.le_of_lt HS1.out))
    have HBox3 : Hid (Bl 24 w2 w.heap.size (hdC hd0)) := HBox1.out.below hB2 HS1.out
    clear hw2 hBl2 hB2 HN HA HB1 HBox1
    go_wp2_with fail
    have e0 : (Obj.cells #[Value.int .i64 0, .string { data := #[] }, .string { data := #[] }, .bool false, .bool false, .bool false] 33) = .cells (hsC hs0).toArray 33 := rfl
    rw [e0, HW2.out]
    clear e0 HW2
    refine CR.mono ?_
    clear CR
    rintro e w4 ⟨rfl, hT4, hs4⟩
    have hB4 : Below w.heap.size w w4 := HB3.out.trans (hT4.below HB3.out.size (Nat.le_of_lt HS1.out))
    have HB4 : Hid (Below w.heap.size w w4) := hB4
    have HBox4 : Hid (Bl 24 w4 w.heap.size (hdC hd0)) := HBox3.out.but hT4 (by have := HS1.out; omega)
    clear hB4 hT4 HB3 HBox3
    cases hr : readF l with
    | none =>
      have HX : Hid (hparseF t = (hd0, 110)) := by show _ = _; rw [HP2.out, hr]
      clear HP2 hs4 hr
      obtain ⟨wz, hwz⟩ : ∃ wz, w4.setRow w.heap.size (hdC hd0).toArray = wz := ⟨_, rfl⟩
      have HBz : Hid (Bl 24 wz w.heap.size (hdC hd0)) := by rw [← hwz]; exact set_bl2 HBox4.out
      have Hz : Hid (Below w.heap.size w wz) := by rw [← hwz]; exact setRow_below2 _ HB4.out (Nat.le_refl _)
      have HWz : Hid (w4.setRow w.heap.size (hdC hd0).toArray = wz) := hwz
      clear hwz
      have hgi : (Tryz.prog.info? 24).map (·.size) = some 4 := by kernel_rfl
      go_wp2_with (refine wpList_store_row rfl 24 (.tmp 2) (.tmp 22) rfl w.heap.size (hdC hd0).toArray rfl rfl 24 (hdC hd0).toArray HBox4.out hgi rfl (by simp [hdC, hd0, Value.oneCell']) ?_; rw [HWz.out]; clear HWz hgi)
      (try simp only [Exit.inBlock, Exit.then])
      refine bodyPost_ret (v := .tuple #[hdV hd0, .int .i64 110]) (results_hd rfl _ _ w.heap.size hd0 _ rfl rfl HBz.out) rfl ⟨?_, Hz.out⟩
      rw [HX.out]; rfl
    | some s =>
      have hBs := hs4 s hr
      have HBs : Hid (Bl 33 w4 w1.heap.size (hsC s)) := hBs
      have k0 : w4.cell? ⟨w1.heap.size, 0, none⟩ = some (.int .i64 s.h.alg) := hBs.cell 0 (by simp [hsC])
      by_cases ha : s.h.alg = 0
      · have HX : Hid (hparseF t = (hd0, 111)) := by show _ = _; rw [HP2.out, hr]; exact if_pos ha
        rw [ha] at k0
        clear HP2 hs4 hr hBs ha HBs
        obtain ⟨wz, hwz⟩ : ∃ wz, w4.setRow w.heap.size (hdC hd0).toArray = wz := ⟨_, rfl⟩
        have HBz : Hid (Bl 24 wz w.heap.size (hdC hd0)) := by rw [← hwz]; exact set_bl2 HBox4.out
        have Hz : Hid (Below w.heap.size w wz) := by rw [← hwz]; exact setRow_below2 _ HB4.out (Nat.le_refl _)
        have HWz : Hid (w4.setRow w.heap.size (hdC hd0).toArray = wz) := hwz
        clear hwz
        have hgi : (Tryz.prog.info? 24).map (·.size) = some 4 := by kernel_rfl
        go_wp2_with (refine wpList_store_row rfl 24 (.tmp 2) (.tmp 27) rfl w.heap.size (hdC hd0).toArray rfl rfl 24 (hdC hd0).toArray HBox4.out hgi rfl (by simp [hdC, hd0, Value.oneCell']) ?_; rw [HWz.out]; clear HWz hgi)
        (try simp only [Exit.inBlock, Exit.then])
        refine bodyPost_ret (v := .tuple #[hdV hd0, .int .i64 111]) (results_hd rfl _ _ w.heap.size hd0 _ rfl rfl HBz.out) rfl ⟨?_, Hz.out⟩
        rw [HX.out]; rfl
      · have HX : Hid (hparseF t = (s.h, 0)) := by show _ = _; rw [HP2.out, hr]; exact if_neg ha
        have qa : (s.h.alg == 0) = false := by simpa using ha
        have HRg : Hid (w4.rangeAt w1.heap.size 0 (hdC s.h)) := fun j v hv => by
          rw [Nat.zero_add]
          obtain ⟨hj, e⟩ := List.getElem?_eq_some_iff.1 hv
          have hj4 : j < 4 := hj
          rw [HBs.out.cell j (by simp [hsC]; omega), ← e]
          rcases (show j = 0 ∨ j = 1 ∨ j = 2 ∨ j = 3 by omega) with rfl | rfl | rfl | rfl <;> rfl
        have hcl : (Tryz.prog.info? 24).map (·.size) = some (hdC s.h).length := by kernel_rfl
        clear HP2 hs4 hr hBs ha HBs
        obtain ⟨wz, hwz⟩ : ∃ wz, w4.setRow w.heap.size (hdC s.h).toArray = wz := ⟨_, rfl⟩
        have HBz : Hid (Bl 24 wz w.heap.size (hdC s.h)) := by rw [← hwz]; exact set_bl2 HBox4.out
        have Hz : Hid (Below w.heap.size w wz) := by rw [← hwz]; exact setRow_below2 _ HB4.out (Nat.le_refl _)
        have HWz : Hid (w4.setRow w.heap.size (hdC s.h).toArray = wz) := hwz
        clear hwz
        have hgi : (Tryz.prog.info? 24).map (·.size) = some 4 := by kernel_rfl
        go_wp2_with (first | (refine wpList_load_mid rfl 24 (.tmp 28) rfl w1.heap.size 0 rfl (hdC s.h) _ HRg.out Tryz.underlying24 rfl hcl ?_) | (refine wpList_store_row rfl 24 (.tmp 2) (.tmp 29) rfl w.heap.size (hdC s.h).toArray rfl rfl 24 (hdC hd0).toArray HBox4.out hgi rfl (by simp [hdC, Value.oneCell']) ?_; rw [HWz.out]; clear HWz hgi))
        (try simp only [Exit.inBlock, Exit.then])
        refine bodyPost_ret (v := .tuple #[hdV s.h, .int .i64 0]) (results_hd rfl _ _ w.heap.size s.h _ rfl rfl HBz.out) rfl ⟨?_, Hz.out⟩
        rw [HX.out]; rfl
  · have HX : Hid (hparseF t = (hd0, c)) := by show _ = _; rw [HP.out, if_pos h0]
    have qc : ((c : Int) == 0) = false := by simp; omega
    have qc' : ((c : Int) != 0) = true := by simp; omega
    clear hsh hbd HP HN h0
    obtain ⟨wz, hwz⟩ : ∃ wz, w1.setRow w.heap.size (hdC hd0).toArray = wz := ⟨_, rfl⟩
    have HBz : Hid (Bl 24 wz w.heap.size (hdC hd0)) := by rw [← hwz]; exact set_bl2 HBox1.out
    have Hz : Hid (Below w.heap.size w wz) := by rw [← hwz]; exact setRow_below2 _ HB1.out (Nat.le_refl _)
    have HWz : Hid (w1.setRow w.heap.size (hdC hd0).toArray = wz) := hwz
    clear hwz
    have hgi : (Tryz.prog.info? 24).map (·.size) = some 4 := by kernel_rfl
    go_wp2_with (refine wpList_store_row rfl 24 (.tmp 2) (.tmp 16) rfl w.heap.size (hdC hd0).toArray rfl rfl 24 (hdC hd0).toArray HBox1.out hgi rfl (by simp [hdC, hd0, Value.oneCell']) ?_; rw [HWz.out]; clear HWz hgi)
    (try simp only [Exit.inBlock, Exit.then])
    refine bodyPost_ret (v := .tuple #[hdV hd0, .int .i64 (c : Int)]) (results_hd rfl _ _ w.heap.size hd0 _ rfl rfl HBz.out) rfl ⟨?_, Hz.out⟩
    rw [HX.out]

end Go.Proofs.YtkaiecpdkieedaaGreatDoor

namespace Go.Proofs.YtkaiecpdkieedaaGreatDoor
open Go.RowKit Go.Shelf

theorem append_nd2 {wr : World} {ops : Array Oper} {rest : List Oper} {o : Oper} {a : Act} {Q : Exit → Act → World → Prop} (hgd : o.guard = none) (s x : Operand)
    (ho : o.op = .call { callee := .builtin .append, args := #[s, x], argTypes := #[29, 29] })
    (B : Nat) (v : Value) (l : List Nd) (y : Nd) (hs : a.eval s = v) (h : NO B wr v l) (bn : Nat) (hbn : bn = wr.heap.size) (hx : a.eval x = .slice (some ⟨bn, 0, none⟩) 1 1) (hl : l.length ≤ 1000000000) (hB : B ≤ wr.heap.size)
    (k : ∀ g cap w', NO B w' (.slice (some ⟨g, 0, none⟩) (l.length + 1) cap) (l ++ [y]) → (wr.alloc (.cells (nC y).toArray 37)).grownBy w' v.ownBlock → (v.ownBlock = some g ∨ wr.heap.size ≤ g) → wpList Tryz.prog ops Q rest (a.put o.dst (.slice (some ⟨g, 0, none⟩) (l.length + 1) cap)) w') : wpList Tryz.prog ops Q (o :: rest) a (wr.alloc (.cells (nC y).toArray 37)) := by
  subst hbn
  obtain ⟨i, hi, hz, hsize, hby⟩ := info_parts infoN
  have hBl : Bl 37 (wr.alloc (.cells (nC y).toArray 37)) wr.heap.size (nC y) := alloc_bl _ _ _
  have h1 : NO B (wr.alloc (.cells (nC y).toArray 37)) v l := World.ownsRow.alloc h _
  have hsz := alloc_size wr (.cells (nC y).toArray 37)
  refine wpList_append_lies _ hgd s x 29 ho B 37 i (.agg #[.int .i64 0, .string ⟨#[]⟩, .string ⟨#[]⟩, .bool false, .int .i64 0, .int .i64 0]) 6 64 Tryz.underlying29 hi hz hsize hby rfl (by decide) v l.length (nCs l) hs h1 ⟨wr.heap.size, 0, none⟩ 1 1 (nC y) hx rfl ?_ (by intro u hu; simp only [nC, List.mem_cons, List.not_mem_nil, or_false] at hu; rcases hu with rfl | rfl | rfl | rfl | rfl | rfl <;> rfl) (by decide) (by unfold maxLen; omega) (by omega) (by omega) _ rfl ?_
  · intro j u hu
    obtain ⟨hlt, e⟩ := List.getElem?_eq_some_iff.1 hu
    rw [Addr.add_mid, Nat.zero_add, ← e]
    exact hBl.cell j hlt
  · intro g cap w' h2 h3 h4 _
    refine k g cap w' ?_ h3 ?_
    · unfold NO
      rw [List.length_append, nCs_append, nCs_one]
      exact h2
    · rcases h4 with h4 | h4
      · exact .inl h4
      · exact .inr (by omega)

/-- A text's node as a value. -/
def tnV (k l : List UInt8) : Value := .agg #[.int .i64 5, .string ⟨k.toArray⟩, .string ⟨l.toArray⟩, .bool false, .int .i64 0, .int .i64 0]
theorem results_nd {fn : Func} {p : Tmp} (h : fn.results = #[.cell p 37]) (tmps : Array Value) (w : World) (b : Nat) (n : Nd) (hp : tmps.getD p undef = .pointer (some ⟨b, 0, none⟩)) (hb : Bl 37 w b (nC n)) :
    (results fn tmps).run Tryz.prog w = .ok (.agg (nC n).toArray) w := by
  have hr : (loadVar 37 ⟨b, 0, none⟩).run Tryz.prog w = .ok (.agg (nC n).toArray) w := by
    refine run_loadVar_mid w b 0 37 (nC n) _ ?_ Tryz.underlying37 rfl (by kernel_rfl)
    intro j v hv
    obtain ⟨hj, e⟩ := List.getElem?_eq_some_iff.1 hv
    rw [Nat.zero_add, ← e]
    exact hb.cell j hj
  rw [results_cell h, hp]
  unfold asAddr
  simp only [Sem.run_pure, Result.andThen_ok]
  exact hr

theorem own_len {B : Nat} {w : World} {g n cap : Nat} {l : List Nd} (h : NO B w (.slice (some ⟨g, 0, none⟩) n cap) l) : l.length ≤ cap := by
  obtain ⟨a, c, e, hc, _⟩ := own_slice h
  cases e
  exact hc
theorem fin_below {nb g cap : Nat} {w w9 w10 : World} {l : List Nd} {y : Nd} {u : Value} (h9 : Below w.heap.size w w9) (hn : NO nb w9 (.slice (some ⟨nb, 0, none⟩) l.length cap) l) (hg : (w9.alloc (.cells (nC y).toArray 37)).grownBy w10 (Value.ownBlock (.slice (some ⟨nb, 0, none⟩) l.length cap)))
    (hgg : Value.ownBlock (.slice (some ⟨nb, 0, none⟩) l.length cap) = some g ∨ w9.heap.size ≤ g) (hL : w.heap.size < nb) (hs : nb ≤ w9.heap.size) : Below w.heap.size w (w10.setCell ⟨g, 5, none⟩ u) := by
  have h1 : Below w.heap.size w (w9.alloc (.cells (nC y).toArray 37)) := h9.trans ((alloc_below _ _).mono (by omega))
  have h2 : Below nb (w9.alloc (.cells (nC y).toArray 37)) w10 := Below.grown (Below.refl _ _) hg (by rw [alloc_size]; omega) (own_block (World.ownsRow.alloc hn (.cells (nC y).toArray 37)))
  refine Below.setCell (h1.trans (h2.mono (Nat.le_of_lt hL))) ?_ _
  rcases hgg with e | e
  · have : nb = g := Option.some.inj e
    show w.heap.size ≤ g
    omega
  · show w.heap.size ≤ g
    omega
theorem wr_len (h : Hd) : (wrF h).length ≤ 1000000000 := by
  unfold wrF
  cases h.has <;> simp
theorem wr_tb {h : Hd} (hk : h.kid.length ≤ 1073741824) (ht : h.typ.length ≤ 1073741824) : TB (wrF h) := by
  have hn : (nameF' h.alg).length ≤ 1073741824 := by
    unfold nameF'
    split
    · have : ∀ k, k < 13 → (algN k).length ≤ 5 := by decide
      have := this h.alg.toNat (by omega)
      omega
    · simp
  unfold TB wrF
  cases h.has <;> simp <;> omega

end Go.Proofs.YtkaiecpdkieedaaGreatDoor

namespace Go.Proofs.YtkaiecpdkieedaaGreatDoor
open Go.RowKit

def stT : List UInt8 := [123, 34, 107, 105, 100, 34, 58, 34, 107, 34, 44, 34, 92, 117, 48, 48, 54, 49, 108, 103, 34, 58, 34, 69, 83, 51, 56, 52, 34, 44, 34, 116, 121, 112, 34, 58, 34, 74, 87, 84, 34, 125]
def stN : List UInt8 := [123, 34, 97, 108, 103, 34, 58, 34, 110, 111, 110, 101, 34, 44, 34, 107, 105, 100, 34, 58, 34, 107, 34, 125]
def stP : List UInt8 := [123, 34, 97, 108, 103, 34, 58, 34, 69, 83, 51, 56, 52, 34, 44, 34, 107, 105, 100, 34, 58, 34, 107, 34, 44, 34, 116, 121, 112, 34, 58, 34, 74, 87, 84, 34, 125]
def stH : Hd := ⟨11, [107], [74, 87, 84], true⟩
set_option maxRecDepth 100000 in
theorem st_parse : hparseF stT = (stH, 0) := by decide +kernel
set_option maxRecDepth 100000 in
theorem st_none : hparseF stN = (hd0, 111) := by decide +kernel
set_option maxRecDepth 100000 in
theorem st_print : hprintF stH = (stP, 0) := by decide +kernel
theorem st_allow : allowF [[110, 111, 110, 101], [69, 83, 51, 56, 52]] true [74, 87, 84] stH = 0 := by decide +kernel
theorem st_bar : allowF [] false [] stH = 112 := by decide +kernel

end Go.Proofs.YtkaiecpdkieedaaGreatDoor
