import Derived.Test.YthnogdkkdekgpaaDoorPI
import Derived.Test.YthnogdkkdekgpaaDoorShZ8
import Derived.Deep.RegionHeldLaw
namespace Go.Proofs.YthnogdkkdekgpaaDoor
open Go.RowKit

/-- What lucky answers. -/
def luckyV (h : Int) (d em : List UInt8) (bits : Int) : Bool := decide (2 * Sha.siz h + 2 ≤ em.length ∧ pcode h d.length (Sha.siz h) bits = 0 ∧ encF h d (saltF h em) bits.toNat = em)
theorem lucky_holds (h : Int) (d em : List UInt8) (bits : Int) : luckyV h d em bits = holdsV h d em bits := by
  unfold luckyV holdsV
  apply decide_eq_decide.2
  constructor
  · rintro ⟨h1, h2, h3⟩
    refine ⟨h2, ?_, h3⟩
    obtain ⟨k1, _, _, _, k5⟩ := pcode_ok h2
    have hs := isHB_pos k1
    have hl := saltF_length h em hs (by omega)
    have := encF_length h d (saltF h em) bits.toNat hs (by rw [hl]; exact k5)
    rw [h3] at this
    exact this
  · rintro ⟨h1, h2, h3⟩
    obtain ⟨_, _, _, _, k5⟩ := pcode_ok h1
    exact ⟨by omega, h1, h3⟩
theorem xorL_get (a b : List UInt8) (k : Nat) (h : k < (xorL a b).length) (h1 : k < a.length) (h2 : k < b.length) : (xorL a b)[k] = a[k] ^^^ b[k] := List.getElem_zipWith (f := fun x y => x ^^^ y) (i := k) (h := h)
theorem OBb.drewP {B0 : Nat} {w ws : World} {v : Value} {l : List UInt8} (h : OBb B0 w ws v l) (q : Nat) : OBb B0 w (ws.drewN q) v l := ⟨h.own, below_drewN h.bel q⟩

set_option maxRecDepth 100000 in
set_option maxHeartbeats 4000000 in
theorem lucky_any (h : Int) (a1 a2 : Option Addr) (c1 c2 : Nat) (d em : List UInt8) (bits : Int) (w : World) (T : Sha.Tb w) (hh : isHB h = true) (r1 : Rd w a1 d) (r2 : Rd w a2 em) (k1 : d.length ≤ c1) (k1' : c1 ≤ 9223372036854775807) (k2 : em.length ≤ c2) (k2' : c2 ≤ 9223372036854775807) (l1 : d.length ≤ 100000000) (l2 : em.length ≤ 65536) :
    Calls Tryd.prog 19 #[.int .i64 h, .slice a1 d.length c1, .slice a2 em.length c2, .int .i64 bits] w fun e w' => e = .returned (.bool (luckyV h d em bits)) ∧ Below w.heap.size w w' := by
  have CS := Sha.size_any h w
  have hs0 := isHB_pos hh
  have hs64 := siz_le64 h
  obtain ⟨S, HS⟩ : ∃ S, Hid (Sha.siz h = S) := ⟨_, rfl⟩
  obtain ⟨E, HE⟩ : ∃ E, Hid (em.length = E) := ⟨_, rfl⟩
  rw [HS.out] at CS hs0 hs64
  rw [HE.out] at k2 l2
  rw [HE.out]
  by_cases hl : 2 * S + 2 ≤ E
  · have d1 : decide ((E : Int) < 2 * (S : Int) + 2) = false := decide_eq_false (by omega)
    obtain ⟨P, eP⟩ : ∃ P : Nat, (E : Int) - (S : Int) - 1 = (P : Int) := ⟨E - S - 1, by omega⟩
    obtain ⟨Q, eQ⟩ : ∃ Q : Nat, (E : Int) - 1 = (Q : Int) := ⟨E - 1, by omega⟩
    obtain ⟨R, eR⟩ : ∃ R : Nat, (P : Int) - (S : Int) = (R : Int) := ⟨P - S, by omega⟩
    have hX : Q + 1 = E ∧ P + S = Q ∧ R + S = P := ⟨by omega, by omega, by omega⟩
    obtain ⟨ge, off, rfl, hge, hcell⟩ := r2.resolve_left (fun e => by rw [e] at HE; have := HE.out; simp at this; omega)
    have hr0 : Rd w (some ⟨ge, off, none⟩) em := .inr ⟨ge, off, rfl, hge, hcell⟩
    have hRP := (hr0.dropP P).takeP S
    have hl1 : ((em.drop P).take S).length = Q - P := by rw [List.length_take, List.length_drop, HE.out]; omega
    have CM := pmask_any h (some ⟨ge, off + P, none⟩) (c2 - P) ((em.drop P).take S) (P : Int) w T hRP (by rw [hl1]; omega) (by omega) (by rw [hl1]; omega)
    have hmc : mcode h (P : Int) = 0 := by unfold mcode; rw [if_neg (by rw [hh]; simp), if_neg (by omega)]
    have hmv : maskV h ((em.drop P).take S) (P : Int) = maskF h ((em.drop P).take S) P := by unfold maskV; rw [hmc, if_pos rfl, Int.toNat_natCast]
    rw [hmc, hmv, hl1] at CM
    obtain ⟨st, hst⟩ : ∃ st, saltF h em = st := ⟨_, rfl⟩
    have hsl := saltF_length h em (by rw [HS.out]; exact hs0) (by rw [HS.out, HE.out]; omega)
    rw [HS.out, hst] at hsl
    have hml : (maskF h ((em.drop P).take S) P).length = P := maskF_length _ _ _ (by rw [HS.out]; exact hs0)
    have HSt : Hid (∀ k (hk : k < st.length), st[k] = em.getD (R + k) 0 ^^^ (maskF h ((em.drop P).take S) P).getD (R + k) 0) := fun k hk => by
      have hk2 : k < S := by omega
      have e1 : st = xorL ((em.drop R).take S) ((maskF h ((em.drop P).take S) P).drop R) := by
        rw [← hst]; unfold saltF; rw [HS.out, HE.out, show E - 1 - 2 * S = R by omega, show E - 1 - S = P by omega]
      subst e1
      rw [xorL_get _ _ k hk (by rw [List.length_take, List.length_drop, HE.out]; omega) (by rw [List.length_drop, hml]; omega), List.getElem_take, List.getElem_drop, List.getElem_drop]
      rw [List.getD_eq_getElem?_getD, List.getD_eq_getElem?_getD, List.getElem?_eq_getElem (by rw [HE.out]; omega), List.getElem?_eq_getElem (by rw [hml]; omega)]
      rfl
    have Hsl : Hid (st.length = S) := hsl
    have HV : Hid (luckyV h d em bits = decide (pcode h d.length S bits = 0 ∧ encF h d st bits.toNat = em)) := by
      show _ = _
      unfold luckyV
      rw [HS.out, HE.out, hst]
      apply decide_eq_decide.2
      exact ⟨fun x => x.2, fun x => ⟨hl, x⟩⟩
    have HT : Hid (Sha.Tb w) := T
    have H1 : Hid (Rd w a1 d) := r1
    have H2 : Hid (Rd w (some ⟨ge, off, none⟩) em) := hr0
    generalize maskF h ((em.drop P).take S) P = mk at *
    have Hml : Hid (mk.length = P) := hml
    have HX : Hid (Q + 1 = E ∧ P + S = Q ∧ R + S = P) := hX
    have o1 : P ≤ Q := by omega
    have o2 : Q ≤ c2 := by omega
    have o3 : ¬ c2 = P := by omega
    have o4 : P ≤ E := by omega
    have o5 : P ≤ c2 := by omega
    clear T hh r1 r2 hcell hr0 hRP hl1 hmc hmv hml hX hst hsl hl
    go_enter Tryd.func19, Tryd.ntmps19
    go_wp2_with fail
    refine CS.mono ?_
    rintro e w' ⟨rfl, rfl⟩
    clear CS
    go_wp2_with fail
    refine CM.mono ?_
    rintro e w1 ⟨rM, rfl, hM⟩
    clear CM
    obtain ⟨gm, cm, erm, hgm, hcm1, hcm2, hRm⟩ := hM.sliceP (by rw [Hml.out]; have := HX.out; omega)
    rw [Hml.out] at erm hcm1
    unfold maxLen at hcm2
    subst erm
    have HRm : Hid (Rd w1 (some ⟨gm, 0, none⟩) mk) := hRm
    have HB1 : Hid (Below w'.heap.size w' w1) := hM.bel
    have HN0 : Hid (OBb w1.heap.size w1 w1 (.slice none 0 0) (st.take 0)) := ⟨Owb.nil _ _, Below.refl _ _⟩
    have hgm1 : gm < w1.heap.size := by
      obtain ⟨g', o', e', hg', _⟩ := hRm.resolve_left (fun e => by have := Hml.out; rw [e] at this; simp at this; have := HX.out; omega)
      cases e'; exact hg'
    have hge1 : ge < w1.heap.size := Nat.lt_of_lt_of_le hge hM.bel.size
    have HEm : Hid (Rd w1 (some ⟨ge, off, none⟩) em) := H2.out.below hM.bel (Nat.le_refl _)
    clear hM hRm
    go_wp2
    go_loopw [13, 14] (fun s3 s4 wr => ∃ k : Nat, s4 = .int .i64 ((R + k : Nat) : Int) ∧ k ≤ S ∧ Hid (OBb w1.heap.size w1 wr s3 (st.take k))) (fun _ s _ => P - (intOf s).toNat)
    case atStart => exact ⟨0, rfl, by omega, HN0⟩
    case round =>
      clear HN0
      obtain ⟨k, rfl, hk, HO⟩ := hrel
      obtain ⟨a6, n6, c6, e6⟩ : ∃ a n c, u13 = .slice a n c := by obtain ⟨a, c, e, _⟩ := HO.out.own.nb; exact ⟨a, _, c, e⟩
      subst e6
      by_cases hlt : k < S
      · have hx := HX.out
        have hkP : R + k < P := by omega
        have hkE : R + k < E := by omega
        obtain ⟨g1, o1', e1, _, hc1⟩ := HEm.out.resolve_left (fun e => by have := HE.out; rw [e] at this; simp at this; omega)
        cases e1
        obtain ⟨g2, o2', e2, _, hc2⟩ := HRm.out.resolve_left (fun e => by have := Hml.out; rw [e] at this; simp at this; omega)
        cases e2
        have gx1 := hc1 (R + k) (by rw [HE.out]; omega)
        have gy1 := hc2 (R + k) (by rw [Hml.out]; omega)
        rw [Nat.zero_add] at gy1
        have hz := HSt.out k (by rw [Hsl.out]; exact hlt)
        have Htk : Hid (st.take k ++ [em.getD (R + k) 0 ^^^ mk.getD (R + k) 0] = st.take (k + 1)) := by
          show _ = _
          rw [List.take_succ_eq_append_getElem (by rw [Hsl.out]; exact hlt), hz]
        clear hz hc1 hc2 hx
        generalize em.getD (R + k) 0 = x at *
        generalize mk.getD (R + k) 0 = y at *
        have hxo := xor_b x y
        obtain ⟨z, hz⟩ : ∃ z, x ^^^ y = z := ⟨_, rfl⟩
        rw [hz] at hxo Htk
        clear hz
        unfold B at gx1 gy1
        obtain ⟨i, hi⟩ : ∃ i, R + k = i := ⟨_, rfl⟩
        rw [hi] at gx1 gy1 hkP hkE
        have Hi : Hid (R + k = i) := hi
        rw [hi]
        clear hi
        have gx : wr.cell? ⟨ge, off + i, none⟩ = some (.int .u8 (x.toNat : Int)) := cell_but gx1 fun hg => HO.out.bel.block ge hge1
        have gy : wr.cell? ⟨gm, i, none⟩ = some (.int .u8 (y.toNat : Int)) := cell_but gy1 fun hg => HO.out.bel.block gm hgm1
        have Hgx1 : Hid (w1.cell? ⟨ge, off + i, none⟩ = some (.int .u8 (x.toNat : Int))) := gx1
        have Hgy1 : Hid (w1.cell? ⟨gm, i, none⟩ = some (.int .u8 (y.toNat : Int))) := gy1
        clear gx1 gy1
        have hiP : (i : Int) < (P : Int) := by omega
        have hiE : (i : Int) < (E : Int) := by omega
        have d2 : decide ((i : Int) < (P : Int)) = true := decide_eq_true hiP
        have hlk : (st.take k).length ≤ 64 := by rw [List.length_take]; omega
        obtain ⟨n7, hn7⟩ : ∃ n, (st.take k).length = n := ⟨_, rfl⟩
        have Hn7 : Hid ((st.take k).length = n7) := hn7
        rw [hn7] at hlk
        clear hn7
        have Hown : Hid (wr.ownsRow w1.heap.size 5 1 (.slice a6 n6 c6) n7 ((st.take k).map B)) := by
          have := HO.out.own
          unfold Owb at this
          rw [Hn7.out] at this
          exact this
        have hsw : w1.heap.size ≤ wr.heap.size := HO.out.bel.size
        have HBr : Hid (Below w1.heap.size w1 wr) := HO.out.bel
        obtain ⟨i0, hi0, hz0, hz1, hz2⟩ := info_parts infoB
        clear HO
        go_wp2
        go_region_held_law (fun w'' => w''.cell? ⟨ge, off + i, none⟩ = some (.int .u8 (x.toNat : Int)) ∧ w''.cell? ⟨gm, i, none⟩ = some (.int .u8 (y.toNat : Int))) (first | assumption | (refine ⟨?_, ?_⟩ <;> first | assumption | go_keep)) ((
          refine Sha.step_append_own rfl (.tmp 62) (.tmp 72) 23 rfl w1.heap.size 5 i0 (.int .u8 0) 1 1 Tryd.underlying23 hi0 hz0 hz1 hz2 rfl (by decide) (.slice a6 n6 c6) n7 ((st.take k).map B) (by simp [Act.eval]) (Hown.out.alloc _) ⟨wr.heap.size, 0, none⟩ 1 1 [.int .u8 (z.toNat : Int)] (by simp [Act.eval]) rfl (by intro t u ht; match t, ht with | 0, ht => (simp at ht; subst ht; simp [Addr.add])) (by intro u hu; simp at hu; subst hu; rfl) (by unfold maxLen; omega) (by omega) (by simp; omega) ?_
          intro v5 w5 hown5 hgrow5 _
          have HB5 : Hid (Below w1.heap.size w1 w5) := HBr.out.trans (Below.grown (Below.drew ((alloc_below wr _).mono hsw)) hgrow5 (by simp; omega) (own_block Hown.out))
          have hS5 : w5.cell? ⟨ge, off + i, none⟩ = some (.int .u8 (x.toNat : Int)) ∧ w5.cell? ⟨gm, i, none⟩ = some (.int .u8 (y.toNat : Int)) := ⟨cell_but Hgx1.out fun hg => HB5.out.block ge hge1, cell_but Hgy1.out fun hg => HB5.out.block gm hgm1⟩))
        have HO5 : Hid (OBb w1.heap.size w1 w5 v5 (st.take (k + 1))) := by
          refine ⟨?_, HB5.out⟩
          rw [← Htk.out]
          unfold Owb
          rw [List.length_append, Hn7.out, List.map_append]
          exact hown5
        clear hown5 hgrow5 hS5 HB5 Hown HBr
        go_wp2
        exact ⟨⟨k + 1, by rw [← Hi.out]; go_num, by omega, HO5⟩, by simp [intOf]; omega⟩
      · obtain rfl : k = S := by omega
        have hx := HX.out
        have eRP : ((R + k : Nat) : Int) = (P : Int) := by omega
        rw [eRP]
        have d2 : decide ((P : Int) < (P : Int)) = false := decide_eq_false (by omega)
        have HOf : Hid (OBb w1.heap.size w1 wr (.slice a6 n6 c6) st) := by
          have := HO.out
          rw [List.take_of_length_le (by rw [Hsl.out]; exact Nat.le_refl _)] at this
          exact this
        have HBr : Hid (Below w'.heap.size w' wr) := HB1.out.trans (HO.out.bel.mono HB1.out.size)
        obtain ⟨aS, cS, eS, hcS, hRS⟩ := HOf.out.own.nb
        injection eS with e1 e2 e3
        subst e1; subst e2; subst e3
        have hcS2 : c6 ≤ 9223372036854775807 := by
          rcases HOf.out.own.2 with ⟨e0, _⟩ | ⟨g, cap, cur, e0, hg, _, _, hm, _⟩
          · injection e0 with _ _ e1; omega
          · injection e0 with _ _ e1; unfold maxLen at hm; omega
        have CE := pencode_any h a1 a6 c1 c6 d st bits wr (HT.out.below HBr.out) (H1.out.below HBr.out (Nat.le_refl _)) hRS k1 k1' hcS hcS2 l1 (by rw [Hsl.out]; omega)
        have hEm : Rd wr (some ⟨ge, off, none⟩) em := H2.out.below HBr.out (Nat.le_refl _)
        have HEr : Hid (Rd wr (some ⟨ge, off, none⟩) em) := hEm
        clear HO HOf hRS hcS hcS2 eRP hx hlt hk hEm
        by_cases hp : pcode h d.length st.length bits = 0
        · have hev : pencV h d st bits = encF h d st bits.toNat := by unfold pencV; rw [hp, if_pos rfl]
          rw [hp, hev] at CE
          have HV2 : Hid (luckyV h d em bits = decide (encF h d st bits.toNat = em)) := by
            show _ = _
            rw [HV.out]
            apply decide_eq_decide.2
            rw [Hsl.out] at hp
            exact ⟨fun x => x.2, fun x => ⟨hp, x⟩⟩
          have Hel : Hid ((encF h d st bits.toNat).length ≤ 10000) := by
            show _ ≤ _
            obtain ⟨q1, q2, q3, _, q5⟩ := pcode_ok hp
            rw [encF_length h d st _ (isHB_pos q1) q5]
            unfold wid
            omega
          clear hp hev HV
          rw [Hsl.out] at CE
          rw [Hsl.out]
          go_wp2_with fail
          refine CE.mono ?_
          rintro e w5 ⟨r, rfl, hO⟩
          clear CE
          obtain ⟨aO, cO, eO, _, qO⟩ := hO.own.nb
          subst eO
          have HB5 : Hid (Below w'.heap.size w' w5) := HBr.out.trans (hO.bel.mono HBr.out.size)
          have C8 := psame_any aO (some ⟨ge, off, none⟩) cO c2 _ em w5 qO (HEr.out.below hO.bel (Nat.le_refl _)) (by have := Hel.out; omega)
          rw [← HV2.out, HE.out] at C8
          clear qO hO HV2
          generalize (encF h d st bits.toNat).length = z1 at *
          go_wp2_with fail
          refine C8.mono ?_
          rintro x w8 ⟨rfl, q, hq⟩
          clear C8
          have HB8 : Hid (Below w'.heap.size w' w8) := by rw [hq]; exact below_drewN HB5.out q
          clear hq
          go_wp2
          go_ret
          exact ⟨rfl, HB8.out⟩
        · have dp : (pcode h d.length st.length bits == 0) = false := by simpa using hp
          have HV2 : Hid (luckyV h d em bits = false) := by
            show _ = _
            rw [HV.out, decide_eq_false]
            rintro ⟨e, _⟩
            rw [Hsl.out] at hp
            exact hp e
          generalize pcode h d.length st.length bits = pc at *
          clear hp HV
          rw [Hsl.out] at CE
          rw [Hsl.out]
          go_wp2_with fail
          refine CE.mono ?_
          rintro e w5 ⟨r, rfl, hO⟩
          clear CE
          have HB5 : Hid (Below w'.heap.size w' w5) := HBr.out.trans (hO.bel.mono HBr.out.size)
          clear hO
          go_wp2
          go_ret
          rw [HV2.out]
          exact ⟨rfl, HB5.out⟩
  · have d1 : decide ((E : Int) < 2 * (S : Int) + 2) = true := decide_eq_true (by omega)
    have HV : Hid (luckyV h d em bits = false) := by
      show _ = _
      unfold luckyV
      rw [decide_eq_false]
      rw [HS.out, HE.out]
      rintro ⟨e, _⟩
      exact hl e
    clear T r1 r2 hl hh
    go_enter Tryd.func19, Tryd.ntmps19
    go_wp2_with fail
    refine CS.mono ?_
    rintro e w' ⟨rfl, rfl⟩
    clear CS
    go_wp2
    go_ret
    rw [HV.out]
    exact ⟨rfl, Below.refl _ _⟩

end Go.Proofs.YthnogdkkdekgpaaDoor
