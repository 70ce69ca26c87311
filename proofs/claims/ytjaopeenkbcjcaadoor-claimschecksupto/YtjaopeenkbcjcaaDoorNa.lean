import Derived.Test.YtjaopeenkbcjcaaDoorGw
import Derived.Test.YtjaopeenkbcjcaaDoorCy
import Derived.Deep.CutRange
namespace Go.Proofs.YtjaopeenkbcjcaaDoor
open Go.RowKit Go.Shelf

/-- Is the issuer not the one that is asked for? Is the audience not? -/
def issB (iss : List UInt8) (hIss : Bool) (pi : List UInt8) (pHi : Bool) : Bool := pHi && (!hIss || !decide (iss = pi))
def audB (aud : List (List UInt8)) (hAud : Bool) (pa : List UInt8) (pHa : Bool) : Bool := (pHa != hAud) || (pHa && !decide (pa ∈ aud))
theorem checkB_eq (lk : Bool) (iss : List UInt8) (hIss : Bool) (aud : List (List UInt8)) (hAud : Bool) (pi : List UInt8) (pHi : Bool) (pa : List UInt8) (pHa : Bool) :
    checkB lk iss hIss aud hAud pi pHi pa pHa = if lk = true then 137 else if issB iss hIss pi pHi = true then 132 else if audB aud hAud pa pHa = true then 133 else 0 := by
  unfold checkB issB audB
  by_cases h1 : iss = pi <;> by_cases h2 : pa ∈ aud <;> cases lk <;> cases hIss <;> cases hAud <;> cases pHi <;> cases pHa <;> simp [h1, h2]
theorem lack_mem {l : List Nd} {nl : List (List UInt8)} (hs : shapedF l = true) : lackG l nl = nl.any (fun x => decide (memF l 0 x < 0)) := by
  unfold lackG
  congr 1
  funext x
  unfold hasF
  rw [hs, Bool.true_and]
  by_cases h : 0 ≤ memF l 0 x
  · rw [decide_eq_true h, decide_eq_false (by omega)]; rfl
  · rw [decide_eq_false h, decide_eq_true (by omega)]; rfl
theorem any_step {α : Type} (p : α → Bool) (d : α) {L : List α} {j : Nat} (hj : j < L.length) : (L.drop j).any p = (p (L.getD j d) || (L.drop (j + 1)).any p) := by
  have e : L.getD j d = L[j] := by rw [List.getD_eq_getElem?_getD, List.getElem?_eq_getElem hj]; rfl
  rw [e, List.drop_eq_getElem_cons hj]
  rfl

set_option maxRecDepth 100000 in
set_option maxHeartbeats 4000000 in
theorem ramong9_any (ao : Option Addr) (cap : Nat) (l : List (List UInt8)) (s : List UInt8) (w : World) (h : TR w (.slice ao l.length cap) l ao cap) (hl : l.length ≤ 9223372036854775807) :
    Calls Tryd.prog 17 #[.slice ao l.length cap, .string ⟨s.toArray⟩] w fun e w' => e = .returned (.bool (decide (s ∈ l))) ∧ w' = w := by
  have HC : Hid (∀ j, j < l.length → ∃ g off : Nat, ao = some ⟨g, off, none⟩ ∧ w.cell? ⟨g, off + j, none⟩ = some (.string ⟨(l.getD j []).toArray⟩)) := fun j hj => h.at hj
  clear h
  go_enter Tryd.func17, Tryd.ntmps17
  go_wp2
  go_loopw [5] (fun s5 wx => ∃ k : Nat, s5 = .int .i64 k ∧ k ≤ l.length ∧ wx = w ∧ ∀ j, j < k → l.getD j [] ≠ s) (fun x _ => l.length - (intOf x).toNat)
  case atStart => exact ⟨0, rfl, Nat.zero_le _, rfl, fun j hj => by omega⟩
  case round =>
    obtain ⟨k, rfl, hk, rfl, hne⟩ := hrel
    have HNe : Hid (∀ j, j < k → l.getD j [] ≠ s) := hne
    clear hne
    by_cases hlt : k < l.length
    · have q0 : decide ((k : Int) < (l.length : Int)) = true := decide_eq_true (by omega)
      obtain ⟨g, off, rfl, kc⟩ := HC.out k hlt
      obtain ⟨x, hx⟩ : ∃ x, l.getD k [] = x := ⟨_, rfl⟩
      rw [hx] at kc
      by_cases he : x = s
      · subst he
        have HF : Hid (x ∈ l) := by
          show _ ∈ _
          rw [← hx, List.getD_eq_getElem?_getD, List.getElem?_eq_getElem hlt]
          exact List.getElem_mem hlt
        clear hx HNe
        go_wp2
        go_ret
        rw [decide_eq_true HF.out]
        exact ⟨rfl, rfl⟩
      · have qs : (x == s) = false := by simpa using he
        have HN2 : Hid (∀ j, j < k + 1 → l.getD j [] ≠ s) := fun j hj => by
          rcases Nat.lt_or_ge j k with h | h
          · exact HNe.out j h
          · obtain rfl : j = k := by omega
            rw [hx]; exact he
        clear hx HNe he
        go_wp2
        go_roundw
        case rel => exact ⟨k + 1, by go_num, by omega, trivial, HN2.out⟩
        case measure => simp [intOf]; omega
    · have q0 : decide ((k : Int) < (l.length : Int)) = false := decide_eq_false (by omega)
      have HF : Hid (s ∉ l) := by
        show _ ∉ _
        intro hcc
        obtain ⟨j, hj, e⟩ := List.getElem_of_mem hcc
        exact absurd (by rw [List.getD_eq_getElem?_getD, List.getElem?_eq_getElem hj]; exact e) (HNe.out j (by omega))
      go_wp2
      go_ret
      rw [decide_eq_false HF.out]
      exact ⟨rfl, rfl⟩

set_option maxRecDepth 100000 in
set_option maxHeartbeats 16000000 in
/-- The document's Check, of a well shaped value. -/
theorem rcheck_any (l : List Nd) (va : Option Addr) (vc : Nat) (aud : List (List UInt8)) (aa : Option Addr) (ac : Nat) (iss : List UInt8) (hIss : Bool) (sub : List UInt8) (hSub : Bool) (hAud : Bool) (jti : List UInt8) (hJti : Bool) (ex nb it : Tm)
    (al : Value) (pi : List UInt8) (pHi : Bool) (pa : List UInt8) (pHa : Bool) (ty : List UInt8) (wt : Bool) (lee : Int) (nl : List (List UInt8)) (na : Option Addr) (nc : Nat) (w : World)
    (h : NR w (.slice va l.length vc) l va vc) (hA : TR w (.slice aa aud.length ac) aud aa ac) (hN : TR w (.slice na nl.length nc) nl na nc) (hs : shapedF l = true) (hl : l.length ≤ 100000000) (hnl : nl.length ≤ 100000000) (hal : aud.length ≤ 100000000) :
    Calls Tryd.prog 10 #[.agg #[.slice va l.length vc, .string ⟨iss.toArray⟩, .bool hIss, .string ⟨sub.toArray⟩, .bool hSub, .slice aa aud.length ac, .bool hAud, .string ⟨jti.toArray⟩, .bool hJti, .bool ex.has, .int .i64 ex.at_, .bool nb.has, .int .i64 nb.at_, .bool it.has, .int .i64 it.at_], .agg #[al, .string ⟨pi.toArray⟩, .bool pHi, .string ⟨pa.toArray⟩, .bool pHa, .string ⟨ty.toArray⟩, .bool wt, .int .i64 lee, .slice na nl.length nc]] w fun e w' => e = .returned (.int .i64 (checkB (lackG l nl) iss hIss aud hAud pi pHi pa pHa : Nat)) ∧ Below w.heap.size w w' := by
  obtain ⟨W, hW⟩ : ∃ W : World, (w.alloc (.cells #[.slice va l.length vc, .string ⟨iss.toArray⟩, .bool hIss, .string ⟨sub.toArray⟩, .bool hSub, .slice aa aud.length ac, .bool hAud, .string ⟨jti.toArray⟩, .bool hJti, .bool ex.has, .int .i64 ex.at_, .bool nb.has, .int .i64 nb.at_, .bool it.has, .int .i64 it.at_] 27)).alloc (.cells #[al, .string ⟨pi.toArray⟩, .bool pHi, .string ⟨pa.toArray⟩, .bool pHa, .string ⟨ty.toArray⟩, .bool wt, .int .i64 lee, .slice na nl.length nc] 29) = W := ⟨_, rfl⟩
  have h1 := alloc_below w (.cells #[.slice va l.length vc, .string ⟨iss.toArray⟩, .bool hIss, .string ⟨sub.toArray⟩, .bool hSub, .slice aa aud.length ac, .bool hAud, .string ⟨jti.toArray⟩, .bool hJti, .bool ex.has, .int .i64 ex.at_, .bool nb.has, .int .i64 nb.at_, .bool it.has, .int .i64 it.at_] 27)
  have h2 := alloc_below (w.alloc (.cells #[.slice va l.length vc, .string ⟨iss.toArray⟩, .bool hIss, .string ⟨sub.toArray⟩, .bool hSub, .slice aa aud.length ac, .bool hAud, .string ⟨jti.toArray⟩, .bool hJti, .bool ex.has, .int .i64 ex.at_, .bool nb.has, .int .i64 nb.at_, .bool it.has, .int .i64 it.at_] 27)) (.cells #[al, .string ⟨pi.toArray⟩, .bool pHi, .string ⟨pa.toArray⟩, .bool pHa, .string ⟨ty.toArray⟩, .bool wt, .int .i64 lee, .slice na nl.length nc] 29)
  have h3 : Bl 27 _ _ [.slice va l.length vc, .string ⟨iss.toArray⟩, .bool hIss, .string ⟨sub.toArray⟩, .bool hSub, .slice aa aud.length ac, .bool hAud, .string ⟨jti.toArray⟩, .bool hJti, .bool ex.has, .int .i64 ex.at_, .bool nb.has, .int .i64 nb.at_, .bool it.has, .int .i64 it.at_] := alloc_bl w [.slice va l.length vc, .string ⟨iss.toArray⟩, .bool hIss, .string ⟨sub.toArray⟩, .bool hSub, .slice aa aud.length ac, .bool hAud, .string ⟨jti.toArray⟩, .bool hJti, .bool ex.has, .int .i64 ex.at_, .bool nb.has, .int .i64 nb.at_, .bool it.has, .int .i64 it.at_] 27
  have h4 : Bl 29 _ _ [al, .string ⟨pi.toArray⟩, .bool pHi, .string ⟨pa.toArray⟩, .bool pHa, .string ⟨ty.toArray⟩, .bool wt, .int .i64 lee, .slice na nl.length nc] := alloc_bl (w.alloc (.cells #[.slice va l.length vc, .string ⟨iss.toArray⟩, .bool hIss, .string ⟨sub.toArray⟩, .bool hSub, .slice aa aud.length ac, .bool hAud, .string ⟨jti.toArray⟩, .bool hJti, .bool ex.has, .int .i64 ex.at_, .bool nb.has, .int .i64 nb.at_, .bool it.has, .int .i64 it.at_] 27)) [al, .string ⟨pi.toArray⟩, .bool pHi, .string ⟨pa.toArray⟩, .bool pHa, .string ⟨ty.toArray⟩, .bool wt, .int .i64 lee, .slice na nl.length nc] 29
  have h5 : Bl 27 W w.heap.size [.slice va l.length vc, .string ⟨iss.toArray⟩, .bool hIss, .string ⟨sub.toArray⟩, .bool hSub, .slice aa aud.length ac, .bool hAud, .string ⟨jti.toArray⟩, .bool hJti, .bool ex.has, .int .i64 ex.at_, .bool nb.has, .int .i64 nb.at_, .bool it.has, .int .i64 it.at_] := by rw [← hW]; exact h3.below h2 h3.lt
  have h6 : Bl 29 W (w.heap.size + 1) [al, .string ⟨pi.toArray⟩, .bool pHi, .string ⟨pa.toArray⟩, .bool pHa, .string ⟨ty.toArray⟩, .bool wt, .int .i64 lee, .slice na nl.length nc] := by rw [alloc_size] at h4; rw [← hW]; exact h4
  have hB : Below w.heap.size w W := by rw [← hW]; exact h1.trans (h2.mono h1.size)
  have HW : Hid ((w.alloc (.cells #[.slice va l.length vc, .string ⟨iss.toArray⟩, .bool hIss, .string ⟨sub.toArray⟩, .bool hSub, .slice aa aud.length ac, .bool hAud, .string ⟨jti.toArray⟩, .bool hJti, .bool ex.has, .int .i64 ex.at_, .bool nb.has, .int .i64 nb.at_, .bool it.has, .int .i64 it.at_] 27)).alloc (.cells #[al, .string ⟨pi.toArray⟩, .bool pHi, .string ⟨pa.toArray⟩, .bool pHa, .string ⟨ty.toArray⟩, .bool wt, .int .i64 lee, .slice na nl.length nc] 29) = W) := hW
  have HKc : Hid (∀ wq, Below W.heap.size W wq → wq.cell? ⟨w.heap.size, 0, none⟩ = some (.slice va l.length vc) ∧ wq.cell? ⟨w.heap.size, 1, none⟩ = some (.string ⟨iss.toArray⟩) ∧ wq.cell? ⟨w.heap.size, 2, none⟩ = some (.bool hIss) ∧ wq.cell? ⟨w.heap.size, 5, none⟩ = some (.slice aa aud.length ac) ∧ wq.cell? ⟨w.heap.size, 6, none⟩ = some (.bool hAud)) := fun wq hq => by
    have a := h5.below hq h5.lt
    exact ⟨a.cell 0 (by simp), a.cell 1 (by simp), a.cell 2 (by simp), a.cell 5 (by simp), a.cell 6 (by simp)⟩
  have HKp : Hid (∀ wq, Below W.heap.size W wq → wq.cell? ⟨w.heap.size + 1, 1, none⟩ = some (.string ⟨pi.toArray⟩) ∧ wq.cell? ⟨w.heap.size + 1, 2, none⟩ = some (.bool pHi) ∧ wq.cell? ⟨w.heap.size + 1, 3, none⟩ = some (.string ⟨pa.toArray⟩) ∧ wq.cell? ⟨w.heap.size + 1, 4, none⟩ = some (.bool pHa) ∧ wq.cell? ⟨w.heap.size + 1, 8, none⟩ = some (.slice na nl.length nc)) := fun wq hq => by
    have a := h6.below hq h6.lt
    exact ⟨a.cell 1 (by simp), a.cell 2 (by simp), a.cell 3 (by simp), a.cell 4 (by simp), a.cell 8 (by simp)⟩
  have HTa : Hid (∀ wq, Below W.heap.size W wq → TR wq (.slice aa aud.length ac) aud aa ac) := fun wq hq => (hA.below hB (Nat.le_refl _)).below hq (Nat.le_refl _)
  have HTn : Hid (∀ wq, Below W.heap.size W wq → TR wq (.slice na nl.length nc) nl na nc) := fun wq hq => (hN.below hB (Nat.le_refl _)).below hq (Nat.le_refl _)
  have HBq : Hid (∀ wq, Below W.heap.size W wq → Below w.heap.size w wq) := fun wq hq => hB.trans (hq.mono hB.size)
  have hsq := shaped_sq hs
  have HMe : Hid (∀ wq (x : List UInt8), Below W.heap.size W wq → Calls Tryd.prog 16 #[.slice va l.length vc, .int .i64 0, .string ⟨x.toArray⟩] wq fun e w' => e = .returned (.int .i64 (memF l 0 x)) ∧ Below wq.heap.size wq w') := fun wq x hq => rmember_any_w l va vc 0 x wq ((h.below hB (Nat.le_refl _)).below hq (Nat.le_refl _)) hl (fun i hi => at_of_w hsq hl hi) (all_of_w hsq hl).1
  have HAm : Hid (∀ wq, Below W.heap.size W wq → Calls Tryd.prog 17 #[.slice aa aud.length ac, .string ⟨pa.toArray⟩] wq fun e w' => e = .returned (.bool (decide (pa ∈ aud))) ∧ w' = wq) := fun wq hq => ramong9_any aa ac aud pa wq (HTa.out wq hq) (by omega)
  obtain ⟨lk, hlk⟩ : ∃ x, lackG l nl = x := ⟨_, rfl⟩
  have HLK : Hid (nl.any (fun x => decide (memF l 0 x < 0)) = lk) := by show _ = _; rw [← hlk, lack_mem hs]
  obtain ⟨R, hR⟩ : ∃ x, checkB lk iss hIss aud hAud pi pHi pa pHa = x := ⟨_, rfl⟩
  have HR : Hid (R = if lk = true then 137 else if issB iss hIss pi pHi = true then 132 else if audB aud hAud pa pHa = true then 133 else 0) := by show _ = _; rw [← hR, checkB_eq]
  rw [hlk, hR]
  clear h hA hN h1 h2 h3 h4 h5 h6 hB hW hs hsq hlk hR
  go_enter Tryd.func10, Tryd.ntmps10
  go_upto_region 1 with fail
  rw [HW.out]
  clear HW
  go_wp2
  go_loopw [5] (fun s wx => ∃ k : Nat, s = .int .i64 k ∧ k ≤ nl.length ∧ Below W.heap.size W wx ∧ (nl.drop k).any (fun x => decide (memF l 0 x < 0)) = lk) (fun s _ => nl.length - (intOf s).toNat)
  case atStart => exact ⟨0, rfl, Nat.zero_le _, Below.refl _ _, HLK.out⟩
  case round =>
    obtain ⟨k, rfl, hk, hb, hm⟩ := hrel
    have HQr : Hid (Below W.heap.size W wr) := hb
    have HM : Hid ((nl.drop k).any (fun x => decide (memF l 0 x < 0)) = lk) := hm
    obtain ⟨k1, k2, k3, k4, k8⟩ := HKp.out wr hb
    obtain ⟨j0, j1, j2, j5, j6⟩ := HKc.out wr hb
    clear hb hm HLK
    by_cases hlt : k < nl.length
    · have q0 : decide ((k : Int) < (nl.length : Int)) = true := decide_eq_true (by omega)
      have hst := HM.out
      rw [any_step _ [] hlt] at hst
      obtain ⟨g, off, rfl, kc⟩ := (HTn.out wr HQr.out).at hlt
      obtain ⟨x, hx⟩ : ∃ x, nl.getD k [] = x := ⟨_, rfl⟩
      rw [hx] at kc hst
      have CM := HMe.out (wr.drewN 1) x (below_drewN HQr.out 1)
      obtain ⟨M, hM⟩ : ∃ M, memF l 0 x = M := ⟨_, rfl⟩
      rw [hM] at CM hst
      have HQd : Hid (Below W.heap.size W (wr.drewN 1)) := below_drewN HQr.out 1
      clear HM hM hx
      go_wp2
      refine wp_region_tail 7 (by kernel_rfl) (by kernel_rfl) ?_
      simp only [List.take_succ_cons, List.take_zero, List.drop_succ_cons, List.drop_zero]
      repeat (first | go_big_quiet_skip | (go_big_quiet_want; go_big_quiet_op; go_big_quiet_on))
      refine wpQuiet_nil ?_
      generalize wr.drewN 1 = wd at *
      go_wp2_with fail
      refine CM.mono ?_
      clear CM
      rintro e w8 ⟨rfl, hQ8⟩
      have HQ8 : Hid (Below W.heap.size W w8) := HQd.out.trans (hQ8.mono HQd.out.size)
      clear hQ8
      by_cases hM0 : M < 0
      · have qM : decide (M < 0) = true := decide_eq_true hM0
        have HX : Hid (R = 137) := by
          show _ = _
          rw [qM, Bool.true_or] at hst
          rw [HR.out, ← hst]
          rfl
        have HZ : Hid (Below w.heap.size w w8) := HBq.out w8 HQ8.out
        clear hst HR
        go_wp2
        go_ret
        rw [HX.out]
        exact ⟨rfl, HZ.out⟩
      · have qM : decide (M < 0) = false := decide_eq_false hM0
        have HST : Hid ((nl.drop (k + 1)).any (fun x => decide (memF l 0 x < 0)) = lk) := by
          show _ = _
          rw [qM, Bool.false_or] at hst
          exact hst
        clear hst
        go_wp2
        go_roundw
        case rel => exact ⟨k + 1, by go_num, by omega, HQ8.out, HST.out⟩
        case measure => simp [intOf]; omega
    · have q0 : decide ((k : Int) < (nl.length : Int)) = false := decide_eq_false (by omega)
      have HML : Hid (lk = false) := by
        show _ = _
        rw [← HM.out, List.drop_eq_nil_of_le (by omega)]
        rfl
      have HR2 : Hid (R = if issB iss hIss pi pHi = true then 132 else if audB aud hAud pa pHa = true then 133 else 0) := by
        show _ = _
        rw [HR.out, HML.out]
        rfl
      have HZ : Hid (Below w.heap.size w wr) := HBq.out wr HQr.out
      clear HM HML HR
      obtain ⟨I, hI⟩ : ∃ I, issB iss hIss pi pHi = I := ⟨_, rfl⟩
      have HI : Hid ((pHi && (!hIss || !decide (iss = pi))) = I) := hI
      rw [hI] at HR2
      clear hI
      go_upto_region 6 with fail
      go_cut [35] from 22 to 35 (fun s wx => s = .bool I ∧ wx = wr)
      case first =>
        clear HR2
        cases pHi
        · have e := HI.out
          rw [Bool.false_and] at e
          subst e
          clear HI
          go_wp2
          go_meet
          exact ⟨rfl, rfl⟩
        · cases hIss
          · have e := HI.out
            rw [Bool.true_and, Bool.not_false, Bool.true_or] at e
            subst e
            clear HI
            go_wp2
            go_meet
            exact ⟨rfl, rfl⟩
          · by_cases hip : iss = pi
            · have e := HI.out
              rw [decide_eq_true hip] at e
              have e2 : false = I := e
              subst e2
              subst hip
              clear HI e
              go_wp2
              go_meet
              exact ⟨rfl, rfl⟩
            · have e := HI.out
              rw [decide_eq_false hip] at e
              have e2 : true = I := e
              subst e2
              have qi : (iss == pi) = false := by simpa using hip
              clear hip HI e
              go_wp2
              go_meet
              exact ⟨rfl, rfl⟩
      case rest =>
      obtain ⟨rfl, hcw⟩ := hcut
      have hcw2 := hcw.symm
      subst hcw2
      clear HI
      cases I
      · have HR3 : Hid (R = if ((pHa != hAud) || (pHa && !decide (pa ∈ aud))) = true then 133 else 0) := HR2.out
        clear HR2
        have CA := HAm.out wr HQr.out
        cases pHa
        · cases hAud
          · have HX : Hid (R = 0) := HR3.out
            clear HR3 CA
            go_wp2
            go_ret
            rw [HX.out]
            exact ⟨rfl, HZ.out⟩
          · have HX : Hid (R = 133) := HR3.out
            clear HR3 CA
            go_wp2
            go_ret
            rw [HX.out]
            exact ⟨rfl, HZ.out⟩
        · cases hAud
          · have HX : Hid (R = 133) := HR3.out
            clear HR3 CA
            go_wp2
            go_ret
            rw [HX.out]
            exact ⟨rfl, HZ.out⟩
          · obtain ⟨N, hN⟩ : ∃ N, decide (pa ∈ aud) = N := ⟨_, rfl⟩
            have HX : Hid (R = if (!N) = true then 133 else 0) := by
              have := HR3.out
              rw [hN] at this
              exact this
            rw [hN] at CA
            clear HR3 hN
            go_wp2_with fail
            refine CA.mono ?_
            clear CA
            rintro e w9 ⟨rfl, rfl⟩
            cases N
            · have HX2 : Hid (R = 133) := HX.out
              clear HX
              go_wp2
              go_ret
              rw [HX2.out]
              exact ⟨rfl, HZ.out⟩
            · have HX2 : Hid (R = 0) := HX.out
              clear HX
              go_wp2
              go_ret
              rw [HX2.out]
              exact ⟨rfl, HZ.out⟩
      · have HX : Hid (R = 132) := HR2.out
        clear HR2
        go_wp2
        go_ret
        rw [HX.out]
        exact ⟨rfl, HZ.out⟩

end Go.Proofs.YtjaopeenkbcjcaaDoor
