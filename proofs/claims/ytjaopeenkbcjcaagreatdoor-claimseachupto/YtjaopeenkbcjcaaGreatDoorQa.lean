import Derived.Test.YtjaopeenkbcjcaaGreatDoorGd
import Derived.Test.YtjaopeenkbcjcaaGreatDoorCy
import Derived.Test.YtjaopeenkbcjcaaGreatDoorAw
import Derived.Test.YtjaopeenkbcjcaaGreatDoorEZ
import Derived.Deep.CutRange
namespace Go.Proofs.YtjaopeenkbcjcaaGreatDoor
open Go.RowKit Go.Shelf

/-- Is the issuer not the one that is asked for? Is the audience not? -/
def issB (iss : List UInt8) (hIss : Bool) (pi : List UInt8) (pHi : Bool) : Bool := pHi && (!hIss || !decide (iss = pi))
def audB (aud : List (List UInt8)) (hAud : Bool) (pa : List UInt8) (pHa : Bool) : Bool := (pHa != hAud) || (pHa && !decide (pa ∈ aud))
theorem checkB_eq (lk : Bool) (iss : List UInt8) (hIss : Bool) (aud : List (List UInt8)) (hAud : Bool) (pi : List UInt8) (pHi : Bool) (pa : List UInt8) (pHa : Bool) :
    checkB lk iss hIss aud hAud pi pHi pa pHa = if lk = true then 137 else if issB iss hIss pi pHi = true then 132 else if audB aud hAud pa pHa = true then 133 else 0 := by
  unfold checkB issB audB
  by_cases h1 : iss = pi <;> by_cases h2 : pa ∈ aud <;> cases lk <;> cases hIss <;> cases hAud <;> cases pHi <;> cases pHa <;> simp [h1, h2]
theorem lack_mem {l : List Nd} {nl : List (List UInt8)} (hs : shapedF l = true) : lackG l nl = nl.any (fun x => decide (memF l 0 x < 0)) := by
  unfold lackG
  congr 1
  funext x
  unfold hasF
  rw [hs, Bool.true_and]
  by_cases h : 0 ≤ memF l 0 x
  · rw [decide_eq_true h, decide_eq_false (by omega)]; rfl
  · rw [decide_eq_false h, decide_eq_true (by omega)]; rfl
theorem any_step {α : Type} (p : α → Bool) (d : α) {L : List α} {j : Nat} (hj : j < L.length) : (L.drop j).any p = (p (L.getD j d) || (L.drop (j + 1)).any p) := by
  have e : L.getD j d = L[j] := by rw [List.getD_eq_getElem?_getD, List.getElem?_eq_getElem hj]; rfl
  rw [e, List.drop_eq_getElem_cons hj]
  rfl

set_option maxRecDepth 100000 in
set_option maxHeartbeats 16000000 in
theorem each_any (l : List Nd) (va : Option Addr) (vc : Nat) (aud : List (List UInt8)) (aa : Option Addr) (ac : Nat) (cval : List Nd) (iss : List UInt8) (hIss : Bool) (sub : List UInt8) (hSub : Bool) (caud : List (List UInt8)) (hAud : Bool) (jti : List UInt8) (hJti : Bool) (ex nb it : Tm)
    (pa0 : Option Addr) (pn pc0 : Nat) (pi : List UInt8) (pHi : Bool) (pa : List UInt8) (pHa : Bool) (ty : List UInt8) (wt : Bool) (lee : Int) (nl : List (List UInt8)) (na : Option Addr) (nc : Nat) (w : World)
    (h : NR w (.slice va l.length vc) l va vc) (hA : TR w (.slice aa aud.length ac) aud aa ac) (hN : TR w (.slice na nl.length nc) nl na nc) (hG : GL w.heap.size w) (ht : TB l) (hts : TS l) (hl : l.length ≤ 100000000) (hnl : nl.length ≤ 100000000) (hal : aud.length ≤ 100000000) :
    Calls Tryz.prog 6 #[.agg #[.slice va l.length vc, .string ⟨iss.toArray⟩, .bool hIss, .string ⟨sub.toArray⟩, .bool hSub, .slice aa aud.length ac, .bool hAud, .string ⟨jti.toArray⟩, .bool hJti, .bool ex.has, .int .i64 ex.at_, .bool nb.has, .int .i64 nb.at_, .bool it.has, .int .i64 it.at_], .agg #[.slice pa0 pn pc0, .string ⟨pi.toArray⟩, .bool pHi, .string ⟨pa.toArray⟩, .bool pHa, .string ⟨ty.toArray⟩, .bool wt, .int .i64 lee, .slice na nl.length nc]] w fun e w' => e = .returned (.bool true) ∧ Below w.heap.size w w' := by
  obtain ⟨W, hW⟩ : ∃ W : World, (w.alloc (.cells #[.slice va l.length vc, .string ⟨iss.toArray⟩, .bool hIss, .string ⟨sub.toArray⟩, .bool hSub, .slice aa aud.length ac, .bool hAud, .string ⟨jti.toArray⟩, .bool hJti, .bool ex.has, .int .i64 ex.at_, .bool nb.has, .int .i64 nb.at_, .bool it.has, .int .i64 it.at_] 27)).alloc (.cells #[.slice pa0 pn pc0, .string ⟨pi.toArray⟩, .bool pHi, .string ⟨pa.toArray⟩, .bool pHa, .string ⟨ty.toArray⟩, .bool wt, .int .i64 lee, .slice na nl.length nc] 59) = W := ⟨_, rfl⟩
  have h1 := alloc_below w (.cells #[.slice va l.length vc, .string ⟨iss.toArray⟩, .bool hIss, .string ⟨sub.toArray⟩, .bool hSub, .slice aa aud.length ac, .bool hAud, .string ⟨jti.toArray⟩, .bool hJti, .bool ex.has, .int .i64 ex.at_, .bool nb.has, .int .i64 nb.at_, .bool it.has, .int .i64 it.at_] 27)
  have h2 := alloc_below (w.alloc (.cells #[.slice va l.length vc, .string ⟨iss.toArray⟩, .bool hIss, .string ⟨sub.toArray⟩, .bool hSub, .slice aa aud.length ac, .bool hAud, .string ⟨jti.toArray⟩, .bool hJti, .bool ex.has, .int .i64 ex.at_, .bool nb.has, .int .i64 nb.at_, .bool it.has, .int .i64 it.at_] 27)) (.cells #[.slice pa0 pn pc0, .string ⟨pi.toArray⟩, .bool pHi, .string ⟨pa.toArray⟩, .bool pHa, .string ⟨ty.toArray⟩, .bool wt, .int .i64 lee, .slice na nl.length nc] 59)
  have h3 : Bl 27 _ _ [.slice va l.length vc, .string ⟨iss.toArray⟩, .bool hIss, .string ⟨sub.toArray⟩, .bool hSub, .slice aa aud.length ac, .bool hAud, .string ⟨jti.toArray⟩, .bool hJti, .bool ex.has, .int .i64 ex.at_, .bool nb.has, .int .i64 nb.at_, .bool it.has, .int .i64 it.at_] := alloc_bl w [.slice va l.length vc, .string ⟨iss.toArray⟩, .bool hIss, .string ⟨sub.toArray⟩, .bool hSub, .slice aa aud.length ac, .bool hAud, .string ⟨jti.toArray⟩, .bool hJti, .bool ex.has, .int .i64 ex.at_, .bool nb.has, .int .i64 nb.at_, .bool it.has, .int .i64 it.at_] 27
  have h4 : Bl 59 _ _ [.slice pa0 pn pc0, .string ⟨pi.toArray⟩, .bool pHi, .string ⟨pa.toArray⟩, .bool pHa, .string ⟨ty.toArray⟩, .bool wt, .int .i64 lee, .slice na nl.length nc] := alloc_bl (w.alloc (.cells #[.slice va l.length vc, .string ⟨iss.toArray⟩, .bool hIss, .string ⟨sub.toArray⟩, .bool hSub, .slice aa aud.length ac, .bool hAud, .string ⟨jti.toArray⟩, .bool hJti, .bool ex.has, .int .i64 ex.at_, .bool nb.has, .int .i64 nb.at_, .bool it.has, .int .i64 it.at_] 27)) [.slice pa0 pn pc0, .string ⟨pi.toArray⟩, .bool pHi, .string ⟨pa.toArray⟩, .bool pHa, .string ⟨ty.toArray⟩, .bool wt, .int .i64 lee, .slice na nl.length nc] 59
  have h5 : Bl 27 W w.heap.size [.slice va l.length vc, .string ⟨iss.toArray⟩, .bool hIss, .string ⟨sub.toArray⟩, .bool hSub, .slice aa aud.length ac, .bool hAud, .string ⟨jti.toArray⟩, .bool hJti, .bool ex.has, .int .i64 ex.at_, .bool nb.has, .int .i64 nb.at_, .bool it.has, .int .i64 it.at_] := by rw [← hW]; exact h3.below h2 h3.lt
  have h6 : Bl 59 W (w.heap.size + 1) [.slice pa0 pn pc0, .string ⟨pi.toArray⟩, .bool pHi, .string ⟨pa.toArray⟩, .bool pHa, .string ⟨ty.toArray⟩, .bool wt, .int .i64 lee, .slice na nl.length nc] := by rw [alloc_size] at h4; rw [← hW]; exact h4
  have hB : Below w.heap.size w W := by rw [← hW]; exact h1.trans (h2.mono h1.size)
  have HW : Hid ((w.alloc (.cells #[.slice va l.length vc, .string ⟨iss.toArray⟩, .bool hIss, .string ⟨sub.toArray⟩, .bool hSub, .slice aa aud.length ac, .bool hAud, .string ⟨jti.toArray⟩, .bool hJti, .bool ex.has, .int .i64 ex.at_, .bool nb.has, .int .i64 nb.at_, .bool it.has, .int .i64 it.at_] 27)).alloc (.cells #[.slice pa0 pn pc0, .string ⟨pi.toArray⟩, .bool pHi, .string ⟨pa.toArray⟩, .bool pHa, .string ⟨ty.toArray⟩, .bool wt, .int .i64 lee, .slice na nl.length nc] 59) = W) := hW
  have HRc : Hid (∀ wq, Below W.heap.size W wq → wq.rangeAt w.heap.size 0 [.slice va l.length vc, .string ⟨iss.toArray⟩, .bool hIss, .string ⟨sub.toArray⟩, .bool hSub, .slice aa aud.length ac, .bool hAud, .string ⟨jti.toArray⟩, .bool hJti, .bool ex.has, .int .i64 ex.at_, .bool nb.has, .int .i64 nb.at_, .bool it.has, .int .i64 it.at_]) := fun wq hq j v hv => by
    obtain ⟨hj, e⟩ := List.getElem?_eq_some_iff.1 hv
    rw [Nat.zero_add, ← e]
    exact (h5.below hq h5.lt).cell j hj
  have HRp : Hid (∀ wq, Below W.heap.size W wq → wq.rangeAt (w.heap.size + 1) 0 [.slice pa0 pn pc0, .string ⟨pi.toArray⟩, .bool pHi, .string ⟨pa.toArray⟩, .bool pHa, .string ⟨ty.toArray⟩, .bool wt, .int .i64 lee, .slice na nl.length nc]) := fun wq hq j v hv => by
    obtain ⟨hj, e⟩ := List.getElem?_eq_some_iff.1 hv
    rw [Nat.zero_add, ← e]
    exact (h6.below hq h6.lt).cell j hj
  have HKc : Hid (∀ wq, Below W.heap.size W wq → wq.cell? ⟨w.heap.size, 0, none⟩ = some (.slice va l.length vc) ∧ wq.cell? ⟨w.heap.size, 1, none⟩ = some (.string ⟨iss.toArray⟩) ∧ wq.cell? ⟨w.heap.size, 2, none⟩ = some (.bool hIss) ∧ wq.cell? ⟨w.heap.size, 5, none⟩ = some (.slice aa aud.length ac) ∧ wq.cell? ⟨w.heap.size, 6, none⟩ = some (.bool hAud)) := fun wq hq => by
    have a := h5.below hq h5.lt
    exact ⟨a.cell 0 (by simp), a.cell 1 (by simp), a.cell 2 (by simp), a.cell 5 (by simp), a.cell 6 (by simp)⟩
  have HKp : Hid (∀ wq, Below W.heap.size W wq → wq.cell? ⟨w.heap.size + 1, 1, none⟩ = some (.string ⟨pi.toArray⟩) ∧ wq.cell? ⟨w.heap.size + 1, 2, none⟩ = some (.bool pHi) ∧ wq.cell? ⟨w.heap.size + 1, 3, none⟩ = some (.string ⟨pa.toArray⟩) ∧ wq.cell? ⟨w.heap.size + 1, 4, none⟩ = some (.bool pHa) ∧ wq.cell? ⟨w.heap.size + 1, 8, none⟩ = some (.slice na nl.length nc)) := fun wq hq => by
    have a := h6.below hq h6.lt
    exact ⟨a.cell 1 (by simp), a.cell 2 (by simp), a.cell 3 (by simp), a.cell 4 (by simp), a.cell 8 (by simp)⟩
  have HGq : Hid (∀ wq, Below W.heap.size W wq → GL wq.heap.size wq) := fun wq hq => by
    have h0 := hB.trans (hq.mono hB.size)
    exact (hG.below h0).up h0.size
  have HNq : Hid (∀ wq, Below W.heap.size W wq → NR wq (.slice va l.length vc) l va vc) := fun wq hq => (h.below hB (Nat.le_refl _)).below hq (Nat.le_refl _)
  have HTa : Hid (∀ wq, Below W.heap.size W wq → TR wq (.slice aa aud.length ac) aud aa ac) := fun wq hq => (hA.below hB (Nat.le_refl _)).below hq (Nat.le_refl _)
  have HTn : Hid (∀ wq, Below W.heap.size W wq → TR wq (.slice na nl.length nc) nl na nc) := fun wq hq => (hN.below hB (Nat.le_refl _)).below hq (Nat.le_refl _)
  have HBq : Hid (∀ wq, Below W.heap.size W wq → Below w.heap.size w wq) := fun wq hq => hB.trans (hq.mono hB.size)
  have HAw : Hid (∀ wq, Below W.heap.size W wq → Calls Tryz.prog 9 #[] wq fun e w' => e = .returned (.bool true) ∧ Below wq.heap.size wq w') := fun wq hq => awake_any wq (HGq.out wq hq)
  have HBy : Hid (∀ wq, Below W.heap.size W wq → Calls Tryz.prog 23 #[.slice va l.length vc] wq fun e w' => Below wq.heap.size wq w' ∧ ∃ b, e = .returned (.bool b)) := fun wq hq => beyond_any _ l va vc wq (HNq.out wq hq) (by omega)
  have HSh : Hid (∀ wq, Below W.heap.size W wq → Calls Tryz.prog 24 #[.slice va l.length vc] wq fun e w' => e = .returned (.bool (shapedF l)) ∧ Below wq.heap.size wq w') := fun wq hq => rshaped_any l va vc wq (HNq.out wq hq) hl hts
  have HMe : Hid (∀ wq (x : List UInt8), Below W.heap.size W wq → Calls Tryz.prog 19 #[.slice va l.length vc, .int .i64 0, .string ⟨x.toArray⟩] wq fun e w' => e = .returned (.int .i64 (memF l 0 x)) ∧ Below wq.heap.size wq w') := fun wq x hq => member_any _ l va vc 0 x wq (HNq.out wq hq) (by omega)
  have HCk : Hid (∀ wq (hA2 : Bool) (al : Value) (pi2 : List UInt8) (pHi2 : Bool) (pa2 : List UInt8) (pHa2 : Bool) (ty2 : List UInt8) (wt2 : Bool) (lee2 : Int) (nl2 : List (List UInt8)) (na2 : Option Addr) (nc2 : Nat), Below W.heap.size W wq → nl2.length ≤ 100000000 → TR wq (.slice na2 nl2.length nc2) nl2 na2 nc2 → Calls Tryz.prog 25 #[.agg #[.slice va l.length vc, .string ⟨iss.toArray⟩, .bool hIss, .string ⟨sub.toArray⟩, .bool hSub, .slice aa aud.length ac, .bool hA2, .string ⟨jti.toArray⟩, .bool hJti, .bool ex.has, .int .i64 ex.at_, .bool nb.has, .int .i64 nb.at_, .bool it.has, .int .i64 it.at_], .agg #[al, .string ⟨pi2.toArray⟩, .bool pHi2, .string ⟨pa2.toArray⟩, .bool pHa2, .string ⟨ty2.toArray⟩, .bool wt2, .int .i64 lee2, .slice na2 nl2.length nc2]] wq fun e w' => e = .returned (.int .i64 (checkB (lackG l nl2) iss hIss aud hA2 pi2 pHi2 pa2 pHa2 : Nat)) ∧ Below wq.heap.size wq w') := fun wq hA2 al pi2 pHi2 pa2 pHa2 ty2 wt2 lee2 nl2 na2 nc2 hq hn2 hN2 => check_any l va vc aud aa ac ⟨cval, iss, hIss, sub, hSub, caud, hA2, jti, hJti, ex, nb, it⟩ al pi2 pHi2 pa2 pHa2 ty2 wt2 lee2 nl2 na2 nc2 wq (HNq.out wq hq) (HTa.out wq hq) hN2 (HGq.out wq hq) ht (by omega) (by omega) (by omega)
  have hcl : (Tryz.prog.info? 27).map (·.size) = some ([.slice va l.length vc, .string ⟨iss.toArray⟩, .bool hIss, .string ⟨sub.toArray⟩, .bool hSub, .slice aa aud.length ac, .bool hAud, .string ⟨jti.toArray⟩, .bool hJti, .bool ex.has, .int .i64 ex.at_, .bool nb.has, .int .i64 nb.at_, .bool it.has, .int .i64 it.at_] : List Value).length := by kernel_rfl
  have hcp : (Tryz.prog.info? 59).map (·.size) = some ([.slice pa0 pn pc0, .string ⟨pi.toArray⟩, .bool pHi, .string ⟨pa.toArray⟩, .bool pHa, .string ⟨ty.toArray⟩, .bool wt, .int .i64 lee, .slice na nl.length nc] : List Value).length := by kernel_rfl
  have HLM : Hid (shapedF l = true → lackG l nl = nl.any (fun x => decide (memF l 0 x < 0))) := fun hs => lack_mem hs
  clear h hA hN hG ht hts h1 h2 h3 h4 h5 h6 hB hW
  have CA := HAw.out W (Below.refl _ _)
  obtain ⟨k0, k1, k2, k5, k6⟩ := HKc.out W (Below.refl _ _)
  go_enter Tryz.func6, Tryz.ntmps6
  go_wp2_with fail
  rw [HW.out]
  clear HW
  refine CA.mono ?_
  clear CA k0 k1 k2 k5 k6
  rintro e w1 ⟨rfl, hQ1⟩
  have HQ1 : Hid (Below W.heap.size W w1) := hQ1
  clear hQ1
  obtain ⟨k0, k1, k2, k5, k6⟩ := HKc.out w1 HQ1.out
  have CB := HBy.out w1 HQ1.out
  clear HBy
  go_wp2_with fail
  refine CB.mono ?_
  clear CB k0 k1 k2 k5 k6
  rintro e w2 ⟨hQ2, by_, rfl⟩
  have HQ2 : Hid (Below W.heap.size W w2) := HQ1.out.trans (hQ2.mono HQ1.out.size)
  clear hQ2 HQ1
  have HFin : Hid (∀ wq, Below W.heap.size W wq → Calls Tryz.prog 9 #[] wq fun e w' => e = .returned (.bool true) ∧ Below wq.heap.size wq w') := HAw.out
  cases by_
  · obtain ⟨k0, k1, k2, k5, k6⟩ := HKc.out w2 HQ2.out
    have CS := HSh.out w2 HQ2.out
    clear HSh
    go_wp2_with fail
    refine CS.mono ?_
    clear CS k0 k1 k2 k5 k6
    rintro e w3 ⟨rfl, hQ3⟩
    have HQ3 : Hid (Below W.heap.size W w3) := HQ2.out.trans (hQ3.mono HQ2.out.size)
    clear hQ3 HQ2
    cases hs : shapedF l
    · have CA := HFin.out w3 HQ3.out
      clear HFin hs HLM
      go_wp2_with fail
      refine CA.mono ?_
      clear CA
      rintro e w4 ⟨rfl, hQ4⟩
      have HZ : Hid (Below w.heap.size w w4) := HBq.out w4 (HQ3.out.trans (hQ4.mono HQ3.out.size))
      clear hQ4
      go_wp2
      go_ret
      exact ⟨rfl, HZ.out⟩
    · have HLK : Hid (nl.any (fun x => decide (memF l 0 x < 0)) = lackG l nl) := (HLM.out hs).symm
      clear HFin hs HLM HAw
      have p3 := HRc.out w3 HQ3.out
      obtain ⟨k1, k2, k3, k4, k8⟩ := HKp.out w3 HQ3.out
      go_upto_region 5 with (first | (refine wpList_load_mid rfl 27 (.tmp 2) rfl w.heap.size 0 rfl [.slice va l.length vc, .string ⟨iss.toArray⟩, .bool hIss, .string ⟨sub.toArray⟩, .bool hSub, .slice aa aud.length ac, .bool hAud, .string ⟨jti.toArray⟩, .bool hJti, .bool ex.has, .int .i64 ex.at_, .bool nb.has, .int .i64 nb.at_, .bool it.has, .int .i64 it.at_] _ p3 Tryz.underlying27 rfl hcl ?_) | fail)
      obtain ⟨w4, hw4⟩ : ∃ x, w3.alloc (.cells #[.slice va l.length vc, .string ⟨iss.toArray⟩, .bool hIss, .string ⟨sub.toArray⟩, .bool hSub, .slice aa aud.length ac, .bool false, .string ⟨jti.toArray⟩, .bool hJti, .bool ex.has, .int .i64 ex.at_, .bool nb.has, .int .i64 nb.at_, .bool it.has, .int .i64 it.at_] 27) = x := ⟨_, rfl⟩
      have hA4 : Below w3.heap.size w3 w4 := by rw [← hw4]; exact alloc_below _ _
      have hb4 : Bl 27 w4 w3.heap.size [.slice va l.length vc, .string ⟨iss.toArray⟩, .bool hIss, .string ⟨sub.toArray⟩, .bool hSub, .slice aa aud.length ac, .bool false, .string ⟨jti.toArray⟩, .bool hJti, .bool ex.has, .int .i64 ex.at_, .bool nb.has, .int .i64 nb.at_, .bool it.has, .int .i64 it.at_] := by rw [← hw4]; exact alloc_bl _ _ _
      obtain ⟨b2, hb2⟩ : ∃ b, w3.heap.size = b := ⟨_, rfl⟩
      rw [hb2] at hb4
      have HRq : Hid (∀ wq, Below w4.heap.size w4 wq → wq.rangeAt b2 0 [.slice va l.length vc, .string ⟨iss.toArray⟩, .bool hIss, .string ⟨sub.toArray⟩, .bool hSub, .slice aa aud.length ac, .bool false, .string ⟨jti.toArray⟩, .bool hJti, .bool ex.has, .int .i64 ex.at_, .bool nb.has, .int .i64 nb.at_, .bool it.has, .int .i64 it.at_]) := fun wq hq j v hv => by
        obtain ⟨hj, e⟩ := List.getElem?_eq_some_iff.1 hv
        rw [Nat.zero_add, ← e]
        exact (hb4.below hq hb4.lt).cell j hj
      have HQ4 : Hid (Below W.heap.size W w4) := HQ3.out.trans (hA4.mono HQ3.out.size)
      rw [hw4, hb2]
      clear hw4 hA4 hb4 hb2 p3 k1 k2 k3 k4 k8 HQ3
      obtain ⟨lk, hlk⟩ : ∃ x, lackG l nl = x := ⟨_, rfl⟩
      obtain ⟨I, hI⟩ : ∃ x, issB iss hIss pi pHi = x := ⟨_, rfl⟩
      obtain ⟨U, hU⟩ : ∃ x, audB aud hAud pa pHa = x := ⟨_, rfl⟩
      obtain ⟨A, hAe⟩ : ∃ x, checkB lk iss hIss aud false [] false [] false = x := ⟨_, rfl⟩
      obtain ⟨B, hBe⟩ : ∃ x, checkB false iss hIss aud false pi pHi [] false = x := ⟨_, rfl⟩
      obtain ⟨D, hDe⟩ : ∃ x, checkB false iss hIss aud hAud [] false pa pHa = x := ⟨_, rfl⟩
      obtain ⟨G, hGe⟩ : ∃ x, checkB lk iss hIss aud hAud pi pHi pa pHa = x := ⟨_, rfl⟩
      have HAe : Hid (A = if lk = true then 137 else 0) := by show _ = _; rw [← hAe, checkB_eq]; cases lk <;> rfl
      have HBe : Hid (B = if I = true then 132 else 0) := by show _ = _; rw [← hBe, checkB_eq, hI]; cases I <;> rfl
      have HDe : Hid (D = if U = true then 133 else 0) := by show _ = _; rw [← hDe, checkB_eq, hU]; cases U <;> rfl
      have HGe : Hid (G = if lk = true then 137 else if I = true then 132 else if U = true then 133 else 0) := by show _ = _; rw [← hGe, checkB_eq, hI, hU]
      have HI : Hid (issB iss hIss pi pHi = I) := hI
      have HU : Hid (audB aud hAud pa pHa = U) := hU
      have HC1 : Hid (∀ wq, Below W.heap.size W wq → Calls Tryz.prog 25 #[.agg #[.slice va l.length vc, .string ⟨iss.toArray⟩, .bool hIss, .string ⟨sub.toArray⟩, .bool hSub, .slice aa aud.length ac, .bool false, .string ⟨jti.toArray⟩, .bool hJti, .bool ex.has, .int .i64 ex.at_, .bool nb.has, .int .i64 nb.at_, .bool it.has, .int .i64 it.at_], .agg #[.slice none 0 0, .string ⟨#[]⟩, .bool false, .string ⟨#[]⟩, .bool false, .string ⟨#[]⟩, .bool false, .int .i64 0, .slice na nl.length nc]] wq fun e w' => e = .returned (.int .i64 (A : Int)) ∧ Below wq.heap.size wq w') := fun wq hq => by
        have := HCk.out wq false (.slice none 0 0) [] false [] false [] false 0 nl na nc hq hnl (HTn.out wq hq)
        rw [hlk, hAe] at this
        exact this
      have HC2 : Hid (∀ wq, Below W.heap.size W wq → Calls Tryz.prog 25 #[.agg #[.slice va l.length vc, .string ⟨iss.toArray⟩, .bool hIss, .string ⟨sub.toArray⟩, .bool hSub, .slice aa aud.length ac, .bool false, .string ⟨jti.toArray⟩, .bool hJti, .bool ex.has, .int .i64 ex.at_, .bool nb.has, .int .i64 nb.at_, .bool it.has, .int .i64 it.at_], .agg #[.slice none 0 0, .string ⟨pi.toArray⟩, .bool pHi, .string ⟨#[]⟩, .bool false, .string ⟨#[]⟩, .bool false, .int .i64 0, .slice none 0 0]] wq fun e w' => e = .returned (.int .i64 (B : Int)) ∧ Below wq.heap.size wq w') := fun wq hq => by
        have := HCk.out wq false (.slice none 0 0) pi pHi [] false [] false 0 [] none 0 hq (by decide) ⟨rfl, Nat.le_refl _, .inl rfl⟩
        rw [show lackG l [] = false from rfl, hBe] at this
        exact this
      have HC3 : Hid (∀ wq, Below W.heap.size W wq → Calls Tryz.prog 25 #[.agg #[.slice va l.length vc, .string ⟨iss.toArray⟩, .bool hIss, .string ⟨sub.toArray⟩, .bool hSub, .slice aa aud.length ac, .bool hAud, .string ⟨jti.toArray⟩, .bool hJti, .bool ex.has, .int .i64 ex.at_, .bool nb.has, .int .i64 nb.at_, .bool it.has, .int .i64 it.at_], .agg #[.slice none 0 0, .string ⟨#[]⟩, .bool false, .string ⟨pa.toArray⟩, .bool pHa, .string ⟨#[]⟩, .bool false, .int .i64 0, .slice none 0 0]] wq fun e w' => e = .returned (.int .i64 (D : Int)) ∧ Below wq.heap.size wq w') := fun wq hq => by
        have := HCk.out wq hAud (.slice none 0 0) [] false pa pHa [] false 0 [] none 0 hq (by decide) ⟨rfl, Nat.le_refl _, .inl rfl⟩
        rw [show lackG l [] = false from rfl, hDe] at this
        exact this
      have HC4 : Hid (∀ wq, Below W.heap.size W wq → Calls Tryz.prog 25 #[.agg #[.slice va l.length vc, .string ⟨iss.toArray⟩, .bool hIss, .string ⟨sub.toArray⟩, .bool hSub, .slice aa aud.length ac, .bool hAud, .string ⟨jti.toArray⟩, .bool hJti, .bool ex.has, .int .i64 ex.at_, .bool nb.has, .int .i64 nb.at_, .bool it.has, .int .i64 it.at_], .agg #[.slice pa0 pn pc0, .string ⟨pi.toArray⟩, .bool pHi, .string ⟨pa.toArray⟩, .bool pHa, .string ⟨ty.toArray⟩, .bool wt, .int .i64 lee, .slice na nl.length nc]] wq fun e w' => e = .returned (.int .i64 (G : Int)) ∧ Below wq.heap.size wq w') := fun wq hq => by
        have := HCk.out wq hAud (.slice pa0 pn pc0) pi pHi pa pHa ty wt lee nl na nc hq hnl (HTn.out wq hq)
        rw [hlk, hGe] at this
        exact this
      have HLK2 : Hid (nl.any (fun x => decide (memF l 0 x < 0)) = lk) := by show _ = _; rw [HLK.out]; exact hlk
      clear HCk HLK hlk hI hU hAe hBe hDe hGe
      have p4 := HRq.out w4 (Below.refl _ _)
      obtain ⟨k1, k2, k3, k4, k8⟩ := HKp.out w4 HQ4.out
      have D1 := HC1.out w4 HQ4.out
      clear HC1
      go_wp2_with (first | (refine wpList_load_mid rfl 27 (.tmp 5) rfl b2 0 rfl [.slice va l.length vc, .string ⟨iss.toArray⟩, .bool hIss, .string ⟨sub.toArray⟩, .bool hSub, .slice aa aud.length ac, .bool false, .string ⟨jti.toArray⟩, .bool hJti, .bool ex.has, .int .i64 ex.at_, .bool nb.has, .int .i64 nb.at_, .bool it.has, .int .i64 it.at_] _ p4 Tryz.underlying27 rfl hcl ?_) | fail)
      refine D1.mono ?_
      clear D1 p4 k1 k2 k3 k4 k8
      rintro e w5 ⟨rfl, hQ5⟩
      have HY5 : Hid (Below w4.heap.size w4 w5) := hQ5
      have HQ5 : Hid (Below W.heap.size W w5) := HQ4.out.trans (hQ5.mono HQ4.out.size)
      clear hQ5
      have p5 := HRq.out w5 HY5.out
      obtain ⟨k1, k2, k3, k4, k8⟩ := HKp.out w5 HQ5.out
      have D2 := HC2.out w5 HQ5.out
      clear HC2
      go_wp2_with (first | (refine wpList_load_mid rfl 27 (.tmp 5) rfl b2 0 rfl [.slice va l.length vc, .string ⟨iss.toArray⟩, .bool hIss, .string ⟨sub.toArray⟩, .bool hSub, .slice aa aud.length ac, .bool false, .string ⟨jti.toArray⟩, .bool hJti, .bool ex.has, .int .i64 ex.at_, .bool nb.has, .int .i64 nb.at_, .bool it.has, .int .i64 it.at_] _ p5 Tryz.underlying27 rfl hcl ?_) | fail)
      refine D2.mono ?_
      clear D2 p5 k1 k2 k3 k4 k8 HRq HY5 HQ4
      rintro e w6 ⟨rfl, hQ6⟩
      have HQ6 : Hid (Below W.heap.size W w6) := HQ5.out.trans (hQ6.mono HQ5.out.size)
      clear hQ6 HQ5
      have p6 := HRc.out w6 HQ6.out
      obtain ⟨k1, k2, k3, k4, k8⟩ := HKp.out w6 HQ6.out
      have D3 := HC3.out w6 HQ6.out
      clear HC3
      go_wp2_with (first | (refine wpList_load_mid rfl 27 (.tmp 2) rfl w.heap.size 0 rfl [.slice va l.length vc, .string ⟨iss.toArray⟩, .bool hIss, .string ⟨sub.toArray⟩, .bool hSub, .slice aa aud.length ac, .bool hAud, .string ⟨jti.toArray⟩, .bool hJti, .bool ex.has, .int .i64 ex.at_, .bool nb.has, .int .i64 nb.at_, .bool it.has, .int .i64 it.at_] _ p6 Tryz.underlying27 rfl hcl ?_) | fail)
      refine D3.mono ?_
      clear D3 p6 k1 k2 k3 k4 k8
      rintro e w7 ⟨rfl, hQ7⟩
      have HQ7 : Hid (Below W.heap.size W w7) := HQ6.out.trans (hQ7.mono HQ6.out.size)
      clear hQ7 HQ6
      go_upto_region 8 with fail
      go_cut [70] from 49 to 70 (fun s wx => s = .bool false ∧ wx = w7)
      case first =>
        have hA1 := HAe.out
        have hB1 := HBe.out
        have hD1 := HDe.out
        subst hA1
        subst hB1
        subst hD1
        clear HAe HBe HDe HGe HI HU HLK2 HC4
        cases lk <;> cases I <;> cases U
        all_goals (go_wp2; go_meet; exact ⟨rfl, rfl⟩)
      case rest =>
      obtain ⟨rfl, hcw⟩ := hcut
      have hcw2 := hcw.symm
      subst hcw2
      go_wp2
      go_loopw [9, 10] (fun s9 s10 wx => ∃ (k : Nat) (m : Bool), s9 = .bool m ∧ s10 = .int .i64 k ∧ k ≤ nl.length ∧ Below W.heap.size W wx ∧ (m || (nl.drop k).any (fun x => decide (memF l 0 x < 0))) = lk) (fun _ s _ => nl.length - (intOf s).toNat)
      case atStart => exact ⟨0, false, rfl, rfl, Nat.zero_le _, HQ7.out, HLK2.out⟩
      case round =>
        obtain ⟨k, m, rfl, rfl, hk, hb, hm⟩ := hrel
        have HQr : Hid (Below W.heap.size W wr) := hb
        have HM : Hid ((m || (nl.drop k).any (fun x => decide (memF l 0 x < 0))) = lk) := hm
        obtain ⟨k1, k2, k3, k4, k8⟩ := HKp.out wr hb
        obtain ⟨j0, j1, j2, j5, j6⟩ := HKc.out wr hb
        clear hb hm HQ7 HLK2
        by_cases hlt : k < nl.length
        · have q0 : decide ((k : Int) < (nl.length : Int)) = true := decide_eq_true (by omega)
          have hst := HM.out
          rw [any_step _ [] hlt] at hst
          cases m
          · obtain ⟨g, off, rfl, kc⟩ := (HTn.out wr HQr.out).at hlt
            obtain ⟨x, hx⟩ : ∃ x, nl.getD k [] = x := ⟨_, rfl⟩
            rw [hx] at kc hst
            have CM := HMe.out (wr.drewN 1) x (below_drewN HQr.out 1)
            obtain ⟨M, hM⟩ : ∃ M, memF l 0 x = M := ⟨_, rfl⟩
            rw [hM] at CM hst
            obtain ⟨mb, hmb⟩ : ∃ b, decide (M < 0) = b := ⟨_, rfl⟩
            rw [hmb, Bool.false_or] at hst
            have HST : Hid ((mb || (nl.drop (k + 1)).any (fun x => decide (memF l 0 x < 0))) = lk) := hst
            have HQd : Hid (Below W.heap.size W (wr.drewN 1)) := below_drewN HQr.out 1
            clear hst HM hM hx
            go_wp2
            refine wp_region_tail 9 (by kernel_rfl) (by kernel_rfl) ?_
            simp only [List.take_succ_cons, List.take_zero, List.drop_succ_cons, List.drop_zero]
            repeat (first | go_big_quiet_skip | (go_big_quiet_want; go_big_quiet_op; go_big_quiet_on))
            refine wpQuiet_nil ?_
            generalize wr.drewN 1 = wd at *
            go_wp2_with fail
            refine CM.mono ?_
            clear CM
            rintro e w8 ⟨rfl, hQ8⟩
            have HQ8 : Hid (Below W.heap.size W w8) := HQd.out.trans (hQ8.mono HQd.out.size)
            clear hQ8
            go_wp2
            go_roundw
            case rel => exact ⟨k + 1, mb, rfl, by go_num, by omega, HQ8.out, HST.out⟩
            case measure => simp [intOf]; omega
          · have HST : Hid ((true || (nl.drop (k + 1)).any (fun x => decide (memF l 0 x < 0))) = lk) := by show _ = _; rw [← HM.out]; rfl
            clear hst HM
            go_wp2
            go_quiet (fail)
            go_wp2
            go_roundw
            case rel => exact ⟨k + 1, true, rfl, by go_num, by omega, below_drewN HQr.out _, HST.out⟩
            case measure => simp [intOf]; omega
        · have q0 : decide ((k : Int) < (nl.length : Int)) = false := decide_eq_false (by omega)
          have HML : Hid (m = lk) := by
            have := HM.out
            rw [List.drop_eq_nil_of_le (by omega)] at this
            show _ = _
            rw [← this]
            simp
          have hml := HML.out
          subst hml
          obtain ⟨N, hN⟩ : ∃ N, decide (pa ∈ aud) = N := ⟨_, rfl⟩
          have HN : Hid (aud.any (fun x => decide (x = pa)) = N) := by
            show _ = _
            rw [← hN, Bool.eq_iff_iff, List.any_eq_true, decide_eq_true_eq]
            constructor
            · rintro ⟨x, hx, e⟩
              rw [← of_decide_eq_true e]; exact hx
            · intro hx
              exact ⟨pa, hx, decide_eq_true rfl⟩
          have HUN : Hid (((pHa != hAud) || (pHa && !N)) = U) := by
            have := HU.out
            unfold audB at this
            rw [hN] at this
            exact this
          clear HM HML hN HU
          go_wp2
          go_loopw [11, 12] (fun s9 s10 wx => ∃ (k : Nat) (m : Bool), s9 = .bool m ∧ s10 = .int .i64 k ∧ k ≤ aud.length ∧ Below W.heap.size W wx ∧ (m || (aud.drop k).any (fun x => decide (x = pa))) = N) (fun _ s _ => aud.length - (intOf s).toNat)
          case atStart => exact ⟨0, false, rfl, rfl, Nat.zero_le _, HQr.out, HN.out⟩
          case round =>
            obtain ⟨i, n, rfl, rfl, hi, hb, hm⟩ := hrel
            have HQs : Hid (Below W.heap.size W wr) := hb
            have HM : Hid ((n || (aud.drop i).any (fun x => decide (x = pa))) = N) := hm
            clear k1 k2 k3 k4 k8 j0 j1 j2 j5 j6
            obtain ⟨k1, k2, k3, k4, k8⟩ := HKp.out wr hb
            obtain ⟨j0, j1, j2, j5, j6⟩ := HKc.out wr hb
            clear hb hm HQr HN
            by_cases hlt2 : i < aud.length
            · have q1 : decide ((i : Int) < (aud.length : Int)) = true := decide_eq_true (by omega)
              have hst := HM.out
              rw [any_step _ [] hlt2] at hst
              cases n
              · obtain ⟨g, off, rfl, kc⟩ := (HTa.out wr HQs.out).at hlt2
                obtain ⟨x, hx⟩ : ∃ x, aud.getD i [] = x := ⟨_, rfl⟩
                rw [hx, Bool.false_or] at hst
                rw [hx] at kc
                clear hx HM
                by_cases hxe : x = pa
                · subst hxe
                  have HST : Hid ((true || (aud.drop (i + 1)).any (fun y => decide (y = x))) = N) := by show _ = _; rw [← hst, decide_eq_true rfl]
                  clear hst
                  go_wp2
                  go_quiet (fail)
                  go_wp2
                  go_roundw
                  case rel => exact ⟨i + 1, true, rfl, by go_num, by omega, below_drewN HQs.out _, HST.out⟩
                  case measure => simp [intOf]; omega
                · have qx : (x == pa) = false := by simpa using hxe
                  have HST : Hid ((false || (aud.drop (i + 1)).any (fun y => decide (y = pa))) = N) := by show _ = _; rw [← hst, decide_eq_false hxe]
                  clear hst hxe
                  go_wp2
                  go_quiet (fail)
                  go_wp2
                  go_roundw
                  case rel => exact ⟨i + 1, false, rfl, by go_num, by omega, below_drewN HQs.out _, HST.out⟩
                  case measure => simp [intOf]; omega
              · have HST : Hid ((true || (aud.drop (i + 1)).any (fun x => decide (x = pa))) = N) := by show _ = _; rw [← HM.out]; rfl
                clear hst HM
                go_wp2
                go_quiet (fail)
                go_wp2
                go_roundw
                case rel => exact ⟨i + 1, true, rfl, by go_num, by omega, below_drewN HQs.out _, HST.out⟩
                case measure => simp [intOf]; omega
            · have q1 : decide ((i : Int) < (aud.length : Int)) = false := decide_eq_false (by omega)
              have HML : Hid (n = N) := by
                have := HM.out
                rw [List.drop_eq_nil_of_le (by omega)] at this
                show _ = _
                rw [← this]
                simp
              have hml := HML.out
              subst hml
              clear HM HML
              go_upto_region 20 with fail
              go_cut [130] from 108 to 130 (fun s wx => s = .bool false ∧ wx = wr)
              case first =>
                have hA1 := HAe.out
                have hB1 := HBe.out
                subst hA1
                subst hB1
                have HI2 : Hid ((pHi && (!hIss || !decide (iss = pi))) = I) := HI.out
                clear HAe HBe HDe HGe HI HUN HC4
                cases pHi
                · have e := HI2.out
                  rw [Bool.false_and] at e
                  subst e
                  clear HI2
                  cases m
                  all_goals (go_wp2; go_meet; exact ⟨rfl, rfl⟩)
                · cases hIss
                  · have e := HI2.out
                    rw [Bool.true_and, Bool.not_false, Bool.true_or] at e
                    subst e
                    clear HI2
                    cases m
                    all_goals (go_wp2; go_meet; exact ⟨rfl, rfl⟩)
                  · by_cases hip : iss = pi
                    · have e := HI2.out
                      rw [decide_eq_true hip] at e
                      have e2 : false = I := e
                      subst e2
                      subst hip
                      clear HI2 e
                      cases m
                      all_goals (go_wp2; go_meet; exact ⟨rfl, rfl⟩)
                    · have e := HI2.out
                      rw [decide_eq_false hip] at e
                      have e2 : true = I := e
                      subst e2
                      have qi : (iss == pi) = false := by simpa using hip
                      clear hip HI2 e
                      cases m
                      all_goals (go_wp2; go_meet; exact ⟨rfl, rfl⟩)
              case rest =>
              obtain ⟨rfl, hcw⟩ := hcut
              have hcw2 := hcw.symm
              subst hcw2
              go_upto_region 22 with fail
              go_cut [152] from 131 to 152 (fun s wx => s = .bool false ∧ wx = wr)
              case first =>
                have hD1 := HDe.out
                have hU1 := HUN.out
                subst hD1
                subst hU1
                clear HAe HBe HDe HGe HI HUN HC4
                cases pHa <;> cases hAud <;> cases n
                all_goals (go_wp2; go_meet; exact ⟨rfl, rfl⟩)
              case rest =>
              obtain ⟨rfl, hcw⟩ := hcut
              have hcw2 := hcw.symm
              subst hcw2
              have p8 := HRc.out wr HQs.out
              have p9 := HRp.out wr HQs.out
              have D4 := HC4.out wr HQs.out
              clear HC4
              go_wp2_with (first | (refine wpList_load_mid rfl 27 (.tmp 2) rfl w.heap.size 0 rfl [.slice va l.length vc, .string ⟨iss.toArray⟩, .bool hIss, .string ⟨sub.toArray⟩, .bool hSub, .slice aa aud.length ac, .bool hAud, .string ⟨jti.toArray⟩, .bool hJti, .bool ex.has, .int .i64 ex.at_, .bool nb.has, .int .i64 nb.at_, .bool it.has, .int .i64 it.at_] _ p8 Tryz.underlying27 rfl hcl ?_) | (refine wpList_load_mid rfl 59 (.tmp 3) rfl (w.heap.size + 1) 0 rfl [.slice pa0 pn pc0, .string ⟨pi.toArray⟩, .bool pHi, .string ⟨pa.toArray⟩, .bool pHa, .string ⟨ty.toArray⟩, .bool wt, .int .i64 lee, .slice na nl.length nc] _ p9 Tryz.underlying59 rfl hcp ?_) | fail)
              refine D4.mono ?_
              clear D4 p8 p9 k1 k2 k3 k4 k8 j0 j1 j2 j5 j6
              rintro e w9 ⟨rfl, hQ9⟩
              have HZ : Hid (Below w.heap.size w w9) := HBq.out w9 (HQs.out.trans (hQ9.mono HQs.out.size))
              clear hQ9
              have hA1 := HAe.out
              have hB1 := HBe.out
              have hD1 := HDe.out
              have hG1 := HGe.out
              subst hA1
              subst hB1
              subst hD1
              subst hG1
              clear HAe HBe HDe HGe HI HUN
              cases m <;> cases I <;> cases U
              all_goals (go_wp2; go_ret; exact ⟨rfl, HZ.out⟩)
  · have CA := HFin.out w2 HQ2.out
    clear HFin HLM
    go_wp2_with fail
    refine CA.mono ?_
    clear CA
    rintro e w4 ⟨rfl, hQ4⟩
    have HZ : Hid (Below w.heap.size w w4) := HBq.out w4 (HQ2.out.trans (hQ4.mono HQ2.out.size))
    clear hQ4
    go_wp2
    go_ret
    exact ⟨rfl, HZ.out⟩

theorem ba_of (a : ByteArray) : (⟨a.data.toList.toArray⟩ : ByteArray) = a := by cases a; simp
theorem ts_of {l : List Nd} {N : Nat} (h : ∀ x ∈ l, x.text.length ≤ N ∧ x.key.length ≤ N) (hN : N ≤ 1000000000) : TS l := fun i hi => by
  have hm : l.getD i (nd0 0) ∈ l := by rw [List.getD_eq_getElem?_getD, List.getElem?_eq_getElem hi]; exact List.getElem_mem hi
  have := h _ hm
  omega
/-- The law, at claims and a policy of bounded size. -/
theorem each_top (va : Option Addr) (vc : Nat) (aa : Option Addr) (ac : Nat) (c : Cm) (ao : Option Addr) (cap : Nat) (l : List (List UInt8)) (iss : ByteArray) (hi : Bool) (aud : ByteArray) (ha : Bool) (ty : List UInt8) (wt : Bool) (lee : Int) (na : Option Addr) (nc : Nat) (nl : List (List UInt8)) (N : Nat) (w : World)
    (h : NR w (.slice va c.val.length vc) c.val va vc) (hA : TR w (.slice aa c.aud.length ac) c.aud aa ac) (hN : TR w (.slice na nl.length nc) nl na nc) (hG : GL w.heap.size w) (ht : ∀ x ∈ c.val, x.text.length ≤ N ∧ x.key.length ≤ N) (hl : c.val.length ≤ N) (hal : c.aud.length ≤ N) (hnl : nl.length ≤ 1048576) (hb : N ≤ 1048576) :
    Calls Tryz.prog 6 #[clV (.slice va c.val.length vc) (.slice aa c.aud.length ac) c, plV (.slice ao l.length cap) iss hi aud ha ty wt lee (.slice na nl.length nc)] w fun e w' => e = .returned (.bool true) ∧ Below w.heap.size w w' := by
  have := each_any c.val va vc c.aud aa ac c.val c.iss c.hIss c.sub c.hSub c.aud c.hAud c.jti c.hJti c.exp c.nbf c.iat ao l.length cap iss.data.toList hi aud.data.toList ha ty wt lee nl na nc w h hA hN hG (fun x hx => by have := ht x hx; omega) (ts_of ht (by omega)) (by omega) (by omega) (by omega)
  rw [ba_of, ba_of] at this
  exact this

end Go.Proofs.YtjaopeenkbcjcaaGreatDoor
