import Derived.Test.YtibgpcheembdkaaDoorHm4
import Derived.Test.YtibgpcheembdkaaDoorSumsH
namespace Go.Proofs.YtibgpcheembdkaaDoor
open Go.RowKit

/-- A copied part with other bytes in it. -/
def ivL (l : List UInt8) : List UInt8 := l.map fun x => 255 - x
def ivR (r : Nat × List UInt8) : Nat × List UInt8 := (r.1, ivL r.2)
theorem rV_iv (r : Nat × List UInt8) : rV (ivR r) = rV r := by unfold rV ivR ivL; simp
/-- The first i of them so. -/
def ivs (rs : List (Nat × List UInt8)) (i : Nat) : List (Nat × List UInt8) := (rs.take i).map ivR ++ rs.drop i
theorem ivs_map (rs : List (Nat × List UInt8)) (i : Nat) : (ivs rs i).map rV = rs.map rV := by
  unfold ivs
  rw [List.map_append, List.map_map]
  have : (rV ∘ ivR) = rV := funext rV_iv
  rw [this, ← List.map_append, List.take_append_drop]
theorem ivs_fst (rs : List (Nat × List UInt8)) (i : Nat) : (ivs rs i).map (·.1) = rs.map (·.1) := by
  unfold ivs
  rw [List.map_append, List.map_map]
  have : ((fun r : Nat × List UInt8 => r.1) ∘ ivR) = fun r => r.1 := rfl
  rw [this, ← List.map_append, List.take_append_drop]
theorem ivs_zero (rs : List (Nat × List UInt8)) : ivs rs 0 = rs := by unfold ivs; simp
theorem ivs_length (rs : List (Nat × List UInt8)) (i : Nat) : (ivs rs i).length = rs.length := by
  have := congrArg List.length (ivs_fst rs i)
  simpa using this
theorem ivs_get (rs : List (Nat × List UInt8)) (i : Nat) (h : i < rs.length) : (ivs rs i)[i]'(by rw [ivs_length]; exact h) = rs[i] := by
  unfold ivs
  rw [List.getElem_append_right (by simp; omega)]
  simp only [List.length_map, List.length_take, List.getElem_drop, show i + (i - min i rs.length) = i by omega]
theorem ivs_succ (rs : List (Nat × List UInt8)) (i : Nat) (h : i < rs.length) : ivs rs (i + 1) = (ivs rs i).set i (ivR rs[i]) := by
  unfold ivs
  rw [List.take_succ_eq_append_getElem h, List.map_append, List.set_append_right _ _ (by simp; omega), List.append_assoc, List.length_map, List.length_take, Nat.min_eq_left (by omega), Nat.sub_self, List.drop_eq_getElem_cons h, List.set_cons_zero]
  rfl

/-- One of the copied parts is written over, the others stand. -/
theorem RM.set {w w' : World} {B0 : Nat} {rs : List (Nat × List UInt8)} (h : RM w B0 rs) (i : Nat) (hi : i < rs.length) (l : List UInt8) (hb : But w w' rs[i].1) (hc : Cl w' rs[i].1 ((l ++ List.replicate 9 165).map B)) : RM w' B0 (rs.set i (rs[i].1, l)) := by
  have hfst : (rs.set i (rs[i].1, l)).map (·.1) = rs.map (·.1) := by
    rw [List.map_set]
    have e : (rs.map (·.1)).set i ((rs.map (·.1))[i]'(by simpa using hi)) = rs.map (·.1) := List.set_getElem_self _
    rw [List.getElem_map] at e
    exact e
  refine ⟨by rw [hfst]; exact h.1, fun r hr => ?_⟩
  obtain ⟨j, hj, e⟩ := List.getElem_of_mem hr
  have hj2 : j < rs.length := by simpa using hj
  by_cases hij : i = j
  · subst hij
    rw [List.getElem_set_self] at e
    subst e
    exact ⟨(h.2 rs[i] (List.getElem_mem hi)).1, hc⟩
  · rw [List.getElem_set_ne hij] at e
    subst e
    have h2 := h.2 rs[j] (List.getElem_mem hj2)
    refine ⟨h2.1, hb.other h2.2 (fun e => hij ?_)⟩
    have hnd := h.1
    have := (List.getElem_inj (h₀ := by simpa using hj2) (h₁ := by simpa using hi) hnd (i := j) (j := i)).1 (by simpa using e)
    exact this.symm

/-- The copied parts, as parts. -/
def rP (r : Nat × List UInt8) : Prt := ⟨some ⟨r.1, 0, none⟩, r.2.length + 9, r.2⟩
theorem rP_V (rs : List (Nat × List UInt8)) : (rs.map rP).map prV = rs.map rV := by rw [List.map_map]; rfl
theorem rP_ok {w : World} {B0 : Nat} {rs : List (Nat × List UInt8)} (h : RM w B0 rs) (hl : ∀ r ∈ rs, r.2.length ≤ 100000000) : ∀ p ∈ rs.map rP, prOk w p := fun p hp => by
  obtain ⟨r, hr, rfl⟩ := List.mem_map.1 hp
  have := hl r hr
  exact ⟨cl_head (h.2 r hr).2, by show r.2.length ≤ r.2.length + 9; omega, by show r.2.length + 9 ≤ _; omega⟩
theorem cat_rP (rs : List (Nat × List UInt8)) (ps : List Prt) (h : rs.map (·.2) = ps.map (·.l)) : cat (rs.map rP) = cat ps := by
  unfold cat
  rw [List.flatMap_def, List.flatMap_def, List.map_map, ← h]
  rfl
theorem rP_nil (rs : List (Nat × List UInt8)) : ∀ p ∈ rs.map rP, p.a = none → p.l.length = 0 ∧ p.c = 0 := fun p hp e => by
  obtain ⟨r, hr, rfl⟩ := List.mem_map.1 hp
  cases e
theorem own_but' {w w' : World} {base n b : Nat} {e : TypeId} {v : Value} {xs : List Value} (h : w.ownsRow base e 1 v n xs) (hb : But w w' b) (hne : v.ownBlock ≠ some b) : w'.ownsRow base e 1 v n xs := by
  refine ⟨h.1, ?_⟩
  rcases h.2 with h0 | ⟨g, cap, cur, rfl, hg, hh, r⟩
  · exact .inl h0
  · exact .inr ⟨g, cap, cur, rfl, hg, by rw [hb.block g (Array.getElem?_eq_some_iff.1 hh).1 (fun e => hne (by rw [← e]; rfl))]; exact hh, r⟩
theorem iv_set (l : List UInt8) (k : Nat) (h : k < l.length) : (((ivL l).take k ++ l.drop k ++ List.replicate 9 165).map B).set k (B (255 - l.getD k 0)) = ((ivL l).take (k + 1) ++ l.drop (k + 1) ++ List.replicate 9 165).map B := by
  have hl : ((ivL l).take k).length = k := by unfold ivL; simp; omega
  rw [← List.map_set]
  congr 1
  rw [List.append_assoc, List.set_append_right _ _ (by omega), hl, Nat.sub_self, List.drop_eq_getElem_cons h, List.cons_append, List.set_cons_zero, List.take_succ_eq_append_getElem (by unfold ivL; simpa using h), List.append_assoc, List.append_assoc]
  congr 2
  unfold ivL
  rw [List.getElem_map, List.getD_eq_getElem?_getD, List.getElem?_eq_getElem h]
  rfl

end Go.Proofs.YtibgpcheembdkaaDoor
