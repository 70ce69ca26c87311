import Derived.Test.YtibgpcheembdkaaDoorSp1
namespace Go.Proofs.YtibgpcheembdkaaDoor
open Go.RowKit

/-- What stands through all of ShaSpares: both states, both copies of their sums. -/
structure Sb (W0 : World) (h : Int) (a b : List UInt8) (bs bt gw go : Nat) (w : World) : Prop where
  st : Sta w bs h a
  tt : Sta w bt h b
  wa : Cl w gw ((sumF h a ++ List.replicate 9 165).map B)
  ol : Cl w go ((sumF h b ++ List.replicate 9 165).map B)
  bel : Below W0.heap.size W0 w
section
variable {W0 w w' : World} {h : Int} {a b : List UInt8} {bs bt gw go : Nat}
theorem Sb.below {n : Nat} (H : Sb W0 h a b bs bt gw go w) (hb : Below n w w') (hn : w.heap.size ≤ n) : Sb W0 h a b bs bt gw go w' :=
  ⟨H.st.below hb (by have := H.st.lt; omega), H.tt.below hb (by have := H.tt.lt; omega), H.wa.below hb (by have := H.wa.lt; omega), H.ol.below hb (by have := H.ol.lt; omega), H.bel.trans (hb.mono (by have := H.bel.size; omega))⟩
theorem Sb.drewN (H : Sb W0 h a b bs bt gw go w) (q : Nat) : Sb W0 h a b bs bt gw go (w.drewN q) := ⟨H.st, H.tt, H.wa, H.ol, below_drewN H.bel q⟩
theorem Sb.but {x : Nat} (H : Sb W0 h a b bs bt gw go w) (hb : But w w' x) (h0 : W0.heap.size ≤ x) (h1 : bs ≠ x) (h2 : bt ≠ x) (h3 : gw ≠ x) (h4 : go ≠ x) : Sb W0 h a b bs bt gw go w' :=
  ⟨hb.other H.st h1, hb.other H.tt h2, hb.other H.wa h3, hb.other H.ol h4, H.bel.trans (hb.below H.bel.size h0)⟩
end

/-- The six sums in their list. -/
structure Zz (W0 : World) (h : Int) (a b : List UInt8) (bs bt gw go gl : Nat) (G : Nat → Nat) (S : Nat) (L : Nat → List UInt8) (w : World) : Prop where
  sb : Sb W0 h a b bs bt gw go w
  rows : ∀ j, j < 6 → Bl 5 w (G j) ((L j).map B)
  tab : ∀ j, j < 6 → w.cell? ⟨gl, j, none⟩ = some (.slice (some ⟨G j, 0, none⟩) S S)
/-- A block that none of it is. -/
def Far (W0 : World) (bs bt gw go gl : Nat) (G : Nat → Nat) (x : Nat) : Prop := W0.heap.size ≤ x ∧ bs ≠ x ∧ bt ≠ x ∧ gw ≠ x ∧ go ≠ x ∧ gl ≠ x ∧ ∀ j, j < 6 → G j ≠ x
/-- The sums lie apart from all else and from each other. -/
def Sps (W0 : World) (bs bt gw go gl : Nat) (G : Nat → Nat) : Prop := (∀ j, j < 6 → W0.heap.size ≤ G j ∧ bs ≠ G j ∧ bt ≠ G j ∧ gw ≠ G j ∧ go ≠ G j ∧ gl ≠ G j) ∧ ∀ i j, i < 6 → j < 6 → i ≠ j → G j ≠ G i
def upd (L : Nat → List UInt8) (i : Nat) (l : List UInt8) : Nat → List UInt8 := fun j => if j = i then l else L j
section
variable {W0 w w' : World} {h : Int} {a b : List UInt8} {bs bt gw go gl S : Nat} {G : Nat → Nat} {L : Nat → List UInt8}
theorem Zz.below {n : Nat} (H : Zz W0 h a b bs bt gw go gl G S L w) (hb : Below n w w') (hn : w.heap.size ≤ n) : Zz W0 h a b bs bt gw go gl G S L w' :=
  ⟨H.sb.below hb hn, fun j hj => (H.rows j hj).below hb (by have := (H.rows j hj).lt; omega), fun j hj => cell_but (H.tab j hj) fun hg => hb.block gl (by omega)⟩
theorem Zz.but {x : Nat} (H : Zz W0 h a b bs bt gw go gl G S L w) (hb : But w w' x) (hf : Far W0 bs bt gw go gl G x) : Zz W0 h a b bs bt gw go gl G S L w' :=
  ⟨H.sb.but hb hf.1 hf.2.1 hf.2.2.1 hf.2.2.2.1 hf.2.2.2.2.1, fun j hj => (H.rows j hj).but hb (hf.2.2.2.2.2.2 j hj), fun j hj => cell_but (H.tab j hj) fun hg => hb.block gl hg hf.2.2.2.2.2.1⟩
theorem Zz.far (H : Zz W0 h a b bs bt gw go gl G S L w) (x : Nat) (hx : w.heap.size ≤ x) : Far W0 bs bt gw go gl G x :=
  ⟨by have := H.sb.bel.size; omega, by have := H.sb.st.lt; omega, by have := H.sb.tt.lt; omega, by have := H.sb.wa.lt; omega, by have := H.sb.ol.lt; omega, by have := cell_lt (H.tab 0 (by omega)); omega, fun j hj => by have := (H.rows j hj).lt; omega⟩
theorem Zz.grown {r : Option Nat} (H : Zz W0 h a b bs bt gw go gl G S L w) (hg : w.grownBy w' r) (hf : ∀ x, r = some x → Far W0 bs bt gw go gl G x) : Zz W0 h a b bs bt gw go gl G S L w' := by
  cases r with
  | none => exact H.below (below_grown hg) (Nat.le_refl _)
  | some x => exact H.but (but_grown hg) (hf x rfl)
theorem Zz.row (H : Zz W0 h a b bs bt gw go gl G S L w) (D : Sps W0 bs bt gw go gl G) (i : Nat) (hi : i < 6) (l : List UInt8) (hb : But w w' (G i)) (hc : Bl 5 w' (G i) (l.map B)) : Zz W0 h a b bs bt gw go gl G S (upd L i l) w' := by
  obtain ⟨d0, d1, d2, d3, d4, d5⟩ := D.1 i hi
  refine ⟨H.sb.but hb d0 d1 d2 d3 d4, fun j hj => ?_, fun j hj => cell_but (H.tab j hj) fun hg => hb.block gl hg d5⟩
  unfold upd
  by_cases e : j = i
  · subst e; rw [if_pos rfl]; exact hc
  · rw [if_neg e]; exact (H.rows j hj).but hb (D.2 i j hi hj (fun h => e h.symm))
end
/-- Both states and copies, and the sums y and z. -/
structure Q3 (W0 : World) (h : Int) (a b : List UInt8) (bs bt gw go gy gz : Nat) (w : World) : Prop where
  sb : Sb W0 h a b bs bt gw go w
  y : Bl 5 w gy ((sumF h a).map B)
  z : Bl 5 w gz ((sumF h b).map B)
structure Q6 (W0 : World) (h : Int) (a b : List UInt8) (bs bt gw go gy gz gu gv gq : Nat) (w : World) : Prop where
  q : Q3 W0 h a b bs bt gw go gy gz w
  u : Bl 5 w gu ((sumF h a).map B)
  v : Bl 5 w gv ((sumF h a).map B)
  t : Bl 5 w gq ((sumF h b).map B)
section
variable {W0 w w' : World} {h : Int} {a b : List UInt8} {bs bt gw go gy gz gu gv gq : Nat}
theorem Q3.below {n : Nat} (H : Q3 W0 h a b bs bt gw go gy gz w) (hb : Below n w w') (hn : w.heap.size ≤ n) : Q3 W0 h a b bs bt gw go gy gz w' := ⟨H.sb.below hb hn, H.y.below hb (by have := H.y.lt; omega), H.z.below hb (by have := H.z.lt; omega)⟩
theorem Q3.drewN (H : Q3 W0 h a b bs bt gw go gy gz w) (q : Nat) : Q3 W0 h a b bs bt gw go gy gz (w.drewN q) := ⟨H.sb.drewN q, H.y, H.z⟩
theorem Q6.below {n : Nat} (H : Q6 W0 h a b bs bt gw go gy gz gu gv gq w) (hb : Below n w w') (hn : w.heap.size ≤ n) : Q6 W0 h a b bs bt gw go gy gz gu gv gq w' := ⟨H.q.below hb hn, H.u.below hb (by have := H.u.lt; omega), H.v.below hb (by have := H.v.lt; omega), H.t.below hb (by have := H.t.lt; omega)⟩
theorem Q6.drewN (H : Q6 W0 h a b bs bt gw go gy gz gu gv gq w) (q : Nat) : Q6 W0 h a b bs bt gw go gy gz gu gv gq (w.drewN q) := ⟨H.q.drewN q, H.u, H.v, H.t⟩
end
/-- The first i of the sums are written over. -/
def fil (S : Nat) (L : Nat → List UInt8) (i : Nat) : Nat → List UInt8 := fun j => if j < i then List.replicate S (UInt8.ofNat (60 + j)) else L j
theorem fil_zero (S : Nat) (L : Nat → List UInt8) : fil S L 0 = L := by funext j; simp [fil]
theorem fil_succ (S : Nat) (L : Nat → List UInt8) (i : Nat) : upd (fil S L i) i (List.replicate S (UInt8.ofNat (60 + i))) = fil S L (i + 1) := by
  funext j
  unfold upd fil
  by_cases e : j = i
  · subst e; simp
  · rw [if_neg e]
    by_cases h : j < i
    · rw [if_pos h, if_pos (by omega)]
    · rw [if_neg h, if_neg (by omega)]
theorem fil_same (S : Nat) (L : Nat → List UInt8) (i : Nat) (hi : i < 6) : upd (fil S L 6) i (List.replicate S (UInt8.ofNat (60 + i))) = fil S L 6 := by
  funext j
  unfold upd fil
  by_cases e : j = i
  · subst e; rw [if_pos rfl, if_pos hi]
  · rw [if_neg e]
/-- A slice that was grown: its bytes; it lies apart from all else. -/
def Gr (w : World) (bs bt gw go gl : Nat) (G : Nat → Nat) (S : Nat) (W0 : World) (j : Nat) (p : Nat × Nat) : Prop :=
  w.ownsRow 0 5 1 (.slice (some ⟨p.1, 0, none⟩) (S + 70) p.2) (S + 70) ((List.replicate S (UInt8.ofNat (60 + j)) ++ List.replicate 70 (UInt8.ofNat (80 + j))).map B) ∧ Far W0 bs bt gw go gl G p.1
theorem row_lt {w : World} {g n c : Nat} {xs : List Value} (h : w.ownsRow 0 5 1 (.slice (some ⟨g, 0, none⟩) n c) n xs) : g < w.heap.size := (h.lt g rfl).2
theorem rep_set (l : List UInt8) (S k : Nat) (x : UInt8) (hl : l.length = S) (hk : k < S) : ((List.replicate k x ++ l.drop k).map B).set k (B x) = (List.replicate (k + 1) x ++ l.drop (k + 1)).map B := by
  rw [← List.map_set]
  congr 1
  rw [List.set_append_right _ _ (by simp), List.length_replicate, Nat.sub_self, List.drop_eq_getElem_cons (by omega), List.set_cons_zero, List.replicate_succ', List.append_assoc]
  rfl

set_option maxRecDepth 100000 in
set_option maxHeartbeats 16000000 in
theorem spares_core (h : Int) (aa ab : Option Addr) (ca cb : Nat) (a b : List UInt8) (w : World) (T : Tb w) (ha : Rd w aa a) (hb : Rd w ab b) (hca : a.length ≤ ca) (hca2 : ca ≤ 9223372036854775807) (hcb : b.length ≤ cb) (hcb2 : cb ≤ 9223372036854775807) (hal : a.length ≤ 1048576) (hbl : b.length ≤ 1048576) (hh : isH h) :
    Calls Tryd.prog 3 #[.int .i64 h, .slice aa a.length ca, .slice ab b.length cb] w fun e w' => e = .returned (.bool true) ∧ Below w.heap.size w w' := by
  have HT : Hid (Tb w) := T
  have HA : Hid (Rd w aa a) := ha
  have HBb : Hid (Rd w ab b) := hb
  have hsl := siz_le h
  have hg7 : 7 ≤ w.heap.size := by have := cell_lt (T.k 0 (by omega)); omega
  have hs0 : 0 < siz h := by rcases hh with rfl | rfl | rfl <;> decide
  obtain ⟨S, hS⟩ : ∃ S, siz h = S := ⟨_, rfl⟩
  rw [hS] at hsl hs0
  have HS : Hid (True → siz h = S) := fun _ => hS
  have Hla : Hid (True → (sumF h a).length = S) := fun _ => by rw [sumF_length, hS]
  have Hlb : Hid (True → (sumF h b).length = S) := fun _ => by rw [sumF_length, hS]
  clear T ha hb hS
  go_enter Tryd.func3, Tryd.ntmps3
  go_wp2_with fail
  refine (awake_any w HT.out).mono ?_
  rintro e w1 ⟨rfl, hb1⟩
  have HB1 : Hid (Below w.heap.size w w1) := hb1
  have z1 : w.heap.size ≤ w1.heap.size := hb1.size
  clear hb1
  go_wp2_with fail
  refine (new_any h w1 hh (HT.out.below HB1.out)).mono ?_
  rintro e w2 ⟨rfl, hs2, hb2⟩
  have HS2 : Hid (Sta w2 w1.heap.size h []) := hs2
  have HB2 : Hid (Below w.heap.size w w2) := HB1.out.trans (hb2.mono z1)
  have z2 : w1.heap.size < w2.heap.size := hs2.lt
  clear hs2 hb2 HB1
  go_wp2_with fail
  refine (new_any h w2 hh (HT.out.below HB2.out)).mono ?_
  rintro e w3 ⟨rfl, hs3, hb3⟩
  have HS3 : Hid (Sta w3 w1.heap.size h []) := HS2.out.below hb3 z2
  have HT3 : Hid (Sta w3 w2.heap.size h []) := hs3
  have HB3 : Hid (Below w.heap.size w w3) := HB2.out.trans (hb3.mono (by omega))
  have z3 : w2.heap.size < w3.heap.size := hs3.lt
  clear hs3 hb3 HB2 HS2
  generalize hbs : w1.heap.size = bs at *
  generalize hbt : w2.heap.size = bt at *
  clear hbs hbt
  go_wp2_with fail
  refine (twice_any h aa ca a w3 (HT.out.below HB3.out) (HA.out.below HB3.out (Nat.le_refl _)) hca hca2 hal hh).mono ?_
  rintro e w4 ⟨rfl, hb4⟩
  have HS4 : Hid (Sta w4 bs h []) := HS3.out.below hb4 (by omega)
  have HT4 : Hid (Sta w4 bt h []) := HT3.out.below hb4 (by omega)
  have HB4 : Hid (Below w.heap.size w w4) := HB3.out.trans (hb4.mono (by omega))
  clear hb4 HS3 HT3 HB3 z3
  have C5 := write_any bs h [] a aa ca w4 HS4.out hh (HT.out.below HB4.out) (by omega) (HA.out.below HB4.out (Nat.le_refl _)) (HA.out.off bs (by omega)) hca (by simp) (by omega) hca2
  rw [List.nil_append] at C5
  go_wp2_with fail
  refine C5.mono ?_
  rintro e w5 ⟨rfl, hs5, hb5⟩
  have HS5 : Hid (Sta w5 bs h a) := hs5
  have HT5 : Hid (Sta w5 bt h []) := hb5.other HT4.out (by omega)
  have HB5 : Hid (Below w.heap.size w w5) := HB4.out.trans (hb5.below HB4.out.size (by omega))
  clear C5 hs5 hb5 HS4 HT4 HB4
  have C6 := write_any bt h [] b ab cb w5 HT5.out hh (HT.out.below HB5.out) (by omega) (HBb.out.below HB5.out (Nat.le_refl _)) (HBb.out.off bt (by omega)) hcb (by simp) (by omega) hcb2
  rw [List.nil_append] at C6
  go_wp2_with fail
  refine C6.mono ?_
  rintro e w6 ⟨rfl, hs6, hb6⟩
  have HT6 : Hid (Sta w6 bt h b) := hs6
  have HS6 : Hid (Sta w6 bs h a) := hb6.other HS5.out (by omega)
  have HB6 : Hid (Below w.heap.size w w6) := HB5.out.trans (hb6.below HB5.out.size (by omega))
  have y6 : bt < w6.heap.size := hs6.lt
  clear C6 hs6 hb6 HS5 HT5 HB5
  have C7 := sum_any bs h a w6 HS6.out hh (HT.out.below HB6.out) (by omega)
  rw [HS.out trivial] at C7
  go_wp2_with fail
  refine C7.mono ?_
  rintro e w7 ⟨gx, rfl, hgx, hc7, hb7⟩
  have HX7 : Hid (Bl 5 w7 gx ((sumF h a).map B)) := hc7
  have y7 : gx < w7.heap.size := hc7.lt
  have HS7 : Hid (Sta w7 bs h a) := HS6.out.below hb7 (by omega)
  have HT7 : Hid (Sta w7 bt h b) := HT6.out.below hb7 (by omega)
  have HB7 : Hid (Below w.heap.size w w7) := HB6.out.trans (hb7.mono (by omega))
  clear C7 hc7 hb7 HS6 HT6 HB6
  have C8 := sum_any bs h a w7 HS7.out hh (HT.out.below HB7.out) (by omega)
  rw [HS.out trivial] at C8
  go_wp2_with fail
  refine C8.mono ?_
  rintro e w8 ⟨gy, rfl, hgy, hc8, hb8⟩
  have HY8 : Hid (Bl 5 w8 gy ((sumF h a).map B)) := hc8
  have y8 : gy < w8.heap.size := hc8.lt
  have HX8 : Hid (Bl 5 w8 gx ((sumF h a).map B)) := HX7.out.below hb8 y7
  have HS8 : Hid (Sta w8 bs h a) := HS7.out.below hb8 (by omega)
  have HT8 : Hid (Sta w8 bt h b) := HT7.out.below hb8 (by omega)
  have HB8 : Hid (Below w.heap.size w w8) := HB7.out.trans (hb8.mono (by omega))
  clear C8 hc8 hb8 HS7 HT7 HB7 HX7
  have C9 := sum_any bt h b w8 HT8.out hh (HT.out.below HB8.out) (by omega)
  rw [HS.out trivial] at C9
  go_wp2_with fail
  refine C9.mono ?_
  rintro e w9 ⟨gz, rfl, hgz, hc9, hb9⟩
  have HZ9 : Hid (Bl 5 w9 gz ((sumF h b).map B)) := hc9
  have y9 : gz < w9.heap.size := hc9.lt
  have HX9 : Hid (Bl 5 w9 gx ((sumF h a).map B)) := HX8.out.below hb9 (by omega)
  have HY9 : Hid (Bl 5 w9 gy ((sumF h a).map B)) := HY8.out.below hb9 y8
  have HS9 : Hid (Sta w9 bs h a) := HS8.out.below hb9 (by omega)
  have HT9 : Hid (Sta w9 bt h b) := HT8.out.below hb9 (by omega)
  have HB9 : Hid (Below w.heap.size w w9) := HB8.out.trans (hb9.mono (by omega))
  clear C9 hc9 hb9 HS8 HT8 HB8 HX8 HY8
  have CA := roomy_any (some ⟨gy, 0, none⟩) S (sumF h a) w9 (bl_rd HY9.out) (by rw [Hla.out trivial]; omega)
  rw [Hla.out trivial] at CA
  go_wp2_with fail
  refine CA.mono ?_
  rintro e wA ⟨rfl, hcA, hbA⟩
  have HWA : Hid (Cl wA w9.heap.size ((sumF h a ++ List.replicate 9 165).map B)) := hcA
  have yA : w9.heap.size < wA.heap.size := hcA.lt
  have HZA : Hid (Bl 5 wA gz ((sumF h b).map B)) := HZ9.out.below hbA y9
  have HXA : Hid (Bl 5 wA gx ((sumF h a).map B)) := HX9.out.below hbA (by omega)
  have HYA : Hid (Bl 5 wA gy ((sumF h a).map B)) := HY9.out.below hbA (by omega)
  have HSA : Hid (Sta wA bs h a) := HS9.out.below hbA (by omega)
  have HTA : Hid (Sta wA bt h b) := HT9.out.below hbA (by omega)
  have HBA : Hid (Below w.heap.size w wA) := HB9.out.trans (hbA.mono (by omega))
  clear CA hcA hbA HS9 HT9 HB9 HX9 HY9 HZ9
  have CB := roomy_any (some ⟨gz, 0, none⟩) S (sumF h b) wA (bl_rd HZA.out) (by rw [Hlb.out trivial]; omega)
  rw [Hlb.out trivial] at CB
  go_wp2_with fail
  refine CB.mono ?_
  rintro e wB ⟨rfl, hcB, hbB⟩
  have yB : wA.heap.size < wB.heap.size := hcB.lt
  have HZB : Hid (Bl 5 wB gz ((sumF h b).map B)) := HZA.out.below hbB (by omega)
  have HXB : Hid (Bl 5 wB gx ((List.replicate 0 77 ++ (sumF h a).drop 0).map B)) := HXA.out.below hbB (by omega)
  have HYB : Hid (Bl 5 wB gy ((sumF h a).map B)) := HYA.out.below hbB (by omega)
  have HSb : Hid (Sb w h a b bs bt w9.heap.size wA.heap.size wB) := ⟨HSA.out.below hbB (by omega), HTA.out.below hbB (by omega), HWA.out.below hbB yA, hcB, HBA.out.trans (hbB.mono (by omega))⟩
  clear CB hcB hbB HSA HTA HBA HXA HYA HZA HWA
  generalize hgw : w9.heap.size = gw at *
  generalize hgo : wA.heap.size = go at *
  clear hgw hgo
  go_wp2
  go_loopw [14] (fun s ws => ∃ k : Nat, s = .int .i64 (k : Int) ∧ k ≤ S ∧ Hid (Bl 5 ws gx ((List.replicate k 77 ++ (sumF h a).drop k).map B)) ∧ Hid (But wB ws gx)) (fun s _ => S - (intOf s).toNat)
  case atStart => exact ⟨0, rfl, by omega, HXB, But.refl _ _⟩
  case round =>
  clear HXB
  obtain ⟨k, rfl, hk, hcl, hbut⟩ := hrel
  by_cases hlt : k < S
  · have gf := hcl.out.frozen k
    obtain ⟨old, gc⟩ : ∃ v, wr.cell? ⟨gx, k, none⟩ = some v := ⟨_, hcl.out.cell k (by have := Hla.out trivial; simp; omega)⟩
    have Hs : Hid (True → ((List.replicate k 77 ++ (sumF h a).drop k).map B).set k (B 77) = (List.replicate (k + 1) 77 ++ (sumF h a).drop (k + 1)).map B) := fun _ => rep_set _ S k 77 (Hla.out trivial) hlt
    go_wp2
    refine ⟨⟨k + 1, by go_num, by omega, ?_, hbut.out.set _ _⟩, by simp [intOf]; omega⟩
    have h1 := hcl.out.set k (B 77)
    rw [Hs.out trivial] at h1
    exact h1
  have hkS : S = k := by omega
  subst hkS
  have HXC : Hid (wr.ownsRow 0 5 1 (.slice (some ⟨gx, 0, none⟩) S S) (S + 0) ((List.replicate S (77 : UInt8) ++ List.replicate 0 78).map B)) := by
    have h1 := hcl.out
    rw [List.drop_of_length_le (by rw [Hla.out trivial]; exact Nat.le_refl _)] at h1
    exact bl_row h1 (by simp) (by omega)
  have HXC0 : Hid (wr.ownsRow 0 5 1 (.slice (some ⟨gx, 0, none⟩) S S) S ((List.replicate S (77 : UInt8)).map B)) := by
    have h1 := HXC.out
    rw [List.replicate_zero, List.append_nil] at h1
    exact h1
  have HYC : Hid (Bl 5 wr gy ((sumF h a).map B)) := HYB.out.but hbut.out (by omega)
  have HZC : Hid (Bl 5 wr gz ((sumF h b).map B)) := HZB.out.but hbut.out (by omega)
  have HSC : Hid (Sb w h a b bs bt gw go wr) := HSb.out.but hbut.out (by omega) (by omega) (by omega) (by omega) (by omega)
  have yC : wB.heap.size ≤ wr.heap.size := hbut.out.size
  clear hcl hbut HYB HZB HSb hlt hk
  rename World => wC
  go_wp2
  go_loopw [15, 16] (fun s15 s ws => ∃ k : Nat, s = .int .i64 (k : Int) ∧ k ≤ 80 ∧ Hid (ws.ownsRow 0 5 1 s15 (S + k) ((List.replicate S (77 : UInt8) ++ List.replicate k 78).map B)) ∧ Hid (ws.ownsRow 0 5 1 (.slice (some ⟨gx, 0, none⟩) S S) S ((List.replicate S (77 : UInt8)).map B)) ∧ Hid (But wC ws gx) ∧ Hid (s15.ownBlock = some gx ∨ ∃ g, s15.ownBlock = some g ∧ wC.heap.size ≤ g)) (fun _ s _ => 80 - (intOf s).toNat)
  case atStart => exact ⟨0, rfl, by omega, HXC, HXC0, But.refl _ _, .inl rfl⟩
  case round =>
  clear HXC HXC0
  obtain ⟨k, rfl, hk, hown, hown0, hbut, hblk⟩ := hrel
  by_cases hlt : k < 80
  · obtain ⟨v', wn, hrun, h1, h2, h3, h4⟩ := more_step (g0 := gx) (.int .u8 78) rfl hown.out hown0.out (by omega) rfl hbut.out (by omega) hblk.out (by omega)
    have H1 : Hid (wn.ownsRow 0 5 1 v' (S + (k + 1)) ((List.replicate S (77 : UInt8) ++ List.replicate (k + 1) 78).map B)) := by
      rw [List.replicate_succ', ← List.append_assoc, List.map_append (l₂ := [78])]
      exact h1
    have H2 : Hid (wn.ownsRow 0 5 1 (.slice (some ⟨gx, 0, none⟩) S S) S ((List.replicate S (77 : UInt8)).map B)) := h2
    have H3 : Hid (But wC wn gx) := h3
    have H4 : Hid (v'.ownBlock = some gx ∨ ∃ g, v'.ownBlock = some g ∧ wC.heap.size ≤ g) := h4
    clear h1 h2 h3 h4 hown hown0 hbut hblk
    go_wp2_with (at_builtin; refine wpList_append_run rfl (.tmp 89) (.tmp 90) 23 rfl _ _ _ wn rfl rfl hrun ?_)
    go_wp2
    exact ⟨⟨k + 1, by go_num, by omega, H1, H2, H3, H4⟩, by simp [intOf]; omega⟩
  obtain rfl : k = 80 := by omega
  obtain ⟨gm, cm, rfl, _, hgm⟩ := row_some hown.out (by omega)
  have Hcx : Hid (∀ i, i < S → wr.cell? ⟨gx, i, none⟩ = some (.int .u8 77)) := fun i hi => row_at hown0.out i _ (by simp [hi, B])
  have Hcm : Hid (∀ i, i < S → wr.cell? ⟨gm, i, none⟩ = some (.int .u8 77)) := fun i hi => row_at hown.out i _ (by rw [List.getElem?_map, List.getElem?_append_left (by simpa using hi)]; simp [hi, B])
  have HQ : Hid (Q3 w h a b bs bt gw go gy gz wr) := ⟨HSC.out.but hbut.out (by omega) (by omega) (by omega) (by omega) (by omega), HYC.out.but hbut.out (by omega), HZC.out.but hbut.out (by omega)⟩
  have yD : wC.heap.size ≤ wr.heap.size := hbut.out.size
  clear hown hown0 hbut hblk hk hlt HYC HZC HSC
  rename World => wD
  go_wp2
  go_loopw [17] (fun s ws => ∃ i : Nat, s = .int .i64 (i : Int) ∧ i ≤ S ∧ wD = ws) (fun s _ => S - (intOf s).toNat)
  case atStart => exact ⟨0, rfl, by omega, rfl⟩
  case round =>
  obtain ⟨i, rfl, hi, rfl⟩ := hrel
  by_cases hlt : i < S
  · have c1 := Hcx.out i hlt
    have c2 := Hcm.out i hlt
    have hlI : (i : Int) < (S : Int) + 80 := by omega
    go_wp2
    exact ⟨⟨i + 1, by go_num, by omega, (by first | rfl | trivial)⟩, by simp [intOf]; omega⟩
  have hiS : S = i := by omega
  subst hiS
  clear Hcx Hcm hi hlt
  have C1 := same_any (some ⟨gy, 0, none⟩) (some ⟨gw, 0, none⟩) S (S + 9) (sumF h a) (sumF h a) wD (bl_rd HQ.out.y) (cl_head HQ.out.sb.wa) (by rw [Hla.out trivial]; omega)
  rw [Hla.out trivial, decide_eq_true rfl] at C1
  go_wp2_with fail
  refine C1.mono ?_
  rintro e wE ⟨rfl, q, hq⟩
  have HQE : Hid (Q3 w h a b bs bt gw go gy gz wE) := by rw [hq]; exact HQ.out.drewN q
  have yE : wE.heap.size = wD.heap.size := by rw [hq]; rfl
  have yE2 : wD.heap.size ≤ wE.heap.size := by omega
  clear C1 hq HQ yE
  have C2 := same_any (some ⟨gz, 0, none⟩) (some ⟨go, 0, none⟩) S (S + 9) (sumF h b) (sumF h b) wE (bl_rd HQE.out.z) (cl_head HQE.out.sb.ol) (by rw [Hlb.out trivial]; omega)
  rw [Hlb.out trivial, decide_eq_true rfl] at C2
  go_wp2_with fail
  refine C2.mono ?_
  rintro e wF ⟨rfl, q, hq⟩
  have HQF : Hid (Q3 w h a b bs bt gw go gy gz wF) := by rw [hq]; exact HQE.out.drewN q
  have yF : wF.heap.size = wE.heap.size := by rw [hq]; rfl
  have yF2 : wE.heap.size ≤ wF.heap.size := by omega
  clear C2 hq HQE yF
  have C3 := sum_any bs h a wF HQF.out.sb.st hh (HT.out.below HQF.out.sb.bel) (by omega)
  rw [HS.out trivial] at C3
  go_wp2_with fail
  refine C3.mono ?_
  rintro e wG ⟨gu, rfl, hgu, hcG, hbG⟩
  have HU : Hid (Bl 5 wG gu ((sumF h a).map B)) := hcG
  have yG : gu < wG.heap.size := hcG.lt
  have HQG : Hid (Q3 w h a b bs bt gw go gy gz wG) := HQF.out.below hbG (Nat.le_refl _)
  clear C3 hcG hbG HQF
  go_wp2_with fail
  have hp := pts1 wG 23 ⟨aa, ca, a⟩ ⟨HA.out.below HQG.out.sb.bel (Nat.le_refl _), hca, hca2⟩
  have hb3 := alloc_below wG (.cells #[prV ⟨aa, ca, a⟩] 23)
  have hsz := alloc_size wG (.cells #[prV ⟨aa, ca, a⟩] 23)
  have C4 := ssum_any h (some ⟨wG.heap.size, 0, none⟩) 1 [⟨aa, ca, a⟩] _ ((HT.out.below HQG.out.sb.bel).below hb3) hp (by simp) (by rw [cat1]; show a.length < 2305843009213693952; omega)
  rw [cat1, HS.out trivial] at C4
  dsimp only [prV] at C4 hb3 hsz
  refine C4.mono ?_
  rintro e wH ⟨aH, rfl, hoH, hbH⟩
  obtain ⟨gv, rfl, hgv, hcH⟩ := own_bl hoH (by rw [Hla.out trivial]; exact hs0)
  have HbH : Hid (Below wG.heap.size wG wH) := hb3.trans (hbH.mono (by rw [hsz]; omega))
  have HVH : Hid (Bl 5 wH gv ((sumF h a).map B)) := hcH
  have yH : gv < wH.heap.size := hcH.lt
  have yH2 : wG.heap.size ≤ gv := by rw [hsz] at hgv; omega
  have HUH : Hid (Bl 5 wH gu ((sumF h a).map B)) := HU.out.below HbH.out yG
  have HQH : Hid (Q3 w h a b bs bt gw go gy gz wH) := HQG.out.below HbH.out (Nat.le_refl _)
  clear C4 hp hb3 hsz hoH hbH hcH hgv HbH HU HQG
  have C5 := sum_any bt h b wH HQH.out.sb.tt hh (HT.out.below HQH.out.sb.bel) (by omega)
  rw [HS.out trivial] at C5
  go_wp2_with fail
  refine C5.mono ?_
  rintro e wI ⟨gq, rfl, hgq, hcI, hbI⟩
  have yI : gq < wI.heap.size := hcI.lt
  have H6 : Hid (Q6 w h a b bs bt gw go gy gz gu gv gq wI) := ⟨HQH.out.below hbI (Nat.le_refl _), HUH.out.below hbI (by omega), HVH.out.below hbI yH, hcI⟩
  clear C5 hcI hbI HQH HUH HVH
  have H6I := H6
  clear H6
  have C60 := same_any (some ⟨gy, 0, none⟩) (some ⟨gw, 0, none⟩) S (S + 9) (sumF h a) (sumF h a) wI (bl_rd H6I.out.q.y) (cl_head H6I.out.q.sb.wa) (by rw [Hla.out trivial]; omega)
  rw [Hla.out trivial, decide_eq_true rfl] at C60
  go_wp2_with fail
  refine C60.mono ?_
  rintro e wJ ⟨rfl, q, hq⟩
  have H6J : Hid (Q6 w h a b bs bt gw go gy gz gu gv gq wJ) := by rw [hq]; exact H6I.out.drewN q
  have yJ : wJ.heap.size = wI.heap.size := by rw [hq]; rfl
  have yJ2 : wI.heap.size ≤ wJ.heap.size := by omega
  clear C60 hq H6I yJ
  have C61 := same_any (some ⟨gz, 0, none⟩) (some ⟨go, 0, none⟩) S (S + 9) (sumF h b) (sumF h b) wJ (bl_rd H6J.out.q.z) (cl_head H6J.out.q.sb.ol) (by rw [Hlb.out trivial]; omega)
  rw [Hlb.out trivial, decide_eq_true rfl] at C61
  go_wp2_with fail
  refine C61.mono ?_
  rintro e wK ⟨rfl, q, hq⟩
  have H6K : Hid (Q6 w h a b bs bt gw go gy gz gu gv gq wK) := by rw [hq]; exact H6J.out.drewN q
  have yK : wK.heap.size = wJ.heap.size := by rw [hq]; rfl
  have yK2 : wJ.heap.size ≤ wK.heap.size := by omega
  clear C61 hq H6J yK
  have C62 := same_any (some ⟨gu, 0, none⟩) (some ⟨gw, 0, none⟩) S (S + 9) (sumF h a) (sumF h a) wK (bl_rd H6K.out.u) (cl_head H6K.out.q.sb.wa) (by rw [Hla.out trivial]; omega)
  rw [Hla.out trivial, decide_eq_true rfl] at C62
  go_wp2_with fail
  refine C62.mono ?_
  rintro e wL ⟨rfl, q, hq⟩
  have H6L : Hid (Q6 w h a b bs bt gw go gy gz gu gv gq wL) := by rw [hq]; exact H6K.out.drewN q
  have yL : wL.heap.size = wK.heap.size := by rw [hq]; rfl
  have yL2 : wK.heap.size ≤ wL.heap.size := by omega
  clear C62 hq H6K yL
  have C63 := same_any (some ⟨gv, 0, none⟩) (some ⟨gw, 0, none⟩) S (S + 9) (sumF h a) (sumF h a) wL (bl_rd H6L.out.v) (cl_head H6L.out.q.sb.wa) (by rw [Hla.out trivial]; omega)
  rw [Hla.out trivial, decide_eq_true rfl] at C63
  go_wp2_with fail
  refine C63.mono ?_
  rintro e wM ⟨rfl, q, hq⟩
  have H6M : Hid (Q6 w h a b bs bt gw go gy gz gu gv gq wM) := by rw [hq]; exact H6L.out.drewN q
  have yM : wM.heap.size = wL.heap.size := by rw [hq]; rfl
  have yM2 : wL.heap.size ≤ wM.heap.size := by omega
  clear C63 hq H6L yM
  have C64 := same_any (some ⟨gq, 0, none⟩) (some ⟨go, 0, none⟩) S (S + 9) (sumF h b) (sumF h b) wM (bl_rd H6M.out.t) (cl_head H6M.out.q.sb.ol) (by rw [Hlb.out trivial]; omega)
  rw [Hlb.out trivial, decide_eq_true rfl] at C64
  go_wp2_with fail
  refine C64.mono ?_
  rintro e wN ⟨rfl, q, hq⟩
  have H6N : Hid (Q6 w h a b bs bt gw go gy gz gu gv gq wN) := by rw [hq]; exact H6M.out.drewN q
  have yN : wN.heap.size = wM.heap.size := by rw [hq]; rfl
  have yN2 : wM.heap.size ≤ wN.heap.size := by omega
  clear C64 hq H6M yN
  go_wp2_with fail
  have hp := pts1 wN 23 ⟨aa, ca, a⟩ ⟨HA.out.below H6N.out.q.sb.bel (Nat.le_refl _), hca, hca2⟩
  have hb3 := alloc_below wN (.cells #[prV ⟨aa, ca, a⟩] 23)
  have hsz := alloc_size wN (.cells #[prV ⟨aa, ca, a⟩] 23)
  have C6 := ssum_any h (some ⟨wN.heap.size, 0, none⟩) 1 [⟨aa, ca, a⟩] _ ((HT.out.below H6N.out.q.sb.bel).below hb3) hp (by simp) (by rw [cat1]; show a.length < 2305843009213693952; omega)
  rw [cat1, HS.out trivial] at C6
  dsimp only [prV] at C6 hb3 hsz
  refine C6.mono ?_
  rintro e wO ⟨aO, rfl, hoO, hbO⟩
  obtain ⟨g4, rfl, hg4, hcO⟩ := own_bl hoO (by rw [Hla.out trivial]; exact hs0)
  have HbO : Hid (Below wN.heap.size wN wO) := hb3.trans (hbO.mono (by rw [hsz]; omega))
  have HVO : Hid (Bl 5 wO g4 ((sumF h a).map B)) := hcO
  have yO : g4 < wO.heap.size := hcO.lt
  have yO2 : wN.heap.size ≤ g4 := by rw [hsz] at hg4; omega
  have H6O : Hid (Q6 w h a b bs bt gw go gy gz gu gv gq wO) := H6N.out.below HbO.out (Nat.le_refl _)
  clear C6 hp hb3 hsz hoO hbO hcO hg4 HbO H6N
  obtain ⟨G, HG⟩ : ∃ G : Nat → Nat, Hid (G 0 = gy ∧ G 1 = gu ∧ G 2 = gv ∧ G 3 = g4 ∧ G 4 = gz ∧ G 5 = gq) := ⟨fun j => if j = 0 then gy else if j = 1 then gu else if j = 2 then gv else if j = 3 then g4 else if j = 4 then gz else gq, rfl, rfl, rfl, rfl, rfl, rfl⟩
  obtain ⟨L, HL⟩ : ∃ L : Nat → List UInt8, Hid (L 0 = sumF h a ∧ L 1 = sumF h a ∧ L 2 = sumF h a ∧ L 3 = sumF h a ∧ L 4 = sumF h b ∧ L 5 = sumF h b) := ⟨fun j => if j < 4 then sumF h a else sumF h b, rfl, rfl, rfl, rfl, rfl, rfl⟩
  have HLl : Hid (∀ j, j < 6 → (L j).length = S) := fun j hj => by
    obtain ⟨l0, l1, l2, l3, l4, l5⟩ := HL.out
    have hj6 : j = 0 ∨ j = 1 ∨ j = 2 ∨ j = 3 ∨ j = 4 ∨ j = 5 := by omega
    rcases hj6 with rfl | rfl | rfl | rfl | rfl | rfl <;> simp only [l0, l1, l2, l3, l4, l5, Hla.out trivial, Hlb.out trivial]
  obtain ⟨gl, hgl⟩ : ∃ gl, wO.heap.size = gl := ⟨_, rfl⟩
  have HD : Hid (Sps w bs bt gw go gl G) := by
    obtain ⟨g0, g1, g2, g3, g4', g5⟩ := HG.out
    constructor
    · intro j hj
      have hj6 : j = 0 ∨ j = 1 ∨ j = 2 ∨ j = 3 ∨ j = 4 ∨ j = 5 := by omega
      rcases hj6 with rfl | rfl | rfl | rfl | rfl | rfl <;> (simp only [g0, g1, g2, g3, g4', g5]; omega)
    · intro i j hi hj hne
      have hi6 : i = 0 ∨ i = 1 ∨ i = 2 ∨ i = 3 ∨ i = 4 ∨ i = 5 := by omega
      have hj6 : j = 0 ∨ j = 1 ∨ j = 2 ∨ j = 3 ∨ j = 4 ∨ j = 5 := by omega
      rcases hi6 with rfl | rfl | rfl | rfl | rfl | rfl <;> rcases hj6 with rfl | rfl | rfl | rfl | rfl | rfl <;> first | exact absurd rfl hne | (simp only [g0, g1, g2, g3, g4', g5]; omega)
  have hAl := alloc_below wO (.cells #[.slice (some ⟨gy, 0, none⟩) S S, .slice (some ⟨gu, 0, none⟩) S S, .slice (some ⟨gv, 0, none⟩) S S, .slice (some ⟨g4, 0, none⟩) S S, .slice (some ⟨gz, 0, none⟩) S S, .slice (some ⟨gq, 0, none⟩) S S] 23)
  have hAc : Cl (wO.alloc (.cells #[.slice (some ⟨gy, 0, none⟩) S S, .slice (some ⟨gu, 0, none⟩) S S, .slice (some ⟨gv, 0, none⟩) S S, .slice (some ⟨g4, 0, none⟩) S S, .slice (some ⟨gz, 0, none⟩) S S, .slice (some ⟨gq, 0, none⟩) S S] 23)) wO.heap.size [.slice (some ⟨gy, 0, none⟩) S S, .slice (some ⟨gu, 0, none⟩) S S, .slice (some ⟨gv, 0, none⟩) S S, .slice (some ⟨g4, 0, none⟩) S S, .slice (some ⟨gz, 0, none⟩) S S, .slice (some ⟨gq, 0, none⟩) S S] := alloc_cl wO _ _
  go_wp2
  generalize wO.alloc _ = wP at hAl hAc ⊢
  rw [hgl] at hAc
  (try rw [hgl])
  have HZ0 : Hid (Zz w h a b bs bt gw go gl G S (fil S L 0) wP) := by
    obtain ⟨g0, g1, g2, g3, g4', g5⟩ := HG.out
    obtain ⟨l0, l1, l2, l3, l4, l5⟩ := HL.out
    have H := H6O.out.below hAl (Nat.le_refl _)
    rw [fil_zero]
    refine ⟨H.q.sb, fun j hj => ?_, fun j hj => ?_⟩
    · have hj6 : j = 0 ∨ j = 1 ∨ j = 2 ∨ j = 3 ∨ j = 4 ∨ j = 5 := by omega
      rcases hj6 with rfl | rfl | rfl | rfl | rfl | rfl <;> simp only [g0, g1, g2, g3, g4', g5, l0, l1, l2, l3, l4, l5]
      · exact H.q.y
      · exact H.u
      · exact H.v
      · exact HVO.out.below hAl yO
      · exact H.q.z
      · exact H.t
    · have hj6 : j = 0 ∨ j = 1 ∨ j = 2 ∨ j = 3 ∨ j = 4 ∨ j = 5 := by omega
      rcases hj6 with rfl | rfl | rfl | rfl | rfl | rfl <;> (simp only [g0, g1, g2, g3, g4', g5]; exact hAc.cell _ (by simp))
  clear hAl hAc H6O HVO HG HL hgl
  clear yO yO2 yI yH yH2 yG hgu hgq yD yC
  go_loopw [22] (fun s ws => ∃ i : Nat, s = .int .i64 (i : Int) ∧ i ≤ 6 ∧ Hid (Zz w h a b bs bt gw go gl G S (fil S L i) ws)) (fun s _ => 6 - (intOf s).toNat)
  case atStart => exact ⟨0, rfl, by omega, HZ0⟩
  case round =>
  clear HZ0
  obtain ⟨i, rfl, hi, hz⟩ := hrel
  by_cases hlt : i < 6
  · have HZi : Hid (∀ (w' : World) (l : List UInt8), But wr w' (G i) → Bl 5 w' (G i) (l.map B) → Zz w h a b bs bt gw go gl G S (upd (fil S L i) i l) w') := fun w' l hb hc => hz.out.row HD.out i hlt l hb hc
    have Hrow : Hid (Bl 5 wr (G i) ((List.replicate 0 (UInt8.ofNat (60 + i)) ++ (L i).drop 0).map B)) := by
      have h1 := hz.out.rows i hlt
      unfold fil at h1
      rw [if_neg (by omega)] at h1
      exact h1
    have Hlen : Hid (True → (L i).length = S) := fun _ => HLl.out i hlt
    have htab := hz.out.tab i hlt
    have hne : gl ≠ G i := (HD.out.1 i hlt).2.2.2.2.2
    have Hsu := fil_succ S L i
    have HSu : Hid (True → upd (fil S L i) i (List.replicate S (UInt8.ofNat (60 + i))) = fil S L (i + 1)) := fun _ => Hsu
    have hwk : IntKind.u8.wrap (60 + (i : Int)) = ((UInt8.ofNat (60 + i)).toNat : Int) := by rw [IntKind.wrap_u8', UInt8.toNat_ofNat']; omega
    have Htab : Hid (wr.cell? ⟨gl, i, none⟩ = some (.slice (some ⟨G i, 0, none⟩) S S)) := htab
    clear Hsu hz
    generalize UInt8.ofNat (60 + i) = x at *
    generalize G i = gi at *
    generalize L i = Li at *
    go_wp2
    clear htab
    go_loopw [23] (fun s ws => ∃ k : Nat, s = .int .i64 (k : Int) ∧ k ≤ S ∧ Hid (Bl 5 ws gi ((List.replicate k x ++ Li.drop k).map B)) ∧ Hid (But wr ws gi)) (fun s _ => S - (intOf s).toNat)
    case atStart => exact ⟨0, rfl, by omega, Hrow, But.refl _ _⟩
    case round =>
    clear Hrow
    obtain ⟨k, rfl, hk, hcl, hbut⟩ := hrel
    have htab := cell_but Htab.out fun hg => hbut.out.block gl hg hne
    by_cases hkS : k < S
    · have gf := hcl.out.frozen k
      obtain ⟨old, gc⟩ : ∃ v, wr.cell? ⟨gi, k, none⟩ = some v := ⟨_, hcl.out.cell k (by have := Hlen.out trivial; simp; omega)⟩
      have Hs : Hid (True → ((List.replicate k x ++ Li.drop k).map B).set k (B x) = (List.replicate (k + 1) x ++ Li.drop (k + 1)).map B) := fun _ => rep_set _ S k x (Hlen.out trivial) hkS
      go_wp2
      refine ⟨⟨k + 1, by go_num, by omega, ?_, hbut.out.set _ _⟩, by simp [intOf]; omega⟩
      have h1 := hcl.out.set k (B x)
      rw [Hs.out trivial] at h1
      exact h1
    · have hkS2 : S = k := by omega
      subst hkS2
      have HZ2 : Hid (Zz w h a b bs bt gw go gl G S (fil S L (i + 1)) wr) := by
        have h1 := hcl.out
        rw [List.drop_of_length_le (by rw [Hlen.out trivial]; exact Nat.le_refl _), List.append_nil] at h1
        have h2 := HZi.out wr _ hbut.out h1
        rw [HSu.out trivial] at h2
        exact h2
      clear hcl hbut hk hkS HZi
      go_wp2
      exact ⟨⟨i + 1, by go_num, by omega, HZ2⟩, by simp [intOf]; omega⟩
  obtain rfl : i = 6 := by omega
  rw [show ((6 : Nat) : Int) = 6 from rfl]
  have HL0 : Hid (wr.ownsRow 0 23 1 (.slice none 0 0) 0 (([] : List (Nat × Nat)).map fun p => .slice (some ⟨p.1, 0, none⟩) (S + 70) p.2)) := World.ownsRow_nil _ _ _ _
  have Hg0 : Hid (∀ g, (Value.slice none 0 0).ownBlock = some g → Far w bs bt gw go gl G g ∧ ∀ p ∈ ([] : List (Nat × Nat)), p.1 ≠ g) := fun g hg => by cases hg
  have Hp0 : Hid (∀ j, (hj : j < ([] : List (Nat × Nat)).length) → Gr wr bs bt gw go gl G S w j ([] : List (Nat × Nat))[j]) := fun j hj => by cases hj
  clear hi hlt HLl
  go_wp2
  go_loopw [24, 25] (fun s24 s ws => ∃ (i : Nat) (Ps : List (Nat × Nat)), s = .int .i64 (i : Int) ∧ i ≤ 6 ∧ (Ps.length ≤ i ∧ i ≤ Ps.length) ∧ Hid (Zz w h a b bs bt gw go gl G S (fil S L 6) ws) ∧ Hid (ws.ownsRow 0 23 1 s24 i (Ps.map fun p => .slice (some ⟨p.1, 0, none⟩) (S + 70) p.2)) ∧ Hid (∀ g, s24.ownBlock = some g → Far w bs bt gw go gl G g ∧ ∀ p ∈ Ps, p.1 ≠ g) ∧ Hid (∀ j, (hj : j < Ps.length) → Gr ws bs bt gw go gl G S w j Ps[j])) (fun _ s _ => 6 - (intOf s).toNat)
  case atStart => exact ⟨0, [], rfl, by omega, ⟨Nat.le_refl _, Nat.le_refl _⟩, hz, HL0, Hg0, Hp0⟩
  case round =>
  clear HL0 Hg0 Hp0 hz
  obtain ⟨i, Ps, rfl, hi, ⟨hPl1, hPl2'⟩, hz, hown, hfar, hgr⟩ := hrel
  have HPl : Hid (Ps.length = i) := by show _ = _; omega
  clear hPl1 hPl2'
  by_cases hlt : i < 6
  · have htab := hz.out.tab i hlt
    have hrow : Bl 5 wr (G i) ((List.replicate S (UInt8.ofNat (60 + i))).map B) := by
      have h1 := hz.out.rows i hlt
      unfold fil at h1
      rw [if_pos hlt] at h1
      exact h1
    have Hr0 : Hid (wr.ownsRow 0 5 1 (.slice (some ⟨G i, 0, none⟩) S S) (S + 0) ((List.replicate S (UInt8.ofNat (60 + i)) ++ List.replicate 0 (UInt8.ofNat (80 + i))).map B)) := by
      rw [List.replicate_zero, List.append_nil]
      exact bl_row hrow (by simp) (by omega)
    have Hr1 : Hid (wr.ownsRow 0 5 1 (.slice (some ⟨G i, 0, none⟩) S S) S ((List.replicate S (UInt8.ofNat (60 + i))).map B)) := bl_row hrow (by simp) (by omega)
    have hgil : G i < wr.heap.size := hrow.lt
    have HZi : Hid (∀ (w' : World), But wr w' (G i) → Bl 5 w' (G i) ((List.replicate S (UInt8.ofNat (60 + i))).map B) → Zz w h a b bs bt gw go gl G S (fil S L 6) w') := fun w' hb hc => by
      have h1 := hz.out.row HD.out i hlt _ hb hc
      rw [fil_same S L i hlt] at h1
      exact h1
    have Hfx : Hid (∀ x, wr.heap.size ≤ x → Far w bs bt gw go gl G x) := fun x hx => hz.out.far x hx
    have Hlo : Hid (∀ g, u24.ownBlock = some g → g < wr.heap.size ∧ g ≠ G i) := fun g hg => ⟨(hown.out.lt g hg).2, fun e => (hfar.out g hg).1.2.2.2.2.2.2 i hlt e.symm⟩
    have Hpi : Hid (∀ p ∈ Ps, p.1 < wr.heap.size ∧ p.1 ≠ G i) := fun p hp => by
      obtain ⟨j, hj, rfl⟩ := List.getElem_of_mem hp
      have h1 := hgr.out j hj
      exact ⟨row_lt h1.1, fun e => h1.2.2.2.2.2.2.2 i hlt e.symm⟩
    have hwk : IntKind.u8.wrap (80 + (i : Int)) = ((UInt8.ofNat (80 + i)).toNat : Int) := by rw [IntKind.wrap_u8', UInt8.toNat_ofNat']; omega
    clear hrow
    generalize hxx : UInt8.ofNat (60 + i) = x at *
    generalize hyy : UInt8.ofNat (80 + i) = y at *
    have Hxx : Hid (True → UInt8.ofNat (60 + i) = x) := fun _ => hxx
    have Hyy : Hid (True → UInt8.ofNat (80 + i) = y) := fun _ => hyy
    generalize G i = gi at *
    clear hxx hyy
    obtain ⟨wR, hwR⟩ : ∃ x, x = wr := ⟨_, rfl⟩
    subst hwR
    have hiB : decide ((i : Int) < 6) = true := decide_eq_true (by omega)
    go_wp2
    clear htab hiB
    go_loopw [26, 27] (fun s26 s ws => ∃ k : Nat, s = .int .i64 (k : Int) ∧ k ≤ 70 ∧ Hid (ws.ownsRow 0 5 1 s26 (S + k) ((List.replicate S x ++ List.replicate k y).map B)) ∧ Hid (ws.ownsRow 0 5 1 (.slice (some ⟨gi, 0, none⟩) S S) S ((List.replicate S x).map B)) ∧ Hid (But wR ws gi) ∧ Hid (s26.ownBlock = some gi ∨ ∃ g, s26.ownBlock = some g ∧ wR.heap.size ≤ g)) (fun _ s _ => 70 - (intOf s).toNat)
    case atStart => exact ⟨0, rfl, by omega, Hr0, Hr1, But.refl _ _, .inl rfl⟩
    case round =>
    clear Hr0 Hr1
    obtain ⟨k, rfl, hk, hown2, hown0, hbut, hblk⟩ := hrel
    by_cases hk70 : k < 70
    · obtain ⟨v', wn, hrun, h1, h2, h3, h4⟩ := more_step (g0 := gi) (.int .u8 (y.toNat : Int)) rfl hown2.out hown0.out (by omega) rfl hbut.out (by omega) hblk.out (by omega)
      have H1 : Hid (wn.ownsRow 0 5 1 v' (S + (k + 1)) ((List.replicate S x ++ List.replicate (k + 1) y).map B)) := by
        rw [List.replicate_succ', ← List.append_assoc, List.map_append (l₂ := [y])]
        exact h1
      have H2 : Hid (wn.ownsRow 0 5 1 (.slice (some ⟨gi, 0, none⟩) S S) S ((List.replicate S x).map B)) := h2
      have H3 : Hid (But wR wn gi) := h3
      have H4 : Hid (v'.ownBlock = some gi ∨ ∃ g, v'.ownBlock = some g ∧ wR.heap.size ≤ g) := h4
      have Hrun : Hid _ := hrun
      clear h1 h2 h3 h4 hown2 hown0 hbut hblk hrun hgr hfar hown hz HZi Hfx Hlo Hpi Hxx Hyy HD HPl
      go_wp2_with (at_builtin; refine wpList_append_run rfl (.tmp 204) (.tmp 208) 23 rfl u26 (.slice (some ⟨wr.heap.size, 0, none⟩) 1 1) v' wn rfl rfl Hrun.out ?_)
      go_wp2
      exact ⟨⟨k + 1, by go_num, by omega, H1, H2, H3, H4⟩, by simp [intOf]; omega⟩
    · obtain rfl : k = 70 := by omega
      obtain ⟨pi, ci, rfl, _, hpil⟩ := row_some hown2.out (by omega)
      have hbl' := row_bl hown0.out
      have hpne : pi ≠ gi := grown_new (n := S) hbl' (by simp) hown2.out (by omega)
      have hpi : wR.heap.size ≤ pi := by
        rcases hblk.out with e | ⟨g, e, hg⟩
        · exact absurd (by cases e; rfl) hpne
        · cases e; exact hg
      have HZ3 : Hid (Zz w h a b bs bt gw go gl G S (fil S L 6) wr) := HZi.out wr hbut.out hbl'
      have HO3 : Hid (wr.ownsRow 0 23 1 u24 i (Ps.map fun p => .slice (some ⟨p.1, 0, none⟩) (S + 70) p.2)) := own_but' hown.out hbut.out (fun e => (Hlo.out gi e).2 rfl)
      have HG3 : Hid (∀ j, (hj : j < Ps.length) → Gr wr bs bt gw go gl G S w j Ps[j]) := fun j hj => ⟨own_but' (hgr.out j hj).1 hbut.out (fun e => (Hpi.out Ps[j] (List.getElem_mem hj)).2 (by cases e; rfl)), (hgr.out j hj).2⟩
      have hzr : wR.heap.size ≤ wr.heap.size := hbut.out.size
      obtain ⟨v', wn, hrun, h1, h2, h3⟩ := long_step (v := .slice (some ⟨pi, 0, none⟩) (S + 70) ci) rfl HO3.out (by omega)
      have H1 : Hid (wn.ownsRow 0 23 1 v' (i + 1) ((Ps ++ [(pi, ci)]).map fun p => .slice (some ⟨p.1, 0, none⟩) (S + 70) p.2)) := by
        rw [List.map_append]
        exact h1
      have HZ4 : Hid (Zz w h a b bs bt gw go gl G S (fil S L 6) wn) := HZ3.out.grown h2 (fun x hx => (hfar.out x hx).1)
      have HF4 : Hid (∀ g, v'.ownBlock = some g → Far w bs bt gw go gl G g ∧ ∀ p ∈ Ps ++ [(pi, ci)], p.1 ≠ g) := fun g hg => by
        rcases h3 with e | ⟨g', e, hg'⟩
        · rw [e] at hg
          refine ⟨(hfar.out g hg).1, fun p hp => ?_⟩
          rcases List.mem_append.1 hp with hp | hp
          · exact (hfar.out g hg).2 p hp
          · obtain rfl := List.mem_singleton.1 hp
            have := (Hlo.out g hg).1
            show pi ≠ g
            omega
        · rw [e] at hg
          cases hg
          refine ⟨HZ3.out.far _ hg', fun p hp => ?_⟩
          rcases List.mem_append.1 hp with hp | hp
          · have := (Hpi.out p hp).1; omega
          · obtain rfl := List.mem_singleton.1 hp
            show pi ≠ g
            omega
      have HG4 : Hid (∀ j, (hj : j < (Ps ++ [(pi, ci)]).length) → Gr wn bs bt gw go gl G S w j (Ps ++ [(pi, ci)])[j]) := fun j hj => by
        by_cases hjP : j < Ps.length
        · rw [List.getElem_append_left hjP]
          refine ⟨kept_ne (HG3.out j hjP).1 h2 (fun g hg e => ?_), (HG3.out j hjP).2⟩
          cases hg
          exact (hfar.out _ e).2 Ps[j] (List.getElem_mem hjP) rfl
        · have hPl := HPl.out
          have hji : j = i := by simp at hj; omega
          clear hPl
          subst hji
          rw [List.getElem_append_right (by have := HPl.out; omega)]
          simp only [HPl.out, Nat.sub_self, List.getElem_cons_zero]
          refine ⟨kept_ne ?_ h2 (fun g hg e => ?_), Hfx.out pi hpi⟩
          · rw [Hxx.out trivial, Hyy.out trivial]; exact hown2.out
          · cases hg
            have h9 : pi < wR.heap.size := (Hlo.out _ e).1
            omega
      have hPl2 : (Ps ++ [(pi, ci)]).length ≤ i + 1 ∧ i + 1 ≤ (Ps ++ [(pi, ci)]).length := by rw [List.length_append, HPl.out]; exact ⟨Nat.le_refl _, Nat.le_refl _⟩
      clear h1 h2 h3 hown2 hown0 hbut hblk hbl' HZ3 HO3 HG3 hk hk70 HZi Hfx Hlo Hpi hown hfar hgr hz HPl HD Hxx Hyy
      have Hrun : Hid _ := hrun
      clear hrun
      go_wp2_with (at_builtin; refine wpList_append_run rfl (.tmp 210) (.tmp 212) 34 rfl u24 (.slice (some ⟨wr.heap.size, 0, none⟩) 1 1) v' wn rfl rfl Hrun.out ?_)
      go_wp2
      exact ⟨⟨i + 1, _, by go_num, by omega, hPl2, HZ4, H1, HF4, HG4⟩, by simp [intOf]; omega⟩
  obtain rfl : i = 6 := by omega
  rw [show ((6 : Nat) : Int) = 6 from rfl]
  have hPl := HPl.out
  obtain ⟨gL, cL, rfl, _, _⟩ := row_some hown.out (by omega)
  obtain ⟨P, C, HPC⟩ : ∃ (P C : Nat → Nat), Hid (∀ j, (hj : j < 6) → Ps[j]'(by omega) = (P j, C j)) := ⟨fun j => (Ps.getD j (0, 0)).1, fun j => (Ps.getD j (0, 0)).2, fun j hj => by show _ = ((Ps.getD j (0, 0)).1, (Ps.getD j (0, 0)).2); rw [List.getD_eq_getElem?_getD, List.getElem?_eq_getElem (by omega)]; rfl⟩
  have Hc1 : Hid (∀ j, j < 6 → wr.cell? ⟨gL, j, none⟩ = some (.slice (some ⟨P j, 0, none⟩) (S + 70) (C j))) := fun j hj => row_at hown.out j _ (by rw [List.getElem?_map, List.getElem?_eq_getElem (by omega), HPC.out j hj]; rfl)
  have Hc2 : Hid (∀ j, j < 6 → wr.cell? ⟨gl, j, none⟩ = some (.slice (some ⟨G j, 0, none⟩) S S)) := fun j hj => hz.out.tab j hj
  have Hc3 : Hid (∀ j, j < 6 → ∀ k, k < S → wr.cell? ⟨G j, k, none⟩ = some (.int .u8 ((UInt8.ofNat (60 + j)).toNat : Int))) := fun j hj k hk => by
    have h1 := hz.out.rows j hj
    unfold fil at h1
    rw [if_pos hj] at h1
    rw [h1.cell k (by simpa using hk)]
    simp [B]
  have Hc4 : Hid (∀ j, j < 6 → ∀ k, k < S → wr.cell? ⟨P j, k, none⟩ = some (.int .u8 ((UInt8.ofNat (60 + j)).toNat : Int))) := fun j hj k hk => by
    have h1 := (hgr.out j (by omega)).1
    rw [HPC.out j hj] at h1
    refine row_at h1 k _ ?_
    rw [List.getElem?_map, List.getElem?_append_left (by rw [List.length_replicate]; exact hk), List.getElem?_replicate, if_pos hk]
    rfl
  have Hc5 : Hid (∀ j, j < 6 → ∀ k, S ≤ k → k < S + 70 → wr.cell? ⟨P j, k, none⟩ = some (.int .u8 ((UInt8.ofNat (80 + j)).toNat : Int))) := fun j hj k hk hk2 => by
    have h1 := (hgr.out j (by omega)).1
    rw [HPC.out j hj] at h1
    refine row_at h1 k _ ?_
    rw [List.getElem?_map, List.getElem?_append_right (by rw [List.length_replicate]; exact hk)]
    have : k - S < 70 := by omega
    rw [List.length_replicate, List.getElem?_replicate, if_pos this]
    rfl
  have HSz : Hid (Sb w h a b bs bt gw go wr) := hz.out.sb
  clear hz hown hfar hgr HPC hPl HPl hi hlt HD
  obtain ⟨wS, hwS⟩ : ∃ x, x = wr := ⟨_, rfl⟩
  subst hwS
  go_wp2
  go_loopw [28] (fun s ws => ∃ i : Nat, s = .int .i64 (i : Int) ∧ i ≤ 6 ∧ Hid (wS = ws)) (fun s _ => 6 - (intOf s).toNat)
  case atStart => exact ⟨0, rfl, by omega, rfl⟩
  case round =>
  obtain ⟨i, rfl, hi, hw⟩ := hrel
  have hw2 := hw.out
  subst hw2
  clear hw
  by_cases hlt : i < 6
  · have c1 := Hc1.out i hlt
    have c2 := Hc2.out i hlt
    have Hd3 : Hid (∀ k, k < S → wS.cell? ⟨G i, k, none⟩ = some (.int .u8 ((UInt8.ofNat (60 + i)).toNat : Int))) := Hc3.out i hlt
    have Hd4 : Hid (∀ k, k < S → wS.cell? ⟨P i, k, none⟩ = some (.int .u8 ((UInt8.ofNat (60 + i)).toNat : Int))) := Hc4.out i hlt
    have Hd5 : Hid (∀ k, S ≤ k → k < S + 70 → wS.cell? ⟨P i, k, none⟩ = some (.int .u8 ((UInt8.ofNat (80 + i)).toNat : Int))) := Hc5.out i hlt
    have hwx : IntKind.u8.wrap (60 + (i : Int)) = ((UInt8.ofNat (60 + i)).toNat : Int) := by rw [IntKind.wrap_u8', UInt8.toNat_ofNat']; omega
    have hwy : IntKind.u8.wrap (80 + (i : Int)) = ((UInt8.ofNat (80 + i)).toNat : Int) := by rw [IntKind.wrap_u8', UInt8.toNat_ofNat']; omega
    generalize UInt8.ofNat (60 + i) = x at *
    generalize UInt8.ofNat (80 + i) = y at *
    generalize G i = gi at *
    generalize P i = pi at *
    generalize C i = ci at *
    have hiB : decide ((i : Int) < 6) = true := decide_eq_true (by omega)
    go_wp2
    clear hiB
    go_loopw [29] (fun s ws => ∃ k : Nat, s = .int .i64 (k : Int) ∧ k ≤ S + 70 ∧ Hid (wS = ws)) (fun s _ => S + 70 - (intOf s).toNat)
    case atStart => exact ⟨0, rfl, by omega, rfl⟩
    case round =>
    obtain ⟨k, rfl, hk, hw⟩ := hrel
    have hw2 := hw.out
    subst hw2
    clear hw
    by_cases hk7 : k < S + 70
    · have hk7I : (k : Int) < (S : Int) + 70 := by omega
      by_cases hkS : k < S
      · have d3 := Hd3.out k hkS
        have d4 := Hd4.out k hkS
        have hkI : decide ((k : Int) < (S : Int)) = true := decide_eq_true (by omega)
        have hkJ : decide ((S : Int) ≤ (k : Int)) = false := decide_eq_false (by omega)
        go_wp2
        first | exact ⟨⟨k + 1, by go_num, by omega, rfl⟩, by simp [intOf]; omega⟩ | exact ⟨⟨k + 1, by go_num, by omega, trivial⟩, by simp [intOf]; omega⟩
      · have d5 := Hd5.out k (by omega) hk7
        have hkI : decide ((k : Int) < (S : Int)) = false := decide_eq_false (by omega)
        have hkJ : decide ((S : Int) ≤ (k : Int)) = true := decide_eq_true (by omega)
        go_wp2
        first | exact ⟨⟨k + 1, by go_num, by omega, rfl⟩, by simp [intOf]; omega⟩ | exact ⟨⟨k + 1, by go_num, by omega, trivial⟩, by simp [intOf]; omega⟩
    · have hk7I : ¬ (k : Int) < (S : Int) + 70 := by omega
      go_wp2
      first | exact ⟨⟨i + 1, by go_num, by omega, rfl⟩, by simp [intOf]; omega⟩ | exact ⟨⟨i + 1, by go_num, by omega, trivial⟩, by simp [intOf]; omega⟩
  clear Hc1 Hc2 Hc3 Hc4 Hc5
  go_wp2_with fail
  have hp := pts1 wS 23 ⟨aa, ca, a⟩ ⟨HA.out.below HSz.out.bel (Nat.le_refl _), hca, hca2⟩
  have hb3 := alloc_below wS (.cells #[prV ⟨aa, ca, a⟩] 23)
  have hsz := alloc_size wS (.cells #[prV ⟨aa, ca, a⟩] 23)
  have C7 := ssum_any h (some ⟨wS.heap.size, 0, none⟩) 1 [⟨aa, ca, a⟩] _ ((HT.out.below HSz.out.bel).below hb3) hp (by simp) (by rw [cat1]; show a.length < 2305843009213693952; omega)
  rw [cat1, HS.out trivial] at C7
  dsimp only [prV] at C7 hb3 hsz
  refine C7.mono ?_
  rintro e wT ⟨aT, rfl, hoT, hbT⟩
  have HbT : Hid (Below wS.heap.size wS wT) := hb3.trans (hbT.mono (by rw [hsz]; omega))
  have HRT : Hid (Rd wT aT (sumF h a)) := hoT.rd
  have HST : Hid (Sb w h a b bs bt gw go wT) := HSz.out.below HbT.out (Nat.le_refl _)
  clear C7 hp hb3 hsz hoT hbT HbT HSz
  have C8 := sum_any bs h a wT HST.out.st hh (HT.out.below HST.out.bel) (by omega)
  rw [HS.out trivial] at C8
  go_wp2_with fail
  refine C8.mono ?_
  rintro e wU ⟨gn, rfl, hgn, hcU, hbU⟩
  have HNU : Hid (Bl 5 wU gn ((sumF h a).map B)) := hcU
  have HRU : Hid (Rd wU aT (sumF h a)) := HRT.out.below hbU (Nat.le_refl _)
  have HSU : Hid (Sb w h a b bs bt gw go wU) := HST.out.below hbU (Nat.le_refl _)
  clear C8 hcU hbU HST HRT
  have C9 := same_any aT (some ⟨gw, 0, none⟩) S (S + 9) (sumF h a) (sumF h a) wU HRU.out (cl_head HSU.out.wa) (by rw [Hla.out trivial]; omega)
  rw [Hla.out trivial, decide_eq_true rfl] at C9
  go_wp2_with fail
  refine C9.mono ?_
  rintro e wV ⟨rfl, q, hq⟩
  have HNV : Hid (Bl 5 wV gn ((sumF h a).map B)) := by rw [hq]; exact HNU.out
  have HSV : Hid (Sb w h a b bs bt gw go wV) := by rw [hq]; exact HSU.out.drewN q
  clear C9 hq HNU HRU HSU
  have CX := same_any (some ⟨gn, 0, none⟩) (some ⟨gw, 0, none⟩) S (S + 9) (sumF h a) (sumF h a) wV (bl_rd HNV.out) (cl_head HSV.out.wa) (by rw [Hla.out trivial]; omega)
  rw [Hla.out trivial, decide_eq_true rfl] at CX
  go_wp2_with fail
  refine CX.mono ?_
  rintro e wW ⟨rfl, q, hq⟩
  have HBW : Hid (Below w.heap.size w wW) := by rw [hq]; exact below_drewN HSV.out.bel q
  clear CX hq HNV HSV
  go_wp2
  go_ret
  exact ⟨rfl, HBW.out⟩

end Go.Proofs.YtibgpcheembdkaaDoor
