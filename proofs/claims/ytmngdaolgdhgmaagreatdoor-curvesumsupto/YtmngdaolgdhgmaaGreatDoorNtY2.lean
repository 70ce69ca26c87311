import Derived.Test.YtmngdaolgdhgmaaGreatDoorNtZ8
import Derived.Deep.RegionHeld3
namespace Go.Proofs.YtmngdaolgdhgmaaGreatDoor
open Go.RowKit

section
variable {P : Program} {ops : Array Oper} {Q : Exit → Act → World → Prop} {md : Region.Mode} {S : World → Prop} {k : Nat}

/-- Whatever order is picked from here on, and S holds behind every operation that is carried out ahead of number k. -/
def wpAnyK (P : Program) (md : Region.Mode) (ops : Array Oper) (Q : Exit → Act → World → Prop) (k : Nat) (S : World → Prop) : Nat → Array Bool → Act → World → Prop
  | 0, listed, a, w => Region.ready md ops listed = [] ∧ Q .normal a w
  | fuel + 1, listed, a, w =>
    (Region.ready md ops listed = [] → Q .normal a w) ∧
    ∀ i ∈ Region.ready md ops listed, wpOp P ops Q i (fun a' w' => ((listed.setIfInBounds i true).getD k true = false → S w') ∧ wpAnyK P md ops Q k S fuel (listed.setIfInBounds i true) a' w') a w

theorem wpAny_of_K : ∀ (fuel : Nat) (listed : Array Bool) (a : Act) (w : World), wpAnyK P md ops Q k S fuel listed a w → wpAny P md ops Q fuel listed a w
  | 0, _, _, _, h => h
  | fuel + 1, _, _, _, h => ⟨h.1, fun i hi => wpOp_mono (fun a' w' h' => wpAny_of_K fuel _ a' w' h'.2) (h.2 i hi)⟩

/-- Each waits for the one ahead of it. -/
def pathB (md : Region.Mode) (ops : Array Oper) : List Nat → Bool
  | a :: b :: r => Region.waitsFor md ops b a && pathB md ops (b :: r)
  | _ => true
/-- What has come up: all that it waited for has. -/
def closedB (md : Region.Mode) (ops : Array Oper) (listed : Array Bool) : Bool :=
  decide (listed.size = ops.size) && (List.range ops.size).all fun j => match ops[j]? with
    | some o => !(listed.getD j false) || o.after.all fun e => !(Region.binds md e) || listed.getD e.on false
    | none => true
theorem closedB_spec {listed : Array Bool} (h : closedB md ops listed = true) : HeadInv md ops ops.size listed := by
  simp only [closedB, Bool.and_eq_true, decide_eq_true_eq] at h
  refine ⟨h.1, fun j oj hj hl e he hb => ?_, fun t ht ht' => by omega⟩
  have h1 := List.all_eq_true.1 h.2 j (List.mem_range.2 (Array.getElem?_eq_some_iff.1 hj).1)
  simp only [hj, hl, Bool.not_true, Bool.false_or, Array.all_eq_true'] at h1
  have h2 := h1 e he
  rw [hb] at h2
  simpa using h2

theorem path_waits {listed : Array Bool} (inv : HeadInv md ops ops.size listed) : ∀ (ps : List Nat) (i : Nat), pathB md ops (i :: ps) = true → listed.getD i true = false → ∀ p ∈ ps, listed.getD p true = false ∧ p ∉ Region.ready md ops listed
  | [], _, _, _ => fun p hp => by cases hp
  | q :: r, i, hb, hi => by
    simp only [pathB, Bool.and_eq_true] at hb
    obtain ⟨oq, hoq, e, he, hbd, hon⟩ := Region.waitsFor_spec hb.1
    have hql : q < listed.size := by rw [inv.size]; exact (Array.getElem?_eq_some_iff.1 hoq).1
    have hq : listed.getD q true = false := by
      refine getD_in hql ?_
      cases hl : listed.getD q false with
      | false => rfl
      | true =>
        have h1 := inv.closed q oq hoq hl e he hbd
        rw [hon, getD_both hi] at h1
        cases h1
    intro p hp
    rcases List.mem_cons.1 hp with rfl | hp
    · refine ⟨hq, fun hr => ?_⟩
      obtain ⟨_, o, ho, hall⟩ := mem_ready.1 hr
      have : o = oq := Option.some.inj (ho.symm.trans hoq)
      subst this
      have h1 := hall e he hbd
      rw [hon, getD_both hi] at h1
      cases h1
    · exact path_waits inv r q hb.2 hq p hp

theorem wpAnyK_first {i : Nat} {oi : Oper} {v : Value} {ps : List Nat} (hi : ops[i]? = some oi) (hsel : ∀ (j : Nat) (o : Oper) cs b, ops[j]? = some o → o.op ≠ .select cs b)
    (hQ : ∀ c a w, Q (.panic c) (a.put oi.dst v) w → Q (.panic c) a w) (hp : pathB md ops (i :: ps) = true) (hk : k ∈ ps) :
    ∀ (fuel : Nat) (listed : Array Bool) (a : Act) (w : World), HeadInv md ops ops.size listed →
      (∀ j oj, ops[j]? = some oj → j ≠ i → listed.getD j true = false → (∀ e ∈ oj.after, Region.binds md e = true → e.on ≠ i) → oi.apart ops oj = true) →
      i ∈ Region.ready md ops listed → YieldsIf P ops S oi v a → S w →
      wpAnyK P md ops Q k S fuel (listed.setIfInBounds i true) (a.put oi.dst v) w → wpAnyK P md ops Q k S (fuel + 1) listed a w := by
  intro fuel
  induction fuel with
  | zero =>
    intro listed a w inv _ hr hy hS H
    refine ⟨fun h => (by rw [h] at hr; cases hr), fun j hj => ?_⟩
    by_cases hji : j = i
    · subst hji; exact hy.wpOp hi hS ⟨fun _ => hS, H⟩
    · have := ready_mono hj hji
      rw [H.1] at this
      cases this
  | succ fuel ih =>
    intro listed a w inv hfree hr hy hS H
    refine ⟨fun h => (by rw [h] at hr; cases hr), fun j hj => ?_⟩
    by_cases hji : j = i
    · subst hji; exact hy.wpOp hi hS ⟨fun _ => hS, H⟩
    · have h1 := H.2 j (ready_mono hj hji)
      obtain ⟨hjun, oj, hoj, hall⟩ := mem_ready.1 hj
      have hun := (mem_ready.1 hr).1
      have hkw := path_waits inv ps i hp hun k hk
      have hjk : j ≠ k := fun e => hkw.2 (e ▸ hj)
      have hki : i ≠ k := fun e => hkw.2 (e ▸ hr)
      have hnot : ∀ e ∈ oj.after, Region.binds md e = true → e.on ≠ i := fun e he hb heq => by
        have h1 := hall e he hb
        rw [heq, getD_both hun] at h1
        cases h1
      have h2 := wpOp_putIf hoj (hfree j oj hoj hji hjun hnot) (fun cs b => hsel i oi cs b hi) (fun cs b => hsel j oj cs b hoj) hQ hy h1
      have hfree' : ∀ k ok, ops[k]? = some ok → k ≠ i → (listed.setIfInBounds j true).getD k true = false →
          (∀ e ∈ ok.after, Region.binds md e = true → e.on ≠ i) → oi.apart ops ok = true := fun k ok hk hki hun hno => by
        refine hfree k ok hk hki ?_ hno
        by_cases hjk : j = k
        · subst hjk; exact hjun
        · rw [Go.getD_set_ne true hjk] at hun; exact hun
      refine wpOp_mono (fun a' w' h3 => ?_) h2
      have hS' : S w' := h3.2.1 (by rw [Go.getD_set_ne true hjk, Go.getD_set_ne true hki]; exact hkw.1)
      refine ⟨fun _ => hS', ih (listed.setIfInBounds j true) a' w' (inv.set hj (by rw [← inv.size]; exact Nat.lt_of_not_le fun hle => by rw [Array.getD_eq_getD_getElem?, Array.getElem?_eq_none hle] at hjun; cases hjun)) hfree' (ready_mono hr (Ne.symm hji)) h3.1 hS' ?_⟩
      rw [Array.setIfInBounds_comm _ _ hji]
      exact h3.2.2

theorem wpAnyK_first0 {i : Nat} {oi : Oper} {v : Value} (hi : ops[i]? = some oi) (hsel : ∀ (j : Nat) (o : Oper) cs b, ops[j]? = some o → o.op ≠ .select cs b)
    (hQ : ∀ c a w, Q (.panic c) (a.put oi.dst v) w → Q (.panic c) a w) (hki : i ≠ k) :
    ∀ (fuel : Nat) (listed : Array Bool) (a : Act) (w : World),
      (∀ j oj, ops[j]? = some oj → j ≠ i → listed.getD j true = false → (∀ e ∈ oj.after, Region.binds md e = true → e.on ≠ i) → oi.apart ops oj = true) →
      i ∈ Region.ready md ops listed → YieldsIf P ops (fun _ => True) oi v a → (listed.getD k true = false → S w) →
      wpAnyK P md ops Q k S fuel (listed.setIfInBounds i true) (a.put oi.dst v) w → wpAnyK P md ops Q k S (fuel + 1) listed a w := by
  intro fuel
  induction fuel with
  | zero =>
    intro listed a w _ hr hy hS H
    refine ⟨fun h => (by rw [h] at hr; cases hr), fun j hj => ?_⟩
    by_cases hji : j = i
    · subst hji; exact hy.wpOp hi trivial ⟨fun h => hS (by rw [Go.getD_set_ne true hki] at h; exact h), H⟩
    · have := ready_mono hj hji
      rw [H.1] at this
      cases this
  | succ fuel ih =>
    intro listed a w hfree hr hy hS H
    refine ⟨fun h => (by rw [h] at hr; cases hr), fun j hj => ?_⟩
    by_cases hji : j = i
    · subst hji; exact hy.wpOp hi trivial ⟨fun h => hS (by rw [Go.getD_set_ne true hki] at h; exact h), H⟩
    · have h1 := H.2 j (ready_mono hj hji)
      obtain ⟨hjun, oj, hoj, hall⟩ := mem_ready.1 hj
      have hun := (mem_ready.1 hr).1
      have hnot : ∀ e ∈ oj.after, Region.binds md e = true → e.on ≠ i := fun e he hb heq => by
        have h1 := hall e he hb
        rw [heq, getD_both hun] at h1
        cases h1
      have h2 := wpOp_putIf hoj (hfree j oj hoj hji hjun hnot) (fun cs b => hsel i oi cs b hi) (fun cs b => hsel j oj cs b hoj) hQ hy h1
      have hfree' : ∀ k ok, ops[k]? = some ok → k ≠ i → (listed.setIfInBounds j true).getD k true = false →
          (∀ e ∈ ok.after, Region.binds md e = true → e.on ≠ i) → oi.apart ops ok = true := fun k ok hk hki hun hno => by
        refine hfree k ok hk hki ?_ hno
        by_cases hjk : j = k
        · subst hjk; exact hjun
        · rw [Go.getD_set_ne true hjk] at hun; exact hun
      refine wpOp_mono (fun a' w' h3 => ?_) h2
      have hS' : (listed.setIfInBounds j true).getD k true = false → S w' := fun h => h3.2.1 (by rw [Array.setIfInBounds_comm _ _ (Ne.symm hji), Go.getD_set_ne true hki]; exact h)
      refine ⟨hS', ih (listed.setIfInBounds j true) a' w' hfree' (ready_mono hr (Ne.symm hji)) h3.1 hS' ?_⟩
      rw [Array.setIfInBounds_comm _ _ hji]
      exact h3.2.2

theorem op_at {i : Nat} {oi : Oper} {rest : List Oper} (h : ops.toList.drop i = oi :: rest) : ops[i]? = some oi := by
  have h1 := List.head?_drop (l := ops.toList) (i := i)
  rw [h, List.head?_cons, Array.getElem?_toList] at h1
  exact h1.symm
/-- What yields in whatever world may be taken first. -/
theorem wpAnyK_take0 (i : Nat) {oi : Oper} {rest : List Oper} {v : Value} {fuel : Nat} {listed : Array Bool} {a : Act} {w : World} (hi0 : ops.toList.drop i = oi :: rest)
    (hB : (Region.noSelect ops && Region.free md ops listed i && (Region.ready md ops listed).contains i && !(i == k)) = true)
    (hQ : ∀ c a w, Q (.panic c) (a.put oi.dst v) w → Q (.panic c) a w) (hy : YieldsIf P ops (fun _ => True) oi v a) (hS : listed.getD k true = false → S w)
    (h : wpAnyK P md ops Q k S fuel (listed.setIfInBounds i true) (a.put oi.dst v) w) : wpAnyK P md ops Q k S (fuel + 1) listed a w := by
  simp only [Bool.and_eq_true] at hB
  obtain ⟨⟨⟨h1, h2⟩, h3⟩, h5⟩ := hB
  have hi := op_at hi0
  exact wpAnyK_first0 hi (Region.noSelect_spec h1) hQ (by simpa using h5) fuel listed a w (Region.free_spec hi h2) (by simpa using h3) hy hS h
/-- What yields in every world that meets S, if number k waits for it. -/
theorem wpAnyK_take (i : Nat) {oi : Oper} {rest : List Oper} {v : Value} {fuel : Nat} {listed : Array Bool} {a : Act} {w : World} (ps : List Nat) (hi0 : ops.toList.drop i = oi :: rest)
    (hB : (Region.noSelect ops && Region.free md ops listed i && (Region.ready md ops listed).contains i && pathB md ops (i :: ps) && ps.contains k && closedB md ops listed) = true)
    (hQ : ∀ c a w, Q (.panic c) (a.put oi.dst v) w → Q (.panic c) a w) (hy : YieldsIf P ops S oi v a) (hS : S w)
    (h : wpAnyK P md ops Q k S fuel (listed.setIfInBounds i true) (a.put oi.dst v) w) : wpAnyK P md ops Q k S (fuel + 1) listed a w := by
  simp only [Bool.and_eq_true] at hB
  obtain ⟨⟨⟨⟨⟨h1, h2⟩, h3⟩, h4⟩, h5⟩, h6⟩ := hB
  have hi := op_at hi0
  exact wpAnyK_first hi (Region.noSelect_spec h1) hQ h4 (by simpa using h5) fuel listed a w (closedB_spec h6) (Region.free_spec hi h2) (by simpa using h3) hy hS h

theorem wpAnyK_step (i : Nat) {o : Oper} {rest : List Oper} {fuel : Nat} {listed : Array Bool} {a : Act} {w : World} (ho : ops.toList.drop i = o :: rest) (hr : Region.ready md ops listed = [i])
    (h : ∀ K' : Act → World → Prop, Shut (∀ a w, ((listed.setIfInBounds i true).getD k true = false → S w) → wpAnyK P md ops Q k S fuel (listed.setIfInBounds i true) a w → K' a w) → if Region.wanted o (yielded ops a.tmps) = true then Oper.wp P o a w K' Q else K' (a.put o.dst undef) w) :
    wpAnyK P md ops Q k S (fuel + 1) listed a w := by
  refine ⟨fun h0 => (by rw [hr] at h0; cases h0), fun j hj => ?_⟩
  rw [hr] at hj
  obtain rfl : j = i := by simpa using hj
  exact wpOp_step (op_at ho) (fun K' hK => h K' (fun a w hS hW => hK a w ⟨hS, hW⟩))

theorem wpAnyK_done {listed : Array Bool} {a : Act} {w : World} (hr : Region.ready md ops listed = []) (h : Q .normal a w) : ∀ fuel, wpAnyK P md ops Q k S fuel listed a w
  | 0 => ⟨hr, h⟩
  | _ + 1 => ⟨fun _ => h, by rw [hr]; simp⟩

theorem wp_region_K {id : Nat} {a : Act} {w : World} (k : Nat) (S : World → Prop) (hm : P.follows .mixedOrders = true)
    (h : wpAnyK P .any ops Q k S ops.size (Array.replicate ops.size false) a w.drew) : (Code.region id ops true).wp P Q a w :=
  wp_region_any hm (wpAny_of_K _ _ _ _ h)
end

end Go.Proofs.YtmngdaolgdhgmaaGreatDoor

namespace Go.Proofs.YtmngdaolgdhgmaaGreatDoor
open Go.RowKit

/-- The search's block. -/
def St (w : World) (b : Nat) (m l x d y : Value) : Prop := Cl w b [m, l, x, d, y]
theorem St.c0 {w : World} {b : Nat} {m l x d y : Value} (h : St w b m l x d y) : w.cell? ⟨b, 0, none⟩ = some m := Cl.cell h 0 (by simp)
theorem St.c1 {w : World} {b : Nat} {m l x d y : Value} (h : St w b m l x d y) : w.cell? ⟨b, 1, none⟩ = some l := Cl.cell h 1 (by simp)
theorem St.c2 {w : World} {b : Nat} {m l x d y : Value} (h : St w b m l x d y) : w.cell? ⟨b, 2, none⟩ = some x := Cl.cell h 2 (by simp)
theorem St.c3 {w : World} {b : Nat} {m l x d y : Value} (h : St w b m l x d y) : w.cell? ⟨b, 3, none⟩ = some d := Cl.cell h 3 (by simp)
theorem St.c4 {w : World} {b : Nat} {m l x d y : Value} (h : St w b m l x d y) : w.cell? ⟨b, 4, none⟩ = some y := Cl.cell h 4 (by simp)
theorem St.set1 {w : World} {b : Nat} {m l x d y : Value} (h : St w b m l x d y) (v : Value) : St (w.setCell ⟨b, 1, none⟩ v) b m v x d y := Cl.set h 1 v
theorem St.set2 {w : World} {b : Nat} {m l x d y : Value} (h : St w b m l x d y) (v : Value) : St (w.setCell ⟨b, 2, none⟩ v) b m l v d y := Cl.set h 2 v
theorem St.set3 {w : World} {b : Nat} {m l x d y : Value} (h : St w b m l x d y) (v : Value) : St (w.setCell ⟨b, 3, none⟩ v) b m l x v y := Cl.set h 3 v
theorem St.set4 {w : World} {b : Nat} {m l x d y : Value} (h : St w b m l x d y) (v : Value) : St (w.setCell ⟨b, 4, none⟩ v) b m l x d v := Cl.set h 4 v
theorem St.drewN {w : World} {b : Nat} {m l x d y : Value} (h : St w b m l x d y) (q : Nat) : St (w.drewN q) b m l x d y := h
theorem St.below {w w' : World} {b n : Nat} {m l x d y : Value} (h : St w b m l x d y) (hb : Below n w w') (hn : b < n) : St w' b m l x d y := Cl.below h hb hn

/-- A value that is a slice. -/
def Sl (v : Value) : Prop := ∃ a n c, v = .slice a n c

theorem done_v (b : Nat) (m l x d y : Value) (L : Nat) (w : World) (hs : St w b m l x d y) (hl : Nu w l L) :
    Calls Tryz.prog 113 #[.pointer (some ⟨b, 0, none⟩)] w fun e w' => e = .returned (.bool (decide (L = 0))) ∧ w' = w := by
  have C := vbits l L _ w hl (by decide)
  have h1 := hs.c1
  have hb : (((bl L : Nat) : Int) == 0) = decide (L = 0) := by
    by_cases h : L = 0
    · subst h; rfl
    · have := bl_pos L h
      rw [decide_eq_false h, beq_eq_false_iff_ne]
      omega
  generalize bl L = n at C hb
  generalize decide (L = 0) = o at hb
  clear hs hl
  go_enter Tryz.func113, Tryz.ntmps113
  go_wp2_with fail
  refine C.mono ?_
  rintro e w1 ⟨rfl, rfl⟩
  clear C
  go_wp2
  go_ret
  exact ⟨rfl, rfl⟩

set_option maxHeartbeats 2000000 in
theorem swap_v (b : Nat) (m l x d y : Value) (w : World) (hs : St w b m l x d y) (sl : Sl l) (sx : Sl x) (sd : Sl d) (sy : Sl y) :
    Calls Tryz.prog 135 #[.pointer (some ⟨b, 0, none⟩)] w fun e w' => e = .returned (.tuple #[]) ∧ St w' b m d y l x ∧ But w w' b ∧ w'.heap.size = w.heap.size := by
  obtain ⟨l0, l1, l2, rfl⟩ := sl
  obtain ⟨x0, x1, x2, rfl⟩ := sx
  obtain ⟨d0, d1, d2, rfl⟩ := sd
  obtain ⟨y0, y1, y2, rfl⟩ := sy
  have h1 := hs.c1
  have h2 := hs.c2
  have h3 := hs.c3
  have h4 := hs.c4
  have f1 := Cl.frozen hs 1
  have f2 := Cl.frozen hs 2
  have f3 := Cl.frozen hs 3
  have f4 := Cl.frozen hs 4
  have HS : Hid (St w b m (.slice l0 l1 l2) (.slice x0 x1 x2) (.slice d0 d1 d2) (.slice y0 y1 y2)) := hs
  clear hs
  go_enter Tryz.func135, Tryz.ntmps135
  go_wp2
  go_region
  go_wp2
  go_region
  go_wp2
  go_end0
  exact ⟨rfl, (((HS.out.set1 _).set3 _).set2 _).set4 _, ((((((But.refl w b).set _ _).set _ _).set _ _).set _ _).drewN 2), by simp⟩

end Go.Proofs.YtmngdaolgdhgmaaGreatDoor

namespace Go.Proofs.YtmngdaolgdhgmaaGreatDoor
open Go.RowKit

theorem St.but {w w' : World} {b : Nat} {m l x d y : Value} (h : St w b m l x d y) (hb : Below w.heap.size w w') : St w' b m l x d y := St.below h hb (Cl.lt h)

/-- A number in a row of the call's own, which is not the search's block. -/
def Rw (w : World) (base b : Nat) (v : Value) (V : Nat) : Prop := Ow w base v (dg Bs V) ∧ (dg Bs V).length ≤ 3000000 ∧ ∀ g n c, v = .slice (some ⟨g, 0, none⟩) n c → g ≠ b
theorem Rw.nu {w : World} {base b : Nat} {v : Value} {V : Nat} (h : Rw w base b v V) : Nu w v V := h.1.vl h.2.1
theorem Rw.below {w w' : World} {base b n : Nat} {v : Value} {V : Nat} (h : Rw w base b v V) (hb : Below n w w') (hn : w.heap.size ≤ n) : Rw w' base b v V := ⟨h.1.below hb hn, h.2⟩
theorem Rw.drewN {w : World} {base b : Nat} {v : Value} {V : Nat} (h : Rw w base b v V) (q : Nat) : Rw (w.drewN q) base b v V := h
theorem Rw.but {w w' : World} {base b : Nat} {v : Value} {V : Nat} (h : Rw w base b v V) (hb : But w w' b) : Rw w' base b v V := by
  refine ⟨⟨h.1.1, ?_⟩, h.2⟩
  rcases h.1.2 with h1 | ⟨g, cap, cur, e, hg, hh, hr⟩
  · exact .inl h1
  · exact .inr ⟨g, cap, cur, e, hg, by rw [hb.block g (Array.getElem?_eq_some_iff.1 hh).1 (h.2.2 g _ _ e)]; exact hh, hr⟩
theorem Rw.of {w w' : World} {base b : Nat} {v : Value} {V : Nat} (h : Re w w' v V) (hbase : base ≤ w.heap.size) (hb : b < w.heap.size) : Rw w' base b v V := by
  refine ⟨h.1.base hbase, h.2.1, fun g n c e => ?_⟩
  rcases h.1.2 with ⟨h1, _⟩ | ⟨g', cap, cur, e', hg, _⟩
  · rw [h1] at e; cases e
  · rw [e'] at e; cases e; omega
theorem Rw.sl {w : World} {base b : Nat} {v : Value} {V : Nat} (h : Rw w base b v V) : Sl v := h.nu.shape

/-- The search's state: the numbers m, left, leftFactor, divisor, factor. -/
def Sch (w : World) (base b M L X D Y : Nat) : Prop := ∃ m l x d y, St w b m l x d y ∧ Rw w base b m M ∧ Rw w base b l L ∧ Rw w base b x X ∧ Rw w base b d D ∧ Rw w base b y Y

theorem sdone (base b M L X D Y : Nat) (w : World) (h : Sch w base b M L X D Y) :
    Calls Tryz.prog 113 #[.pointer (some ⟨b, 0, none⟩)] w fun e w' => e = .returned (.bool (decide (L = 0))) ∧ w' = w := by
  obtain ⟨m, l, x, d, y, hs, hm, hl, hx, hd, hy⟩ := h
  exact done_v b m l x d y L w hs hl.nu
end Go.Proofs.YtmngdaolgdhgmaaGreatDoor

namespace Go.Proofs.YtmngdaolgdhgmaaGreatDoor
open Go.RowKit

set_option maxHeartbeats 4000000 in
theorem halve_even (base b M L X D Y : Nat) (w : World) (h : Sch w base b M L X D Y) (hbase : base ≤ w.heap.size) (h1 : L % 2 = 0) (h2 : X < M) :
    Calls Tryz.prog 114 #[.pointer (some ⟨b, 0, none⟩)] w fun e w' => e = .returned (.tuple #[]) ∧ Sch w' base b M (L / 2) (halfV M X) D Y ∧ But w w' b := by
  obtain ⟨m, l, x, d, y, hs, hm, hl, hx, hd, hy⟩ := h
  have C := bit0_v l L _ w hl.nu
  rw [decide_eq_false (by omega)] at C
  have HS : Hid (St w b m l x d y) := hs
  have HR : Hid (Rw w base b m M ∧ Rw w base b l L ∧ Rw w base b x X ∧ Rw w base b d D ∧ Rw w base b y Y) := ⟨hm, hl, hx, hd, hy⟩
  have g1 := hs.c1
  have Hba : Hid (base ≤ w.heap.size) := hbase
  clear hs hm hl hx hd hy h1 hbase
  go_enter Tryz.func114, Tryz.ntmps114
  go_wp2_with fail
  refine C.mono ?_
  rintro e w0 ⟨rfl, rfl⟩
  clear C
  go_wp2_with fail
  clear g1
  refine wp_region_K 18 (fun (w' : World) => w'.cell? ⟨b, 0, none⟩ = some m ∧ w'.cell? ⟨b, 1, none⟩ = some l ∧ w'.cell? ⟨b, 2, none⟩ = some x) (by kernel_rfl) ?_
  have hHeld : ((fun (w' : World) => w'.cell? ⟨b, 0, none⟩ = some m ∧ w'.cell? ⟨b, 1, none⟩ = some l ∧ w'.cell? ⟨b, 2, none⟩ = some x)) (World.drew _) := ⟨HS.out.c0, HS.out.c1, HS.out.c2⟩
  refine wpAnyK_take0 0 (v := ?v1) rfl (by kernel_rfl) (fun _ _ _ h => h) (Or.inl ⟨by rfl, ?hy1⟩) (fun _ => hHeld) ?_
  case hy1 => (intro w hSw; go_simp; try with_reducible rfl)
  try simp only [Act.put, List.setIfInBounds_toArray, List.set_cons_zero, List.set_cons_succ]
  refine wpAnyK_take0 1 (v := ?v2) rfl (by kernel_rfl) (fun _ _ _ h => h) (Or.inl ⟨by rfl, ?hy2⟩) (fun _ => hHeld) ?_
  case hy2 => (intro w hSw; go_simp; try with_reducible rfl)
  try simp only [Act.put, List.setIfInBounds_toArray, List.set_cons_zero, List.set_cons_succ]
  refine wpAnyK_take0 2 (v := ?v3) rfl (by kernel_rfl) (fun _ _ _ h => h) (Or.inl ⟨by rfl, ?hy3⟩) (fun _ => hHeld) ?_
  case hy3 => (intro w hSw; go_simp; try with_reducible rfl)
  try simp only [Act.put, List.setIfInBounds_toArray, List.set_cons_zero, List.set_cons_succ]
  refine wpAnyK_take0 3 (v := ?v4) rfl (by kernel_rfl) (fun _ _ _ h => h) (Or.inl ⟨by rfl, ?hy4⟩) (fun _ => hHeld) ?_
  case hy4 => (intro w hSw; go_simp; try with_reducible rfl)
  try simp only [Act.put, List.setIfInBounds_toArray, List.set_cons_zero, List.set_cons_succ]
  refine wpAnyK_take0 4 (v := ?v5) rfl (by kernel_rfl) (fun _ _ _ h => h) (Or.inl ⟨by rfl, ?hy5⟩) (fun _ => hHeld) ?_
  case hy5 => (intro w hSw; go_simp; try with_reducible rfl)
  try simp only [Act.put, List.setIfInBounds_toArray, List.set_cons_zero, List.set_cons_succ]
  refine wpAnyK_take 5 [6, 18] (v := ?v6) rfl (by kernel_rfl) (fun _ _ _ h => h) (Or.inl ⟨by rfl, ?hy6⟩) hHeld ?_
  case hy6 => (intro w hSw; (try dsimp only at hSw); go_simp; try with_reducible rfl)
  try simp only [Act.put, List.setIfInBounds_toArray, List.set_cons_zero, List.set_cons_succ]
  refine wpAnyK_take0 7 (v := ?v7) rfl (by kernel_rfl) (fun _ _ _ h => h) (Or.inl ⟨by rfl, ?hy7⟩) (fun _ => hHeld) ?_
  case hy7 => (intro w hSw; go_simp; try with_reducible rfl)
  try simp only [Act.put, List.setIfInBounds_toArray, List.set_cons_zero, List.set_cons_succ]
  refine wpAnyK_take0 8 (v := ?v8) rfl (by kernel_rfl) (fun _ _ _ h => h) (Or.inl ⟨by rfl, ?hy8⟩) (fun _ => hHeld) ?_
  case hy8 => (intro w hSw; go_simp; try with_reducible rfl)
  try simp only [Act.put, List.setIfInBounds_toArray, List.set_cons_zero, List.set_cons_succ]
  refine wpAnyK_take0 9 (v := ?v9) rfl (by kernel_rfl) (fun _ _ _ h => h) (Or.inl ⟨by rfl, ?hy9⟩) (fun _ => hHeld) ?_
  case hy9 => (intro w hSw; go_simp; try with_reducible rfl)
  try simp only [Act.put, List.setIfInBounds_toArray, List.set_cons_zero, List.set_cons_succ]
  refine wpAnyK_take 10 [15, 18] (v := ?v10) rfl (by kernel_rfl) (fun _ _ _ h => h) (Or.inl ⟨by rfl, ?hy10⟩) hHeld ?_
  case hy10 => (intro w hSw; (try dsimp only at hSw); go_simp; try with_reducible rfl)
  try simp only [Act.put, List.setIfInBounds_toArray, List.set_cons_zero, List.set_cons_succ]
  refine wpAnyK_take0 11 (v := ?v11) rfl (by kernel_rfl) (fun _ _ _ h => h) (Or.inl ⟨by rfl, ?hy11⟩) (fun _ => hHeld) ?_
  case hy11 => (intro w hSw; go_simp; try with_reducible rfl)
  try simp only [Act.put, List.setIfInBounds_toArray, List.set_cons_zero, List.set_cons_succ]
  refine wpAnyK_take0 12 (v := ?v12) rfl (by kernel_rfl) (fun _ _ _ h => h) (Or.inl ⟨by rfl, ?hy12⟩) (fun _ => hHeld) ?_
  case hy12 => (intro w hSw; go_simp; try with_reducible rfl)
  try simp only [Act.put, List.setIfInBounds_toArray, List.set_cons_zero, List.set_cons_succ]
  refine wpAnyK_take0 13 (v := ?v13) rfl (by kernel_rfl) (fun _ _ _ h => h) (Or.inl ⟨by rfl, ?hy13⟩) (fun _ => hHeld) ?_
  case hy13 => (intro w hSw; go_simp; try with_reducible rfl)
  try simp only [Act.put, List.setIfInBounds_toArray, List.set_cons_zero, List.set_cons_succ]
  refine wpAnyK_take 14 [15, 18] (v := ?v14) rfl (by kernel_rfl) (fun _ _ _ h => h) (Or.inl ⟨by rfl, ?hy14⟩) hHeld ?_
  case hy14 => (intro w hSw; (try dsimp only at hSw); go_simp; try with_reducible rfl)
  try simp only [Act.put, List.setIfInBounds_toArray, List.set_cons_zero, List.set_cons_succ]
  refine wpAnyK_step 6 rfl (by kernel_rfl) (fun K hK => ?_)
  go_simp
  refine (shr1_v l L _ _ (HR.out.2.1.nu.drewN 1) (by decide) (dgl_le _ _ _ (Nat.div_le_self _ _) HR.out.2.1.2.1)).mono ?_
  rintro e w1 ⟨l', rfl, hn⟩
  have H1 : Hid (Re w0 w1 l' (L / 2)) := ⟨hn.1, hn.2.1, (below_drewN (Below.refl _ _) 1).trans (hn.2.2.mono (Nat.le_refl _))⟩
  have HS1 : Hid (St w1 b m l x d y) := HS.out.but H1.out.bel
  clear hn
  dsimp only
  refine (fun hHeld => hK.out _ _ (fun _ => hHeld) ?_) ⟨HS1.out.c0, HS1.out.c1, HS1.out.c2⟩
  clear hK K
  try simp only [Act.put, List.setIfInBounds_toArray, List.set_cons_zero, List.set_cons_succ]
  refine wpAnyK_step 15 rfl (by kernel_rfl) (fun K hK => ?_)
  go_simp
  refine (half_v x m X M _ (HR.out.2.2.1.nu.below H1.out.bel (Nat.le_refl _)) (HR.out.1.nu.below H1.out.bel (Nat.le_refl _)) h2).mono ?_
  rintro e w2 ⟨x', rfl, hn⟩
  have H2 : Hid (Re w0 w2 l' (L / 2)) := H1.out.keep hn.bel
  have H3 : Hid (Re w0 w2 x' (halfV M X)) := Re.later H1.out.bel hn
  have HS2 : Hid (St w2 b m l x d y) := HS1.out.but hn.bel
  clear hn
  dsimp only
  refine (fun hHeld => hK.out _ _ (fun _ => hHeld) ?_) ⟨HS2.out.c0, HS2.out.c1, HS2.out.c2⟩
  clear hK K
  try simp only [Act.put, List.setIfInBounds_toArray, List.set_cons_zero, List.set_cons_succ]
  refine wpAnyK_take0 16 (v := ?v17) rfl (by kernel_rfl) (fun _ _ _ h => h) (Or.inl ⟨by rfl, ?hy17⟩) (fun _ => hHeld) ?_
  case hy17 => (intro w hSw; go_simp; try with_reducible rfl)
  try simp only [Act.put, List.setIfInBounds_toArray, List.set_cons_zero, List.set_cons_succ]
  refine wpAnyK_take0 17 (v := ?v18) rfl (by kernel_rfl) (fun _ _ _ h => h) (Or.inl ⟨by rfl, ?hy18⟩) (fun _ => hHeld) ?_
  case hy18 => (intro w hSw; go_simp; try with_reducible rfl)
  try simp only [Act.put, List.setIfInBounds_toArray, List.set_cons_zero, List.set_cons_succ]
  obtain ⟨l0, l1, l2, rfl⟩ := H2.out.nu.shape
  obtain ⟨x0, x1, x2, rfl⟩ := H3.out.nu.shape
  have g1 := HS2.out.c1
  have g2 := HS2.out.c2
  have f1 := Cl.frozen HS2.out 1
  have f2 := Cl.frozen HS2.out 2
  refine wpAnyK_step 18 rfl (by kernel_rfl) (fun K hK => ?_)
  go_simp
  refine hK.out _ _ ?hk20 ?_
  case hk20 => exact (fun h => nomatch (h.symm.trans (show _ = true by kernel_rfl)))
  clear hK K
  try simp only [Act.put, List.setIfInBounds_toArray, List.set_cons_zero, List.set_cons_succ]
  refine wpAnyK_take0 19 (v := ?v21) rfl (by kernel_rfl) (fun _ _ _ h => h) (Or.inl ⟨by rfl, ?hy21⟩) (fun h => nomatch (h.symm.trans (show _ = true by kernel_rfl))) ?_
  case hy21 => (intro w hSw; go_simp; try with_reducible rfl)
  try simp only [Act.put, List.setIfInBounds_toArray, List.set_cons_zero, List.set_cons_succ]
  refine wpAnyK_take0 20 (v := ?v22) rfl (by kernel_rfl) (fun _ _ _ h => h) (Or.inl ⟨by rfl, ?hy22⟩) (fun h => nomatch (h.symm.trans (show _ = true by kernel_rfl))) ?_
  case hy22 => (intro w hSw; go_simp; try with_reducible rfl)
  try simp only [Act.put, List.setIfInBounds_toArray, List.set_cons_zero, List.set_cons_succ]
  refine wpAnyK_step 21 rfl (by kernel_rfl) (fun K hK => ?_)
  go_simp
  refine hK.out _ _ ?hk23 ?_
  case hk23 => exact (fun h => nomatch (h.symm.trans (show _ = true by kernel_rfl)))
  clear hK K
  try simp only [Act.put, List.setIfInBounds_toArray, List.set_cons_zero, List.set_cons_succ]
  refine wpAnyK_done (by kernel_rfl) ?_ _
  go_wp2
  (try simp only [Exit.inBlock, Exit.then])
  refine bodyPost_ret (results_none rfl _ _ _) rfl ?_
  have hb := ((But.refl w2 b).set 1 (.slice l0 l1 l2)).set 2 (.slice x0 x1 x2)
  have hlt := Cl.lt HS.out
  have hbel := H2.out.bel
  obtain ⟨r1, r2, r3, r4, r5⟩ := HR.out
  exact ⟨rfl, ⟨m, _, _, d, y, (HS2.out.set1 _).set2 _, (r1.below hbel (Nat.le_refl _)).but hb, (Rw.of H2.out Hba.out hlt).but hb, (Rw.of H3.out Hba.out hlt).but hb, (r4.below hbel (Nat.le_refl _)).but hb, (r5.below hbel (Nat.le_refl _)).but hb⟩, (But.of_below hbel).trans hb⟩

set_option maxHeartbeats 4000000 in
theorem halve_ge (base b M L X D Y : Nat) (w : World) (h : Sch w base b M L X D Y) (hbase : base ≤ w.heap.size) (h1 : L % 2 = 1) (h2 : X < M) (h3 : Y < M) (h4 : D ≤ L) :
    Calls Tryz.prog 114 #[.pointer (some ⟨b, 0, none⟩)] w fun e w' => e = .returned (.tuple #[]) ∧ Sch w' base b M (L - D) (lessV M X Y) D Y ∧ But w w' b := by
  obtain ⟨m, l, x, d, y, hs, hm, hl, hx, hd, hy⟩ := h
  have C := bit0_v l L _ w hl.nu
  rw [decide_eq_true h1] at C
  have HS : Hid (St w b m l x d y) := hs
  have HR : Hid (Rw w base b m M ∧ Rw w base b l L ∧ Rw w base b x X ∧ Rw w base b d D ∧ Rw w base b y Y) := ⟨hm, hl, hx, hd, hy⟩
  have g1 := hs.c1
  have Hba : Hid (base ≤ w.heap.size) := hbase
  clear hs hm hl hx hd hy h1 hbase
  go_enter Tryz.func114, Tryz.ntmps114
  go_wp2_with fail
  refine C.mono ?_
  rintro e w0 ⟨rfl, rfl⟩
  clear C
  go_wp2_with fail
  clear g1
  obtain ⟨oo, Hoo, hoo⟩ : ∃ oo : Int, Hid (cmp3 (L : Int) (D : Int) = oo) ∧ decide (oo < 0) = false := by
    rcases Nat.lt_or_ge D L with h | h
    · exact ⟨1, cmp3_gt (by omega), rfl⟩
    · exact ⟨0, cmp3_eq (by omega), rfl⟩
  clear h4
  refine wp_region_K 8 (fun (w' : World) => w'.cell? ⟨b, 1, none⟩ = some l ∧ w'.cell? ⟨b, 3, none⟩ = some d) (by kernel_rfl) ?_
  have hHeld : ((fun (w' : World) => w'.cell? ⟨b, 1, none⟩ = some l ∧ w'.cell? ⟨b, 3, none⟩ = some d)) (World.drew _) := ⟨HS.out.c1, HS.out.c3⟩
  refine wpAnyK_take0 0 (v := ?v24) rfl (by kernel_rfl) (fun _ _ _ h => h) (Or.inl ⟨by rfl, ?hy24⟩) (fun _ => hHeld) ?_
  case hy24 => (intro w hSw; go_simp; try with_reducible rfl)
  try simp only [Act.put, List.setIfInBounds_toArray, List.set_cons_zero, List.set_cons_succ]
  refine wpAnyK_take0 1 (v := ?v25) rfl (by kernel_rfl) (fun _ _ _ h => h) (Or.inl ⟨by rfl, ?hy25⟩) (fun _ => hHeld) ?_
  case hy25 => (intro w hSw; go_simp; try with_reducible rfl)
  try simp only [Act.put, List.setIfInBounds_toArray, List.set_cons_zero, List.set_cons_succ]
  refine wpAnyK_take0 2 (v := ?v26) rfl (by kernel_rfl) (fun _ _ _ h => h) (Or.inl ⟨by rfl, ?hy26⟩) (fun _ => hHeld) ?_
  case hy26 => (intro w hSw; go_simp; try with_reducible rfl)
  try simp only [Act.put, List.setIfInBounds_toArray, List.set_cons_zero, List.set_cons_succ]
  refine wpAnyK_take 3 [8] (v := ?v27) rfl (by kernel_rfl) (fun _ _ _ h => h) (Or.inl ⟨by rfl, ?hy27⟩) hHeld ?_
  case hy27 => (intro w hSw; (try dsimp only at hSw); go_simp; try with_reducible rfl)
  try simp only [Act.put, List.setIfInBounds_toArray, List.set_cons_zero, List.set_cons_succ]
  refine wpAnyK_take0 4 (v := ?v28) rfl (by kernel_rfl) (fun _ _ _ h => h) (Or.inl ⟨by rfl, ?hy28⟩) (fun _ => hHeld) ?_
  case hy28 => (intro w hSw; go_simp; try with_reducible rfl)
  try simp only [Act.put, List.setIfInBounds_toArray, List.set_cons_zero, List.set_cons_succ]
  refine wpAnyK_take0 5 (v := ?v29) rfl (by kernel_rfl) (fun _ _ _ h => h) (Or.inl ⟨by rfl, ?hy29⟩) (fun _ => hHeld) ?_
  case hy29 => (intro w hSw; go_simp; try with_reducible rfl)
  try simp only [Act.put, List.setIfInBounds_toArray, List.set_cons_zero, List.set_cons_succ]
  refine wpAnyK_take0 6 (v := ?v30) rfl (by kernel_rfl) (fun _ _ _ h => h) (Or.inl ⟨by rfl, ?hy30⟩) (fun _ => hHeld) ?_
  case hy30 => (intro w hSw; go_simp; try with_reducible rfl)
  try simp only [Act.put, List.setIfInBounds_toArray, List.set_cons_zero, List.set_cons_succ]
  refine wpAnyK_take 7 [8] (v := ?v31) rfl (by kernel_rfl) (fun _ _ _ h => h) (Or.inl ⟨by rfl, ?hy31⟩) hHeld ?_
  case hy31 => (intro w hSw; (try dsimp only at hSw); go_simp; try with_reducible rfl)
  try simp only [Act.put, List.setIfInBounds_toArray, List.set_cons_zero, List.set_cons_succ]
  refine wpAnyK_step 8 rfl (by kernel_rfl) (fun K hK => ?_)
  go_simp
  have C := vcmp l d _ _ _ _ w0.drew (HR.out.2.1.nu.drewN 1) (HR.out.2.2.2.1.nu.drewN 1) (by decide) (by decide)
  rw [Hoo.out] at C
  refine C.mono ?_
  rintro e w1 ⟨rfl, q, hq⟩
  have HB1 : Hid (Below w0.heap.size w0 w1) := by rw [hq]; exact below_drewN (below_drewN (Below.refl _ _) 1) q
  have HS1 : Hid (St w1 b m l x d y) := HS.out.but HB1.out
  clear hq C
  dsimp only
  refine (fun hHeld => hK.out _ _ (fun _ => hHeld) ?_) ⟨HS1.out.c1, HS1.out.c3⟩
  clear hK K
  try simp only [Act.put, List.setIfInBounds_toArray, List.set_cons_zero, List.set_cons_succ]
  refine wpAnyK_take0 9 (v := ?v33) rfl (by kernel_rfl) (fun _ _ _ h => h) (Or.inl ⟨by rfl, ?hy33⟩) (fun _ => hHeld) ?_
  case hy33 => (intro w hSw; go_simp; try with_reducible rfl)
  try simp only [Act.put, List.setIfInBounds_toArray, List.set_cons_zero, List.set_cons_succ]
  refine wpAnyK_done (by kernel_rfl) ?_ _
  clear hHeld
  go_wp2_with fail
  have HS2 : Hid (St w1 b m l x d y) := HS1.out
  have HB2 : Hid (But w0 w1 b) := But.of_below HB1.out
  refine wp_region_K 15 (fun (w' : World) => w'.cell? ⟨b, 1, none⟩ = some l ∧ w'.cell? ⟨b, 3, none⟩ = some d) (by kernel_rfl) ?_
  have hHeld : ((fun (w' : World) => w'.cell? ⟨b, 1, none⟩ = some l ∧ w'.cell? ⟨b, 3, none⟩ = some d)) (World.drew _) := ⟨HS2.out.c1, HS2.out.c3⟩
  refine wpAnyK_take0 0 (v := ?v34) rfl (by kernel_rfl) (fun _ _ _ h => h) (Or.inl ⟨by rfl, ?hy34⟩) (fun _ => hHeld) ?_
  case hy34 => (intro w hSw; go_simp; try with_reducible rfl)
  try simp only [Act.put, List.setIfInBounds_toArray, List.set_cons_zero, List.set_cons_succ]
  refine wpAnyK_take0 1 (v := ?v35) rfl (by kernel_rfl) (fun _ _ _ h => h) (Or.inl ⟨by rfl, ?hy35⟩) (fun _ => hHeld) ?_
  case hy35 => (intro w hSw; go_simp; try with_reducible rfl)
  try simp only [Act.put, List.setIfInBounds_toArray, List.set_cons_zero, List.set_cons_succ]
  refine wpAnyK_take0 2 (v := ?v36) rfl (by kernel_rfl) (fun _ _ _ h => h) (Or.inl ⟨by rfl, ?hy36⟩) (fun _ => hHeld) ?_
  case hy36 => (intro w hSw; go_simp; try with_reducible rfl)
  try simp only [Act.put, List.setIfInBounds_toArray, List.set_cons_zero, List.set_cons_succ]
  refine wpAnyK_take0 3 (v := ?v37) rfl (by kernel_rfl) (fun _ _ _ h => h) (Or.inl ⟨by rfl, ?hy37⟩) (fun _ => hHeld) ?_
  case hy37 => (intro w hSw; go_simp; try with_reducible rfl)
  try simp only [Act.put, List.setIfInBounds_toArray, List.set_cons_zero, List.set_cons_succ]
  refine wpAnyK_take 4 [9, 10, 11, 15] (v := ?v38) rfl (by kernel_rfl) (fun _ _ _ h => h) (Or.inl ⟨by rfl, ?hy38⟩) hHeld ?_
  case hy38 => (intro w hSw; (try dsimp only at hSw); go_simp; try with_reducible rfl)
  try simp only [Act.put, List.setIfInBounds_toArray, List.set_cons_zero, List.set_cons_succ]
  refine wpAnyK_take0 5 (v := ?v39) rfl (by kernel_rfl) (fun _ _ _ h => h) (Or.inl ⟨by rfl, ?hy39⟩) (fun _ => hHeld) ?_
  case hy39 => (intro w hSw; go_simp; try with_reducible rfl)
  try simp only [Act.put, List.setIfInBounds_toArray, List.set_cons_zero, List.set_cons_succ]
  refine wpAnyK_take0 6 (v := ?v40) rfl (by kernel_rfl) (fun _ _ _ h => h) (Or.inl ⟨by rfl, ?hy40⟩) (fun _ => hHeld) ?_
  case hy40 => (intro w hSw; go_simp; try with_reducible rfl)
  try simp only [Act.put, List.setIfInBounds_toArray, List.set_cons_zero, List.set_cons_succ]
  refine wpAnyK_take0 7 (v := ?v41) rfl (by kernel_rfl) (fun _ _ _ h => h) (Or.inl ⟨by rfl, ?hy41⟩) (fun _ => hHeld) ?_
  case hy41 => (intro w hSw; go_simp; try with_reducible rfl)
  try simp only [Act.put, List.setIfInBounds_toArray, List.set_cons_zero, List.set_cons_succ]
  refine wpAnyK_take 8 [9, 10, 11, 15] (v := ?v42) rfl (by kernel_rfl) (fun _ _ _ h => h) (Or.inl ⟨by rfl, ?hy42⟩) hHeld ?_
  case hy42 => (intro w hSw; (try dsimp only at hSw); go_simp; try with_reducible rfl)
  try simp only [Act.put, List.setIfInBounds_toArray, List.set_cons_zero, List.set_cons_succ]
  refine wpAnyK_step 9 rfl (by kernel_rfl) (fun K hK => ?_)
  go_simp
  have C := vsub l d _ _ _ _ w1.drew (HR.out.2.1.but HB2.out).nu (HR.out.2.2.2.1.but HB2.out).nu (by decide) (by decide)
  refine C.mono ?_
  rintro e w3 ⟨r3, rfl, hn⟩
  have H3 : Hid (Re w1 w3 r3 (L - D)) := ⟨hn.1, hn.2.1, (below_drewN (Below.refl _ _) 1).trans (hn.2.2.mono (Nat.le_refl _))⟩
  have HS3 : Hid (St w3 b m l x d y) := HS2.out.but H3.out.bel
  clear hn C
  dsimp only
  refine (fun hHeld => hK.out _ _ (fun _ => hHeld) ?_) ⟨HS3.out.c1, HS3.out.c3⟩
  clear hK K
  try simp only [Act.put, List.setIfInBounds_toArray, List.set_cons_zero, List.set_cons_succ]
  refine wpAnyK_take0 10 (v := ?v44) rfl (by kernel_rfl) (fun _ _ _ h => h) (Or.inl ⟨by rfl, ?hy44⟩) (fun _ => hHeld) ?_
  case hy44 => (intro w hSw; go_simp; try with_reducible rfl)
  try simp only [Act.put, List.setIfInBounds_toArray, List.set_cons_zero, List.set_cons_succ]
  refine wpAnyK_take0 11 (v := ?v45) rfl (by kernel_rfl) (fun _ _ _ h => h) (Or.inl ⟨by rfl, ?hy45⟩) (fun _ => hHeld) ?_
  case hy45 => (intro w hSw; go_simp; try with_reducible rfl)
  try simp only [Act.put, List.setIfInBounds_toArray, List.set_cons_zero, List.set_cons_succ]
  refine wpAnyK_take0 12 (v := ?v46) rfl (by kernel_rfl) (fun _ _ _ h => h) (Or.inl ⟨by rfl, ?hy46⟩) (fun _ => hHeld) ?_
  case hy46 => (intro w hSw; go_simp; try with_reducible rfl)
  try simp only [Act.put, List.setIfInBounds_toArray, List.set_cons_zero, List.set_cons_succ]
  refine wpAnyK_take0 13 (v := ?v47) rfl (by kernel_rfl) (fun _ _ _ h => h) (Or.inl ⟨by rfl, ?hy47⟩) (fun _ => hHeld) ?_
  case hy47 => (intro w hSw; go_simp; try with_reducible rfl)
  try simp only [Act.put, List.setIfInBounds_toArray, List.set_cons_zero, List.set_cons_succ]
  refine wpAnyK_take0 14 (v := ?v48) rfl (by kernel_rfl) (fun _ _ _ h => h) (Or.inl ⟨by rfl, ?hy48⟩) (fun _ => hHeld) ?_
  case hy48 => (intro w hSw; go_simp; try with_reducible rfl)
  try simp only [Act.put, List.setIfInBounds_toArray, List.set_cons_zero, List.set_cons_succ]
  obtain ⟨l0, l1, l2, rfl⟩ := H3.out.nu.shape
  have g1 := HS3.out.c1
  have f1 := Cl.frozen HS3.out 1
  refine wpAnyK_step 15 rfl (by kernel_rfl) (fun K hK => ?_)
  go_simp
  refine hK.out _ _ ?hk50 ?_
  case hk50 => exact (fun h => nomatch (h.symm.trans (show _ = true by kernel_rfl)))
  clear hK K
  try simp only [Act.put, List.setIfInBounds_toArray, List.set_cons_zero, List.set_cons_succ]
  refine wpAnyK_done (by kernel_rfl) ?_ _
  have HS4 : Hid (St (w3.setCell ⟨b, 1, none⟩ (.slice l0 l1 l2)) b m (.slice l0 l1 l2) x d y) := HS3.out.set1 _
  have HB4 : Hid (But w0 (w3.setCell ⟨b, 1, none⟩ (.slice l0 l1 l2)) b) := HB2.out.trans ((But.of_below H3.out.bel).trans ((But.refl _ _).set _ _))
  have HR4 : Hid (Rw (w3.setCell ⟨b, 1, none⟩ (.slice l0 l1 l2)) base b (.slice l0 l1 l2) (L - D)) := (Rw.of H3.out (Nat.le_trans Hba.out HB2.out.size) (Cl.lt HS2.out)).but ((But.refl _ _).set _ _)
  clear H3 HS3 g1 f1 hHeld
  go_wp2_with fail
  generalize w3.setCell ⟨b, 1, none⟩ (.slice l0 l1 l2) = w4 at *
  refine wp_region_K 16 (fun (w' : World) => w'.cell? ⟨b, 0, none⟩ = some m ∧ w'.cell? ⟨b, 2, none⟩ = some x ∧ w'.cell? ⟨b, 4, none⟩ = some y) (by kernel_rfl) ?_
  have hHeld : ((fun (w' : World) => w'.cell? ⟨b, 0, none⟩ = some m ∧ w'.cell? ⟨b, 2, none⟩ = some x ∧ w'.cell? ⟨b, 4, none⟩ = some y)) (World.drew _) := ⟨HS4.out.c0, HS4.out.c2, HS4.out.c4⟩
  refine wpAnyK_take0 0 (v := ?v51) rfl (by kernel_rfl) (fun _ _ _ h => h) (Or.inl ⟨by rfl, ?hy51⟩) (fun _ => hHeld) ?_
  case hy51 => (intro w hSw; go_simp; try with_reducible rfl)
  try simp only [Act.put, List.setIfInBounds_toArray, List.set_cons_zero, List.set_cons_succ]
  refine wpAnyK_take0 1 (v := ?v52) rfl (by kernel_rfl) (fun _ _ _ h => h) (Or.inl ⟨by rfl, ?hy52⟩) (fun _ => hHeld) ?_
  case hy52 => (intro w hSw; go_simp; try with_reducible rfl)
  try simp only [Act.put, List.setIfInBounds_toArray, List.set_cons_zero, List.set_cons_succ]
  refine wpAnyK_take0 2 (v := ?v53) rfl (by kernel_rfl) (fun _ _ _ h => h) (Or.inl ⟨by rfl, ?hy53⟩) (fun _ => hHeld) ?_
  case hy53 => (intro w hSw; go_simp; try with_reducible rfl)
  try simp only [Act.put, List.setIfInBounds_toArray, List.set_cons_zero, List.set_cons_succ]
  refine wpAnyK_take0 3 (v := ?v54) rfl (by kernel_rfl) (fun _ _ _ h => h) (Or.inl ⟨by rfl, ?hy54⟩) (fun _ => hHeld) ?_
  case hy54 => (intro w hSw; go_simp; try with_reducible rfl)
  try simp only [Act.put, List.setIfInBounds_toArray, List.set_cons_zero, List.set_cons_succ]
  refine wpAnyK_take 4 [13, 16] (v := ?v55) rfl (by kernel_rfl) (fun _ _ _ h => h) (Or.inl ⟨by rfl, ?hy55⟩) hHeld ?_
  case hy55 => (intro w hSw; (try dsimp only at hSw); go_simp; try with_reducible rfl)
  try simp only [Act.put, List.setIfInBounds_toArray, List.set_cons_zero, List.set_cons_succ]
  refine wpAnyK_take0 5 (v := ?v56) rfl (by kernel_rfl) (fun _ _ _ h => h) (Or.inl ⟨by rfl, ?hy56⟩) (fun _ => hHeld) ?_
  case hy56 => (intro w hSw; go_simp; try with_reducible rfl)
  try simp only [Act.put, List.setIfInBounds_toArray, List.set_cons_zero, List.set_cons_succ]
  refine wpAnyK_take0 6 (v := ?v57) rfl (by kernel_rfl) (fun _ _ _ h => h) (Or.inl ⟨by rfl, ?hy57⟩) (fun _ => hHeld) ?_
  case hy57 => (intro w hSw; go_simp; try with_reducible rfl)
  try simp only [Act.put, List.setIfInBounds_toArray, List.set_cons_zero, List.set_cons_succ]
  refine wpAnyK_take0 7 (v := ?v58) rfl (by kernel_rfl) (fun _ _ _ h => h) (Or.inl ⟨by rfl, ?hy58⟩) (fun _ => hHeld) ?_
  case hy58 => (intro w hSw; go_simp; try with_reducible rfl)
  try simp only [Act.put, List.setIfInBounds_toArray, List.set_cons_zero, List.set_cons_succ]
  refine wpAnyK_take 8 [13, 16] (v := ?v59) rfl (by kernel_rfl) (fun _ _ _ h => h) (Or.inl ⟨by rfl, ?hy59⟩) hHeld ?_
  case hy59 => (intro w hSw; (try dsimp only at hSw); go_simp; try with_reducible rfl)
  try simp only [Act.put, List.setIfInBounds_toArray, List.set_cons_zero, List.set_cons_succ]
  refine wpAnyK_take0 9 (v := ?v60) rfl (by kernel_rfl) (fun _ _ _ h => h) (Or.inl ⟨by rfl, ?hy60⟩) (fun _ => hHeld) ?_
  case hy60 => (intro w hSw; go_simp; try with_reducible rfl)
  try simp only [Act.put, List.setIfInBounds_toArray, List.set_cons_zero, List.set_cons_succ]
  refine wpAnyK_take0 10 (v := ?v61) rfl (by kernel_rfl) (fun _ _ _ h => h) (Or.inl ⟨by rfl, ?hy61⟩) (fun _ => hHeld) ?_
  case hy61 => (intro w hSw; go_simp; try with_reducible rfl)
  try simp only [Act.put, List.setIfInBounds_toArray, List.set_cons_zero, List.set_cons_succ]
  refine wpAnyK_take0 11 (v := ?v62) rfl (by kernel_rfl) (fun _ _ _ h => h) (Or.inl ⟨by rfl, ?hy62⟩) (fun _ => hHeld) ?_
  case hy62 => (intro w hSw; go_simp; try with_reducible rfl)
  try simp only [Act.put, List.setIfInBounds_toArray, List.set_cons_zero, List.set_cons_succ]
  refine wpAnyK_take 12 [13, 16] (v := ?v63) rfl (by kernel_rfl) (fun _ _ _ h => h) (Or.inl ⟨by rfl, ?hy63⟩) hHeld ?_
  case hy63 => (intro w hSw; (try dsimp only at hSw); go_simp; try with_reducible rfl)
  try simp only [Act.put, List.setIfInBounds_toArray, List.set_cons_zero, List.set_cons_succ]
  refine wpAnyK_step 13 rfl (by kernel_rfl) (fun K hK => ?_)
  go_simp
  have C := less_v x y m X Y M w4.drew (HR.out.2.2.1.but HB4.out).nu (HR.out.2.2.2.2.but HB4.out).nu (HR.out.1.but HB4.out).nu h2 h3
  refine C.mono ?_
  rintro e w5 ⟨r5, rfl, hn⟩
  have H5 : Hid (Re w4 w5 r5 (lessV M X Y)) := ⟨hn.1, hn.2.1, (below_drewN (Below.refl _ _) 1).trans (hn.2.2.mono (Nat.le_refl _))⟩
  have HS5 : Hid (St w5 b m (.slice l0 l1 l2) x d y) := HS4.out.but H5.out.bel
  clear hn C
  dsimp only
  refine (fun hHeld => hK.out _ _ (fun _ => hHeld) ?_) ⟨HS5.out.c0, HS5.out.c2, HS5.out.c4⟩
  clear hK K
  try simp only [Act.put, List.setIfInBounds_toArray, List.set_cons_zero, List.set_cons_succ]
  refine wpAnyK_take0 14 (v := ?v65) rfl (by kernel_rfl) (fun _ _ _ h => h) (Or.inl ⟨by rfl, ?hy65⟩) (fun _ => hHeld) ?_
  case hy65 => (intro w hSw; go_simp; try with_reducible rfl)
  try simp only [Act.put, List.setIfInBounds_toArray, List.set_cons_zero, List.set_cons_succ]
  refine wpAnyK_take0 15 (v := ?v66) rfl (by kernel_rfl) (fun _ _ _ h => h) (Or.inl ⟨by rfl, ?hy66⟩) (fun _ => hHeld) ?_
  case hy66 => (intro w hSw; go_simp; try with_reducible rfl)
  try simp only [Act.put, List.setIfInBounds_toArray, List.set_cons_zero, List.set_cons_succ]
  obtain ⟨x0, x1, x2, rfl⟩ := H5.out.nu.shape
  have g2 := HS5.out.c2
  have f2 := Cl.frozen HS5.out 2
  refine wpAnyK_step 16 rfl (by kernel_rfl) (fun K hK => ?_)
  go_simp
  refine hK.out _ _ ?hk68 ?_
  case hk68 => exact (fun h => nomatch (h.symm.trans (show _ = true by kernel_rfl)))
  clear hK K
  try simp only [Act.put, List.setIfInBounds_toArray, List.set_cons_zero, List.set_cons_succ]
  refine wpAnyK_done (by kernel_rfl) ?_ _
  go_wp2
  go_end0
  have hb : But w0 (w5.setCell ⟨b, 2, none⟩ (.slice x0 x1 x2)) b := HB4.out.trans ((But.of_below H5.out.bel).trans ((But.refl _ _).set _ _))
  have hb5 : But w5 (w5.setCell ⟨b, 2, none⟩ (.slice x0 x1 x2)) b := (But.refl _ _).set _ _
  exact ⟨rfl, ⟨m, _, _, d, y, HS5.out.set2 _, HR.out.1.but hb, (HR4.out.below H5.out.bel (Nat.le_refl _)).but hb5, (Rw.of H5.out (Nat.le_trans Hba.out HB4.out.size) (Cl.lt HS4.out)).but hb5, HR.out.2.2.2.1.but hb, HR.out.2.2.2.2.but hb⟩, hb⟩

end Go.Proofs.YtmngdaolgdhgmaaGreatDoor

namespace Go.Proofs.YtmngdaolgdhgmaaGreatDoor
open Go.RowKit

set_option maxHeartbeats 4000000 in
theorem halve_lt (base b M L X D Y : Nat) (w : World) (h : Sch w base b M L X D Y) (hbase : base ≤ w.heap.size) (h1 : L % 2 = 1) (h2 : X < M) (h3 : Y < M) (h4 : L < D) :
    Calls Tryz.prog 114 #[.pointer (some ⟨b, 0, none⟩)] w fun e w' => e = .returned (.tuple #[]) ∧ Sch w' base b M (D - L) (lessV M Y X) L X ∧ But w w' b := by
  obtain ⟨m, l, x, d, y, hs, hm, hl, hx, hd, hy⟩ := h
  have C := bit0_v l L _ w hl.nu
  rw [decide_eq_true h1] at C
  have HS : Hid (St w b m l x d y) := hs
  have HR : Hid (Rw w base b m M ∧ Rw w base b l L ∧ Rw w base b x X ∧ Rw w base b d D ∧ Rw w base b y Y) := ⟨hm, hl, hx, hd, hy⟩
  have g1 := hs.c1
  have Hba : Hid (base ≤ w.heap.size) := hbase
  clear hs hm hl hx hd hy h1 hbase
  go_enter Tryz.func114, Tryz.ntmps114
  go_wp2_with fail
  refine C.mono ?_
  rintro e w0 ⟨rfl, rfl⟩
  clear C
  go_wp2_with fail
  clear g1
  have hcm : cmp3 (L : Int) (D : Int) = -1 := cmp3_lt (by omega)
  have hlt0 : decide ((-1 : Int) < 0) = true := rfl
  obtain ⟨oo, Hoo, hoo⟩ : ∃ oo : Int, Hid (cmp3 (L : Int) (D : Int) = oo) ∧ decide (oo < 0) = true := ⟨-1, hcm, rfl⟩
  clear hcm hlt0 h4
  refine wp_region_K 8 (fun (w' : World) => w'.cell? ⟨b, 1, none⟩ = some l ∧ w'.cell? ⟨b, 3, none⟩ = some d) (by kernel_rfl) ?_
  have hHeld : ((fun (w' : World) => w'.cell? ⟨b, 1, none⟩ = some l ∧ w'.cell? ⟨b, 3, none⟩ = some d)) (World.drew _) := ⟨HS.out.c1, HS.out.c3⟩
  refine wpAnyK_take0 0 (v := ?v69) rfl (by kernel_rfl) (fun _ _ _ h => h) (Or.inl ⟨by rfl, ?hy69⟩) (fun _ => hHeld) ?_
  case hy69 => (intro w hSw; go_simp; try with_reducible rfl)
  try simp only [Act.put, List.setIfInBounds_toArray, List.set_cons_zero, List.set_cons_succ]
  refine wpAnyK_take0 1 (v := ?v70) rfl (by kernel_rfl) (fun _ _ _ h => h) (Or.inl ⟨by rfl, ?hy70⟩) (fun _ => hHeld) ?_
  case hy70 => (intro w hSw; go_simp; try with_reducible rfl)
  try simp only [Act.put, List.setIfInBounds_toArray, List.set_cons_zero, List.set_cons_succ]
  refine wpAnyK_take0 2 (v := ?v71) rfl (by kernel_rfl) (fun _ _ _ h => h) (Or.inl ⟨by rfl, ?hy71⟩) (fun _ => hHeld) ?_
  case hy71 => (intro w hSw; go_simp; try with_reducible rfl)
  try simp only [Act.put, List.setIfInBounds_toArray, List.set_cons_zero, List.set_cons_succ]
  refine wpAnyK_take 3 [8] (v := ?v72) rfl (by kernel_rfl) (fun _ _ _ h => h) (Or.inl ⟨by rfl, ?hy72⟩) hHeld ?_
  case hy72 => (intro w hSw; (try dsimp only at hSw); go_simp; try with_reducible rfl)
  try simp only [Act.put, List.setIfInBounds_toArray, List.set_cons_zero, List.set_cons_succ]
  refine wpAnyK_take0 4 (v := ?v73) rfl (by kernel_rfl) (fun _ _ _ h => h) (Or.inl ⟨by rfl, ?hy73⟩) (fun _ => hHeld) ?_
  case hy73 => (intro w hSw; go_simp; try with_reducible rfl)
  try simp only [Act.put, List.setIfInBounds_toArray, List.set_cons_zero, List.set_cons_succ]
  refine wpAnyK_take0 5 (v := ?v74) rfl (by kernel_rfl) (fun _ _ _ h => h) (Or.inl ⟨by rfl, ?hy74⟩) (fun _ => hHeld) ?_
  case hy74 => (intro w hSw; go_simp; try with_reducible rfl)
  try simp only [Act.put, List.setIfInBounds_toArray, List.set_cons_zero, List.set_cons_succ]
  refine wpAnyK_take0 6 (v := ?v75) rfl (by kernel_rfl) (fun _ _ _ h => h) (Or.inl ⟨by rfl, ?hy75⟩) (fun _ => hHeld) ?_
  case hy75 => (intro w hSw; go_simp; try with_reducible rfl)
  try simp only [Act.put, List.setIfInBounds_toArray, List.set_cons_zero, List.set_cons_succ]
  refine wpAnyK_take 7 [8] (v := ?v76) rfl (by kernel_rfl) (fun _ _ _ h => h) (Or.inl ⟨by rfl, ?hy76⟩) hHeld ?_
  case hy76 => (intro w hSw; (try dsimp only at hSw); go_simp; try with_reducible rfl)
  try simp only [Act.put, List.setIfInBounds_toArray, List.set_cons_zero, List.set_cons_succ]
  refine wpAnyK_step 8 rfl (by kernel_rfl) (fun K hK => ?_)
  go_simp
  have C := vcmp l d _ _ _ _ w0.drew (HR.out.2.1.nu.drewN 1) (HR.out.2.2.2.1.nu.drewN 1) (by decide) (by decide)
  rw [Hoo.out] at C
  refine C.mono ?_
  rintro e w1 ⟨rfl, q, hq⟩
  have HB1 : Hid (Below w0.heap.size w0 w1) := by rw [hq]; exact below_drewN (below_drewN (Below.refl _ _) 1) q
  have HS1 : Hid (St w1 b m l x d y) := HS.out.but HB1.out
  clear hq C
  dsimp only
  refine (fun hHeld => hK.out _ _ (fun _ => hHeld) ?_) ⟨HS1.out.c1, HS1.out.c3⟩
  clear hK K
  try simp only [Act.put, List.setIfInBounds_toArray, List.set_cons_zero, List.set_cons_succ]
  refine wpAnyK_take0 9 (v := ?v78) rfl (by kernel_rfl) (fun _ _ _ h => h) (Or.inl ⟨by rfl, ?hy78⟩) (fun _ => hHeld) ?_
  case hy78 => (intro w hSw; go_simp; try with_reducible rfl)
  try simp only [Act.put, List.setIfInBounds_toArray, List.set_cons_zero, List.set_cons_succ]
  refine wpAnyK_done (by kernel_rfl) ?_ _
  clear hHeld
  go_wp2_with fail
  refine (swap_v b m l x d y w1 HS1.out HR.out.2.1.sl HR.out.2.2.1.sl HR.out.2.2.2.1.sl HR.out.2.2.2.2.sl).mono ?_
  rintro e w2 ⟨rfl, hs2, hb2, hz2⟩
  have HS2 : Hid (St w2 b m d y l x) := hs2
  have HB2 : Hid (But w0 w2 b) := (But.of_below HB1.out).trans hb2
  clear hs2 hb2 hz2
  go_wp2_with fail
  refine wp_region_K 15 (fun (w' : World) => w'.cell? ⟨b, 1, none⟩ = some d ∧ w'.cell? ⟨b, 3, none⟩ = some l) (by kernel_rfl) ?_
  have hHeld : ((fun (w' : World) => w'.cell? ⟨b, 1, none⟩ = some d ∧ w'.cell? ⟨b, 3, none⟩ = some l)) (World.drew _) := ⟨HS2.out.c1, HS2.out.c3⟩
  refine wpAnyK_take0 0 (v := ?v79) rfl (by kernel_rfl) (fun _ _ _ h => h) (Or.inl ⟨by rfl, ?hy79⟩) (fun _ => hHeld) ?_
  case hy79 => (intro w hSw; go_simp; try with_reducible rfl)
  try simp only [Act.put, List.setIfInBounds_toArray, List.set_cons_zero, List.set_cons_succ]
  refine wpAnyK_take0 1 (v := ?v80) rfl (by kernel_rfl) (fun _ _ _ h => h) (Or.inl ⟨by rfl, ?hy80⟩) (fun _ => hHeld) ?_
  case hy80 => (intro w hSw; go_simp; try with_reducible rfl)
  try simp only [Act.put, List.setIfInBounds_toArray, List.set_cons_zero, List.set_cons_succ]
  refine wpAnyK_take0 2 (v := ?v81) rfl (by kernel_rfl) (fun _ _ _ h => h) (Or.inl ⟨by rfl, ?hy81⟩) (fun _ => hHeld) ?_
  case hy81 => (intro w hSw; go_simp; try with_reducible rfl)
  try simp only [Act.put, List.setIfInBounds_toArray, List.set_cons_zero, List.set_cons_succ]
  refine wpAnyK_take0 3 (v := ?v82) rfl (by kernel_rfl) (fun _ _ _ h => h) (Or.inl ⟨by rfl, ?hy82⟩) (fun _ => hHeld) ?_
  case hy82 => (intro w hSw; go_simp; try with_reducible rfl)
  try simp only [Act.put, List.setIfInBounds_toArray, List.set_cons_zero, List.set_cons_succ]
  refine wpAnyK_take 4 [9, 10, 11, 15] (v := ?v83) rfl (by kernel_rfl) (fun _ _ _ h => h) (Or.inl ⟨by rfl, ?hy83⟩) hHeld ?_
  case hy83 => (intro w hSw; (try dsimp only at hSw); go_simp; try with_reducible rfl)
  try simp only [Act.put, List.setIfInBounds_toArray, List.set_cons_zero, List.set_cons_succ]
  refine wpAnyK_take0 5 (v := ?v84) rfl (by kernel_rfl) (fun _ _ _ h => h) (Or.inl ⟨by rfl, ?hy84⟩) (fun _ => hHeld) ?_
  case hy84 => (intro w hSw; go_simp; try with_reducible rfl)
  try simp only [Act.put, List.setIfInBounds_toArray, List.set_cons_zero, List.set_cons_succ]
  refine wpAnyK_take0 6 (v := ?v85) rfl (by kernel_rfl) (fun _ _ _ h => h) (Or.inl ⟨by rfl, ?hy85⟩) (fun _ => hHeld) ?_
  case hy85 => (intro w hSw; go_simp; try with_reducible rfl)
  try simp only [Act.put, List.setIfInBounds_toArray, List.set_cons_zero, List.set_cons_succ]
  refine wpAnyK_take0 7 (v := ?v86) rfl (by kernel_rfl) (fun _ _ _ h => h) (Or.inl ⟨by rfl, ?hy86⟩) (fun _ => hHeld) ?_
  case hy86 => (intro w hSw; go_simp; try with_reducible rfl)
  try simp only [Act.put, List.setIfInBounds_toArray, List.set_cons_zero, List.set_cons_succ]
  refine wpAnyK_take 8 [9, 10, 11, 15] (v := ?v87) rfl (by kernel_rfl) (fun _ _ _ h => h) (Or.inl ⟨by rfl, ?hy87⟩) hHeld ?_
  case hy87 => (intro w hSw; (try dsimp only at hSw); go_simp; try with_reducible rfl)
  try simp only [Act.put, List.setIfInBounds_toArray, List.set_cons_zero, List.set_cons_succ]
  refine wpAnyK_step 9 rfl (by kernel_rfl) (fun K hK => ?_)
  go_simp
  have C := vsub d l _ _ _ _ w2.drew (HR.out.2.2.2.1.but HB2.out).nu (HR.out.2.1.but HB2.out).nu (by decide) (by decide)
  refine C.mono ?_
  rintro e w3 ⟨r3, rfl, hn⟩
  have H3 : Hid (Re w2 w3 r3 (D - L)) := ⟨hn.1, hn.2.1, (below_drewN (Below.refl _ _) 1).trans (hn.2.2.mono (Nat.le_refl _))⟩
  have HS3 : Hid (St w3 b m d y l x) := HS2.out.but H3.out.bel
  clear hn C
  dsimp only
  refine (fun hHeld => hK.out _ _ (fun _ => hHeld) ?_) ⟨HS3.out.c1, HS3.out.c3⟩
  clear hK K
  try simp only [Act.put, List.setIfInBounds_toArray, List.set_cons_zero, List.set_cons_succ]
  refine wpAnyK_take0 10 (v := ?v89) rfl (by kernel_rfl) (fun _ _ _ h => h) (Or.inl ⟨by rfl, ?hy89⟩) (fun _ => hHeld) ?_
  case hy89 => (intro w hSw; go_simp; try with_reducible rfl)
  try simp only [Act.put, List.setIfInBounds_toArray, List.set_cons_zero, List.set_cons_succ]
  refine wpAnyK_take0 11 (v := ?v90) rfl (by kernel_rfl) (fun _ _ _ h => h) (Or.inl ⟨by rfl, ?hy90⟩) (fun _ => hHeld) ?_
  case hy90 => (intro w hSw; go_simp; try with_reducible rfl)
  try simp only [Act.put, List.setIfInBounds_toArray, List.set_cons_zero, List.set_cons_succ]
  refine wpAnyK_take0 12 (v := ?v91) rfl (by kernel_rfl) (fun _ _ _ h => h) (Or.inl ⟨by rfl, ?hy91⟩) (fun _ => hHeld) ?_
  case hy91 => (intro w hSw; go_simp; try with_reducible rfl)
  try simp only [Act.put, List.setIfInBounds_toArray, List.set_cons_zero, List.set_cons_succ]
  refine wpAnyK_take0 13 (v := ?v92) rfl (by kernel_rfl) (fun _ _ _ h => h) (Or.inl ⟨by rfl, ?hy92⟩) (fun _ => hHeld) ?_
  case hy92 => (intro w hSw; go_simp; try with_reducible rfl)
  try simp only [Act.put, List.setIfInBounds_toArray, List.set_cons_zero, List.set_cons_succ]
  refine wpAnyK_take0 14 (v := ?v93) rfl (by kernel_rfl) (fun _ _ _ h => h) (Or.inl ⟨by rfl, ?hy93⟩) (fun _ => hHeld) ?_
  case hy93 => (intro w hSw; go_simp; try with_reducible rfl)
  try simp only [Act.put, List.setIfInBounds_toArray, List.set_cons_zero, List.set_cons_succ]
  obtain ⟨l0, l1, l2, rfl⟩ := H3.out.nu.shape
  have g1 := HS3.out.c1
  have f1 := Cl.frozen HS3.out 1
  refine wpAnyK_step 15 rfl (by kernel_rfl) (fun K hK => ?_)
  go_simp
  refine hK.out _ _ ?hk95 ?_
  case hk95 => exact (fun h => nomatch (h.symm.trans (show _ = true by kernel_rfl)))
  clear hK K
  try simp only [Act.put, List.setIfInBounds_toArray, List.set_cons_zero, List.set_cons_succ]
  refine wpAnyK_done (by kernel_rfl) ?_ _
  have HS4 : Hid (St (w3.setCell ⟨b, 1, none⟩ (.slice l0 l1 l2)) b m (.slice l0 l1 l2) y l x) := HS3.out.set1 _
  have HB4 : Hid (But w0 (w3.setCell ⟨b, 1, none⟩ (.slice l0 l1 l2)) b) := HB2.out.trans ((But.of_below H3.out.bel).trans ((But.refl _ _).set _ _))
  have HR4 : Hid (Rw (w3.setCell ⟨b, 1, none⟩ (.slice l0 l1 l2)) base b (.slice l0 l1 l2) (D - L)) := (Rw.of H3.out (Nat.le_trans Hba.out HB2.out.size) (Cl.lt HS2.out)).but ((But.refl _ _).set _ _)
  clear H3 HS3 g1 f1 hHeld
  go_wp2_with fail
  generalize w3.setCell ⟨b, 1, none⟩ (.slice l0 l1 l2) = w4 at *
  refine wp_region_K 16 (fun (w' : World) => w'.cell? ⟨b, 0, none⟩ = some m ∧ w'.cell? ⟨b, 2, none⟩ = some y ∧ w'.cell? ⟨b, 4, none⟩ = some x) (by kernel_rfl) ?_
  have hHeld : ((fun (w' : World) => w'.cell? ⟨b, 0, none⟩ = some m ∧ w'.cell? ⟨b, 2, none⟩ = some y ∧ w'.cell? ⟨b, 4, none⟩ = some x)) (World.drew _) := ⟨HS4.out.c0, HS4.out.c2, HS4.out.c4⟩
  refine wpAnyK_take0 0 (v := ?v96) rfl (by kernel_rfl) (fun _ _ _ h => h) (Or.inl ⟨by rfl, ?hy96⟩) (fun _ => hHeld) ?_
  case hy96 => (intro w hSw; go_simp; try with_reducible rfl)
  try simp only [Act.put, List.setIfInBounds_toArray, List.set_cons_zero, List.set_cons_succ]
  refine wpAnyK_take0 1 (v := ?v97) rfl (by kernel_rfl) (fun _ _ _ h => h) (Or.inl ⟨by rfl, ?hy97⟩) (fun _ => hHeld) ?_
  case hy97 => (intro w hSw; go_simp; try with_reducible rfl)
  try simp only [Act.put, List.setIfInBounds_toArray, List.set_cons_zero, List.set_cons_succ]
  refine wpAnyK_take0 2 (v := ?v98) rfl (by kernel_rfl) (fun _ _ _ h => h) (Or.inl ⟨by rfl, ?hy98⟩) (fun _ => hHeld) ?_
  case hy98 => (intro w hSw; go_simp; try with_reducible rfl)
  try simp only [Act.put, List.setIfInBounds_toArray, List.set_cons_zero, List.set_cons_succ]
  refine wpAnyK_take0 3 (v := ?v99) rfl (by kernel_rfl) (fun _ _ _ h => h) (Or.inl ⟨by rfl, ?hy99⟩) (fun _ => hHeld) ?_
  case hy99 => (intro w hSw; go_simp; try with_reducible rfl)
  try simp only [Act.put, List.setIfInBounds_toArray, List.set_cons_zero, List.set_cons_succ]
  refine wpAnyK_take 4 [13, 16] (v := ?v100) rfl (by kernel_rfl) (fun _ _ _ h => h) (Or.inl ⟨by rfl, ?hy100⟩) hHeld ?_
  case hy100 => (intro w hSw; (try dsimp only at hSw); go_simp; try with_reducible rfl)
  try simp only [Act.put, List.setIfInBounds_toArray, List.set_cons_zero, List.set_cons_succ]
  refine wpAnyK_take0 5 (v := ?v101) rfl (by kernel_rfl) (fun _ _ _ h => h) (Or.inl ⟨by rfl, ?hy101⟩) (fun _ => hHeld) ?_
  case hy101 => (intro w hSw; go_simp; try with_reducible rfl)
  try simp only [Act.put, List.setIfInBounds_toArray, List.set_cons_zero, List.set_cons_succ]
  refine wpAnyK_take0 6 (v := ?v102) rfl (by kernel_rfl) (fun _ _ _ h => h) (Or.inl ⟨by rfl, ?hy102⟩) (fun _ => hHeld) ?_
  case hy102 => (intro w hSw; go_simp; try with_reducible rfl)
  try simp only [Act.put, List.setIfInBounds_toArray, List.set_cons_zero, List.set_cons_succ]
  refine wpAnyK_take0 7 (v := ?v103) rfl (by kernel_rfl) (fun _ _ _ h => h) (Or.inl ⟨by rfl, ?hy103⟩) (fun _ => hHeld) ?_
  case hy103 => (intro w hSw; go_simp; try with_reducible rfl)
  try simp only [Act.put, List.setIfInBounds_toArray, List.set_cons_zero, List.set_cons_succ]
  refine wpAnyK_take 8 [13, 16] (v := ?v104) rfl (by kernel_rfl) (fun _ _ _ h => h) (Or.inl ⟨by rfl, ?hy104⟩) hHeld ?_
  case hy104 => (intro w hSw; (try dsimp only at hSw); go_simp; try with_reducible rfl)
  try simp only [Act.put, List.setIfInBounds_toArray, List.set_cons_zero, List.set_cons_succ]
  refine wpAnyK_take0 9 (v := ?v105) rfl (by kernel_rfl) (fun _ _ _ h => h) (Or.inl ⟨by rfl, ?hy105⟩) (fun _ => hHeld) ?_
  case hy105 => (intro w hSw; go_simp; try with_reducible rfl)
  try simp only [Act.put, List.setIfInBounds_toArray, List.set_cons_zero, List.set_cons_succ]
  refine wpAnyK_take0 10 (v := ?v106) rfl (by kernel_rfl) (fun _ _ _ h => h) (Or.inl ⟨by rfl, ?hy106⟩) (fun _ => hHeld) ?_
  case hy106 => (intro w hSw; go_simp; try with_reducible rfl)
  try simp only [Act.put, List.setIfInBounds_toArray, List.set_cons_zero, List.set_cons_succ]
  refine wpAnyK_take0 11 (v := ?v107) rfl (by kernel_rfl) (fun _ _ _ h => h) (Or.inl ⟨by rfl, ?hy107⟩) (fun _ => hHeld) ?_
  case hy107 => (intro w hSw; go_simp; try with_reducible rfl)
  try simp only [Act.put, List.setIfInBounds_toArray, List.set_cons_zero, List.set_cons_succ]
  refine wpAnyK_take 12 [13, 16] (v := ?v108) rfl (by kernel_rfl) (fun _ _ _ h => h) (Or.inl ⟨by rfl, ?hy108⟩) hHeld ?_
  case hy108 => (intro w hSw; (try dsimp only at hSw); go_simp; try with_reducible rfl)
  try simp only [Act.put, List.setIfInBounds_toArray, List.set_cons_zero, List.set_cons_succ]
  refine wpAnyK_step 13 rfl (by kernel_rfl) (fun K hK => ?_)
  go_simp
  have C := less_v y x m Y X M w4.drew (HR.out.2.2.2.2.but HB4.out).nu (HR.out.2.2.1.but HB4.out).nu (HR.out.1.but HB4.out).nu h3 h2
  refine C.mono ?_
  rintro e w5 ⟨r5, rfl, hn⟩
  have H5 : Hid (Re w4 w5 r5 (lessV M Y X)) := ⟨hn.1, hn.2.1, (below_drewN (Below.refl _ _) 1).trans (hn.2.2.mono (Nat.le_refl _))⟩
  have HS5 : Hid (St w5 b m (.slice l0 l1 l2) y l x) := HS4.out.but H5.out.bel
  clear hn C
  dsimp only
  refine (fun hHeld => hK.out _ _ (fun _ => hHeld) ?_) ⟨HS5.out.c0, HS5.out.c2, HS5.out.c4⟩
  clear hK K
  try simp only [Act.put, List.setIfInBounds_toArray, List.set_cons_zero, List.set_cons_succ]
  refine wpAnyK_take0 14 (v := ?v110) rfl (by kernel_rfl) (fun _ _ _ h => h) (Or.inl ⟨by rfl, ?hy110⟩) (fun _ => hHeld) ?_
  case hy110 => (intro w hSw; go_simp; try with_reducible rfl)
  try simp only [Act.put, List.setIfInBounds_toArray, List.set_cons_zero, List.set_cons_succ]
  refine wpAnyK_take0 15 (v := ?v111) rfl (by kernel_rfl) (fun _ _ _ h => h) (Or.inl ⟨by rfl, ?hy111⟩) (fun _ => hHeld) ?_
  case hy111 => (intro w hSw; go_simp; try with_reducible rfl)
  try simp only [Act.put, List.setIfInBounds_toArray, List.set_cons_zero, List.set_cons_succ]
  obtain ⟨x0, x1, x2, rfl⟩ := H5.out.nu.shape
  have g2 := HS5.out.c2
  have f2 := Cl.frozen HS5.out 2
  refine wpAnyK_step 16 rfl (by kernel_rfl) (fun K hK => ?_)
  go_simp
  refine hK.out _ _ ?hk113 ?_
  case hk113 => exact (fun h => nomatch (h.symm.trans (show _ = true by kernel_rfl)))
  clear hK K
  try simp only [Act.put, List.setIfInBounds_toArray, List.set_cons_zero, List.set_cons_succ]
  refine wpAnyK_done (by kernel_rfl) ?_ _
  go_wp2
  go_end0
  have hb : But w0 (w5.setCell ⟨b, 2, none⟩ (.slice x0 x1 x2)) b := HB4.out.trans ((But.of_below H5.out.bel).trans ((But.refl _ _).set _ _))
  have hb5 : But w5 (w5.setCell ⟨b, 2, none⟩ (.slice x0 x1 x2)) b := (But.refl _ _).set _ _
  exact ⟨rfl, ⟨m, _, _, l, x, HS5.out.set2 _, HR.out.1.but hb, (HR4.out.below H5.out.bel (Nat.le_refl _)).but hb5, (Rw.of H5.out (Nat.le_trans Hba.out HB4.out.size) (Cl.lt HS4.out)).but hb5, HR.out.2.1.but hb, HR.out.2.2.1.but hb⟩, hb⟩

end Go.Proofs.YtmngdaolgdhgmaaGreatDoor

namespace Go.Proofs.YtmngdaolgdhgmaaGreatDoor
open Go.RowKit

set_option maxHeartbeats 4000000 in
theorem divide_v (base b M L X D Y : Nat) (w : World) (h : Sch w base b M L X D Y) (hbase : base ≤ w.heap.size) (h0 : L ≠ 0) (h2 : X < M) (h3 : Y < M) :
    Calls Tryz.prog 115 #[.pointer (some ⟨b, 0, none⟩)] w fun e w' => e = .returned (.tuple #[]) ∧ Sch w' base b M (D % L) (lessV M Y (D / L * X % M)) L X ∧ But w w' b := by
  obtain ⟨m, l, x, d, y, hs, hm, hl, hx, hd, hy⟩ := h
  have HS : Hid (St w b m l x d y) := hs
  have HR : Hid (Rw w base b m M ∧ Rw w base b l L ∧ Rw w base b x X ∧ Rw w base b d D ∧ Rw w base b y Y) := ⟨hm, hl, hx, hd, hy⟩
  have Hba : Hid (base ≤ w.heap.size) := hbase
  have Hlt : Hid (b < w.heap.size) := Cl.lt hs
  have H0 : Hid (L ≠ 0) := h0
  have HM0 : Hid (M ≠ 0) := (by omega : M ≠ 0)
  clear hs hm hl hx hd hy hbase h0
  go_enter Tryz.func115, Tryz.ntmps115
  go_wp2_with fail
  refine wp_region_K 8 (fun (w' : World) => w'.cell? ⟨b, 1, none⟩ = some l ∧ w'.cell? ⟨b, 3, none⟩ = some d) (by kernel_rfl) ?_
  have hHeld : ((fun (w' : World) => w'.cell? ⟨b, 1, none⟩ = some l ∧ w'.cell? ⟨b, 3, none⟩ = some d)) (World.drew _) := ⟨HS.out.c1, HS.out.c3⟩
  refine wpAnyK_take0 0 (v := ?v114) rfl (by kernel_rfl) (fun _ _ _ h => h) (Or.inl ⟨by rfl, ?hy114⟩) (fun _ => hHeld) ?_
  case hy114 => (intro w hSw; go_simp; try with_reducible rfl)
  try simp only [Act.put, List.setIfInBounds_toArray, List.set_cons_zero, List.set_cons_succ]
  refine wpAnyK_take0 1 (v := ?v115) rfl (by kernel_rfl) (fun _ _ _ h => h) (Or.inl ⟨by rfl, ?hy115⟩) (fun _ => hHeld) ?_
  case hy115 => (intro w hSw; go_simp; try with_reducible rfl)
  try simp only [Act.put, List.setIfInBounds_toArray, List.set_cons_zero, List.set_cons_succ]
  refine wpAnyK_take0 2 (v := ?v116) rfl (by kernel_rfl) (fun _ _ _ h => h) (Or.inl ⟨by rfl, ?hy116⟩) (fun _ => hHeld) ?_
  case hy116 => (intro w hSw; go_simp; try with_reducible rfl)
  try simp only [Act.put, List.setIfInBounds_toArray, List.set_cons_zero, List.set_cons_succ]
  refine wpAnyK_take 3 [8] (v := ?v117) rfl (by kernel_rfl) (fun _ _ _ h => h) (Or.inl ⟨by rfl, ?hy117⟩) hHeld ?_
  case hy117 => (intro w hSw; (try dsimp only at hSw); go_simp; try with_reducible rfl)
  try simp only [Act.put, List.setIfInBounds_toArray, List.set_cons_zero, List.set_cons_succ]
  refine wpAnyK_take0 4 (v := ?v118) rfl (by kernel_rfl) (fun _ _ _ h => h) (Or.inl ⟨by rfl, ?hy118⟩) (fun _ => hHeld) ?_
  case hy118 => (intro w hSw; go_simp; try with_reducible rfl)
  try simp only [Act.put, List.setIfInBounds_toArray, List.set_cons_zero, List.set_cons_succ]
  refine wpAnyK_take0 5 (v := ?v119) rfl (by kernel_rfl) (fun _ _ _ h => h) (Or.inl ⟨by rfl, ?hy119⟩) (fun _ => hHeld) ?_
  case hy119 => (intro w hSw; go_simp; try with_reducible rfl)
  try simp only [Act.put, List.setIfInBounds_toArray, List.set_cons_zero, List.set_cons_succ]
  refine wpAnyK_take0 6 (v := ?v120) rfl (by kernel_rfl) (fun _ _ _ h => h) (Or.inl ⟨by rfl, ?hy120⟩) (fun _ => hHeld) ?_
  case hy120 => (intro w hSw; go_simp; try with_reducible rfl)
  try simp only [Act.put, List.setIfInBounds_toArray, List.set_cons_zero, List.set_cons_succ]
  refine wpAnyK_take 7 [8] (v := ?v121) rfl (by kernel_rfl) (fun _ _ _ h => h) (Or.inl ⟨by rfl, ?hy121⟩) hHeld ?_
  case hy121 => (intro w hSw; (try dsimp only at hSw); go_simp; try with_reducible rfl)
  try simp only [Act.put, List.setIfInBounds_toArray, List.set_cons_zero, List.set_cons_succ]
  refine wpAnyK_step 8 rfl (by kernel_rfl) (fun K hK => ?_)
  go_simp
  have C := vdiv d l _ _ _ _ w.drew (HR.out.2.2.2.1.nu.drewN 1) (HR.out.2.1.nu.drewN 1) (by decide) (by decide) H0.out
  refine C.mono ?_
  rintro e w1 ⟨q, r, rfl, hq, hr⟩
  have HQ : Hid (Re w w1 q (D / L)) := ⟨hq.1, hq.2.1, (below_drewN (Below.refl _ _) 1).trans (hq.2.2.mono (Nat.le_refl _))⟩
  have HRr : Hid (Re w w1 r (D % L)) := ⟨hr.1, hr.2.1, (below_drewN (Below.refl _ _) 1).trans (hr.2.2.mono (Nat.le_refl _))⟩
  have HS1 : Hid (St w1 b m l x d y) := HS.out.but HQ.out.bel
  clear hq hr C
  dsimp only
  refine (fun hHeld => hK.out _ _ (fun _ => hHeld) ?_) ⟨HS1.out.c1, HS1.out.c3⟩
  clear hK K
  try simp only [Act.put, List.setIfInBounds_toArray, List.set_cons_zero, List.set_cons_succ]
  refine wpAnyK_take0 9 (v := ?v123) rfl (by kernel_rfl) (fun _ _ _ h => h) (Or.inl ⟨by rfl, ?hy123⟩) (fun _ => hHeld) ?_
  case hy123 => (intro w hSw; go_simp; try with_reducible rfl)
  try simp only [Act.put, List.setIfInBounds_toArray, List.set_cons_zero, List.set_cons_succ]
  refine wpAnyK_take0 10 (v := ?v124) rfl (by kernel_rfl) (fun _ _ _ h => h) (Or.inl ⟨by rfl, ?hy124⟩) (fun _ => hHeld) ?_
  case hy124 => (intro w hSw; go_simp; try with_reducible rfl)
  try simp only [Act.put, List.setIfInBounds_toArray, List.set_cons_zero, List.set_cons_succ]
  refine wpAnyK_take0 11 (v := ?v125) rfl (by kernel_rfl) (fun _ _ _ h => h) (Or.inl ⟨by rfl, ?hy125⟩) (fun _ => hHeld) ?_
  case hy125 => (intro w hSw; go_simp; try with_reducible rfl)
  try simp only [Act.put, List.setIfInBounds_toArray, List.set_cons_zero, List.set_cons_succ]
  refine wpAnyK_take0 12 (v := ?v126) rfl (by kernel_rfl) (fun _ _ _ h => h) (Or.inl ⟨by rfl, ?hy126⟩) (fun _ => hHeld) ?_
  case hy126 => (intro w hSw; go_simp; try with_reducible rfl)
  try simp only [Act.put, List.setIfInBounds_toArray, List.set_cons_zero, List.set_cons_succ]
  refine wpAnyK_take0 13 (v := ?v127) rfl (by kernel_rfl) (fun _ _ _ h => h) (Or.inl ⟨by rfl, ?hy127⟩) (fun _ => hHeld) ?_
  case hy127 => (intro w hSw; go_simp; try with_reducible rfl)
  try simp only [Act.put, List.setIfInBounds_toArray, List.set_cons_zero, List.set_cons_succ]
  refine wpAnyK_take0 14 (v := ?v128) rfl (by kernel_rfl) (fun _ _ _ h => h) (Or.inl ⟨by rfl, ?hy128⟩) (fun _ => hHeld) ?_
  case hy128 => (intro w hSw; go_simp; try with_reducible rfl)
  try simp only [Act.put, List.setIfInBounds_toArray, List.set_cons_zero, List.set_cons_succ]
  refine wpAnyK_take0 15 (v := ?v129) rfl (by kernel_rfl) (fun _ _ _ h => h) (Or.inl ⟨by rfl, ?hy129⟩) (fun _ => hHeld) ?_
  case hy129 => (intro w hSw; go_simp; try with_reducible rfl)
  try simp only [Act.put, List.setIfInBounds_toArray, List.set_cons_zero, List.set_cons_succ]
  refine wpAnyK_done (by kernel_rfl) ?_ _
  clear hHeld
  go_wp2_with fail
  refine (swap_v b m l x d y w1 HS1.out HR.out.2.1.sl HR.out.2.2.1.sl HR.out.2.2.2.1.sl HR.out.2.2.2.2.sl).mono ?_
  rintro e w2 ⟨rfl, hs2, hb2, hz2⟩
  have HS2 : Hid (St w2 b m d y l x) := hs2
  have HB2 : Hid (But w w2 b) := (But.of_below HQ.out.bel).trans hb2
  have HQ2 : Hid (Rw w2 base b q (D / L)) := (Rw.of HQ.out Hba.out Hlt.out).but hb2
  have HR2 : Hid (Rw w2 base b r (D % L)) := (Rw.of HRr.out Hba.out Hlt.out).but hb2
  clear hs2 hb2 hz2 HQ HRr HS1 HS
  go_wp2_with fail
  refine wp_region_K 25 (fun (w' : World) => w'.cell? ⟨b, 0, none⟩ = some m ∧ w'.cell? ⟨b, 2, none⟩ = some y ∧ w'.cell? ⟨b, 4, none⟩ = some x) (by kernel_rfl) ?_
  have hHeld : ((fun (w' : World) => w'.cell? ⟨b, 0, none⟩ = some m ∧ w'.cell? ⟨b, 2, none⟩ = some y ∧ w'.cell? ⟨b, 4, none⟩ = some x)) (World.drew _) := ⟨HS2.out.c0, HS2.out.c2, HS2.out.c4⟩
  refine wpAnyK_take0 0 (v := ?v130) rfl (by kernel_rfl) (fun _ _ _ h => h) (Or.inl ⟨by rfl, ?hy130⟩) (fun _ => hHeld) ?_
  case hy130 => (intro w hSw; go_simp; try with_reducible rfl)
  try simp only [Act.put, List.setIfInBounds_toArray, List.set_cons_zero, List.set_cons_succ]
  refine wpAnyK_take0 1 (v := ?v131) rfl (by kernel_rfl) (fun _ _ _ h => h) (Or.inl ⟨by rfl, ?hy131⟩) (fun _ => hHeld) ?_
  case hy131 => (intro w hSw; go_simp; try with_reducible rfl)
  try simp only [Act.put, List.setIfInBounds_toArray, List.set_cons_zero, List.set_cons_succ]
  refine wpAnyK_take0 2 (v := ?v132) rfl (by kernel_rfl) (fun _ _ _ h => h) (Or.inl ⟨by rfl, ?hy132⟩) (fun _ => hHeld) ?_
  case hy132 => (intro w hSw; go_simp; try with_reducible rfl)
  try simp only [Act.put, List.setIfInBounds_toArray, List.set_cons_zero, List.set_cons_succ]
  refine wpAnyK_take0 3 (v := ?v133) rfl (by kernel_rfl) (fun _ _ _ h => h) (Or.inl ⟨by rfl, ?hy133⟩) (fun _ => hHeld) ?_
  case hy133 => (intro w hSw; go_simp; try with_reducible rfl)
  try simp only [Act.put, List.setIfInBounds_toArray, List.set_cons_zero, List.set_cons_succ]
  refine wpAnyK_take0 4 (v := ?v134) rfl (by kernel_rfl) (fun _ _ _ h => h) (Or.inl ⟨by rfl, ?hy134⟩) (fun _ => hHeld) ?_
  case hy134 => (intro w hSw; go_simp; try with_reducible rfl)
  try simp only [Act.put, List.setIfInBounds_toArray, List.set_cons_zero, List.set_cons_succ]
  refine wpAnyK_take0 5 (v := ?v135) rfl (by kernel_rfl) (fun _ _ _ h => h) (Or.inl ⟨by rfl, ?hy135⟩) (fun _ => hHeld) ?_
  case hy135 => (intro w hSw; go_simp; try with_reducible rfl)
  try simp only [Act.put, List.setIfInBounds_toArray, List.set_cons_zero, List.set_cons_succ]
  refine wpAnyK_take 6 [22, 25] (v := ?v136) rfl (by kernel_rfl) (fun _ _ _ h => h) (Or.inl ⟨by rfl, ?hy136⟩) hHeld ?_
  case hy136 => (intro w hSw; (try dsimp only at hSw); go_simp; try with_reducible rfl)
  try simp only [Act.put, List.setIfInBounds_toArray, List.set_cons_zero, List.set_cons_succ]
  refine wpAnyK_take0 7 (v := ?v137) rfl (by kernel_rfl) (fun _ _ _ h => h) (Or.inl ⟨by rfl, ?hy137⟩) (fun _ => hHeld) ?_
  case hy137 => (intro w hSw; go_simp; try with_reducible rfl)
  try simp only [Act.put, List.setIfInBounds_toArray, List.set_cons_zero, List.set_cons_succ]
  refine wpAnyK_take0 8 (v := ?v138) rfl (by kernel_rfl) (fun _ _ _ h => h) (Or.inl ⟨by rfl, ?hy138⟩) (fun _ => hHeld) ?_
  case hy138 => (intro w hSw; go_simp; try with_reducible rfl)
  try simp only [Act.put, List.setIfInBounds_toArray, List.set_cons_zero, List.set_cons_succ]
  refine wpAnyK_take0 9 (v := ?v139) rfl (by kernel_rfl) (fun _ _ _ h => h) (Or.inl ⟨by rfl, ?hy139⟩) (fun _ => hHeld) ?_
  case hy139 => (intro w hSw; go_simp; try with_reducible rfl)
  try simp only [Act.put, List.setIfInBounds_toArray, List.set_cons_zero, List.set_cons_succ]
  refine wpAnyK_take0 10 (v := ?v140) rfl (by kernel_rfl) (fun _ _ _ h => h) (Or.inl ⟨by rfl, ?hy140⟩) (fun _ => hHeld) ?_
  case hy140 => (intro w hSw; go_simp; try with_reducible rfl)
  try simp only [Act.put, List.setIfInBounds_toArray, List.set_cons_zero, List.set_cons_succ]
  refine wpAnyK_take 11 [12, 17, 22, 25] (v := ?v141) rfl (by kernel_rfl) (fun _ _ _ h => h) (Or.inl ⟨by rfl, ?hy141⟩) hHeld ?_
  case hy141 => (intro w hSw; (try dsimp only at hSw); go_simp; try with_reducible rfl)
  try simp only [Act.put, List.setIfInBounds_toArray, List.set_cons_zero, List.set_cons_succ]
  refine wpAnyK_take0 13 (v := ?v142) rfl (by kernel_rfl) (fun _ _ _ h => h) (Or.inl ⟨by rfl, ?hy142⟩) (fun _ => hHeld) ?_
  case hy142 => (intro w hSw; go_simp; try with_reducible rfl)
  try simp only [Act.put, List.setIfInBounds_toArray, List.set_cons_zero, List.set_cons_succ]
  refine wpAnyK_take0 14 (v := ?v143) rfl (by kernel_rfl) (fun _ _ _ h => h) (Or.inl ⟨by rfl, ?hy143⟩) (fun _ => hHeld) ?_
  case hy143 => (intro w hSw; go_simp; try with_reducible rfl)
  try simp only [Act.put, List.setIfInBounds_toArray, List.set_cons_zero, List.set_cons_succ]
  refine wpAnyK_take0 15 (v := ?v144) rfl (by kernel_rfl) (fun _ _ _ h => h) (Or.inl ⟨by rfl, ?hy144⟩) (fun _ => hHeld) ?_
  case hy144 => (intro w hSw; go_simp; try with_reducible rfl)
  try simp only [Act.put, List.setIfInBounds_toArray, List.set_cons_zero, List.set_cons_succ]
  refine wpAnyK_take 16 [17, 22, 25] (v := ?v145) rfl (by kernel_rfl) (fun _ _ _ h => h) (Or.inl ⟨by rfl, ?hy145⟩) hHeld ?_
  case hy145 => (intro w hSw; (try dsimp only at hSw); go_simp; try with_reducible rfl)
  try simp only [Act.put, List.setIfInBounds_toArray, List.set_cons_zero, List.set_cons_succ]
  refine wpAnyK_take0 18 (v := ?v146) rfl (by kernel_rfl) (fun _ _ _ h => h) (Or.inl ⟨by rfl, ?hy146⟩) (fun _ => hHeld) ?_
  case hy146 => (intro w hSw; go_simp; try with_reducible rfl)
  try simp only [Act.put, List.setIfInBounds_toArray, List.set_cons_zero, List.set_cons_succ]
  refine wpAnyK_take0 19 (v := ?v147) rfl (by kernel_rfl) (fun _ _ _ h => h) (Or.inl ⟨by rfl, ?hy147⟩) (fun _ => hHeld) ?_
  case hy147 => (intro w hSw; go_simp; try with_reducible rfl)
  try simp only [Act.put, List.setIfInBounds_toArray, List.set_cons_zero, List.set_cons_succ]
  refine wpAnyK_take0 20 (v := ?v148) rfl (by kernel_rfl) (fun _ _ _ h => h) (Or.inl ⟨by rfl, ?hy148⟩) (fun _ => hHeld) ?_
  case hy148 => (intro w hSw; go_simp; try with_reducible rfl)
  try simp only [Act.put, List.setIfInBounds_toArray, List.set_cons_zero, List.set_cons_succ]
  refine wpAnyK_take 21 [22, 25] (v := ?v149) rfl (by kernel_rfl) (fun _ _ _ h => h) (Or.inl ⟨by rfl, ?hy149⟩) hHeld ?_
  case hy149 => (intro w hSw; (try dsimp only at hSw); go_simp; try with_reducible rfl)
  try simp only [Act.put, List.setIfInBounds_toArray, List.set_cons_zero, List.set_cons_succ]
  refine wpAnyK_step 12 rfl (by kernel_rfl) (fun K hK => ?_)
  go_simp
  have C := vmul q x _ _ _ _ w2.drew (HQ2.out.nu.drewN 1) ((HR.out.2.2.1.but HB2.out).nu.drewN 1) (by decide) (by decide)
  refine C.mono ?_
  rintro e w3 ⟨p, rfl, hn⟩
  have HB3 : Hid (Below w2.heap.size w2 w3) := (below_drewN (Below.refl _ _) 1).trans (hn.2.2.mono (Nat.le_refl _))
  have HP3 : Hid (Vl w3 p (D / L * X) 6000000) := hn.vl.le (by decide)
  have HS3 : Hid (St w3 b m d y l x) := HS2.out.but HB3.out
  clear hn C
  dsimp only
  refine (fun hHeld => hK.out _ _ (fun _ => hHeld) ?_) ⟨HS3.out.c0, HS3.out.c2, HS3.out.c4⟩
  clear hK K
  try simp only [Act.put, List.setIfInBounds_toArray, List.set_cons_zero, List.set_cons_succ]
  refine wpAnyK_step 17 rfl (by kernel_rfl) (fun K hK => ?_)
  go_simp
  have C := rest_v p m _ M w3 (HP3.out.le (by decide)) ((HR.out.1.but HB2.out).below HB3.out (Nat.le_refl _)).nu HM0.out
  refine C.mono ?_
  rintro e w4 ⟨s, rfl, hn⟩
  have HB4 : Hid (Below _ _ _) := HB3.out.trans (hn.bel.mono HB3.out.size)
  have HN4 : Hid (Nu w4 s (D / L * X % M)) := hn.nu
  have HS4 : Hid (St w4 b m d y l x) := HS2.out.but HB4.out
  clear hn C HP3 HS3 HB3
  dsimp only
  refine (fun hHeld => hK.out _ _ (fun _ => hHeld) ?_) ⟨HS4.out.c0, HS4.out.c2, HS4.out.c4⟩
  clear hK K
  try simp only [Act.put, List.setIfInBounds_toArray, List.set_cons_zero, List.set_cons_succ]
  refine wpAnyK_step 22 rfl (by kernel_rfl) (fun K hK => ?_)
  go_simp
  have C := less_v y s m Y _ M w4 ((HR.out.2.2.2.2.but HB2.out).below HB4.out (Nat.le_refl _)).nu HN4.out ((HR.out.1.but HB2.out).below HB4.out (Nat.le_refl _)).nu h3 (Nat.mod_lt _ (Nat.pos_of_ne_zero HM0.out))
  refine C.mono ?_
  rintro e w5 ⟨t, rfl, hn⟩
  have HB5 : Hid (Below _ _ _) := HB4.out.trans (hn.bel.mono HB4.out.size)
  have H5 : Hid (Re w2 w5 t (lessV M Y (D / L * X % M))) := Re.later HB4.out hn
  have HS5 : Hid (St w5 b m d y l x) := HS2.out.but HB5.out
  clear hn C HN4 HS4 HB4
  dsimp only
  refine (fun hHeld => hK.out _ _ (fun _ => hHeld) ?_) ⟨HS5.out.c0, HS5.out.c2, HS5.out.c4⟩
  clear hK K
  try simp only [Act.put, List.setIfInBounds_toArray, List.set_cons_zero, List.set_cons_succ]
  refine wpAnyK_take0 23 (v := ?v153) rfl (by kernel_rfl) (fun _ _ _ h => h) (Or.inl ⟨by rfl, ?hy153⟩) (fun _ => hHeld) ?_
  case hy153 => (intro w hSw; go_simp; try with_reducible rfl)
  try simp only [Act.put, List.setIfInBounds_toArray, List.set_cons_zero, List.set_cons_succ]
  refine wpAnyK_take0 24 (v := ?v154) rfl (by kernel_rfl) (fun _ _ _ h => h) (Or.inl ⟨by rfl, ?hy154⟩) (fun _ => hHeld) ?_
  case hy154 => (intro w hSw; go_simp; try with_reducible rfl)
  try simp only [Act.put, List.setIfInBounds_toArray, List.set_cons_zero, List.set_cons_succ]
  obtain ⟨r0, r1, r2, rfl⟩ := HR2.out.sl
  obtain ⟨t0, t1, t2, rfl⟩ := H5.out.nu.shape
  have g1 := HS5.out.c1
  have g2 := HS5.out.c2
  have f1 := Cl.frozen HS5.out 1
  have f2 := Cl.frozen HS5.out 2
  refine wpAnyK_step 25 rfl (by kernel_rfl) (fun K hK => ?_)
  go_simp
  refine hK.out _ _ ?hk156 ?_
  case hk156 => exact (fun h => nomatch (h.symm.trans (show _ = true by kernel_rfl)))
  clear hK K
  try simp only [Act.put, List.setIfInBounds_toArray, List.set_cons_zero, List.set_cons_succ]
  refine wpAnyK_take0 26 (v := ?v157) rfl (by kernel_rfl) (fun _ _ _ h => h) (Or.inl ⟨by rfl, ?hy157⟩) (fun h => nomatch (h.symm.trans (show _ = true by kernel_rfl))) ?_
  case hy157 => (intro w hSw; go_simp; try with_reducible rfl)
  try simp only [Act.put, List.setIfInBounds_toArray, List.set_cons_zero, List.set_cons_succ]
  refine wpAnyK_take0 27 (v := ?v158) rfl (by kernel_rfl) (fun _ _ _ h => h) (Or.inl ⟨by rfl, ?hy158⟩) (fun h => nomatch (h.symm.trans (show _ = true by kernel_rfl))) ?_
  case hy158 => (intro w hSw; go_simp; try with_reducible rfl)
  try simp only [Act.put, List.setIfInBounds_toArray, List.set_cons_zero, List.set_cons_succ]
  refine wpAnyK_step 28 rfl (by kernel_rfl) (fun K hK => ?_)
  go_simp
  refine hK.out _ _ ?hk159 ?_
  case hk159 => exact (fun h => nomatch (h.symm.trans (show _ = true by kernel_rfl)))
  clear hK K
  try simp only [Act.put, List.setIfInBounds_toArray, List.set_cons_zero, List.set_cons_succ]
  refine wpAnyK_done (by kernel_rfl) ?_ _
  go_wp2
  go_end0
  have hb5 : But w5 ((w5.setCell ⟨b, 1, none⟩ (.slice r0 r1 r2)).setCell ⟨b, 2, none⟩ (.slice t0 t1 t2)) b := ((But.refl _ _).set _ _).set _ _
  have hb : But w ((w5.setCell ⟨b, 1, none⟩ (.slice r0 r1 r2)).setCell ⟨b, 2, none⟩ (.slice t0 t1 t2)) b := HB2.out.trans ((But.of_below HB5.out).trans hb5)
  exact ⟨rfl, ⟨m, _, _, l, x, (HS5.out.set1 _).set2 _, HR.out.1.but hb, (HR2.out.below HB5.out (Nat.le_refl _)).but hb5, (Rw.of H5.out (Nat.le_trans Hba.out HB2.out.size) (Cl.lt HS2.out)).but hb5, HR.out.2.1.but hb, HR.out.2.2.1.but hb⟩, hb⟩

end Go.Proofs.YtmngdaolgdhgmaaGreatDoor
