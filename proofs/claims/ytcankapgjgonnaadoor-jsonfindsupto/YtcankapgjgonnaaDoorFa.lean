import Derived.Test.YtcankapgjgonnaaDoorXZ
import Derived.Test.YtcankapgjgonnaaDoorWc
import Derived.Deep.AppendLies
import Derived.Laws.AppendOwnNone
import Derived.Deep.MidRow
namespace Go.Proofs.YtcankapgjgonnaaDoor
open Go.RowKit Go.Shelf

/-- Since a only two of its blocks have changed. -/
structure Ky (w0 a : World) (g1 g2 : Option Nat) (w : World) : Prop where
  bel : Below w0.heap.size w0 w
  size : a.heap.size ≤ w.heap.size
  blk : ∀ g, g < a.heap.size → some g ≠ g1 → some g ≠ g2 → w.heap[g]? = a.heap[g]?
theorem Ky.refl {w0 a : World} (g1 g2 : Option Nat) (h : Below w0.heap.size w0 a) : Ky w0 a g1 g2 a := ⟨h, Nat.le_refl _, fun _ _ _ _ => rfl⟩
theorem Ky.below {w0 a w w' : World} {g1 g2 : Option Nat} (h : Ky w0 a g1 g2 w) (hb : Below w.heap.size w w') : Ky w0 a g1 g2 w' :=
  ⟨h.bel.trans (hb.mono h.bel.size), Nat.le_trans h.size hb.size, fun g hg h1 h2 => (hb.block g (Nat.lt_of_lt_of_le hg h.size)).trans (h.blk g hg h1 h2)⟩
theorem Ky.drewN {w0 a w : World} {g1 g2 : Option Nat} (h : Ky w0 a g1 g2 w) (n : Nat) : Ky w0 a g1 g2 (w.drewN n) := ⟨below_drewN h.bel n, h.size, h.blk⟩
theorem Ky.grown {w0 a w w' : World} {g1 g2 row : Option Nat} (h : Ky w0 a g1 g2 w) (hg : w.grownBy w' row) (hr : ∀ k, row = some k → w0.heap.size ≤ k ∧ (some k = g1 ∨ some k = g2 ∨ a.heap.size ≤ k)) : Ky w0 a g1 g2 w' := by
  refine ⟨h.bel.grown hg h.bel.size (fun k hk => (hr k hk).1), Nat.le_trans h.size hg.size, fun g hga h1 h2 => ?_⟩
  rw [hg.block g (Nat.lt_of_lt_of_le hga h.size) (fun e => ?_)]
  · exact h.blk g hga h1 h2
  · rcases (hr g e.symm).2 with h3 | h3 | h3
    · exact h1 h3
    · exact h2 h3
    · omega

theorem NR.ky {w0 a w : World} {g1 g2 : Option Nat} {v : Value} {l : List Nd} {ao : Option Addr} {cap : Nat} (h : NR a v l ao cap) (hk : Ky w0 a g1 g2 w) (hne : ∀ g off, ao = some ⟨g, off, none⟩ → some g ≠ g1 ∧ some g ≠ g2) : NR w v l ao cap := by
  refine ⟨h.val, h.cap, ?_⟩
  rcases h.cell with h0 | ⟨g, off, e, hg, hc⟩
  · exact .inl h0
  · exact .inr ⟨g, off, e, Nat.lt_of_lt_of_le hg hk.size, fun j u hu => cell_but (hc j u hu) fun hlt => hk.blk g hlt (hne g off e).1 (hne g off e).2⟩

/-- Numbers that can be read. -/
structure IR (w : World) (v : Value) (l : List Int) (ao : Option Addr) (cap : Nat) : Prop where
  val : v = .slice ao l.length cap
  cap : l.length ≤ cap
  cell : l = [] ∨ ∃ g off : Nat, ao = some ⟨g, off, none⟩ ∧ g < w.heap.size ∧ ∀ j, j < l.length → w.cell? ⟨g, off + j, none⟩ = some (.int .i64 (l.getD j 0))
theorem IR.ky {w0 a w : World} {g1 g2 : Option Nat} {v : Value} {l : List Int} {ao : Option Addr} {cap : Nat} (h : IR a v l ao cap) (hk : Ky w0 a g1 g2 w) (hne : ∀ g off, ao = some ⟨g, off, none⟩ → some g ≠ g1 ∧ some g ≠ g2) : IR w v l ao cap := by
  refine ⟨h.val, h.cap, ?_⟩
  rcases h.cell with h0 | ⟨g, off, e, hg, hc⟩
  · exact .inl h0
  · exact .inr ⟨g, off, e, Nat.lt_of_lt_of_le hg hk.size, fun j hj => cell_but (hc j hj) fun hlt => hk.blk g hlt (hne g off e).1 (hne g off e).2⟩
theorem IR.below {w w' : World} {v : Value} {l : List Int} {ao : Option Addr} {cap n : Nat} (h : IR w v l ao cap) (hb : Below n w w') (hn : w.heap.size ≤ n) : IR w' v l ao cap := by
  refine ⟨h.val, h.cap, ?_⟩
  rcases h.cell with h0 | ⟨g, off, e, hg, hc⟩
  · exact .inl h0
  · exact .inr ⟨g, off, e, Nat.lt_of_lt_of_le hg hb.size, fun j hj => cell_but (hc j hj) fun _ => hb.block g (by omega)⟩
theorem IR.drewN {w : World} {v : Value} {l : List Int} {ao : Option Addr} {cap : Nat} (h : IR w v l ao cap) (n : Nat) : IR (w.drewN n) v l ao cap := ⟨h.val, h.cap, h.cell⟩
theorem IR.at {w : World} {v : Value} {l : List Int} {ao : Option Addr} {cap : Nat} (h : IR w v l ao cap) {i : Nat} (hi : i < l.length) : ∃ g off : Nat, ao = some ⟨g, off, none⟩ ∧ w.cell? ⟨g, off + i, none⟩ = some (.int .i64 (l.getD i 0)) := by
  rcases h.cell with h0 | ⟨g, off, e, _, hc⟩
  · subst h0; simp at hi
  · exact ⟨g, off, e, hc i hi⟩
/-- A list of numbers of one's own: where it lies. -/
def Own1 (B : Nat) (w : World) (v : Value) (l : List Int) : Prop := w.ownsRow B 3 1 v l.length (l.map zV)
theorem own_ir {B : Nat} {w : World} {v : Value} {l : List Int} (h : Own1 B w v l) : ∃ ao cap, IR w v l ao cap ∧ (∀ g off, ao = some ⟨g, off, none⟩ → off = 0 ∧ B ≤ g ∧ g < w.heap.size) ∧ v.ownBlock = ao.map (·.block) ∧ (ao = none → cap = 0) := by
  have hlt := World.ownsRow.lt h
  unfold Own1 at h
  rcases h.2 with ⟨hv, hn⟩ | ⟨g, cap, cur, hv, hb, hg, hc1, hc2, hs, ht⟩
  · refine ⟨none, 0, ⟨by rw [hv, hn], by omega, .inl (List.eq_nil_of_length_eq_zero hn)⟩, fun g off e => (by cases e), by rw [hv]; rfl, fun _ => rfl⟩
  · refine ⟨some ⟨g, 0, none⟩, cap, ⟨hv, hc1, ?_⟩, fun g' off e => ?_, by rw [hv]; rfl, fun e => by cases e⟩
    · rcases Nat.eq_zero_or_pos l.length with h0 | h0
      · exact .inl (List.eq_nil_of_length_eq_zero h0)
      · refine .inr ⟨g, 0, rfl, (hlt g (by rw [hv]; rfl)).2, fun j hj => ?_⟩
        rw [Nat.zero_add]
        refine (own_cell (hv ▸ h) j _ ?_).1
        rw [List.getElem?_map, List.getElem?_eq_getElem hj]
        simp [zV, List.getD_eq_getElem?_getD, hj]
    · cases e
      exact ⟨rfl, hb, (hlt _ (by rw [hv]; rfl)).2⟩
/-- A row of one's own, several cells set. -/
def setL (xs : List Value) : Nat → List Value → List Value
  | _, [] => xs
  | o, c :: cs => setL (xs.set o c) (o + 1) cs
theorem own_setCells {base n size g cap : Nat} {e : TypeId} : ∀ (cs xs : List Value) (o : Nat) (w : World), w.ownsRow base e size (.slice (some ⟨g, 0, none⟩) n cap) n xs → (w.setCells g o cs).ownsRow base e size (.slice (some ⟨g, 0, none⟩) n cap) n (setL xs o cs) ∧ w.grownBy (w.setCells g o cs) (some g)
  | [], xs, o, w, h => ⟨h, ⟨rfl, rfl, rfl, Nat.le_refl _, fun _ _ _ => rfl⟩⟩
  | c :: cs, xs, o, w, h => by
    have h1 := World.ownsRow.stored h o c
    have h2 := own_setCells cs (xs.set o c) (o + 1) _ h1.1
    refine ⟨h2.1, ⟨h2.2.os.trans h1.2.os, h2.2.tape.trans h1.2.tape, h2.2.output.trans h1.2.output, Nat.le_trans h1.2.size h2.2.size, fun k hk hne => ?_⟩⟩
    rw [← h1.2.block k hk hne]
    exact h2.2.block k (Nat.lt_of_lt_of_le hk h1.2.size) hne
theorem setL_app (A : List Value) : ∀ (cs ds R : List Value), ds.length = cs.length → setL (A ++ (ds ++ R)) A.length cs = A ++ (cs ++ R)
  | [], [], R, _ => rfl
  | [], _ :: _, _, h => by simp at h
  | _ :: _, [], _, h => by simp at h
  | c :: cs, d :: ds, R, h => by
    unfold setL
    have e : (A ++ (d :: ds ++ R)).set A.length c = (A ++ [c]) ++ (ds ++ R) := by
      rw [List.set_append_right _ _ (Nat.le_refl _), Nat.sub_self]
      simp
    rw [e]
    have := setL_app (A ++ [c]) cs ds R (by simpa using h)
    rw [List.length_append, List.length_singleton] at this
    rw [this]
    simp
theorem setL_node (P : List Nd) (n m : Nd) (R : List Nd) : setL (nCs (P ++ n :: R)) (P.length * 6) (nC m) = nCs (P ++ m :: R) := by
  have e1 : ∀ x : Nd, nCs (P ++ x :: R) = nCs P ++ (nC x ++ nCs R) := fun x => by rw [nCs_append]; rfl
  rw [e1, e1, ← nCs_length P]
  exact setL_app (nCs P) (nC m) (nC n) (nCs R) rfl
theorem own_there {w : World} {base n g cap : Nat} {e : TypeId} {size : Nat} {xs : List Value} (h : w.ownsRow base e size (.slice (some ⟨g, 0, none⟩) n cap) n xs) {o k : Nat} (hk : o + k ≤ xs.length) : w.there g o k := fun j hj => by
  have := own_cell h (o + j) (xs[o + j]'(by omega)) (by simp)
  exact ⟨by rw [this.1]; rfl, this.2⟩

theorem takeI {l : List Int} {k : Nat} (hk : k < l.length) : l.take (k + 1) = l.take k ++ [l.getD k 0] := by
  rw [List.take_add_one, List.getElem?_eq_getElem hk]
  simp [List.getD_eq_getElem?_getD, hk]

set_option maxRecDepth 100000 in
set_option maxHeartbeats 4000000 in
theorem sameInts_any (v1 v2 : Value) (l1 l2 : List Int) (a1 a2 : Option Addr) (c1 c2 : Nat) (w : World) (h1 : IR w v1 l1 a1 c1) (h2 : IR w v2 l2 a2 c2) (hl : l1.length ≤ 1000000000) :
    Calls Tryd.prog 14 #[v1, v2] w fun e w' => e = .returned (.bool (decide (l1 = l2))) ∧ ∃ q, w' = w.drewN q := by
  obtain ⟨rfl, _, _⟩ := id h1
  obtain ⟨rfl, _, _⟩ := id h2
  by_cases he : l1.length = l2.length
  · have HN1 : Hid (IR w (.slice a1 l1.length c1) l1 a1 c1) := h1
    have HN2 : Hid (IR w (.slice a2 l2.length c2) l2 a2 c2) := h2
    have HE : Hid (l1.length = l2.length) := he
    have qe : ((l1.length : Int) != (l2.length : Int)) = false := by simp; omega
    clear h1 h2 he
    go_enter Tryd.func14, Tryd.ntmps14
    go_wp2
    go_loopw [5] (fun s5 wx => ∃ k q : Nat, s5 = .int .i64 k ∧ k ≤ l1.length ∧ wx = w.drewN q ∧ Hid (l1.take k = l2.take k)) (fun s _ => l1.length - (intOf s).toNat)
    case atStart => exact ⟨0, 0, rfl, Nat.zero_le _, rfl, rfl⟩
    case round =>
      obtain ⟨k, q, rfl, hk, rfl, HT⟩ := hrel
      by_cases hlt : k < l1.length
      · have q0 : decide ((k : Int) < (l1.length : Int)) = true := decide_eq_true (by omega)
        have hlt2 : k < l2.length := by have := HE.out; omega
        have hltI : (k : Int) < (l2.length : Int) := by omega
        obtain ⟨g1, o1, rfl, k1⟩ := HN1.out.at hlt
        obtain ⟨g2, o2, rfl, k2⟩ := HN2.out.at hlt2
        obtain ⟨x, hx⟩ : ∃ n, l1.getD k 0 = n := ⟨_, rfl⟩
        obtain ⟨y, hy⟩ : ∃ n, l2.getD k 0 = n := ⟨_, rfl⟩
        rw [hx] at k1
        rw [hy] at k2
        have HS : Hid (x = y → l1.take (k + 1) = l2.take (k + 1)) := fun e => by
          rw [takeI hlt, takeI hlt2, HT.out, hx, hy, e]
        have HX : Hid (x ≠ y → l1 ≠ l2) := fun hne e => hne (by rw [← hx, ← hy, e])
        clear hx hy
        by_cases heq : x = y
        · have HS3 : Hid (l1.take (k + 1) = l2.take (k + 1)) := HS.out heq
          have qn : (x != y) = false := by simp [heq]
          clear HS HX heq
          go_wp2
          go_quiet (fail)
          go_wp2
          go_roundw
          case rel => exact ⟨k + 1, _, by go_num, by omega, rfl, HS3⟩
          case measure => simp [intOf]; omega
        · have HF : Hid (decide (l1 = l2) = false) := decide_eq_false (HX.out heq)
          have qn : (x != y) = true := by simpa using heq
          clear HS HX heq
          go_wp2
          go_quiet (fail)
          go_wp2
          go_ret
          rw [HF.out]
          exact ⟨rfl, _, World.drewN_drewN _ _ _⟩
      · have q0 : decide ((k : Int) < (l1.length : Int)) = false := decide_eq_false (by omega)
        have HF : Hid (decide (l1 = l2) = true) := decide_eq_true (by
          have h1 := HT.out
          have := HE.out
          rwa [List.take_of_length_le (by omega), List.take_of_length_le (by omega)] at h1)
        go_wp2
        go_ret
        rw [HF.out]
        exact ⟨rfl, _, rfl⟩
  · have qe : ((l1.length : Int) != (l2.length : Int)) = true := by simp; omega
    have HF : Hid (decide (l1 = l2) = false) := decide_eq_false (fun e => he (by rw [e]))
    clear h1 h2 he
    go_enter Tryd.func14, Tryd.ntmps14
    go_wp2
    go_ret
    rw [HF.out]
    exact ⟨rfl, 0, rfl⟩

end Go.Proofs.YtcankapgjgonnaaDoor
