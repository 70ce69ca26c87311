import Derived.Test.YtcdcfgkgighmhaaGreatDoorGf
import Derived.ArgAppend
import Derived.Lib.AppendZeros
namespace Go.Proofs.YtcdcfgkgighmhaaGreatDoor
open Go.RowKit Go.MuLone
set_option maxRecDepth 100000

/-- Several cells set. -/
def setL (xs : List Value) : Nat → List Value → List Value
  | _, [] => xs
  | o, c :: cs => setL (xs.set o c) (o + 1) cs
theorem run_clear_one (w : World) (ty : TypeId) (b o c : Nat) (hc : ∀ j, j < 4 → (w.cell? ⟨b, o + j, none⟩).isSome = true) (hf : ∀ j, j < 4 → w.frozen? ⟨b, o + j, none⟩ = false) :
    (Builtin.clear_ #[38] ty #[.slice (some ⟨b, o, none⟩) 1 c]).run Tryz.prog w = .ok (.tuple #[]) (w.setCells b o (sC ks0)) := by
  have hv : ∀ w, (zeroValue 49).run Tryz.prog w = .ok (.agg #[.string ⟨#[]⟩, .int .i64 0, .int .i64 0, .bool false]) w := fun w => by kernel_rfl
  have hst := run_storeCells_cells (P := Tryz.prog) b o (sC ks0) 0 w (by simpa [sC] using hc) (by simpa [sC] using hf) (by intro v hv'; simp [sC] at hv'; rcases hv' with rfl | rfl | rfl | rfl <;> rfl)
  simp only [Nat.add_zero] at hst
  have hzc : (Builtin.zeroCells (Value.agg #[.string ⟨#[]⟩, .int .i64 0, .int .i64 0, .bool false]).cells 1).toList = sC ks0 := by kernel_rfl
  simp [Builtin.clear_, run_underlying Tryz.underlying38, hv, hzc, hst]

/-- A row of one's own, cells written within its room. -/
theorem own_cells {w : World} {base g n cap size : Nat} {e : TypeId} {xs : List Value} (h : w.ownsRow base e size (.slice (some ⟨g, 0, none⟩) n cap) n xs) : ∃ cur : List Value, Bl e w g cur ∧ cur.length = cap * size ∧ cur.take (n * size) = xs ∧ base ≤ g ∧ n ≤ cap ∧ cap ≤ maxLen := by
  rcases h.2 with ⟨h0, _⟩ | ⟨g', cap', cur, e, hg, hh, hn, hc, hsz, ht⟩
  · cases h0
  · cases e
    exact ⟨cur.toList, by unfold Bl; simpa using hh, by simpa using hsz, ht, hg, hn, hc⟩
theorem cells_own {w : World} {base g n cap size : Nat} {e : TypeId} {xs cur : List Value} (hb : Bl e w g cur) (hl : cur.length = cap * size) (ht : cur.take (n * size) = xs) (hx : xs.length = n * size) (hg : base ≤ g) (hn : n ≤ cap) (hc : cap ≤ maxLen) : w.ownsRow base e size (.slice (some ⟨g, 0, none⟩) n cap) n xs :=
  ⟨hx, .inr ⟨g, cap, cur.toArray, rfl, hg, hb, hn, hc, by simpa using hl, by simpa using ht⟩⟩

theorem sCs_erase (L : List Ks) (i : Nat) : sCs (L.eraseIdx i) = sCs (L.take i) ++ sCs (L.drop (i + 1)) := by
  rw [List.eraseIdx_eq_take_drop_succ]
  simp [sCs]
theorem Bl.cells_set {t : TypeId} {w : World} {b : Nat} : ∀ (vs cs : List Value) (o : Nat), Bl t w b cs → Bl t (w.setCells b o vs) b (setL cs o vs)
  | [], _, _, h => h
  | v :: r, cs, o, h => Bl.cells_set r (cs.set o v) (o + 1) (h.set o v)
theorem setL_mid : ∀ (vs A B C : List Value), B.length = vs.length → setL (A ++ (B ++ C)) A.length vs = A ++ (vs ++ C)
  | [], A, [], C, _ => rfl
  | [], _, _ :: _, _, h => by simp at h
  | _ :: _, _, [], _, h => by simp at h
  | v :: r, A, b :: s, C, h => by
    unfold setL
    have e : (A ++ (b :: s ++ C)).set A.length v = (A ++ [v]) ++ (s ++ C) := by
      rw [List.set_append_right _ _ (Nat.le_refl _), Nat.sub_self]
      simp
    rw [e]
    have := setL_mid r (A ++ [v]) s C (by simpa using h)
    rw [List.length_append, List.length_singleton] at this
    rw [this]
    simp
theorem chf_cells {w : World} {g : Nat} : ∀ (vs : List Value) (o : Nat) (wr : World), Chf (fun k => k = g) w wr → Chf (fun k => k = g) w (wr.setCells g o vs)
  | [], _, _, h => h
  | v :: r, o, _, h => chf_cells r (o + 1) _ (Chf.set (f := fun k => k = g) (g := g) (j := o) h (.inl rfl) v)

end Go.Proofs.YtcdcfgkgighmhaaGreatDoor
