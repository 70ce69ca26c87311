import Derived.Test.YtefpjjonmoofpaaNtRow
import Derived.Laws.IdiomCopy
import Derived.OwnWalk
namespace Go.Proofs.Ytefpjjonmoofpaa
open Go.RowKit

theorem infoU : (Try.prog.info? 36).map (fun i => (i.zero, i.size, i.bytes)) = some (some (.int .u32 0), 1, 4) := by kernel_rfl
theorem infoB : (Try.prog.info? 5).map (fun i => (i.zero, i.size, i.bytes)) = some (some (.int .u8 0), 1, 1) := by kernel_rfl
theorem oneU (l : List Nat) : ∀ v ∈ l.map U, v.oneCell' = true := by
  intro v hv
  obtain ⟨c, _, rfl⟩ := List.mem_map.1 hv
  rfl
theorem oneB (l : List UInt8) : ∀ v ∈ l.map B, v.oneCell' = true := by
  intro v hv
  obtain ⟨c, _, rfl⟩ := List.mem_map.1 hv
  rfl
theorem alloc_below (w : World) (o : Obj) : Below w.heap.size w (w.alloc o) := Below.alloc (Below.refl _ _) (Nat.le_refl _) _

/-- A row with a stretch of it written over. -/
def spl (vs : List Value) (off : Nat) (xs : List Value) : List Value := vs.take off ++ xs ++ vs.drop (off + xs.length)

theorem spl_length (vs : List Value) (off : Nat) (xs : List Value) (h : off + xs.length ≤ vs.length) : (spl vs off xs).length = vs.length := by
  unfold spl; simp; omega

theorem spl_nil (vs : List Value) (off : Nat) : spl vs off [] = vs := by simp [spl]

theorem spl_set (vs : List Value) (off : Nat) (xs : List Value) (v : Value) (h : off + xs.length < vs.length) : (spl vs off xs).set (off + xs.length) v = spl vs off (xs ++ [v]) := by
  unfold spl
  have e : (vs.take off ++ xs).length = off + xs.length := by simp; omega
  rw [List.set_append_right _ _ (by omega), e, Nat.sub_self, List.drop_eq_getElem_cons h, List.set_cons_zero]
  simp [Nat.add_assoc]

theorem spl_spl (vs : List Value) (o : Nat) (xs ys : List Value) (h : o + xs.length ≤ vs.length) : spl (spl vs o xs) (o + xs.length) ys = spl vs o (xs ++ ys) := by
  have e : (vs.take o ++ xs).length = o + xs.length := by simp; omega
  unfold spl
  rw [List.take_append_of_le_length (by omega), List.take_of_length_le (by omega), List.drop_append, e, show o + xs.length + ys.length - (o + xs.length) = ys.length by omega, List.drop_of_length_le (by omega), List.drop_drop, List.length_append]
  simp [Nat.add_assoc]

theorem spl_one (vs : List Value) (o : Nat) (v : Value) (h : o < vs.length) : vs.set o v = spl vs o [v] := by
  have := spl_set vs o [] v (by simpa using h)
  rw [spl_nil] at this
  simpa using this

theorem Bl.cells {t : TypeId} {b : Nat} : ∀ (xs : List Value) (o : Nat) (w : World) (vs : List Value), Bl t w b vs → o + xs.length ≤ vs.length → Bl t (w.setCells b o xs) b (spl vs o xs)
  | [], o, w, vs, h, _ => by rw [spl_nil]; exact h
  | v :: r, o, w, vs, h, hl => by
    have hl2 : o + (r.length + 1) ≤ vs.length := hl
    have h1 := Bl.cells r (o + 1) (w.setCell ⟨b, o, none⟩ v) (vs.set o v) (h.set o v) (by rw [List.length_set]; omega)
    rw [spl_one vs o v (by omega)] at h1
    have h2 := spl_spl vs o [v] r (by simp; omega)
    rw [List.length_singleton] at h2
    rw [h2] at h1
    exact h1

theorem But.cells {b : Nat} : ∀ (xs : List Value) (o : Nat) (w w' : World), But w w' b → But w (w'.setCells b o xs) b
  | [], _, _, _, h => h
  | v :: r, o, w, w', h => But.cells r (o + 1) w (w'.setCell ⟨b, o, none⟩ v) (h.set o v)

theorem size_cells {b : Nat} : ∀ (xs : List Value) (o : Nat) (w : World), (w.setCells b o xs).heap.size = w.heap.size
  | [], _, _ => rfl
  | v :: r, o, w => by
    have := size_cells (b := b) r (o + 1) (w.setCell ⟨b, o, none⟩ v)
    rw [World.setCells, this]
    simp

/-- New limbs, all nought. -/
theorem madeU (w : World) (n : Nat) (hn : n ≤ 10000000000) : ∃ wm, (Instr.makeSlice 31 (.int .i64 (n : Int)) (.int .i64 (n : Int))).run Try.prog w = .ok (.slice (some ⟨w.heap.size, 0, none⟩) n n) wm ∧ Bl 36 wm w.heap.size ((List.replicate n 0).map U) ∧ Below w.heap.size w wm ∧ wm.heap.size = w.heap.size + 1 := by
  obtain ⟨i0, hi, hz0, hz1, hz2⟩ := info_parts infoU
  refine ⟨w.alloc (.cells ((List.replicate n 0).map U).toArray 36), ?_, alloc_bl _ _ _, alloc_below _ _, World.size_alloc _ _⟩
  rw [run_make w 31 36 i0 (.int .u32 0) Try.underlying31 hi hz0 .i64 .i64 (n : Int) (n : Int) (by omega) (by omega) (by rw [hz2]; omega) (by omega)]
  have e : madeCells (Value.cells (.int .u32 0)) ((n : Int).toNat * i0.size) = ((List.replicate n 0).map U).toArray := by
    rw [hz1, Int.toNat_natCast, Nat.mul_one]
    apply Array.toList_inj.1
    have := toList_madeCells_one (.int .u32 0) n
    rw [List.map_replicate]
    exact this
  rw [e]
  simp

/-- copy of limbs that can be read, into noughts of one's own. -/
theorem copyU (w : World) (g o N dc m c n : Nat) (ao : Option Addr) (xs : List Nat) (hb : Bl 36 w g ((List.replicate n 0).map U)) (hx : Rn w ao xs) (hm : m = xs.length) (hN : o + N = n) (hle : m ≤ N) :
    ∃ w1, (Builtin.copy_ #[31, 31] 3 #[.slice (some ⟨g, o, none⟩) N dc, .slice ao m c]).run Try.prog w = .ok (goInt m) w1 ∧ Bl 36 w1 g ((List.replicate o 0 ++ xs ++ List.replicate (N - m) 0).map U) ∧ But w w1 g ∧ w1.heap.size = w.heap.size := by
  subst hm
  have hmin : Nat.min xs.length N = xs.length := Nat.min_eq_left hle
  by_cases h0 : xs = []
  · subst h0
    refine ⟨w, run_copy_none w 31 31 3 36 _ _ _ _ _ _ Try.underlying31 (by kernel_rfl) hmin, ?_, But.refl _ _, rfl⟩
    have e : List.replicate o 0 ++ [] ++ List.replicate (N - ([] : List Nat).length) 0 = List.replicate n 0 := by simp [← hN]
    rw [e]; exact hb
  · rcases hx with h1 | ⟨b, off, rfl, hlt, hc⟩
    · exact absurd h1 h0
    · refine ⟨w.setCells g o (xs.map U), ?_, ?_, But.cells _ _ _ _ (But.refl _ _), size_cells _ _ _⟩
      · have h1 := run_copy_cells (P := Try.prog) w 31 31 3 36 g o N dc ⟨b, off, none⟩ xs.length c (xs.map U) Try.underlying31 (by kernel_rfl) (by rw [List.length_map]; exact hmin.symm) (fun j v hj => by
            obtain ⟨hj1, hj2⟩ := List.getElem?_eq_some_iff.1 hj
            have hj3 : j < xs.length := by simpa using hj1
            rw [Addr.add_mid, hc j hj3, ← hj2, List.getElem_map, getD_eq _ _ hj3]) (fun j hj => by
            rw [List.length_map] at hj
            rw [hb.cell (o + j) (by simp; omega)]
            rfl) (fun j _ => hb.frozen _) (oneU xs)
        rw [List.length_map] at h1
        exact h1
      · have h1 := Bl.cells (xs.map U) o w _ hb (by simp; omega)
        unfold spl at h1
        rw [List.length_map, ← List.map_take, ← List.map_drop, ← List.map_append, ← List.map_append, List.take_replicate, List.drop_replicate, Nat.min_eq_left (by omega), show n - (o + xs.length) = N - xs.length by omega] at h1
        exact h1

/-- A row of limbs of one's own. -/
def Ow (w : World) (base : Nat) (v : Value) (xs : List Nat) : Prop := w.ownsRow base 36 1 v xs.length (xs.map U)
/-- A value that is a number of these limbs. -/
def Nm (w : World) (v : Value) (xs : List Nat) : Prop := ∃ (ao : Option Addr) (c : Nat), v = .slice ao xs.length c ∧ xs.length ≤ c ∧ Rn w ao xs ∧ Sm Bs xs

theorem Nm.below {w w' : World} {v : Value} {xs : List Nat} {n : Nat} (h : Nm w v xs) (hb : Below n w w') (hn : w.heap.size ≤ n) : Nm w' v xs := by
  obtain ⟨ao, c, e, hc, hr, hs⟩ := h
  exact ⟨ao, c, e, hc, hr.below hb hn, hs⟩
theorem Nm.drewN {w : World} {v : Value} {xs : List Nat} (h : Nm w v xs) (q : Nat) : Nm (w.drewN q) v xs := h
theorem Nm.drew {w : World} {v : Value} {xs : List Nat} (h : Nm w v xs) : Nm w.drew v xs := h
theorem Nm.sm {w : World} {v : Value} {xs : List Nat} (h : Nm w v xs) : Sm Bs xs := by obtain ⟨_, _, _, _, _, hs⟩ := h; exact hs
theorem Ow.nm {w : World} {base : Nat} {v : Value} {xs : List Nat} (h : Ow w base v xs) (hs : Sm Bs xs) : Nm w v xs := by
  rcases h.2 with ⟨rfl, h0⟩ | ⟨g, cap, cur, rfl, hg, hh, hn, hc, hsz, ht⟩
  · have : xs = [] := List.eq_nil_of_length_eq_zero h0
    subst this
    exact ⟨none, 0, rfl, Nat.le_refl _, .inl rfl, hs⟩
  · refine ⟨_, cap, rfl, hn, .inr ⟨g, 0, rfl, (World.ownsRow.lt h g rfl).2, fun j hj => ?_⟩, hs⟩
    rw [Nat.zero_add, World.ownsRow.cellAt h j (by omega)]
    rw [List.getElem?_map, List.getElem?_eq_getElem hj, getD_eq _ _ hj]; rfl
theorem Bl.ow {w : World} {base g : Nat} {L : List Nat} (h : Bl 36 w g (L.map U)) (k : Nat) (hk : k ≤ L.length) (hg : base ≤ g) (hl : L.length ≤ 10000000000) : Ow w base (.slice (some ⟨g, 0, none⟩) k L.length) (L.take k) := by
  have e : (L.take k).length = k := by rw [List.length_take]; omega
  refine ⟨by simp, .inr ⟨g, L.length, (L.map U).toArray, by rw [e], hg, h, by rw [e]; exact hk, ?_, by simp, ?_⟩⟩
  · unfold maxLen; omega
  · rw [e]; simp [List.map_take]
theorem Bl.proper {w : World} {base g : Nat} {L : List Nat} (h : Bl 36 w g (L.map U)) (hs : Sm Bs L) (hg : base ≤ g) (hl : L.length ≤ 10000000000) : Ow w base (.slice (some ⟨g, 0, none⟩) (tl L) L.length) (dg Bs (nv Bs L)) := by
  rw [← trim_dg Bs_two hs]
  exact h.ow (tl L) (tl_le L) hg hl
theorem Ow.nil (w : World) (base : Nat) : Ow w base (.slice none 0 0) [] := ⟨rfl, .inl ⟨rfl, rfl⟩⟩

end Go.Proofs.Ytefpjjonmoofpaa
