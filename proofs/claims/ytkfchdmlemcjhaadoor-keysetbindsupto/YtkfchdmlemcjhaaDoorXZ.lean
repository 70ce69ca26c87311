import Derived.Test.YtkfchdmlemcjhaaDoorTZ
namespace Go.Proofs.YtkfchdmlemcjhaaDoor
open Go.RowKit Go.Shelf

end Go.Proofs.YtkfchdmlemcjhaaDoor

namespace Go.Proofs.YtkfchdmlemcjhaaDoor
open Go.RowKit Go.Shelf

def zV (i : Int) : Value := .int .i64 i
/-- A list of numbers of one's own. -/
structure OZ (B : Nat) (w0 w : World) (v : Value) (l : List Int) : Prop where
  own : w.ownsRow B 3 1 v l.length (l.map zV)
  bel : Below B w0 w
theorem OZ.lift {B : Nat} {w0 w w' : World} {v : Value} {l : List Int} (h : OZ B w0 w v l) (hb : Below w.heap.size w w') (hB : B ≤ w0.heap.size) : OZ B w0 w' v l :=
  ⟨own_below h.own hb (Nat.le_refl _), h.bel.trans (hb.mono (Nat.le_trans hB h.bel.size))⟩
theorem OZ.drewN {B : Nat} {w0 w : World} {v : Value} {l : List Int} (h : OZ B w0 w v l) (n : Nat) : OZ B w0 (w.drewN n) v l := ⟨h.own, below_drewN h.bel n⟩
theorem append_z {wr : World} {ops : Array Oper} {rest : List Oper} {o : Oper} {a : Act} {Q : Exit → Act → World → Prop} (hgd : o.guard = none) (s x : Operand)
    (ho : o.op = .call { callee := .builtin .append, args := #[s, x], argTypes := #[39, 39] })
    (B : Nat) (w0 : World) (v : Value) (l : List Int) (y : Int) (hs : a.eval s = v) (h : OZ B w0 wr v l) (bn : Nat) (hbn : bn = wr.heap.size) (hx : a.eval x = .slice (some ⟨bn, 0, none⟩) 1 1) (hl : l.length ≤ 10000000000) (hB : B ≤ w0.heap.size)
    (k : ∀ v' w', OZ B w0 w' v' (l ++ [y]) → wpList Tryd.prog ops Q rest (a.put o.dst v') w') : wpList Tryd.prog ops Q (o :: rest) a (wr.alloc (.cells #[.int .i64 y] 3)) := by
  subst hbn
  obtain ⟨i, hi, hz, hsize, hby⟩ := info_parts infoI
  have hBl : Bl 3 (wr.alloc (.cells #[.int .i64 y] 3)) wr.heap.size [zV y] := alloc_bl _ _ _
  have h1 := h.lift (alloc_below wr (.cells #[.int .i64 y] 3)) hB
  refine wpList_append_own_wide _ hgd s x 39 ho B 3 i (.int .i64 0) 1 8 Tryd.underlying39 hi hz hsize hby rfl (by decide) v l.length (l.map zV) hs h1.own ⟨wr.heap.size, 0, none⟩ 1 1 [zV y] hx rfl ?_ (by intro u hu; simp at hu; subst hu; rfl) (by unfold maxLen; omega) (by omega) (Nat.le_trans hB h1.bel.size) ?_
  · intro j u hu
    obtain ⟨hlt, e⟩ := List.getElem?_eq_some_iff.1 hu
    rw [Addr.add_mid, Nat.zero_add, ← e]
    exact hBl.cell j hlt
  · intro v' w' h2 h3 _
    refine k v' w' ⟨?_, ?_⟩
    · rw [List.length_append, List.map_append]; exact h2
    · exact h1.bel.grown h3 (Nat.le_trans hB h1.bel.size) (own_block h1.own)

def lenV : Value → Nat
  | .slice _ n _ => n
  | _ => 0

/-- A copy of nodes. -/
theorem nCs_oneC (l : List Nd) : ∀ u ∈ nCs l, u.oneCell' = true := by
  intro u hu
  unfold nCs at hu
  obtain ⟨n, _, hn⟩ := List.mem_flatMap.1 hu
  simp [nC] at hn
  rcases hn with rfl | rfl | rfl | rfl | rfl | rfl <;> rfl

end Go.Proofs.YtkfchdmlemcjhaaDoor

namespace Go.Proofs.YtkfchdmlemcjhaaDoor
open Go.RowKit Go.Shelf

theorem OZ.snoc {B : Nat} {w0 w : World} {v : Value} {xs : List Int} {y : Int} (h : OZ B w0 w v (xs ++ [y])) : ∃ g c, v = .slice (some ⟨g, 0, none⟩) (xs.length + 1) c ∧ xs.length + 1 ≤ c ∧ w.cell? ⟨g, xs.length, none⟩ = some (.int .i64 y) ∧ w.frozen? ⟨g, xs.length, none⟩ = false ∧ OZ B w0 w (.slice (some ⟨g, 0, none⟩) xs.length c) xs ∧ (∀ z : Int, OZ B w0 (w.setCell ⟨g, xs.length, none⟩ (.int .i64 z)) v (xs ++ [z])) := by
  have ho := h.own
  rw [List.length_append, List.length_singleton] at ho
  obtain ⟨a, c, e, hc, hg⟩ := own_slice ho
  obtain ⟨g, rfl⟩ := hg (by omega)
  subst e
  have hcell := own_cell ho xs.length (zV y) (by simp)
  rw [List.map_append, List.map_singleton] at ho
  refine ⟨g, c, rfl, hc, hcell.1, hcell.2, ⟨?_, h.bel⟩, fun z => ?_⟩
  · have := own_short (n := xs.length) (y := zV y) ho
    exact this
  · have hs := ho.stored xs.length (zV z)
    refine ⟨?_, h.bel.grown hs.2 ?_ (own_block ho)⟩
    · rw [List.length_append, List.length_singleton, List.map_append, List.map_singleton]
      have h1 := hs.1
      rw [List.set_append_right _ _ (by simp)] at h1
      simp only [List.length_map, Nat.sub_self, List.set_cons_zero] at h1
      exact h1
    · have := (ho.lt g rfl).1
      have := (ho.lt g rfl).2
      omega

set_option maxRecDepth 100000 in
set_option maxHeartbeats 8000000 in
theorem beyond_any (v : Value) (l : List Nd) (ao : Option Addr) (cap : Nat) (w : World) (h : NR w v l ao cap) (hl : l.length ≤ 1000000000) :
    Calls Tryd.prog 4 #[v] w fun e w' => Below w.heap.size w w' ∧ ∃ b, e = .returned (.bool b) := by
  obtain ⟨rfl, hcap, _⟩ := id h
  have HN : Hid (∀ wq, Below w.heap.size w wq → NR wq (.slice ao l.length cap) l ao cap) := fun wq hq => h.below hq (Nat.le_refl _)
  clear h
  go_enter Tryd.func4, Tryd.ntmps4
  go_wp2
  go_loopw [3, 4] (fun s3 s4 wx => ∃ (k : Nat) (xs : List Int) (a3 : Option Addr) (c3 : Nat), s3 = .slice a3 xs.length c3 ∧ s4 = .int .i64 k ∧ k ≤ l.length ∧ xs.length ≤ k ∧ OZ w.heap.size w wx (.slice a3 xs.length c3) xs) (fun _ s _ => l.length - (intOf s).toNat)
  case atStart => exact ⟨0, [], none, 0, rfl, rfl, Nat.zero_le _, Nat.le_refl _, World.ownsRow_nil _ _ _ _, Below.refl _ _⟩
  case round =>
    obtain ⟨k, xs, a3, c3, rfl, rfl, hk, hx, hoz⟩ := hrel
    have HO : Hid (OZ w.heap.size w wr (.slice a3 xs.length c3) xs) := hoz
    clear hoz
    by_cases hlt : k < l.length
    · have q0 : decide ((k : Int) < (l.length : Int)) = true := decide_eq_true (by omega)
      have HCell : Hid (∀ wq, Below w.heap.size w wq → ∃ (g off : Nat) (K : Int), ao = some ⟨g, off, none⟩ ∧ wq.cell? ⟨g, off + k * 6 + 5, none⟩ = some (.int .i64 K)) := fun wq hq => by
        obtain ⟨g, off, e, hc⟩ := (HN.out wq hq).at hlt
        exact ⟨g, off, _, e, hc 5 _ (by omega) rfl⟩
      go_wp2
      go_loopw [3] (fun s3 wx => ∃ (ys : List Int) (a : Option Addr) (c : Nat), s3 = .slice a ys.length c ∧ ys.length ≤ k ∧ OZ w.heap.size w wx (.slice a ys.length c) ys) (fun s _ => lenV s)
      case atStart => exact ⟨xs, a3, c3, rfl, hx, HO.out⟩
      case round =>
        clear HO hx
        obtain ⟨ys, a, c, rfl, hy, hoz⟩ := hrel
        have HB : Hid (Below w.heap.size w wr) := hoz.bel
        obtain ⟨g, off, K, rfl, kK⟩ := HCell.out wr hoz.bel
        have HOy : Hid (OZ w.heap.size w wr (.slice a ys.length c) ys) := hoz
        clear hoz
        rcases (show ys = [] ∨ ∃ (zs : List Int) (y : Int), ys = zs ++ [y] from if e : ys = [] then .inl e else .inr (snoc_of e)) with rfl | ⟨zs, y, rfl⟩
        · simp only [List.length_nil] at HOy ⊢
          go_wp2_with (at_builtin; refine append_z (wr := wr) rfl (.tmp 43) (.tmp 49) rfl w.heap.size w _ [] K rfl HOy.out _ rfl rfl (by simp) (Nat.le_refl _) ?_; intro v5 w5 h5; rw [List.nil_append] at h5; obtain ⟨a5, c5, e5, _, _⟩ := own_slice h5.own; subst e5; have HO5 : Hid (OZ w.heap.size w w5 (.slice a5 [K].length c5) [K]) := h5; clear h5)
          go_roundw
          case rel => exact ⟨k + 1, [K], a5, c5, rfl, by go_num, by omega, by simp, HO5.out⟩
          case measure => simp [intOf]; omega
        · simp only [List.length_append, List.length_singleton] at HOy hy ⊢
          obtain ⟨g3, c', e', hc', cy, fy, hshort, hset⟩ := HOy.out.snoc
          cases e'
          have HSh : Hid (OZ w.heap.size w wr (.slice (some ⟨g3, 0, none⟩) zs.length c) zs) := hshort
          have HSe : Hid (∀ z : Int, OZ w.heap.size w (wr.setCell ⟨g3, zs.length, none⟩ (.int .i64 z)) (.slice (some ⟨g3, 0, none⟩) (zs.length + 1) c) (zs ++ [z])) := hset
          clear hshort hset
          have qz : decide ((zs.length : Int) + 1 > 0) = true := decide_eq_true (by omega)
          by_cases hy0 : y ≤ 0
          · have qy : decide (y ≤ 0) = true := decide_eq_true hy0
            clear hy0
            go_wp2
            go_roundw
            case rel => exact ⟨zs, some ⟨g3, 0, none⟩, c, by go_num, by omega, HSh.out⟩
            case measure => simp [lenV]
          · have qy : decide (y ≤ 0) = false := decide_eq_false hy0
            clear hy0
            have HSZ : Hid (wr.heap.size = (wr.setCell ⟨g3, zs.length, none⟩ (.int .i64 (wrap64 (y - 1)))).heap.size) := by show _ = _; simp
            obtain ⟨g', off', K2, e', kK2⟩ := HCell.out _ (HSe.out (wrap64 (y - 1))).bel
            cases e'
            go_wp2_with (at_builtin; refine append_z (wr := wr.setCell ⟨g3, zs.length, none⟩ (.int .i64 (wrap64 (y - 1)))) rfl (.tmp 43) (.tmp 49) rfl w.heap.size w _ (zs ++ [wrap64 (y - 1)]) K2 rfl (HSe.out (wrap64 (y - 1))) wr.heap.size HSZ.out rfl (by simp; omega) (Nat.le_refl _) ?_; intro v5 w5 h5; have HW : Hid ((zs ++ [wrap64 (y - 1)] ++ [K2]).length ≤ k + 1) := (by show _ ≤ _; simp; omega); generalize zs ++ [wrap64 (y - 1)] ++ [K2] = ws at h5 HW; obtain ⟨a5, c5, e5, _, _⟩ := own_slice h5.own; subst e5; have HO5 : Hid (OZ w.heap.size w w5 (.slice a5 ws.length c5) ws) := h5; clear h5)
            case roundEnd => exact ⟨⟨k + 1, ws, a5, c5, rfl, by go_num, by omega, HW.out, HO5.out⟩, by simp [intOf]; omega⟩
            go_ret
            exact ⟨HO5.out.bel, _, rfl⟩
    · have q0 : decide ((k : Int) < (l.length : Int)) = false := decide_eq_false (by omega)
      go_wp2
      go_ret
      exact ⟨HO.out.bel, _, rfl⟩

end Go.Proofs.YtkfchdmlemcjhaaDoor
