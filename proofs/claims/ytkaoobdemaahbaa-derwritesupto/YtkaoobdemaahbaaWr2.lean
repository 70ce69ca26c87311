import Derived.Test.YtkaoobdemaahbaaWr1
import Derived.Test.YtkaoobdemaahbaaRd6
import Derived.Laws.MakeOwn
namespace Go.Proofs.Ytkaoobdemaahbaa
open Go.RowKit

def I (n : Nat) : Value := .int .i64 (n : Int)
theorem infoI : (Try.prog.info? 3).map (fun i => (i.zero, i.size, i.bytes)) = some (some (.int .i64 0), 1, 8) := by kernel_rfl

/-- The lengths of all elements' contents. -/
def insL : List E → List Nat
  | [] => []
  | t :: r => ins t r :: insL r
theorem insL_length (l : List E) : (insL l).length = l.length := by induction l with | nil => rfl | cons t r ih => simp [insL, ih]

theorem madeI (w : World) (n : Nat) (hn : n ≤ 10000000000) : ∃ wm, (Instr.makeSlice 33 (.int .i64 (n : Int)) (.int .i64 (n : Int))).run Try.prog w = .ok (.slice (some ⟨w.heap.size, 0, none⟩) n n) wm ∧ Bl 3 wm w.heap.size ((List.replicate n 0).map I) ∧ Below w.heap.size w wm ∧ wm.heap.size = w.heap.size + 1 := by
  obtain ⟨i0, hi, hz0, hz1, hz2⟩ := info_parts infoI
  refine ⟨w.alloc (.cells ((List.replicate n 0).map I).toArray 3), ?_, alloc_bl _ _ _, alloc_below _ _, World.size_alloc _ _⟩
  rw [run_make w 33 3 i0 (.int .i64 0) Try.underlying33 hi hz0 .i64 .i64 (n : Int) (n : Int) (by omega) (by omega) (by rw [hz2]; omega) (by omega)]
  have e : madeCells (Value.cells (.int .i64 0)) ((n : Int).toNat * i0.size) = ((List.replicate n 0).map I).toArray := by
    rw [hz1, Int.toNat_natCast, Nat.mul_one]
    apply Array.toList_inj.1
    have := toList_madeCells_one (.int .i64 0) n
    rw [List.map_replicate]
    exact this
  rw [e]
  simp

theorem oneI (l : List Nat) : ∀ u ∈ l.map I, u.oneCell' = true := fun u hu => by
  obtain ⟨x, _, rfl⟩ := List.mem_map.1 hu; rfl

theorem own_take {w : World} {base n : Nat} {e : TypeId} {a : Option Addr} {c : Nat} {xs : List Value} (h : w.ownsRow base e 1 (.slice a n c) n xs) (k : Nat) (hk : k ≤ n) : w.ownsRow base e 1 (.slice a k c) k (xs.take k) := by
  refine ⟨by have := h.1; simp; omega, ?_⟩
  rcases h.2 with ⟨h', h0⟩ | ⟨g, cap, cur, h', h1, h2, h3, h4, h5, h6⟩
  · simp only [Value.slice.injEq] at h'
    obtain ⟨rfl, _, rfl⟩ := h'
    obtain rfl : k = 0 := by omega
    exact .inl ⟨rfl, rfl⟩
  · simp only [Value.slice.injEq] at h'
    obtain ⟨rfl, _, rfl⟩ := h'
    refine .inr ⟨g, c, cur, rfl, h1, h2, by omega, h4, h5, ?_⟩
    rw [← h6, List.take_take, Nat.mul_one, Nat.mul_one, Nat.min_eq_left hk]

theorem rev_drop (l : List Nat) (k : Nat) (h : k ≤ l.length) : l.reverse.drop (l.length - k) = (l.take k).reverse := by
  rw [List.drop_reverse]; congr 2; omega
theorem rev_take (l : List Nat) (k : Nat) (h : k ≤ l.length) : l.reverse.take (l.length - k) = (l.drop k).reverse := by
  rw [List.take_reverse]; congr 2; omega

/-- The lengths so far: those of the elements from j on, and the sizes that wait. -/
structure Ls (w wr : World) (bi : Nat) (v : Value) (es : List E) (j : Nat) : Prop where
  bel : Below w.heap.size w wr
  ins : Bl 3 wr bi ((List.replicate j 0 ++ insL (es.drop j)).map I)
  wai : wr.ownsRow (bi + 1) 3 1 v (szs (es.drop j)).length ((szs (es.drop j)).reverse.map I)

theorem szs_len (l : List E) : (szs l).length ≤ l.length := by
  induction l with
  | nil => exact Nat.le_refl _
  | cons t r ih => rw [szs_cons]; simp only [List.length_cons, List.length_drop]; omega

theorem okS_drop : ∀ (l : List E) (j : Nat), okS l → okS (l.drop j)
  | [], j, _ => by simp [okS]
  | t :: r, 0, h => h
  | t :: r, j + 1, h => okS_drop r j h.2

theorem ins_tot (t : E) (r : List E) : ins t r + 10 ≤ tot (t :: r) := by
  have h1 := szs_tot r
  have h2 : ((szs r).take t.kids.toNat).sum + ((szs r).drop t.kids.toNat).sum = (szs r).sum := by
    rw [← List.sum_append, List.take_append_drop]
  unfold ins tot
  omega
theorem tot_drop : ∀ (l : List E) (j : Nat), tot (l.drop j) ≤ tot l
  | [], j => by simp [tot]
  | t :: r, 0 => Nat.le_refl _
  | t :: r, j + 1 => by have := tot_drop r j; simp only [List.drop_succ_cons, tot]; omega

theorem ins_set (j : Nat) (es : List E) (t : E) (hd : es.drop j = t :: es.drop (j + 1)) : ((List.replicate (j + 1) 0 ++ insL (es.drop (j + 1))).map I).set j (I (ins t (es.drop (j + 1)))) = (List.replicate j 0 ++ insL (es.drop j)).map I := by
  rw [hd, insL, List.replicate_succ', List.append_assoc, List.map_append, List.set_append_right _ _ (by simp), List.length_map, List.length_replicate, Nat.sub_self]
  simp

set_option maxRecDepth 100000 in
set_option maxHeartbeats 8000000 in
theorem lengths_any (ao : Option Addr) (cap : Nat) (xs : List X) (w : World) (s : Nat) (hR : Row w ao xs) (hlen : xs.length ≤ 2000000) (hok : okS (es xs)) (hs : szs (es xs) = [s]) (htot : tot (es xs) < 16777216) :
    Calls Try.prog 15 #[.slice ao xs.length cap] w fun e w' => ∃ bi, (e = .returned (.tuple #[.slice (some ⟨bi, 0, none⟩) xs.length xs.length, .int .i64 (s : Int)]) ∧ w.heap.size ≤ bi) ∧ Bl 3 w' bi ((insL (es xs)).map I) ∧ Below w.heap.size w w' := by
  obtain ⟨wm, hmk, hbl, hbel, hsz⟩ := madeI w xs.length (by omega)
  obtain ⟨i0, hi, hz0, hz1, hz2⟩ := info_parts infoI
  have hmk' : (Instr.makeSlice 33 (.int .i64 (xs.length : Int)) (.int .i64 (xs.length : Int))).run Try.prog w = .ok (.slice (some ⟨w.heap.size, 0, none⟩) xs.length xs.length) wm := hmk
  have HL0 : Hid (Ls w wm w.heap.size (.slice none 0 0) (es xs) xs.length) := by
    refine ⟨hbel, ?_, ?_⟩
    · rw [List.drop_of_length_le (by rw [es_length]; exact Nat.le_refl _), insL, List.append_nil]; exact hbl
    · rw [List.drop_of_length_le (by rw [es_length]; exact Nat.le_refl _)]; exact World.ownsRow_nil _ _ _ _
  have HR : Hid (Row w ao xs) := hR
  have Hok : Hid (okS (es xs)) := hok
  have Hs : Hid (szs (es xs) = [s]) := hs
  have Htot : Hid (tot (es xs) < 16777216) := htot
  have hszm : w.heap.size < wm.heap.size := by omega
  clear hmk hbl hbel hsz hR hok hs htot
  go_enter Try.func15, Try.ntmps15
  go_wp2
  go_loopw [4, 5] (fun s4 s5 wr => ∃ (j : Nat), s5 = .int .i64 ((j : Int) - 1) ∧ j ≤ xs.length ∧ Hid (Ls w wr w.heap.size s4 (es xs) j)) (fun _ s _ => (intOf s + 1).toNat)
  case atStart => exact ⟨xs.length, rfl, Nat.le_refl _, HL0⟩
  case round =>
    obtain ⟨j, rfl, hj, HL⟩ := hrel
    obtain ⟨va, vn, vc, hv⟩ : ∃ a n c, u4 = .slice a n c := (own_slice HL.out.wai).elim fun a h => h.elim fun c e => ⟨a, _, c, e⟩
    subst hv
    cases j with
    | zero =>
      have hw := HL.out.wai
      rw [List.drop_zero, Hs.out] at hw
      obtain ⟨gw, cw, ew, hw1, hw2⟩ := own_some hw (by simp)
      simp only [Value.slice.injEq] at ew
      obtain ⟨rfl, rfl, rfl⟩ := ew
      have cw0 : wr.cell? ⟨gw, 0, none⟩ = some (.int .i64 (s : Int)) := (World.ownsRow.cellAt hw 0 (by simp)).trans rfl
      simp only [List.length_cons, List.length_nil] at *
      clear hw
      have hng : (((0 : Nat) : Int) - 1) = -1 := by omega
      rw [hng]
      go_wp2
      go_quiet (fail)
      go_wp2
      go_ret2
      refine ⟨w.heap.size, ⟨rfl, Nat.le_refl _⟩, ?_, below_drewN HL.out.bel _⟩
      have := HL.out.ins
      rw [List.replicate_zero, List.nil_append, List.drop_zero] at this
      exact this.drewN _
    | succ j =>
      have hjl : j < xs.length := by omega
      have HD : Hid ((es xs).drop j = xs[j].e :: (es xs).drop (j + 1)) := drop_es xs j hjl
      have hokj := okS_drop (es xs) j Hok.out
      rw [HD.out] at hokj
      have hkk := hokj.1
      have hti := ins_tot xs[j].e ((es xs).drop (j + 1))
      have htd := tot_drop (es xs) j
      rw [HD.out] at htd
      have htt := Htot.out
      rcases (HR.out.below HL.out.bel (Nat.le_refl _)).at' with h0 | ⟨g, off, rfl, hg, hc⟩
      · subst h0; simp at hjl
      obtain ⟨c0, c1, c2⟩ := hc j hjl
      have hW := HL.out.wai
      have hvn : vn = (szs ((es xs).drop (j + 1))).length := by
        obtain ⟨_, _, e⟩ := own_slice hW
        simp only [Value.slice.injEq] at e
        exact e.2.1
      have HNI : Hid (ins xs[j].e ((es xs).drop (j + 1)) = xs[j].e.data.length + ((szs ((es xs).drop (j + 1))).take xs[j].e.kids.toNat).sum) := rfl
      have HSZ : Hid (szs ((es xs).drop j) = (2 + dgs (ins xs[j].e ((es xs).drop (j + 1))) + ins xs[j].e ((es xs).drop (j + 1))) :: (szs ((es xs).drop (j + 1))).drop xs[j].e.kids.toNat) := by
        show _ = _; rw [HD.out, szs_cons]
      have HIS : Hid (((List.replicate (j + 1) 0 ++ insL ((es xs).drop (j + 1))).map I).set j (I (ins xs[j].e ((es xs).drop (j + 1)))) = (List.replicate j 0 ++ insL ((es xs).drop j)).map I) := ins_set j (es xs) xs[j].e HD.out
      generalize xs[j] = x at *
      unfold xD at c1
      generalize hSS : szs ((es xs).drop (j + 1)) = SS at *
      obtain ⟨K, hK⟩ : ∃ K : Nat, x.e.kids = (K : Int) := ⟨x.e.kids.toNat, by omega⟩
      have hKt : x.e.kids.toNat = K := by omega
      rw [hKt] at hkk HNI HSZ
      rw [hK] at c2
      obtain ⟨R, hRK⟩ : ∃ R, R = SS.length - K := ⟨_, rfl⟩
      have HLd : Hid (SS.reverse.drop R = (SS.take K).reverse) := by rw [hRK]; exact rev_drop SS K hkk.2
      have HLt : Hid (SS.reverse.take R = (SS.drop K).reverse) := by rw [hRK]; exact rev_take SS K hkk.2
      obtain ⟨N, hN⟩ : ∃ N, N = ins x.e ((es xs).drop (j + 1)) := ⟨_, rfl⟩
      rw [← hN] at HNI HSZ HIS hti
      have HW : Hid (wr.ownsRow (w.heap.size + 1) 3 1 (.slice va vn vc) vn (SS.reverse.map I)) := by have h := hW; rw [← hvn] at h; exact h
      have hRn : R ≤ vn := by omega
      have HRK : Hid (R + K = vn) := by show R + K = vn; omega
      have hnc : vn ≤ vc ∧ vc ≤ 9223372036854775807 ∧ (va = none → vn = 0 ∧ vc = 0) ∧ (∀ ad, va = some ad → ∃ gw, ad = ⟨gw, 0, none⟩) := by
        rcases HW.out.2 with ⟨h', h0⟩ | ⟨gw, cp, cur, h', _, _, h1, h2, _⟩
        · simp only [Value.slice.injEq] at h'
          obtain ⟨rfl, rfl, rfl⟩ := h'
          exact ⟨Nat.le_refl _, by omega, fun _ => ⟨rfl, rfl⟩, fun ad e => by cases e⟩
        · simp only [Value.slice.injEq] at h'
          obtain ⟨rfl, _, rfl⟩ := h'
          exact ⟨h1, by unfold maxLen at h2; omega, (fun e => by cases e), fun ad e => ⟨gw, by cases e; rfl⟩⟩
      have hvn2 : vn ≤ 2000000 := by
        have h1 := szs_len ((es xs).drop (j + 1))
        rw [hSS, List.length_drop, es_length] at h1
        omega
      have hNb : N < 16777216 := by omega
      have hwB := HL.out.bel.size
      have HCd : Hid (∀ w, Calls Try.prog 25 #[.int .i64 (N : Int)] w fun e w' => e = .returned (.int .i64 ((dgs N : Nat) : Int)) ∧ w' = w) := fun w => digits_any N w hNb
      have Hj : Hid (R = SS.length - K) := hRK
      clear hN hK hKt hokj hkk htd htt hc c0 hW hvn hRK hg
      obtain rfl : vn = R + K := HRK.out.symm
      obtain ⟨Lr, HLr⟩ : ∃ Lr, Hid (Lr = (SS.take K).reverse) := ⟨_, rfl⟩
      have HLK : Hid (Lr.length = K ∧ x.e.data.length + Lr.sum = N) := by
        have := HW.out.1
        rw [List.length_map, List.length_reverse, Nat.mul_one] at this
        refine ⟨by rw [HLr.out, List.length_reverse, List.length_take]; omega, ?_⟩
        rw [HNI.out, HLr.out, List.sum_reverse]
      have hdl : x.e.data.length ≤ N := by have := HLK.out.2; omega
      have HCL : Hid (∀ gw, va = some ⟨gw, 0, none⟩ → ∀ k, k < K → wr.cell? ⟨gw, R + k, none⟩ = some (.int .i64 ((Lr.getD k 0 : Nat) : Int))) := fun gw e k hk => by
        have h := HW.out
        subst e
        rw [World.ownsRow.cellAt h (R + k) (by omega), List.getElem?_map]
        have h2 : SS.reverse[R + k]? = (SS.reverse.drop R)[k]? := by rw [List.getElem?_drop]
        rw [h2, HLd.out, ← HLr.out, List.getElem?_eq_getElem (by rw [HLK.out.1]; exact hk), getD_eq _ _ (by rw [HLK.out.1]; exact hk)]
        rfl
      have hbi := HL.out.ins
      have cI : ∃ u, wr.cell? ⟨w.heap.size, j, none⟩ = some (.int .i64 u) := ⟨0, by
        rw [hbi.cell j (by simp; omega)]
        simp [I]⟩
      obtain ⟨u0, cI⟩ := cI
      have fI := hbi.frozen j
      have hji : ((j + 1 : Nat) : Int) - 1 = (j : Int) := by omega
      have HDg : Hid (dgs N ≤ 8) := dgs_le N
      obtain ⟨D, hD⟩ : ∃ D, D = dgs N := ⟨_, rfl⟩
      rw [← hD] at HCd HSZ HDg
      have hD8 : D ≤ 8 := HDg.out
      have hRb : R ≤ 2000000 := by omega
      clear hD hbi HDg hti HNI
      rw [hji]
      obtain ⟨hc1, hc2, hc3, hc4⟩ := hnc
      clear hji
      rcases (show (va = none ∧ R = 0 ∧ K = 0 ∧ vc = 0) ∨ (∃ gw, va = some ⟨gw, 0, none⟩ ∧ R = vc ∧ K = 0) ∨ (∃ gw, va = some ⟨gw, 0, none⟩ ∧ R < vc) by
        cases hva : va with
        | none => have := hc3 hva; exact .inl ⟨rfl, by omega, by omega, by omega⟩
        | some ad =>
          obtain ⟨gw, rfl⟩ := hc4 ad hva
          rcases Nat.lt_or_ge R vc with h | h
          · exact .inr (.inr ⟨gw, rfl, h⟩)
          · exact .inr (.inl ⟨gw, rfl, by omega, by omega⟩)) with ⟨rfl, hR0, hK0, hvc0⟩ | ⟨gw, rfl, hRv, hK0⟩ | ⟨gw, rfl, hRv⟩
      · subst hR0
        subst hK0
        subst hvc0
        clear hc3 hc4
        have hRc : 0 ≤ 0 := Nat.le_refl _
        go_wp2
        go_loopw [6, 38] (fun s6 s38 w2 => ∃ (k z : Nat), s6 = .int .i64 (z : Int) ∧ s38 = .int .i64 (k : Int) ∧ k ≤ 0 ∧ w2 = wr ∧ Hid (z = x.e.data.length + (Lr.take k).sum)) (fun _ s _ => 0 - (intOf s).toNat)
        case atStart => exact ⟨0, x.e.data.length, rfl, rfl, Nat.zero_le _, rfl, (show x.e.data.length = x.e.data.length + (Lr.take 0).sum by simp)⟩
        case round =>
          obtain ⟨k, z, rfl, rfl, hk, hwr, HZ⟩ := hrel
          subst hwr
          by_cases hkK : k < 0
          · exact absurd hkK (by omega)
          · have hkK' : 0 = k := by omega
            subst hkK'
            have hzN : N = z := by
              symm
              have := HLK.out
              rw [HZ.out, List.take_of_length_le (by omega)]
              exact this.2
            subst hzN
            go_wp2_with fail
            have HI6 : Hid (Bl 3 (wr.setCell ⟨w.heap.size, j, none⟩ (.int .i64 (N : Int))) w.heap.size ((List.replicate j 0 ++ insL ((es xs).drop j)).map I)) := by
              show Bl _ _ _ _
              rw [← HIS.out]; exact HL.out.ins.set j _
            have HB6 : Hid (Below w.heap.size w (wr.setCell ⟨w.heap.size, j, none⟩ (.int .i64 (N : Int)))) := Below.setCell HL.out.bel (Nat.le_refl _) _
            have HW6 : Hid ((wr.setCell ⟨w.heap.size, j, none⟩ (.int .i64 (N : Int))).ownsRow (w.heap.size + 1) 3 1 (.slice none 0 0) 0 ((SS.reverse.map I).take 0)) := own_take (own_keep HW.out fun g hg => heap_setCell_other wr ⟨w.heap.size, j, none⟩ g _ (fun e => by have := own_block HW.out g hg; (have e' : g = w.heap.size := e); omega)) 0 (by omega)
            have hs6 : w.heap.size < (wr.setCell ⟨w.heap.size, j, none⟩ (.int .i64 (N : Int))).heap.size := by simp; exact HL.out.ins.lt
            generalize (wr.setCell ⟨w.heap.size, j, none⟩ (.int .i64 (N : Int))) = w6 at *
            have HWA : Hid ((w6.alloc (Obj.cells #[Value.int IntKind.i64 (2 + (D : Int) + (N : Int))] 3)).drew.ownsRow (w.heap.size + 1) 3 1 (.slice none 0 0) 0 ((SS.reverse.map I).take 0)) := World.ownsRow.drew (World.ownsRow.alloc HW6.out _)
            have HSA : Hid (w.heap.size + 1 ≤ (w6.alloc (Obj.cells #[Value.int IntKind.i64 (2 + (D : Int) + (N : Int))] 3)).drew.heap.size) := by have h9 := alloc_size w6 (Obj.cells #[Value.int IntKind.i64 (2 + (D : Int) + (N : Int))] 3); show w.heap.size + 1 ≤ (w6.alloc (Obj.cells #[Value.int IntKind.i64 (2 + (D : Int) + (N : Int))] 3)).heap.size; omega
            have HIA : Hid (Bl 3 (w6.alloc (Obj.cells #[Value.int IntKind.i64 (2 + (D : Int) + (N : Int))] 3)).drew w.heap.size ((List.replicate j 0 ++ insL ((es xs).drop j)).map I)) := (HI6.out.below (alloc_below w6 _) hs6).drewN 1
            have HBA : Hid (Below w.heap.size w (w6.alloc (Obj.cells #[Value.int IntKind.i64 (2 + (D : Int) + (N : Int))] 3)).drew) := below_drewN (HB6.out.trans ((alloc_below w6 _).mono HB6.out.size)) 1
            have HWR : Hid (True → IntKind.i64.wrap (IntKind.i64.wrap (2 + (D : Int)) + (N : Int)) = 2 + (D : Int) + (N : Int)) := fun _ => by simp [IntKind.wrap, IntKind.bits, IntKind.signed]; omega
            refine wp_region_K 9 (fun (_ : World) => True) (by kernel_rfl) ?_
            have hHeld : True := trivial
            refine wpAnyK_take0 0 (v := ?v1) rfl (by kernel_rfl) (fun _ _ _ h => h) (Or.inl ⟨by rfl, ?hy1⟩) (fun _ => hHeld) ?_
            case hy1 => (intro w hSw; go_simp; try with_reducible rfl)
            try simp only [Act.put, List.setIfInBounds_toArray, List.set_cons_zero, List.set_cons_succ]
            refine wpAnyK_take0 1 (v := ?v2) rfl (by kernel_rfl) (fun _ _ _ h => h) (Or.inl ⟨by rfl, ?hy2⟩) (fun _ => hHeld) ?_
            case hy2 => (intro w hSw; go_simp; try with_reducible rfl)
            try simp only [Act.put, List.setIfInBounds_toArray, List.set_cons_zero, List.set_cons_succ]
            refine wpAnyK_take0 2 (v := ?v3) rfl (by kernel_rfl) (fun _ _ _ h => h) (Or.inl ⟨by rfl, ?hy3⟩) (fun _ => hHeld) ?_
            case hy3 => (intro w hSw; go_simp; first | with_reducible rfl | (simp only [if_pos hRc]; with_reducible rfl))
            try simp only [Act.put, List.setIfInBounds_toArray, List.set_cons_zero, List.set_cons_succ]
            refine wpAnyK_take0 3 (v := ?v4) rfl (by kernel_rfl) (fun _ _ _ h => h) (Or.inl ⟨by rfl, ?hy4⟩) (fun _ => hHeld) ?_
            case hy4 => (intro w hSw; go_simp; try with_reducible rfl)
            try simp only [Act.put, List.setIfInBounds_toArray, List.set_cons_zero, List.set_cons_succ]
            refine wpAnyK_take0 6 (v := ?v5) rfl (by kernel_rfl) (fun _ _ _ h => h) (Or.inl ⟨by rfl, ?hy5⟩) (fun _ => hHeld) ?_
            case hy5 => (intro w hSw; go_simp; try with_reducible rfl)
            try simp only [Act.put, List.setIfInBounds_toArray, List.set_cons_zero, List.set_cons_succ]
            refine wpAnyK_step 4 rfl (by kernel_rfl) (fun KX hKX => ?_)
            go_simp
            refine (HCd.out _).mono ?_
            rintro e w5 ⟨rfl, rfl⟩
            dsimp only
            refine hKX.out _ _ ?hk6 ?_
            case hk6 => exact fun _ => trivial
            have hHeld : True := trivial
            clear hKX KX
            try simp only [Act.put, List.setIfInBounds_toArray, List.set_cons_zero, List.set_cons_succ]
            refine wpAnyK_take0 5 (v := ?v7) rfl (by kernel_rfl) (fun _ _ _ h => h) (Or.inl ⟨by rfl, ?hy7⟩) (fun _ => hHeld) ?_
            case hy7 => (intro w hSw; go_simp; try with_reducible rfl)
            try simp only [Act.put, List.setIfInBounds_toArray, List.set_cons_zero, List.set_cons_succ]
            refine wpAnyK_take0 7 (v := ?v8) rfl (by kernel_rfl) (fun _ _ _ h => h) (Or.inl ⟨by rfl, ?hy8⟩) (fun _ => hHeld) ?_
            case hy8 => (intro w hSw; go_simp; try with_reducible rfl)
            try simp only [Act.put, List.setIfInBounds_toArray, List.set_cons_zero, List.set_cons_succ]
            refine wpAnyK_step 8 rfl (by kernel_rfl) (fun KX hKX => ?_)
            go_simp
            refine hKX.out _ _ ?hk9 ?_
            case hk9 => exact fun _ => trivial
            clear hKX KX
            try simp only [Act.put, List.setIfInBounds_toArray, List.set_cons_zero, List.set_cons_succ]
            rw [HWR.out trivial]
            refine wpAnyK_step 9 rfl (by kernel_rfl) (fun KX hKX => ?_)
            rw [if_pos (by rfl)]
            refine wp_append_own_wide _ (.tmp 52) (.tmp 58) 33 rfl (w.heap.size + 1) 3 i0 (.int .i64 0) 1 8 Try.underlying33 hi hz0 hz1 hz2 rfl (by decide) (.slice none 0 0) 0 ((SS.reverse.map I).take 0) rfl HWA.out ⟨w6.heap.size, 0, none⟩ 1 1 [.int .i64 (2 + (D : Int) + (N : Int))] rfl rfl (fun j u hu => by match j, hu with | 0, hu => exact ((alloc_bl w6 [.int .i64 (2 + (D : Int) + (N : Int))] 3).cell 0 (by simp)).trans hu) (by intro u hu; simp at hu; subst hu; rfl) (by unfold maxLen; omega) (by omega) HSA.out ?_
            intro v7 w7 hown7 hgrow7 hnil7
            refine hKX.out _ _ ?hk10 ?_
            case hk10 => exact fun _ => trivial
            clear hKX KX
            try simp only [Act.put, List.setIfInBounds_toArray, List.set_cons_zero, List.set_cons_succ]
            refine wpAnyK_take0 10 (v := ?v11) rfl (by kernel_rfl) (fun _ _ _ h => h) (Or.inl ⟨by rfl, ?hy11⟩) (fun _ => hHeld) ?_
            case hy11 => (intro w hSw; go_simp; try with_reducible rfl)
            try simp only [Act.put, List.setIfInBounds_toArray, List.set_cons_zero, List.set_cons_succ]
            refine wpAnyK_done (by kernel_rfl) ?_ _
            have HL7 : Hid (Ls w w7 w.heap.size v7 (es xs) j) := by
              refine ⟨HBA.out.grown hgrow7 (by have := HSA.out; omega) (fun k hk => by have := own_block HWA.out k hk; omega), bl_grown HIA.out hgrow7 (fun e => by have := own_block HWA.out _ e; omega), ?_⟩
              rw [HSZ.out, List.reverse_cons, ← HLt.out, List.map_append, List.map_take]
              have e9 : [(2 + D + N)].map I = [Value.int IntKind.i64 (2 + (D : Int) + (N : Int))] := by simp [I]
              rw [e9]
              have e8 : ((2 + D + N) :: SS.drop 0).length = 0 + 1 := by
                have := congrArg List.length HLt.out
                rw [List.length_take, List.length_reverse, List.length_reverse] at this
                have h1 := HW.out.1
                rw [List.length_map, List.length_reverse] at h1
                simp only [List.length_cons]; omega
              rw [e8]
              exact hown7
            clear hown7 hgrow7 hnil7
            obtain ⟨a7, n7, c7, hv7⟩ : ∃ a n c, v7 = .slice a n c := (own_slice HL7.out.wai).elim fun a h => h.elim fun c e => ⟨a, _, c, e⟩
            subst hv7
            go_wp2
            go_roundw
            case rel => exact ⟨j, rfl, by omega, HL7⟩
            case measure => simp [intOf] <;> omega
      · subst hRv
        subst hK0
        clear hc3 hc4
        have hRc : R ≤ R := Nat.le_refl _
        go_wp2
        go_loopw [6, 38] (fun s6 s38 w2 => ∃ (k z : Nat), s6 = .int .i64 (z : Int) ∧ s38 = .int .i64 (k : Int) ∧ k ≤ 0 ∧ w2 = wr ∧ Hid (z = x.e.data.length + (Lr.take k).sum)) (fun _ s _ => 0 - (intOf s).toNat)
        case atStart => exact ⟨0, x.e.data.length, rfl, rfl, Nat.zero_le _, rfl, (show x.e.data.length = x.e.data.length + (Lr.take 0).sum by simp)⟩
        case round =>
          obtain ⟨k, z, rfl, rfl, hk, hwr, HZ⟩ := hrel
          subst hwr
          by_cases hkK : k < 0
          · exact absurd hkK (by omega)
          · have hkK' : 0 = k := by omega
            subst hkK'
            have hzN : N = z := by
              symm
              have := HLK.out
              rw [HZ.out, List.take_of_length_le (by omega)]
              exact this.2
            subst hzN
            go_wp2_with fail
            have HI6 : Hid (Bl 3 (wr.setCell ⟨w.heap.size, j, none⟩ (.int .i64 (N : Int))) w.heap.size ((List.replicate j 0 ++ insL ((es xs).drop j)).map I)) := by
              show Bl _ _ _ _
              rw [← HIS.out]; exact HL.out.ins.set j _
            have HB6 : Hid (Below w.heap.size w (wr.setCell ⟨w.heap.size, j, none⟩ (.int .i64 (N : Int)))) := Below.setCell HL.out.bel (Nat.le_refl _) _
            have HW6 : Hid ((wr.setCell ⟨w.heap.size, j, none⟩ (.int .i64 (N : Int))).ownsRow (w.heap.size + 1) 3 1 (.slice (some ⟨gw, 0, none⟩) R R) R ((SS.reverse.map I).take R)) := own_take (own_keep HW.out fun g hg => heap_setCell_other wr ⟨w.heap.size, j, none⟩ g _ (fun e => by have := own_block HW.out g hg; (have e' : g = w.heap.size := e); omega)) R (by omega)
            have hs6 : w.heap.size < (wr.setCell ⟨w.heap.size, j, none⟩ (.int .i64 (N : Int))).heap.size := by simp; exact HL.out.ins.lt
            generalize (wr.setCell ⟨w.heap.size, j, none⟩ (.int .i64 (N : Int))) = w6 at *
            have HWA : Hid ((w6.alloc (Obj.cells #[Value.int IntKind.i64 (2 + (D : Int) + (N : Int))] 3)).drew.ownsRow (w.heap.size + 1) 3 1 (.slice (some ⟨gw, 0, none⟩) R R) R ((SS.reverse.map I).take R)) := World.ownsRow.drew (World.ownsRow.alloc HW6.out _)
            have HSA : Hid (w.heap.size + 1 ≤ (w6.alloc (Obj.cells #[Value.int IntKind.i64 (2 + (D : Int) + (N : Int))] 3)).drew.heap.size) := by have h9 := alloc_size w6 (Obj.cells #[Value.int IntKind.i64 (2 + (D : Int) + (N : Int))] 3); show w.heap.size + 1 ≤ (w6.alloc (Obj.cells #[Value.int IntKind.i64 (2 + (D : Int) + (N : Int))] 3)).heap.size; omega
            have HIA : Hid (Bl 3 (w6.alloc (Obj.cells #[Value.int IntKind.i64 (2 + (D : Int) + (N : Int))] 3)).drew w.heap.size ((List.replicate j 0 ++ insL ((es xs).drop j)).map I)) := (HI6.out.below (alloc_below w6 _) hs6).drewN 1
            have HBA : Hid (Below w.heap.size w (w6.alloc (Obj.cells #[Value.int IntKind.i64 (2 + (D : Int) + (N : Int))] 3)).drew) := below_drewN (HB6.out.trans ((alloc_below w6 _).mono HB6.out.size)) 1
            have HWR : Hid (True → IntKind.i64.wrap (IntKind.i64.wrap (2 + (D : Int)) + (N : Int)) = 2 + (D : Int) + (N : Int)) := fun _ => by simp [IntKind.wrap, IntKind.bits, IntKind.signed]; omega
            refine wp_region_K 9 (fun (_ : World) => True) (by kernel_rfl) ?_
            have hHeld : True := trivial
            refine wpAnyK_take0 0 (v := ?v12) rfl (by kernel_rfl) (fun _ _ _ h => h) (Or.inl ⟨by rfl, ?hy12⟩) (fun _ => hHeld) ?_
            case hy12 => (intro w hSw; go_simp; try with_reducible rfl)
            try simp only [Act.put, List.setIfInBounds_toArray, List.set_cons_zero, List.set_cons_succ]
            refine wpAnyK_take0 1 (v := ?v13) rfl (by kernel_rfl) (fun _ _ _ h => h) (Or.inl ⟨by rfl, ?hy13⟩) (fun _ => hHeld) ?_
            case hy13 => (intro w hSw; go_simp; try with_reducible rfl)
            try simp only [Act.put, List.setIfInBounds_toArray, List.set_cons_zero, List.set_cons_succ]
            refine wpAnyK_take0 2 (v := ?v14) rfl (by kernel_rfl) (fun _ _ _ h => h) (Or.inl ⟨by rfl, ?hy14⟩) (fun _ => hHeld) ?_
            case hy14 => (intro w hSw; go_simp; first | with_reducible rfl | (simp only [if_pos hRc]; with_reducible rfl))
            try simp only [Act.put, List.setIfInBounds_toArray, List.set_cons_zero, List.set_cons_succ]
            refine wpAnyK_take0 3 (v := ?v15) rfl (by kernel_rfl) (fun _ _ _ h => h) (Or.inl ⟨by rfl, ?hy15⟩) (fun _ => hHeld) ?_
            case hy15 => (intro w hSw; go_simp; try with_reducible rfl)
            try simp only [Act.put, List.setIfInBounds_toArray, List.set_cons_zero, List.set_cons_succ]
            refine wpAnyK_take0 6 (v := ?v16) rfl (by kernel_rfl) (fun _ _ _ h => h) (Or.inl ⟨by rfl, ?hy16⟩) (fun _ => hHeld) ?_
            case hy16 => (intro w hSw; go_simp; try with_reducible rfl)
            try simp only [Act.put, List.setIfInBounds_toArray, List.set_cons_zero, List.set_cons_succ]
            refine wpAnyK_step 4 rfl (by kernel_rfl) (fun KX hKX => ?_)
            go_simp
            refine (HCd.out _).mono ?_
            rintro e w5 ⟨rfl, rfl⟩
            dsimp only
            refine hKX.out _ _ ?hk17 ?_
            case hk17 => exact fun _ => trivial
            have hHeld : True := trivial
            clear hKX KX
            try simp only [Act.put, List.setIfInBounds_toArray, List.set_cons_zero, List.set_cons_succ]
            refine wpAnyK_take0 5 (v := ?v18) rfl (by kernel_rfl) (fun _ _ _ h => h) (Or.inl ⟨by rfl, ?hy18⟩) (fun _ => hHeld) ?_
            case hy18 => (intro w hSw; go_simp; try with_reducible rfl)
            try simp only [Act.put, List.setIfInBounds_toArray, List.set_cons_zero, List.set_cons_succ]
            refine wpAnyK_take0 7 (v := ?v19) rfl (by kernel_rfl) (fun _ _ _ h => h) (Or.inl ⟨by rfl, ?hy19⟩) (fun _ => hHeld) ?_
            case hy19 => (intro w hSw; go_simp; try with_reducible rfl)
            try simp only [Act.put, List.setIfInBounds_toArray, List.set_cons_zero, List.set_cons_succ]
            refine wpAnyK_step 8 rfl (by kernel_rfl) (fun KX hKX => ?_)
            go_simp
            refine hKX.out _ _ ?hk20 ?_
            case hk20 => exact fun _ => trivial
            clear hKX KX
            try simp only [Act.put, List.setIfInBounds_toArray, List.set_cons_zero, List.set_cons_succ]
            rw [HWR.out trivial]
            refine wpAnyK_step 9 rfl (by kernel_rfl) (fun KX hKX => ?_)
            rw [if_pos (by rfl)]
            refine wp_append_own_wide _ (.tmp 52) (.tmp 58) 33 rfl (w.heap.size + 1) 3 i0 (.int .i64 0) 1 8 Try.underlying33 hi hz0 hz1 hz2 rfl (by decide) (.slice (some ⟨gw, 0, none⟩) R R) R ((SS.reverse.map I).take R) rfl HWA.out ⟨w6.heap.size, 0, none⟩ 1 1 [.int .i64 (2 + (D : Int) + (N : Int))] rfl rfl (fun j u hu => by match j, hu with | 0, hu => exact ((alloc_bl w6 [.int .i64 (2 + (D : Int) + (N : Int))] 3).cell 0 (by simp)).trans hu) (by intro u hu; simp at hu; subst hu; rfl) (by unfold maxLen; omega) (by omega) HSA.out ?_
            intro v7 w7 hown7 hgrow7 hnil7
            refine hKX.out _ _ ?hk21 ?_
            case hk21 => exact fun _ => trivial
            clear hKX KX
            try simp only [Act.put, List.setIfInBounds_toArray, List.set_cons_zero, List.set_cons_succ]
            refine wpAnyK_take0 10 (v := ?v22) rfl (by kernel_rfl) (fun _ _ _ h => h) (Or.inl ⟨by rfl, ?hy22⟩) (fun _ => hHeld) ?_
            case hy22 => (intro w hSw; go_simp; try with_reducible rfl)
            try simp only [Act.put, List.setIfInBounds_toArray, List.set_cons_zero, List.set_cons_succ]
            refine wpAnyK_done (by kernel_rfl) ?_ _
            have HL7 : Hid (Ls w w7 w.heap.size v7 (es xs) j) := by
              refine ⟨HBA.out.grown hgrow7 (by have := HSA.out; omega) (fun k hk => by have := own_block HWA.out k hk; omega), bl_grown HIA.out hgrow7 (fun e => by have := own_block HWA.out _ e; omega), ?_⟩
              rw [HSZ.out, List.reverse_cons, ← HLt.out, List.map_append, List.map_take]
              have e9 : [(2 + D + N)].map I = [Value.int IntKind.i64 (2 + (D : Int) + (N : Int))] := by simp [I]
              rw [e9]
              have e8 : ((2 + D + N) :: SS.drop 0).length = R + 1 := by
                have := congrArg List.length HLt.out
                rw [List.length_take, List.length_reverse, List.length_reverse] at this
                have h1 := HW.out.1
                rw [List.length_map, List.length_reverse] at h1
                simp only [List.length_cons]; omega
              rw [e8]
              exact hown7
            clear hown7 hgrow7 hnil7
            obtain ⟨a7, n7, c7, hv7⟩ : ∃ a n c, v7 = .slice a n c := (own_slice HL7.out.wai).elim fun a h => h.elim fun c e => ⟨a, _, c, e⟩
            subst hv7
            go_wp2
            go_roundw
            case rel => exact ⟨j, rfl, by omega, HL7⟩
            case measure => simp [intOf] <;> omega
      · clear hc3 hc4
        have hRc : R ≤ vc := by omega
        have hRne : ¬ vc = R := by omega
        go_wp2
        go_loopw [6, 38] (fun s6 s38 w2 => ∃ (k z : Nat), s6 = .int .i64 (z : Int) ∧ s38 = .int .i64 (k : Int) ∧ k ≤ K ∧ w2 = wr ∧ Hid (z = x.e.data.length + (Lr.take k).sum)) (fun _ s _ => K - (intOf s).toNat)
        case atStart => exact ⟨0, x.e.data.length, rfl, rfl, Nat.zero_le _, rfl, (show x.e.data.length = x.e.data.length + (Lr.take 0).sum by simp)⟩
        case round =>
          obtain ⟨k, z, rfl, rfl, hk, hwr, HZ⟩ := hrel
          subst hwr
          by_cases hkK : k < K
          · have ck := HCL.out gw rfl k hkK
            have hkl : k < Lr.length := by rw [HLK.out.1]; exact hkK
            have HZ2 : Hid (z + Lr.getD k 0 = x.e.data.length + (Lr.take (k + 1)).sum) := by
              show _ = _
              rw [List.take_succ_eq_append_getElem hkl, List.sum_append, HZ.out, getD_eq _ _ hkl]
              simp; omega
            have hzb : z + Lr.getD k 0 ≤ N := by
              have h1 := HLK.out.2
              have h2 : (Lr.take (k + 1)).sum + (Lr.drop (k + 1)).sum = Lr.sum := by rw [← List.sum_append, List.take_append_drop]
              have h3 := HZ2.out
              omega
            generalize Lr.getD k 0 = y at *
            go_wp2
            go_roundw
            case rel => exact ⟨k + 1, z + y, by go_num, by go_num, by omega, (by first | rfl | trivial), HZ2⟩
            case measure => simp [intOf]; omega
          · have hkK' : K = k := by omega
            subst hkK'
            have hzN : N = z := by
              symm
              have := HLK.out
              rw [HZ.out, List.take_of_length_le (by omega)]
              exact this.2
            subst hzN
            go_wp2_with fail
            have HI6 : Hid (Bl 3 (wr.setCell ⟨w.heap.size, j, none⟩ (.int .i64 (N : Int))) w.heap.size ((List.replicate j 0 ++ insL ((es xs).drop j)).map I)) := by
              show Bl _ _ _ _
              rw [← HIS.out]; exact HL.out.ins.set j _
            have HB6 : Hid (Below w.heap.size w (wr.setCell ⟨w.heap.size, j, none⟩ (.int .i64 (N : Int)))) := Below.setCell HL.out.bel (Nat.le_refl _) _
            have HW6 : Hid ((wr.setCell ⟨w.heap.size, j, none⟩ (.int .i64 (N : Int))).ownsRow (w.heap.size + 1) 3 1 (.slice (some ⟨gw, 0, none⟩) R vc) R ((SS.reverse.map I).take R)) := own_take (own_keep HW.out fun g hg => heap_setCell_other wr ⟨w.heap.size, j, none⟩ g _ (fun e => by have := own_block HW.out g hg; (have e' : g = w.heap.size := e); omega)) R (by omega)
            have hs6 : w.heap.size < (wr.setCell ⟨w.heap.size, j, none⟩ (.int .i64 (N : Int))).heap.size := by simp; exact HL.out.ins.lt
            generalize (wr.setCell ⟨w.heap.size, j, none⟩ (.int .i64 (N : Int))) = w6 at *
            have HWA : Hid ((w6.alloc (Obj.cells #[Value.int IntKind.i64 (2 + (D : Int) + (N : Int))] 3)).drew.ownsRow (w.heap.size + 1) 3 1 (.slice (some ⟨gw, 0, none⟩) R vc) R ((SS.reverse.map I).take R)) := World.ownsRow.drew (World.ownsRow.alloc HW6.out _)
            have HSA : Hid (w.heap.size + 1 ≤ (w6.alloc (Obj.cells #[Value.int IntKind.i64 (2 + (D : Int) + (N : Int))] 3)).drew.heap.size) := by have h9 := alloc_size w6 (Obj.cells #[Value.int IntKind.i64 (2 + (D : Int) + (N : Int))] 3); show w.heap.size + 1 ≤ (w6.alloc (Obj.cells #[Value.int IntKind.i64 (2 + (D : Int) + (N : Int))] 3)).heap.size; omega
            have HIA : Hid (Bl 3 (w6.alloc (Obj.cells #[Value.int IntKind.i64 (2 + (D : Int) + (N : Int))] 3)).drew w.heap.size ((List.replicate j 0 ++ insL ((es xs).drop j)).map I)) := (HI6.out.below (alloc_below w6 _) hs6).drewN 1
            have HBA : Hid (Below w.heap.size w (w6.alloc (Obj.cells #[Value.int IntKind.i64 (2 + (D : Int) + (N : Int))] 3)).drew) := below_drewN (HB6.out.trans ((alloc_below w6 _).mono HB6.out.size)) 1
            have HWR : Hid (True → IntKind.i64.wrap (IntKind.i64.wrap (2 + (D : Int)) + (N : Int)) = 2 + (D : Int) + (N : Int)) := fun _ => by simp [IntKind.wrap, IntKind.bits, IntKind.signed]; omega
            refine wp_region_K 9 (fun (_ : World) => True) (by kernel_rfl) ?_
            have hHeld : True := trivial
            refine wpAnyK_take0 0 (v := ?v23) rfl (by kernel_rfl) (fun _ _ _ h => h) (Or.inl ⟨by rfl, ?hy23⟩) (fun _ => hHeld) ?_
            case hy23 => (intro w hSw; go_simp; try with_reducible rfl)
            try simp only [Act.put, List.setIfInBounds_toArray, List.set_cons_zero, List.set_cons_succ]
            refine wpAnyK_take0 1 (v := ?v24) rfl (by kernel_rfl) (fun _ _ _ h => h) (Or.inl ⟨by rfl, ?hy24⟩) (fun _ => hHeld) ?_
            case hy24 => (intro w hSw; go_simp; try with_reducible rfl)
            try simp only [Act.put, List.setIfInBounds_toArray, List.set_cons_zero, List.set_cons_succ]
            refine wpAnyK_take0 2 (v := ?v25) rfl (by kernel_rfl) (fun _ _ _ h => h) (Or.inl ⟨by rfl, ?hy25⟩) (fun _ => hHeld) ?_
            case hy25 => (intro w hSw; go_simp; first | with_reducible rfl | (simp only [if_pos hRc]; with_reducible rfl))
            try simp only [Act.put, List.setIfInBounds_toArray, List.set_cons_zero, List.set_cons_succ]
            refine wpAnyK_take0 3 (v := ?v26) rfl (by kernel_rfl) (fun _ _ _ h => h) (Or.inl ⟨by rfl, ?hy26⟩) (fun _ => hHeld) ?_
            case hy26 => (intro w hSw; go_simp; try with_reducible rfl)
            try simp only [Act.put, List.setIfInBounds_toArray, List.set_cons_zero, List.set_cons_succ]
            refine wpAnyK_take0 6 (v := ?v27) rfl (by kernel_rfl) (fun _ _ _ h => h) (Or.inl ⟨by rfl, ?hy27⟩) (fun _ => hHeld) ?_
            case hy27 => (intro w hSw; go_simp; try with_reducible rfl)
            try simp only [Act.put, List.setIfInBounds_toArray, List.set_cons_zero, List.set_cons_succ]
            refine wpAnyK_step 4 rfl (by kernel_rfl) (fun K hK => ?_)
            go_simp
            refine (HCd.out _).mono ?_
            rintro e w5 ⟨rfl, rfl⟩
            dsimp only
            refine hK.out _ _ ?hk28 ?_
            case hk28 => exact fun _ => trivial
            have hHeld : True := trivial
            clear hK K
            try simp only [Act.put, List.setIfInBounds_toArray, List.set_cons_zero, List.set_cons_succ]
            refine wpAnyK_take0 5 (v := ?v29) rfl (by kernel_rfl) (fun _ _ _ h => h) (Or.inl ⟨by rfl, ?hy29⟩) (fun _ => hHeld) ?_
            case hy29 => (intro w hSw; go_simp; try with_reducible rfl)
            try simp only [Act.put, List.setIfInBounds_toArray, List.set_cons_zero, List.set_cons_succ]
            refine wpAnyK_take0 7 (v := ?v30) rfl (by kernel_rfl) (fun _ _ _ h => h) (Or.inl ⟨by rfl, ?hy30⟩) (fun _ => hHeld) ?_
            case hy30 => (intro w hSw; go_simp; try with_reducible rfl)
            try simp only [Act.put, List.setIfInBounds_toArray, List.set_cons_zero, List.set_cons_succ]
            refine wpAnyK_step 8 rfl (by kernel_rfl) (fun K hK => ?_)
            go_simp
            refine hK.out _ _ ?hk31 ?_
            case hk31 => exact fun _ => trivial
            clear hK K
            try simp only [Act.put, List.setIfInBounds_toArray, List.set_cons_zero, List.set_cons_succ]
            rw [HWR.out trivial]
            refine wpAnyK_step 9 rfl (by kernel_rfl) (fun K hK => ?_)
            rw [if_pos (by rfl)]
            refine wp_append_own_wide _ (.tmp 52) (.tmp 58) 33 rfl (w.heap.size + 1) 3 i0 (.int .i64 0) 1 8 Try.underlying33 hi hz0 hz1 hz2 rfl (by decide) (.slice (some ⟨gw, 0, none⟩) R vc) R ((SS.reverse.map I).take R) rfl HWA.out ⟨w6.heap.size, 0, none⟩ 1 1 [.int .i64 (2 + (D : Int) + (N : Int))] rfl rfl (fun j u hu => by match j, hu with | 0, hu => exact ((alloc_bl w6 [.int .i64 (2 + (D : Int) + (N : Int))] 3).cell 0 (by simp)).trans hu) (by intro u hu; simp at hu; subst hu; rfl) (by unfold maxLen; omega) (by omega) HSA.out ?_
            intro v7 w7 hown7 hgrow7 hnil7
            refine hK.out _ _ ?hk32 ?_
            case hk32 => exact fun _ => trivial
            clear hK K
            try simp only [Act.put, List.setIfInBounds_toArray, List.set_cons_zero, List.set_cons_succ]
            refine wpAnyK_take0 10 (v := ?v33) rfl (by kernel_rfl) (fun _ _ _ h => h) (Or.inl ⟨by rfl, ?hy33⟩) (fun _ => hHeld) ?_
            case hy33 => (intro w hSw; go_simp; try with_reducible rfl)
            try simp only [Act.put, List.setIfInBounds_toArray, List.set_cons_zero, List.set_cons_succ]
            refine wpAnyK_done (by kernel_rfl) ?_ _
            have HL7 : Hid (Ls w w7 w.heap.size v7 (es xs) j) := by
              refine ⟨HBA.out.grown hgrow7 (by have := HSA.out; omega) (fun k hk => by have := own_block HWA.out k hk; omega), bl_grown HIA.out hgrow7 (fun e => by have := own_block HWA.out _ e; omega), ?_⟩
              rw [HSZ.out, List.reverse_cons, ← HLt.out, List.map_append, List.map_take]
              have e9 : [(2 + D + N)].map I = [Value.int IntKind.i64 (2 + (D : Int) + (N : Int))] := by simp [I]
              rw [e9]
              have e8 : ((2 + D + N) :: SS.drop K).length = R + 1 := by
                have := congrArg List.length HLt.out
                rw [List.length_take, List.length_reverse, List.length_reverse] at this
                have h1 := HW.out.1
                rw [List.length_map, List.length_reverse] at h1
                simp only [List.length_cons]; omega
              rw [e8]
              exact hown7
            clear hown7 hgrow7 hnil7
            obtain ⟨a7, n7, c7, hv7⟩ : ∃ a n c, v7 = .slice a n c := (own_slice HL7.out.wai).elim fun a h => h.elim fun c e => ⟨a, _, c, e⟩
            subst hv7
            go_wp2
            go_roundw
            case rel => exact ⟨j, rfl, by omega, HL7⟩
            case measure => simp [intOf] <;> omega

end Go.Proofs.Ytkaoobdemaahbaa
