import Derived.Test.YtkfchdmlemcjhaaDoorSV
import Derived.Test.YtkfchdmlemcjhaaDoorJZ
namespace Go.Proofs.YtkfchdmlemcjhaaDoor
open Go.RowKit Go.Shelf

/-- Nodes that can be read. -/
structure NR (w : World) (v : Value) (l : List Nd) (ao : Option Addr) (cap : Nat) : Prop where
  val : v = .slice ao l.length cap
  cap : l.length ≤ cap
  cell : l = [] ∨ ∃ g off : Nat, ao = some ⟨g, off, none⟩ ∧ g < w.heap.size ∧ ∀ j u, (nCs l)[j]? = some u → w.cell? ⟨g, off + j, none⟩ = some u
theorem NR.at {w : World} {v : Value} {l : List Nd} {ao : Option Addr} {cap : Nat} (h : NR w v l ao cap) {i : Nat} (hi : i < l.length) : ∃ g off : Nat, ao = some ⟨g, off, none⟩ ∧ ∀ j u, j < 6 → (nC (l.getD i (nd0 0)))[j]? = some u → w.cell? ⟨g, off + i * 6 + j, none⟩ = some u := by
  rcases h.cell with h0 | ⟨g, off, e, _, hc⟩
  · subst h0; simp at hi
  · refine ⟨g, off, e, fun j u hj hu => ?_⟩
    rw [Nat.add_assoc]
    exact hc (i * 6 + j) u (by rw [nCs_at l i j hi hj]; exact hu)
theorem NR.below {w w' : World} {v : Value} {l : List Nd} {ao : Option Addr} {cap n : Nat} (h : NR w v l ao cap) (hb : Below n w w') (hn : w.heap.size ≤ n) : NR w' v l ao cap := by
  refine ⟨h.val, h.cap, ?_⟩
  rcases h.cell with h0 | ⟨g, off, e, hg, hc⟩
  · exact .inl h0
  · exact .inr ⟨g, off, e, Nat.lt_of_lt_of_le hg hb.size, fun j u hu => cell_but (hc j u hu) fun _ => hb.block g (by omega)⟩
theorem NR.drewN {w : World} {v : Value} {l : List Nd} {ao : Option Addr} {cap : Nat} (h : NR w v l ao cap) (n : Nat) : NR (w.drewN n) v l ao cap := ⟨h.val, h.cap, h.cell⟩
theorem NO.nr {B : Nat} {w : World} {v : Value} {l : List Nd} (h : NO B w v l) : ∃ ao cap, NR w v l ao cap := by
  obtain ⟨a, c, e, hc, hg⟩ := own_slice h
  refine ⟨a, c, e, hc, ?_⟩
  rcases Nat.eq_zero_or_pos l.length with h0 | h0
  · exact .inl (List.eq_nil_of_length_eq_zero h0)
  · obtain ⟨g, rfl⟩ := hg h0
    refine .inr ⟨g, 0, rfl, ?_, fun j u hu => ?_⟩
    · have := (h.lt g (by rw [e]; rfl)).2
      exact this
    · rw [Nat.zero_add]
      unfold NO at h
      rw [e] at h
      exact (own_cell h j u hu).1

set_option maxHeartbeats 1000000 in
theorem stands_any (ao : Option Addr) (n cap : Nat) (a : Int) (w : World) : Calls Tryd.prog 37 #[.slice ao n cap, .int .i64 a] w fun e w' => e = .returned (.bool (decide (0 ≤ a ∧ a < n))) ∧ w' = w := by
  by_cases h0 : 0 ≤ a
  · have q0 : decide (0 ≤ a) = true := by simpa using h0
    by_cases h1 : a < n
    · have q1 : decide (a < (n : Int)) = true := by simpa using h1
      rw [decide_eq_true (show 0 ≤ a ∧ a < n from ⟨h0, h1⟩)]
      go_enter Tryd.func37, Tryd.ntmps37
      go_wp2
      go_ret
      exact ⟨rfl, rfl⟩
    · have q1 : decide (a < (n : Int)) = false := by simpa using h1
      rw [decide_eq_false (show ¬ (0 ≤ a ∧ a < n) from fun h => h1 h.2)]
      go_enter Tryd.func37, Tryd.ntmps37
      go_wp2
      go_ret
      exact ⟨rfl, rfl⟩
  · have q0 : decide (0 ≤ a) = false := by simpa using h0
    rw [decide_eq_false (show ¬ (0 ≤ a ∧ a < n) from fun h => h0 h.1)]
    go_enter Tryd.func37, Tryd.ntmps37
    go_wp2
    go_ret
    exact ⟨rfl, rfl⟩

theorem wrapI (x : Int) : IntKind.i64.wrap x = wrap64 x := IntWalk.i64_left x

set_option maxRecDepth 100000 in
set_option maxHeartbeats 2000000 in
theorem behind_any (v : Value) (l : List Nd) (ao : Option Addr) (cap : Nat) (a : Int) (w : World) (h : NR w v l ao cap) (hl : l.length ≤ 1000000000) :
    Calls Tryd.prog 45 #[v, .int .i64 a] w fun e w' => e = .returned (.int .i64 (behindF l a)) ∧ w' = w := by
  obtain ⟨rfl, hc, _⟩ := id h
  have CS := stands_any ao l.length cap a w
  by_cases hs : 0 ≤ a ∧ a < l.length
  · rw [decide_eq_true hs] at CS
    obtain ⟨i, rfl⟩ : ∃ i : Nat, a = (i : Int) := ⟨a.toNat, by omega⟩
    have hi : i < l.length := by omega
    have HF : Hid (behindF l (i : Int) = (bhN l i : Int)) := by show _ = _; unfold behindF; rw [if_pos hs, Int.toNat_natCast]
    have HN : Hid (NR w (.slice ao l.length cap) l ao cap) := h
    obtain ⟨g, off, rfl, _⟩ := h.at hi
    clear hs h
    go_enter Tryd.func45, Tryd.ntmps45
    go_wp2_with fail
    refine CS.mono ?_
    rintro e w1 ⟨rfl, rfl⟩
    go_wp2
    go_loop [5, 1] (fun s5 s1 => ∃ (aw : Int) (k : Nat), s5 = .int .i64 aw ∧ s1 = .int .i64 k ∧ k ≤ l.length ∧ k + bhF (l.drop k) aw = bhN l i) (fun _ s => l.length - (intOf s).toNat)
    case atStart => exact ⟨1, i, rfl, rfl, by omega, rfl⟩
    case round =>
      obtain ⟨aw, k, rfl, rfl, hk, hb⟩ := hrel
      have HB : Hid (k + bhF (l.drop k) aw = bhN l i) := hb
      clear hb
      by_cases hpos : 0 < aw
      · have q0 : decide (aw > 0) = true := by simpa using hpos
        by_cases hlt : k < l.length
        · have q1 : decide ((k : Int) < (l.length : Int)) = true := by simp; omega
          obtain ⟨g', off', e', hcell⟩ := HN.out.at hlt
          cases e'
          obtain ⟨K, hK⟩ : ∃ K, (l.getD k (nd0 0)).kids = K := ⟨_, rfl⟩
          have ck := hcell 5 (.int .i64 K) (by omega) (by rw [← hK]; rfl)
          have HB2 : Hid (k + 1 + bhF (l.drop (k + 1)) (wrap64 (aw + wrap64 (K - 1))) = bhN l i) := by
            show _ = _
            rw [← HB.out, dropN hlt]
            conv => rhs; unfold bhF
            rw [if_pos hpos, hK]
            omega
          clear hcell hK HB
          go_wp2
          go_round
          case rel =>
            refine ⟨_, k + 1, rfl, by go_num, by omega, ?_⟩
            have := HB2.out
            simpa [wrapI] using this
          case measure => simp [intOf]; omega
        · have q1 : decide ((k : Int) < (l.length : Int)) = false := by simp; omega
          have HE : Hid (bhN l i = k) := by show _ = _; rw [← HB.out, List.drop_eq_nil_of_le (by omega)]; rfl
          clear HB
          go_wp2
          go_ret
          rw [HF.out, HE.out]
          exact ⟨rfl, rfl⟩
      · have q0 : decide (aw > 0) = false := by simpa using hpos
        have HE : Hid (bhN l i = k) := by
          show _ = _
          rw [← HB.out]
          cases l.drop k with
          | nil => rfl
          | cons x r => unfold bhF; rw [if_neg hpos]; rfl
        clear HB
        go_wp2
        go_ret
        rw [HF.out, HE.out]
        exact ⟨rfl, rfl⟩
  · rw [decide_eq_false hs] at CS
    have HF : Hid (behindF l a = -1) := by show _ = _; unfold behindF; rw [if_neg hs]
    clear hs
    go_enter Tryd.func45, Tryd.ntmps45
    go_wp2_with fail
    refine CS.mono ?_
    rintro e w1 ⟨rfl, rfl⟩
    go_wp2
    go_ret
    rw [HF.out]
    exact ⟨rfl, rfl⟩

end Go.Proofs.YtkfchdmlemcjhaaDoor

namespace Go.Proofs.YtkfchdmlemcjhaaDoor
open Go.RowKit Go.Shelf

/-- A list of places of one's own. -/
structure OI (B : Nat) (w0 w : World) (v : Value) (l : List Nat) : Prop where
  own : w.ownsRow B 3 1 v l.length (l.map iV)
  bel : Below B w0 w
theorem OI.lift {B : Nat} {w0 w w' : World} {v : Value} {l : List Nat} (h : OI B w0 w v l) (hb : Below w.heap.size w w') (hB : B ≤ w0.heap.size) : OI B w0 w' v l :=
  ⟨own_below h.own hb (Nat.le_refl _), h.bel.trans (hb.mono (Nat.le_trans hB h.bel.size))⟩

/-- append of one place behind a row of one's own. -/
theorem append_int {wr : World} {ops : Array Oper} {rest : List Oper} {o : Oper} {a : Act} {Q : Exit → Act → World → Prop} (hgd : o.guard = none) (s x : Operand)
    (ho : o.op = .call { callee := .builtin .append, args := #[s, x], argTypes := #[39, 39] })
    (B : Nat) (w0 : World) (v : Value) (l : List Nat) (y : Nat) (hs : a.eval s = v) (h : OI B w0 wr v l) (hx : a.eval x = .slice (some ⟨wr.heap.size, 0, none⟩) 1 1) (hl : l.length ≤ 10000000000) (hB : B ≤ w0.heap.size)
    (k : ∀ v' w', OI B w0 w' v' (l ++ [y]) → wpList Tryd.prog ops Q rest (a.put o.dst v') w') : wpList Tryd.prog ops Q (o :: rest) a (wr.alloc (.cells #[.int .i64 (y : Int)] 3)) := by
  obtain ⟨i, hi, hz, hsize, hby⟩ := info_parts infoI
  have hBl : Bl 3 (wr.alloc (.cells #[.int .i64 (y : Int)] 3)) wr.heap.size [iV y] := alloc_bl _ _ _
  have h1 := h.lift (alloc_below wr (.cells #[.int .i64 (y : Int)] 3)) hB
  refine wpList_append_own_wide _ hgd s x 39 ho B 3 i (.int .i64 0) 1 8 Tryd.underlying39 hi hz hsize hby rfl (by decide) v l.length (l.map iV) hs h1.own ⟨wr.heap.size, 0, none⟩ 1 1 [iV y] hx rfl ?_ (by intro u hu; simp at hu; subst hu; rfl) (by unfold maxLen; omega) (by omega) (Nat.le_trans hB h1.bel.size) ?_
  · intro j u hu
    obtain ⟨hlt, e⟩ := List.getElem?_eq_some_iff.1 hu
    rw [Addr.add_mid, Nat.zero_add, ← e]
    exact hBl.cell j hlt
  · intro v' w' h2 h3 _
    refine k v' w' ⟨?_, ?_⟩
    · rw [List.length_append, List.map_append]; exact h2
    · exact h1.bel.grown h3 (Nat.le_trans hB h1.bel.size) (own_block h1.own)

theorem kidsF_len {v : List Nd} : ∀ (f i : Nat) (n : Int), i ≤ v.length → (kidsL v f i n).length ≤ v.length - i
  | 0, _, _, _ => by simp [kidsL]
  | f + 1, i, n, hi => by
    unfold kidsL
    split
    · rename_i h
      have h1 := bhN_gt h.2
      have h2 := bhN_le (v := v) hi
      have := kidsF_len f (bhN v i) (n - 1) h2
      simp only [List.length_cons]
      omega
    · simp

set_option maxRecDepth 100000 in
set_option maxHeartbeats 4000000 in
theorem kids_any (v : Value) (l : List Nd) (ao : Option Addr) (cap : Nat) (a : Int) (w : World) (h : NR w v l ao cap) (hl : l.length ≤ 1000000000) :
    Calls Tryd.prog 38 #[v, .int .i64 a] w fun e w' => ∃ r, e = .returned r ∧ OI w.heap.size w w' r (kidsF l a) := by
  obtain ⟨rfl, hc, _⟩ := id h
  have CS : Hid (∀ (x : Int) (wq : World), Calls Tryd.prog 37 #[.slice ao l.length cap, .int .i64 x] wq fun e w' => e = .returned (.bool (decide (0 ≤ x ∧ x < l.length))) ∧ w' = wq) := fun x wq => stands_any ao l.length cap x wq
  by_cases hs : 0 ≤ a ∧ a < l.length
  · have C0 := CS.out a w
    rw [decide_eq_true hs] at C0
    obtain ⟨i, rfl⟩ : ∃ i : Nat, a = (i : Int) := ⟨a.toNat, by omega⟩
    have hi : i < l.length := by omega
    obtain ⟨K, hK⟩ : ∃ K, (l.getD i (nd0 0)).kids = K := ⟨_, rfl⟩
    have HF : Hid (kidsF l (i : Int) = kidsL l (l.length + 1) (i + 1) K) := by show _ = _; unfold kidsF; rw [if_pos hs, Int.toNat_natCast, hK]
    have HN : Hid (NR w (.slice ao l.length cap) l ao cap) := h
    obtain ⟨g, off, rfl, hcell⟩ := h.at hi
    have ck := hcell 5 (.int .i64 K) (by omega) (by rw [← hK]; rfl)
    obtain ⟨L, hL⟩ : ∃ L, kidsF l (i : Int) = L := ⟨_, rfl⟩
    rw [hL] at HF ⊢
    clear hs h hcell hK hL
    go_enter Tryd.func38, Tryd.ntmps38
    go_wp2_with fail
    refine C0.mono ?_
    rintro e w1 ⟨rfl, rfl⟩
    clear C0
    go_wp2
    go_loopw [5, 6, 18] (fun s5 s6 s18 wx => ∃ (j k : Nat) (acc : List Nat), s18 = .int .i64 j ∧ s6 = .int .i64 k ∧ k ≤ l.length ∧ OI w1.heap.size w1 wx s5 acc ∧ acc ++ kidsL l (l.length + 1) k (K - j) = L ∧ acc.length ≤ k ∧ j < k) (fun _ s _ _ => l.length - (intOf s).toNat)
    case atStart => exact ⟨0, i + 1, [], rfl, by go_num, by omega, ⟨World.ownsRow_nil _ _ _ _, Below.refl _ _⟩, by rw [List.nil_append]; have := HF.out; simpa using this.symm, by simp, by omega⟩
    case round =>
      obtain ⟨j, k, acc, rfl, rfl, hk, hoi, hacc, hal, hjk⟩ := hrel
      have HO : Hid (OI w1.heap.size w1 wr u5 acc) := hoi
      have HA : Hid (acc ++ kidsL l (l.length + 1) k (K - j) = L) := hacc
      clear hoi hacc
      by_cases hjK : (j : Int) < K
      · have q0 : decide ((j : Int) < K) = true := by simpa using hjK
        have C1 := CS.out (k : Int) wr
        by_cases hkl : k < l.length
        · rw [decide_eq_true (show (0 : Int) ≤ (k : Int) ∧ (k : Int) < l.length by omega)] at C1
          have HA2 : Hid ((acc ++ [k]) ++ kidsL l (l.length + 1) (bhN l k) (K - ((j + 1 : Nat) : Int)) = L) := by
            show _ = _
            rw [← HA.out, List.append_assoc]
            congr 1
            conv => rhs; unfold kidsL
            rw [if_pos ⟨by omega, hkl⟩, List.singleton_append]
            congr 1
            have h1 := bhN_gt hkl
            rw [kidsL_fuel (l.length + 1) l.length _ _ (by omega) (by omega)]
            congr 1
            omega
          have hb1 := bhN_gt hkl
          have hb2 := bhN_le (v := l) (i := k) (by omega)
          have CB : Hid (∀ wq, NR wq (.slice (some ⟨g, off, none⟩) l.length cap) l (some ⟨g, off, none⟩) cap → Calls Tryd.prog 45 #[.slice (some ⟨g, off, none⟩) l.length cap, .int .i64 (k : Int)] wq fun e w' => e = .returned (.int .i64 (bhN l k : Int)) ∧ w' = wq) := fun wq hq => by
            have := behind_any _ l _ cap (k : Int) wq hq hl
            unfold behindF at this
            rw [if_pos ⟨by omega, by omega⟩, Int.toNat_natCast] at this
            exact this
          generalize bhN l k = kb at *
          clear HA
          go_wp2_with fail
          refine C1.mono ?_
          rintro e w2 ⟨rfl, rfl⟩
          clear C1
          go_wp2_with (at_builtin; refine append_int (wr := w2) rfl (.tmp 24) (.tmp 26) rfl w1.heap.size w1 _ acc k rfl HO.out rfl (by omega) (Nat.le_refl _) ?_; intro v5 w5 h5)
          have HO2 : Hid (OI w1.heap.size w1 w5 v5 (acc ++ [k])) := h5
          have C2 := CB.out w5 (HN.out.below h5.bel (Nat.le_refl _))
          clear h5
          go_wp2_with fail
          refine C2.mono ?_
          rintro e w6 ⟨rfl, rfl⟩
          clear C2
          go_wp2
          go_roundw
          case rel => exact ⟨j + 1, kb, acc ++ [k], by go_num, rfl, hb2, HO2.out, HA2.out, by simp; omega, by omega⟩
          case measure => simp [intOf]; omega
        · rw [decide_eq_false (show ¬ ((0 : Int) ≤ (k : Int) ∧ (k : Int) < l.length) by omega)] at C1
          have HE : Hid (L = acc) := by
            show _ = _
            rw [← HA.out]
            unfold kidsL
            rw [if_neg (by omega), List.append_nil]
          clear HA
          go_wp2_with fail
          refine C1.mono ?_
          rintro e w2 ⟨rfl, rfl⟩
          go_wp2
          go_ret
          rw [HE.out]
          exact ⟨_, rfl, HO.out⟩
      · have q0 : decide ((j : Int) < K) = false := by simpa using hjK
        have HE : Hid (L = acc) := by
          show _ = _
          rw [← HA.out]
          unfold kidsL
          rw [if_neg (by omega), List.append_nil]
        clear HA
        go_wp2
        go_ret
        rw [HE.out]
        exact ⟨_, rfl, HO.out⟩
  · have C0 := CS.out a w
    rw [decide_eq_false hs] at C0
    have HF : Hid (kidsF l a = []) := by show _ = _; unfold kidsF; rw [if_neg hs]
    clear hs
    go_enter Tryd.func38, Tryd.ntmps38
    go_wp2_with fail
    refine C0.mono ?_
    rintro e w1 ⟨rfl, rfl⟩
    go_wp2
    go_ret
    rw [HF.out]
    exact ⟨_, rfl, World.ownsRow_nil _ _ _ _, Below.refl _ _⟩

end Go.Proofs.YtkfchdmlemcjhaaDoor

namespace Go.Proofs.YtkfchdmlemcjhaaDoor
open Go.RowKit Go.Shelf

theorem OI.at {B : Nat} {w0 w : World} {v : Value} {l : List Nat} (h : OI B w0 w v l) : ∃ a c, v = .slice a l.length c ∧ l.length ≤ c ∧ (∀ j, j < l.length → ∃ g, a = some ⟨g, 0, none⟩ ∧ w.cell? ⟨g, j, none⟩ = some (iV (l.getD j 0))) := by
  obtain ⟨a, c, e, hc, hg⟩ := own_slice h.own
  refine ⟨a, c, e, hc, fun j hj => ?_⟩
  obtain ⟨g, rfl⟩ := hg (by omega)
  refine ⟨g, rfl, ?_⟩
  have := h.own
  rw [e] at this
  exact (own_cell this j _ (by simp [List.getD_eq_getElem?_getD, hj])).1

theorem memL_cons {v : List Nd} {key : List UInt8} {l : List Nat} {j : Nat} (hj : j < l.length) : memL v key (l.drop j) = if (v.getD (l.getD j 0) (nd0 0)).key = key then ((l.getD j 0 : Nat) : Int) else memL v key (l.drop (j + 1)) := by
  rw [List.drop_eq_getElem_cons hj]
  have : l[j] = l.getD j 0 := by simp [List.getD_eq_getElem?_getD, hj]
  rw [this]
  rfl

set_option maxRecDepth 100000 in
set_option maxHeartbeats 4000000 in
theorem member_any (v : Value) (l : List Nd) (ao : Option Addr) (cap : Nat) (a : Int) (key : List UInt8) (w : World) (h : NR w v l ao cap) (hl : l.length ≤ 1000000000) :
    Calls Tryd.prog 28 #[v, .int .i64 a, .string ⟨key.toArray⟩] w fun e w' => e = .returned (.int .i64 (memF l a key)) ∧ Below w.heap.size w w' := by
  obtain ⟨rfl, hc, _⟩ := id h
  have C0 := stands_any ao l.length cap a w
  by_cases hs : 0 ≤ a ∧ a < l.length
  · rw [decide_eq_true hs] at C0
    obtain ⟨i, rfl⟩ : ∃ i : Nat, a = (i : Int) := ⟨a.toNat, by omega⟩
    have hi : i < l.length := by omega
    obtain ⟨K, hK⟩ : ∃ K, (l.getD i (nd0 0)).kind = K := ⟨_, rfl⟩
    have CK := kids_any _ l ao cap (i : Int) w h hl
    have HN : Hid (NR w (.slice ao l.length cap) l ao cap) := h
    obtain ⟨g, off, rfl, hcell⟩ := h.at hi
    have ck := hcell 0 (.int .i64 K) (by omega) (by rw [← hK]; rfl)
    rw [Nat.add_zero] at ck
    have HLT : Hid (∀ k ∈ kidsF l (i : Int), k < l.length) := kidsF_lt
    by_cases hk7 : K = 7
    · have HF : Hid (memF l (i : Int) key = memL l key (kidsF l (i : Int))) := by show _ = _; unfold memF; rw [if_pos ⟨hs.1, hs.2, by rw [Int.toNat_natCast, hK]; exact hk7⟩]
      have hkb : (K == 7) = true := by simpa using hk7
      have hlen : (kidsF l (i : Int)).length ≤ 1000000000 := by
        unfold kidsF
        rw [if_pos hs]
        have := kidsF_len (v := l) (l.length + 1) (i + 1) (l.getD i (nd0 0)).kids (by omega)
        rw [Int.toNat_natCast]
        omega
      subst hk7
      generalize kidsF l (i : Int) = L at *
      generalize memF l (i : Int) key = M at *
      clear hs h hcell hK
      go_enter Tryd.func28, Tryd.ntmps28
      go_wp2_with fail
      refine C0.mono ?_
      rintro e w1 ⟨rfl, rfl⟩
      clear C0
      go_wp2_with fail
      refine CK.mono ?_
      clear CK
      rintro e w2 ⟨r, rfl, hoi⟩
      obtain ⟨ka, kc, rfl, hkc, hkat⟩ := hoi.at
      have HO : Hid (OI w1.heap.size w1 w2 (.slice ka L.length kc) L) := hoi
      have HAT : Hid (∀ j, j < L.length → ∃ g, ka = some ⟨g, 0, none⟩ ∧ w2.cell? ⟨g, j, none⟩ = some (iV (L.getD j 0))) := hkat
      have HN2 : Hid (NR w2 (.slice (some ⟨g, off, none⟩) l.length cap) l (some ⟨g, off, none⟩) cap) := HN.out.below hoi.bel (Nat.le_refl _)
      clear hoi hkat ck
      go_wp2
      go_loop [25] (fun s => ∃ j : Nat, s = .int .i64 j ∧ j ≤ L.length ∧ memL l key (L.drop j) = M) (fun s => L.length - (intOf s).toNat)
      case atStart => exact ⟨0, rfl, Nat.zero_le _, HF.out.symm⟩
      case round =>
        obtain ⟨j, rfl, hj, hm⟩ := hrel
        have HM : Hid (memL l key (L.drop j) = M) := hm
        clear hm
        by_cases hjl : j < L.length
        · have q0 : decide ((j : Int) < (L.length : Int)) = true := by simp; omega
          obtain ⟨kg, rfl, ckj⟩ := HAT.out j hjl
          have hm2 := HM.out
          rw [memL_cons hjl] at hm2
          have hkl : L.getD j 0 < l.length := HLT.out _ (by rw [List.getD_eq_getElem?_getD, List.getElem?_eq_getElem hjl]; exact List.getElem_mem hjl)
          generalize L.getD j 0 = k at *
          have HM2 : Hid ((if (l.getD k (nd0 0)).key = key then (k : Int) else memL l key (L.drop (j + 1))) = M) := hm2
          obtain ⟨g', off', e', hc2⟩ := HN2.out.at hkl
          cases e'
          obtain ⟨Y, hY⟩ : ∃ Y, (l.getD k (nd0 0)).key = Y := ⟨_, rfl⟩
          have cky := hc2 1 (.string ⟨Y.toArray⟩) (by omega) (by rw [← hY]; rfl)
          unfold iV at ckj
          rw [hY] at HM2
          clear hm2 hc2 hY HM
          by_cases hYk : Y = key
          · have HE : Hid (M = (k : Int)) := by show _ = _; rw [← HM2.out, if_pos hYk]
            subst hYk
            clear HM2
            go_wp2
            go_ret
            rw [HE.out]
            exact ⟨rfl, HO.out.bel⟩
          · have HE : Hid (memL l key (L.drop (j + 1)) = M) := by show _ = _; rw [← HM2.out, if_neg hYk]
            have hYb : (Y == key) = false := by simpa using hYk
            clear HM2 hYk
            go_wp2
            go_round
            case rel => exact ⟨j + 1, by go_num, by omega, HE.out⟩
            case measure => simp [intOf]; omega
        · have q0 : decide ((j : Int) < (L.length : Int)) = false := by simp; omega
          have HE : Hid (M = -1) := by show _ = _; rw [← HM.out, List.drop_eq_nil_of_le (by omega)]; rfl
          clear HM
          go_wp2
          go_ret
          rw [HE.out]
          exact ⟨rfl, HO.out.bel⟩
    · have HF : Hid (memF l (i : Int) key = -1) := by show _ = _; unfold memF; rw [if_neg (by rw [Int.toNat_natCast, hK]; exact fun hx => hk7 hx.2.2)]
      have hkb : (K == 7) = false := by simpa using hk7
      clear hs h hcell hK CK
      go_enter Tryd.func28, Tryd.ntmps28
      go_wp2_with fail
      refine C0.mono ?_
      rintro e w1 ⟨rfl, rfl⟩
      go_wp2
      go_ret
      rw [HF.out]
      exact ⟨rfl, Below.refl _ _⟩
  · rw [decide_eq_false hs] at C0
    have HF : Hid (memF l a key = -1) := by show _ = _; unfold memF; rw [if_neg (fun hx => hs ⟨hx.1, hx.2.1⟩)]
    clear hs
    go_enter Tryd.func28, Tryd.ntmps28
    go_wp2_with fail
    refine C0.mono ?_
    rintro e w1 ⟨rfl, rfl⟩
    go_wp2
    go_ret
    rw [HF.out]
    exact ⟨rfl, Below.refl _ _⟩

end Go.Proofs.YtkfchdmlemcjhaaDoor

namespace Go.Proofs.YtkfchdmlemcjhaaDoor
open Go.RowKit Go.Shelf

theorem fields_node : (Tryd.prog.fieldsOf 36).toList = [⟨"Kind", 34, 0, false, "", "", 0⟩, ⟨"Key", 9, 1, false, "", "", 8⟩, ⟨"Text", 9, 2, false, "", "", 24⟩, ⟨"Whole", 4, 3, false, "", "", 40⟩, ⟨"Int", 2, 4, false, "", "", 48⟩, ⟨"Kids", 3, 5, false, "", "", 56⟩] := by kernel_rfl

theorem eqf_step {f : Field} {fs : List Field} {d : Nat} {xs ys : Array Value} {w : World} {x y : Value} {r : Bool} (hn : f.name ≠ "_") (hx : (part f.type xs f.offset).run Tryd.prog w = .ok x w) (hy : (part f.type ys f.offset).run Tryd.prog w = .ok y w) (he : (Op.equalIn d f.type x y).run Tryd.prog w = .ok r w) :
    (Op.eqFields d xs ys (f :: fs)).run Tryd.prog w = if r then (Op.eqFields d xs ys fs).run Tryd.prog w else .ok false w := by
  conv => lhs; unfold Op.eqFields
  rw [if_pos hn, Sem.run_bind, hx, Result.andThen_ok, Sem.run_bind, hy, Result.andThen_ok, Sem.run_bind, he, Result.andThen_ok]
  cases r
  · rfl
  · rfl

theorem bytes_beq (a b : List UInt8) : ((⟨a.toArray⟩ : ByteArray).toList == (⟨b.toArray⟩ : ByteArray).toList) = decide (a = b) := by
  rw [ByteArray.toList_eq, ByteArray.toList_eq]
  show (a == b) = _
  rw [Bool.eq_iff_iff, beq_iff_eq, decide_eq_true_iff]

set_option maxRecDepth 100000 in
theorem run_nodes (w : World) (n m : Nd) : (binOp .eql 36 (.agg #[.int .i64 n.kind, .string ⟨n.key.toArray⟩, .string ⟨n.text.toArray⟩, .bool n.whole, .int .i64 n.int, .int .i64 n.kids]) (.agg #[.int .i64 m.kind, .string ⟨m.key.toArray⟩, .string ⟨m.text.toArray⟩, .bool m.whole, .int .i64 m.int, .int .i64 m.kids])).run Tryd.prog w = .ok (.bool (decide (n = m))) w := by
  have ht : Tryd.prog.underlying 36 = some (.struct (Tryd.prog.fieldsOf 36)) := by kernel_rfl
  have hp : Tryd.prog.stoodInHeld 36 = false := by kernel_rfl
  have u31 : Tryd.prog.underlying 34 = some (.int .i64) := by kernel_rfl
  have u9 : Tryd.prog.underlying 9 = some .string := by kernel_rfl
  have u4 : Tryd.prog.underlying 4 = some .bool := by kernel_rfl
  have u2 : Tryd.prog.underlying 2 = some (.int .i64) := by kernel_rfl
  have u3 : Tryd.prog.underlying 3 = some (.int .i64) := by kernel_rfl
  have e1 : (Op.equalIn 9999 34 (.int .i64 n.kind) (.int .i64 m.kind)).run Tryd.prog w = .ok (n.kind == m.kind) w := run_equalIn_int w 9998 34 .i64 .i64 n.kind m.kind u31
  have e2 : (Op.equalIn 9999 9 (.string ⟨n.key.toArray⟩) (.string ⟨m.key.toArray⟩)).run Tryd.prog w = .ok ((⟨n.key.toArray⟩ : ByteArray).toList == (⟨m.key.toArray⟩ : ByteArray).toList) w := run_equalIn_string w 9998 9 _ _ u9
  have e3 : (Op.equalIn 9999 9 (.string ⟨n.text.toArray⟩) (.string ⟨m.text.toArray⟩)).run Tryd.prog w = .ok ((⟨n.text.toArray⟩ : ByteArray).toList == (⟨m.text.toArray⟩ : ByteArray).toList) w := run_equalIn_string w 9998 9 _ _ u9
  have e4 : (Op.equalIn 9999 4 (.bool n.whole) (.bool m.whole)).run Tryd.prog w = .ok (n.whole == m.whole) w := run_equalIn_bool' w 9998 4 _ _ u4
  have e5 : (Op.equalIn 9999 2 (.int .i64 n.int) (.int .i64 m.int)).run Tryd.prog w = .ok (n.int == m.int) w := run_equalIn_int w 9998 2 .i64 .i64 n.int m.int u2
  have e6 : (Op.equalIn 9999 3 (.int .i64 n.kids) (.int .i64 m.kids)).run Tryd.prog w = .ok (n.kids == m.kids) w := run_equalIn_int w 9998 3 .i64 .i64 n.kids m.kids u3
  rw [run_eql_struct]
  show Result.andThen ((Op.equalIn (9999 + 1) 36 _ _).run Tryd.prog w) _ = _
  rw [run_equalIn_struct w 9999 36 _ _ ht hp, fields_node]
  rw [eqf_step (x := .int .i64 n.kind) (y := .int .i64 m.kind) (by decide) (by kernel_rfl) (by kernel_rfl) e1]
  rw [eqf_step (x := .string ⟨n.key.toArray⟩) (y := .string ⟨m.key.toArray⟩) (by decide) (by kernel_rfl) (by kernel_rfl) e2]
  rw [eqf_step (x := .string ⟨n.text.toArray⟩) (y := .string ⟨m.text.toArray⟩) (by decide) (by kernel_rfl) (by kernel_rfl) e3]
  rw [eqf_step (x := .bool n.whole) (y := .bool m.whole) (by decide) (by kernel_rfl) (by kernel_rfl) e4]
  rw [eqf_step (x := .int .i64 n.int) (y := .int .i64 m.int) (by decide) (by kernel_rfl) (by kernel_rfl) e5]
  rw [eqf_step (x := .int .i64 n.kids) (y := .int .i64 m.kids) (by decide) (by kernel_rfl) (by kernel_rfl) e6]
  have hn : (Op.eqFields 9999 #[.int .i64 n.kind, .string ⟨n.key.toArray⟩, .string ⟨n.text.toArray⟩, .bool n.whole, .int .i64 n.int, .int .i64 n.kids] #[.int .i64 m.kind, .string ⟨m.key.toArray⟩, .string ⟨m.text.toArray⟩, .bool m.whole, .int .i64 m.int, .int .i64 m.kids] []).run Tryd.prog w = .ok true w := rfl
  rw [hn, bytes_beq, bytes_beq]
  obtain ⟨a1, a2, a3, a4, a5, a6⟩ := n
  obtain ⟨b1, b2, b3, b4, b5, b6⟩ := m
  simp only
  have hE : decide ((⟨a1, a2, a3, a4, a5, a6⟩ : Nd) = ⟨b1, b2, b3, b4, b5, b6⟩) = ((a1 == b1) && (decide (a2 = b2) && (decide (a3 = b3) && ((a4 == b4) && ((a5 == b5) && (a6 == b6)))))) := by
    rw [Bool.eq_iff_iff]
    simp
  rw [hE]
  cases (a1 == b1) <;> cases decide (a2 = b2) <;> cases decide (a3 = b3) <;> cases (a4 == b4) <;> cases (a5 == b5) <;> cases (a6 == b6) <;> rfl

end Go.Proofs.YtkfchdmlemcjhaaDoor
