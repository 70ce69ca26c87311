import Derived.Test.YthnogdkkdekgpaaDoorPG
namespace Go.Proofs.YthnogdkkdekgpaaDoor
open Go.RowKit

theorem ptake_iff {l1 l2 : List UInt8} {k : Nat} (h1 : k < l1.length) (h2 : k < l2.length) (h : l1.take k = l2.take k) : l1[k] = l2[k] ↔ l1.take (k + 1) = l2.take (k + 1) := by
  rw [List.take_succ_eq_append_getElem h1, List.take_succ_eq_append_getElem h2, h]
  constructor
  · intro e; rw [e]
  · intro e
    have := List.append_cancel_left e
    exact (List.cons.inj this).1

theorem pne_byte (x y : UInt8) : ((x.toNat : Int) != (y.toNat : Int)) = !decide (x = y) := by
  by_cases h : x = y
  · subst h; simp
  · have : x.toNat ≠ y.toNat := fun e => h (UInt8.toNat_inj.1 e)
    simp [h]; omega

set_option maxHeartbeats 1000000 in
theorem psame_any (a1 a2 : Option Addr) (c1 c2 : Nat) (l1 l2 : List UInt8) (w : World) (hr1 : Rd w a1 l1) (hr2 : Rd w a2 l2) (hlen : l1.length ≤ 281474976710656) :
    Calls Tryd.prog 15 #[.slice a1 l1.length c1, .slice a2 l2.length c2] w fun e w' => e = .returned (.bool (decide (l1 = l2))) ∧ ∃ q, w' = w.drewN q := by
  by_cases hl : l1.length = l2.length
  · have hl' : ((l1.length : Int) != (l2.length : Int)) = false := by simp; omega
    have Hl : Hid (l1.length = l2.length) := hl
    clear hl
    go_enter Tryd.func15, Tryd.ntmps15
    go_wp2
    go_loopw [5] (fun s wr => ∃ k q : Nat, k ≤ l1.length ∧ s = .int .i64 k ∧ Hid (l1.take k = l2.take k) ∧ wr = w.drewN q) (fun s _ => l1.length - (intOf s).toNat)
    case atStart => exact ⟨0, 0, Nat.zero_le _, rfl, rfl, rfl⟩
    case round =>
      obtain ⟨k, q, hk, rfl, Ht, rfl⟩ := hrel
      by_cases hlt : k < l1.length
      · rcases hr1 with hr1 | ⟨b1, o1, rfl, hb1, hc1⟩
        · subst hr1; simp at hlt
        rcases hr2 with hr2 | ⟨b2, o2, rfl, hb2, hc2⟩
        · subst hr2; have h := Hl.out; rw [List.length_nil] at h; omega
        have hlt2 : k < l2.length := by have := Hl.out; omega
        have g1 := hc1 k hlt
        have g2 := hc2 k hlt2
        rw [List.getD_eq_getElem?_getD, List.getElem?_eq_getElem hlt, Option.getD_some] at g1
        rw [List.getD_eq_getElem?_getD, List.getElem?_eq_getElem hlt2, Option.getD_some] at g2
        have Hx : Hid (l1[k] = l2[k] ↔ l1.take (k + 1) = l2.take (k + 1)) := ptake_iff hlt hlt2 Ht.out
        unfold B at g1 g2
        clear hc1 hc2
        generalize l1[k] = x at g1 Hx
        generalize l2[k] = y at g2 Hx
        have hltI : (k : Int) < (l2.length : Int) := by omega
        have hne := pne_byte x y
        by_cases hxy : x = y
        · have hd : ((x.toNat : Int) != (y.toNat : Int)) = false := by rw [hne]; simp [hxy]
          have Ht1 : Hid (l1.take (k + 1) = l2.take (k + 1)) := Hx.out.1 hxy
          clear hne hxy Hx
          go_wp2
          go_quiet (fail)
          go_wp2
          go_roundw
          case rel => exact ⟨k + 1, _, by omega, by go_num, Ht1, rfl⟩
          case measure => simp [intOf]; omega
        · have hd : ((x.toNat : Int) != (y.toNat : Int)) = true := by rw [hne]; simp [hxy]
          have Hf : Hid (decide (l1 = l2) = false) := by
            show decide (l1 = l2) = false
            rw [decide_eq_false_iff_not]
            intro e
            exact hxy (Hx.out.2 (by rw [e]))
          clear hne hxy Hx
          go_wp2
          go_quiet (fail)
          go_wp2
          go_ret
          rw [Hf.out]
          exact ⟨rfl, _, World.drewN_drewN _ _ _⟩
      · have He : Hid (decide (l1 = l2) = true) := by
          show decide (l1 = l2) = true
          have h1 := Ht.out
          have h2 := Hl.out
          rw [List.take_of_length_le (by omega), List.take_of_length_le (by omega)] at h1
          simpa using h1
        clear hr1 hr2
        go_wp2
        go_ret
        rw [He.out]
        exact ⟨rfl, _, rfl⟩
  · have hl' : ((l1.length : Int) != (l2.length : Int)) = true := by simp; omega
    have Hf : Hid (decide (l1 = l2) = false) := by show _ = _; simp; intro e; subst e; exact hl rfl
    clear hl
    go_enter Tryd.func15, Tryd.ntmps15
    go_wp2
    go_ret
    rw [Hf.out]
    exact ⟨rfl, 0, rfl⟩



/-- Bytes with nine marked ones behind them. -/
def Rm (w : World) (g : Nat) (l : List UInt8) : Prop := Bl 5 w g ((l ++ List.replicate 9 165).map B)
theorem Rm.rd {w : World} {g : Nat} {l : List UInt8} (h : Rm w g l) : Rd w (some ⟨g, 0, none⟩) l := by
  have h1 := Bl.rdb h
  have := h1.takeP l.length
  rwa [List.take_append_of_le_length (Nat.le_refl _), List.take_length] at this
theorem Rm.below {w w' : World} {g n : Nat} {l : List UInt8} (h : Rm w g l) (hb : Below n w w') (hn : w.heap.size ≤ n) : Rm w' g l := Bl.below h hb (by have := Bl.lt h; omega)
theorem Rm.but {w w' : World} {g b : Nat} {l : List UInt8} (h : Rm w g l) (hb : But w w' b) (hn : g ≠ b) : Rm w' g l := Bl.but h hb hn
theorem Rm.drewN {w : World} {g : Nat} {l : List UInt8} (h : Rm w g l) (q : Nat) : Rm (w.drewN q) g l := h
theorem Rm.cell {w : World} {g : Nat} {l : List UInt8} (h : Rm w g l) (k : Nat) (hk : k < l.length + 9) : w.cell? ⟨g, k, none⟩ = some (B ((l ++ List.replicate 9 165)[k]'(by simp; omega))) := by
  have := Bl.cell h k (by simp; omega)
  rw [this, List.getElem_map]

set_option maxHeartbeats 1000000 in
theorem proomy_any (ao : Option Addr) (c : Nat) (l : List UInt8) (w : World) (hrd : Rd w ao l) (hl : l.length ≤ 100000000) :
    Calls Tryd.prog 17 #[.slice ao l.length c] w fun e w' =>
      e = .returned (.slice (some ⟨w.heap.size, 0, none⟩) l.length (l.length + 9)) ∧ Rm w' w.heap.size l ∧ Below w.heap.size w w' := by
  have HR : Hid (Rd w ao l) := hrd
  obtain ⟨w0, hmk0, hc0, hb0⟩ := madeB w (l.length + 9) (by omega)
  have hmk : (Instr.makeSlice 23 (.int .i64 ((l.length : Int) + 9)) (.int .i64 ((l.length : Int) + 9))).run Tryd.prog w = .ok (.slice (some ⟨w.heap.size, 0, none⟩) (l.length + 9) (l.length + 9)) w0 := hmk0
  obtain ⟨w1, hcp0, hc1, hb1⟩ := copyB w0 w.heap.size 0 (l.length + 9) (l.length + 9) c ao l _ hc0 (hrd.below hb0 (Nat.le_refl _)) (by simp)
  have hcp : (Builtin.copy_ #[23, 23] 3 #[.slice (some ⟨w.heap.size, 0, none⟩) (l.length + 9) (l.length + 9), .slice ao l.length c]).run Tryd.prog w0 = .ok (goInt l.length) w1 := by
    have h1 := hcp0 0
    rw [show Nat.min l.length (l.length + 9) = l.length from Nat.min_eq_left (by omega)] at h1
    exact h1
  have e1 : spl ((List.replicate (l.length + 9) (0 : UInt8)).map B) 0 ((l.take (l.length + 9)).map B) = (l ++ List.replicate 9 0).map B := by
    rw [List.take_of_length_le (by omega)]
    unfold spl
    rw [List.take_zero, List.nil_append, List.length_map, ← List.map_drop, ← List.map_append, Nat.zero_add]
    simp
  rw [e1] at hc1
  have HC1 : Hid (Bl 5 w1 w.heap.size ((l ++ (List.replicate 0 165 ++ List.replicate (9 - 0) 0)).map B)) := by
    show Bl _ _ _ _
    simpa using hc1
  have HB1 : Hid (Below w.heap.size w w1) := hb0.trans (hb1.below hb0.size (Nat.le_refl _))
  clear hmk0 hcp0 hc0 hb0 hc1 hb1 e1 hrd
  go_enter Tryd.func17, Tryd.ntmps17
  go_wp2
  clear hcp hmk
  go_loopw [4] (fun s wr => ∃ k : Nat, k ≤ 9 ∧ s = .int .i64 ((l.length + k : Nat) : Int) ∧ Hid (Bl 5 wr w.heap.size ((l ++ (List.replicate k 165 ++ List.replicate (9 - k) 0)).map B)) ∧ Hid (Below w.heap.size w wr)) (fun s _ => l.length + 9 - (intOf s).toNat)
  case atStart => exact ⟨0, by omega, rfl, HC1, HB1⟩
  case round =>
    clear HC1 HB1
    obtain ⟨k, hk, rfl, hcl, hbl⟩ := hrel
    by_cases hlt : k < 9
    · have gf := hcl.out.frozen (l.length + k)
      obtain ⟨old, gc⟩ : ∃ v, wr.cell? ⟨w.heap.size, l.length + k, none⟩ = some v := ⟨_, hcl.out.cell (l.length + k) (by simp; omega)⟩
      go_wp2
      refine ⟨⟨k + 1, by omega, by go_num, ?_, hbl.out.setCell (Nat.le_refl _) _⟩, by simp [intOf]; omega⟩
      have hst := hcl.out.set (l.length + k) (B 165)
      have e2 : ((l ++ (List.replicate k (165 : UInt8) ++ List.replicate (9 - k) 0)).map B).set (l.length + k) (B 165) = (l ++ (List.replicate (k + 1) 165 ++ List.replicate (9 - (k + 1)) 0)).map B := by
        rw [← List.map_set]
        congr 1
        rw [List.set_append_right _ _ (by omega), Nat.add_sub_cancel_left, List.set_append_right _ _ (by simp)]
        congr 1
        rw [List.length_replicate, Nat.sub_self, show 9 - k = (9 - (k + 1)) + 1 by omega, List.replicate_succ, List.set_cons_zero, List.replicate_succ', List.append_assoc]
        rfl
      rw [e2] at hst
      exact hst
    · obtain rfl : k = 9 := by omega
      go_wp2
      go_ret
      exact ⟨rfl, by have := hcl.out; show Bl _ _ _ _; simpa using this, hbl.out⟩

set_option maxHeartbeats 1000000 in
theorem pspared_any (g c n : Nat) (ao : Option Addr) (l : List UInt8) (w : World) (hn : n = l.length) (hown : Rm w g l) (hrd : Rd w ao l) (hl : n ≤ 140737488355328) :
    Calls Tryd.prog 22 #[.slice (some ⟨g, 0, none⟩) n (n + 9), .slice ao n c] w fun e w' => e = .returned (.bool true) ∧ ∃ q, w' = w.drewN q := by
  have HR : Hid (Rd w ao l) := hrd
  have HO : Hid (Rd w (some ⟨g, 0, none⟩) l) := hown.rd
  have Hn : Hid (n = l.length) := hn
  have Hc : Hid (∀ k, k < 9 → w.cell? ⟨g, n + k, none⟩ = some (.int .u8 165)) := fun k hk => by
    rw [hown.cell (n + k) (by omega), List.getElem_append_right (by omega), List.getElem_replicate]
    rfl
  clear hrd hown hn
  go_enter Tryd.func22, Tryd.ntmps22
  go_wp2
  go_loop [6] (fun s => ∃ k : Nat, k ≤ 9 ∧ s = .int .i64 ((n + k : Nat) : Int)) (fun s => n + 9 - (intOf s).toNat)
  case atStart => exact ⟨0, by omega, rfl⟩
  case round =>
    obtain ⟨k, hk, rfl⟩ := hrel
    by_cases hlt : k < 9
    · have hcell := Hc.out k hlt
      go_wp2
      go_round
      case rel => exact ⟨k + 1, by omega, by go_num⟩
      case measure => simp [intOf]; omega
    · go_wp2_with fail
      have S := psame_any (some ⟨g, 0, none⟩) ao (n + 9) c l l w HO.out HR.out (by have := Hn.out; omega)
      rw [← Hn.out, decide_eq_true (rfl : l = l)] at S
      refine S.mono ?_
      rintro e w' ⟨rfl, q, hq⟩
      clear S
      have HQ : Hid (w' = w.drewN q) := hq
      clear hq
      go_wp2
      go_ret
      exact ⟨rfl, q, HQ.out⟩



/-- A byte turned. -/
def trn (x : UInt8) : UInt8 := UInt8.ofNat (255 - x.toNat)
theorem trn_nat (x : UInt8) : ((trn x).toNat : Int) = 255 - (x.toNat : Int) := by
  unfold trn
  have := x.toNat_lt
  rw [UInt8.toNat_ofNat', Nat.mod_eq_of_lt (by omega)]
  omega
/-- The first k bytes turned. -/
def trL (l : List UInt8) (k : Nat) : List UInt8 := (l.take k).map trn ++ l.drop k
theorem trL_length (l : List UInt8) (k : Nat) : (trL l k).length = l.length := by simp [trL]; omega
theorem trL_zero (l : List UInt8) : trL l 0 = l := by simp [trL]
theorem trL_full (l : List UInt8) : trL l l.length = l.map trn := by simp [trL]
theorem trL_get (l : List UInt8) (k : Nat) (hk : k < l.length) : (trL l k)[k]'(by rw [trL_length]; exact hk) = l[k] := by
  unfold trL
  rw [List.getElem_append_right (by simp; omega)]
  simp [Nat.min_eq_left (Nat.le_of_lt hk)]
theorem trL_set (l : List UInt8) (k : Nat) (hk : k < l.length) : (trL l k).set k (trn l[k]) = trL l (k + 1) := by
  unfold trL
  have hp : ((l.take k).map trn).length = k := by rw [List.length_map, List.length_take]; omega
  rw [List.set_append_right _ _ (by omega), hp, Nat.sub_self, List.drop_eq_getElem_cons hk, List.set_cons_zero, List.take_succ_eq_append_getElem hk, List.map_append, List.append_assoc]
  rfl
theorem Rm.step {w : World} {g : Nat} {l : List UInt8} {k : Nat} (h : Rm w g (trL l k)) (hk : k < l.length) : Rm (w.setCell ⟨g, k, none⟩ (B (trn l[k]))) g (trL l (k + 1)) := by
  have := Bl.set h k (B (trn l[k]))
  rw [← List.map_set, List.set_append_left _ _ (by rw [trL_length]; exact hk), trL_set l k hk] at this
  exact this

set_option maxHeartbeats 1000000 in
theorem pturn_any (g c : Nat) (l : List UInt8) (w : World) (hR : Rm w g l) (hl : l.length ≤ 100000000) :
    Calls Tryd.prog 24 #[.slice (some ⟨g, 0, none⟩) l.length c] w fun e w' => e = .returned (.tuple #[]) ∧ Rm w' g (l.map trn) ∧ But w w' g := by
  have HR0 : Hid (Rm w g (trL l 0)) := by rw [trL_zero]; exact hR
  clear hR
  go_enter Tryd.func24, Tryd.ntmps24
  go_wp2
  go_loopw [2] (fun s wr => ∃ k : Nat, s = .int .i64 (k : Int) ∧ k ≤ l.length ∧ Hid (Rm wr g (trL l k)) ∧ Hid (But w wr g)) (fun s _ => l.length - (intOf s).toNat)
  case atStart => exact ⟨0, rfl, by omega, HR0, But.refl _ _⟩
  case round =>
    clear HR0
    obtain ⟨k, rfl, hk, HR, HW⟩ := hrel
    by_cases hlt : k < l.length
    · have gf := Bl.frozen HR.out k
      have gc := HR.out.cell k (by rw [trL_length]; omega)
      rw [List.getElem_append_left (by rw [trL_length]; exact hlt), trL_get l k hlt] at gc
      have HR2 : Hid (Rm (wr.setCell ⟨g, k, none⟩ (B (trn l[k]))) g (trL l (k + 1))) := HR.out.step hlt
      have HW2 : Hid (But w (wr.setCell ⟨g, k, none⟩ (B (trn l[k]))) g) := HW.out.set _ _
      unfold B at gc HR2 HW2
      rw [trn_nat] at HR2 HW2
      have hx := l[k].toNat_lt
      generalize l[k] = x at *
      have hki : (k : Int) < (l.length : Int) := by omega
      go_wp2
      exact ⟨⟨k + 1, by go_num, by omega, HR2, HW2⟩, by simp [intOf]; omega⟩
    · obtain rfl : k = l.length := by omega
      go_wp2
      go_end0
      refine ⟨rfl, ?_, HW.out⟩
      have := HR.out
      rwa [trL_full] at this

end Go.Proofs.YthnogdkkdekgpaaDoor
