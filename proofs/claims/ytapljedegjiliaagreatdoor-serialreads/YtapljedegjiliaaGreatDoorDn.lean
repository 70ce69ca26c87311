import Derived.Test.YtapljedegjiliaaGreatDoorDm
import Derived.Deep.AppendLies
namespace Go.Proofs.YtapljedegjiliaaGreatDoor
open Go.RowKit Go.Shelf

theorem sr_below {w w' : World} {v : Value} {l : List (List UInt8)} (h : SR w v l) (hb : Below w.heap.size w w') : SR w' v l := by
  obtain ⟨ao, cap, rfl, hc⟩ := h.ex
  refine ⟨ao, cap, rfl, ?_⟩
  rcases hc with h0 | ⟨g, off, e, h1⟩
  · exact .inl h0
  · exact .inr ⟨g, off, e, fun j hj => cell_but (h1 j hj) fun hg => hb.block g hg⟩
/-- The first node's name. -/
def keyed (S : List UInt8) : List Nd → List Nd
  | [] => []
  | n :: r => { n with key := S } :: r
/-- What is told of an item: the names behind it, its nodes. -/
def GotI (ob : Bool) (ns : List (List UInt8)) (x : Lx (List (List UInt8) × List Nd)) (v : Value) (B : Nat) (w : World) : Prop := match x with
  | .ok y q => ∃ lv S, v = gotV (q : Int) lv S 0 0 ∧ NO B w lv y.2 ∧ (ob = true → y.1 = ns ++ [S]) ∧ (ob = false → y.1 = ns)
  | .bad c b => ∃ a S, v = gotV a nilV S (c : Int) (b : Int)
def itA (ns : List (List UInt8)) : Lx (List Nd) → Lx (List (List UInt8) × List Nd)
  | .ok L q => .ok (ns, L) q
  | .bad c b => .bad c b
def itO (ns : List (List UInt8)) (S : List UInt8) : Lx (List Nd) → Lx (List (List UInt8) × List Nd)
  | .ok L q => .ok (ns ++ [S], keyed S L) q
  | .bad c b => .bad c b
def itQ (V : Nat → Lx (List Nd)) (t : List UInt8) (ns : List (List UInt8)) (p : Nat) : Lx (List UInt8) → Lx (List (List UInt8) × List Nd)
  | .bad c b => .bad c b
  | .ok S q => if ns.contains S then .bad 34 p else if bat t (skp t blanksS q) ≠ 58 then .bad 31 (skp t blanksS q) else itO ns S (V (skp t blanksS (skp t blanksS q + 1)))
def itD (V : Nat → Lx (List Nd)) (t : List UInt8) (ob : Bool) (ns : List (List UInt8)) (p : Nat) : Lx (List (List UInt8) × List Nd) :=
  if ob = false then itA ns (V p) else if bat t p ≠ 34 then .bad 31 p else itQ V t ns p (quoF t (t.length + 1) (p + 1) [])
theorem quo_q {t : List UInt8} : ∀ (n p : Nat) (acc S : List UInt8) (q : Nat), quoF t n p acc = .ok S q → q ≤ t.length
  | 0, p, acc, S, q, h => by cases h
  | n + 1, p, acc, S, q, h => by
    unfold quoF at h
    split at h
    · rename_i e
      cases h
      unfold tk at e
      simp only [Bool.and_eq_true, decide_eq_true_eq] at e
      exact e.1
    · split at h
      · cases h
      · exact quo_q n _ _ S q h
theorem gotA {ns : List (List UInt8)} {x : Lx (List Nd)} {v : Value} {B : Nat} {w : World} (h : GotL x v B w) : GotI false ns (itA ns x) v B w := by
  cases x with
  | ok L q =>
    obtain ⟨lv, S, rfl, hn⟩ := h
    exact ⟨lv, S, rfl, hn, (fun e => by cases e), fun _ => rfl⟩
  | bad c b => exact h

set_option maxRecDepth 100000 in
set_option maxHeartbeats 16000000 in
theorem ritem_any (t : List UInt8) (op p : Nat) (ob : Bool) (sv : Value) (ns : List (List UInt8)) (w : World) (V : Nat → Lx (List Nd)) (hp : p ≤ t.length) (ht : t.length ≤ 1000000) (hsr : ob = true → SR w sv ns) (hns : ns.length ≤ 1000000000)
    (hval : ∀ (q : Nat) (wq : World), q ≤ t.length → Calls Tryz.prog 17 #[.string ⟨t.toArray⟩, .int .i64 q, .int .i64 op] wq fun e w' => (∃ v, e = .returned v ∧ GotL (V q) v wq.heap.size w') ∧ Below wq.heap.size wq w')
    (hok : ∀ q L q2, V q = .ok L q2 → L ≠ []) (hbad : ∀ q c b, V q = .bad c b → c ≠ 0) :
    Calls Tryz.prog 42 #[.string ⟨t.toArray⟩, .int .i64 p, .bool ob, sv, .int .i64 op] w fun e w' => (∃ v, e = .returned v ∧ GotI ob ns (itD V t ob ns p) v w.heap.size w') ∧ Below w.heap.size w w' := by
  have HVal : Hid (∀ (q : Nat) (wq : World), q ≤ t.length → Calls Tryz.prog 17 #[.string ⟨t.toArray⟩, .int .i64 q, .int .i64 op] wq fun e w' => (∃ v, e = .returned v ∧ GotL (V q) v wq.heap.size w') ∧ Below wq.heap.size wq w') := hval
  have HOk : Hid (∀ q L q2, V q = .ok L q2 → L ≠ []) := hok
  have HBad : Hid (∀ q c b, V q = .bad c b → c ≠ 0) := hbad
  have HSr : Hid (ob = true → SR w sv ns) := hsr
  obtain ⟨X, hX⟩ : ∃ X, itD V t ob ns p = X := ⟨_, rfl⟩
  have HX : Hid (itD V t ob ns p = X) := hX
  rw [hX]
  have HBox : Hid (Bl 50 (w.alloc (.cells (gotC 0 nilV [] 0 0).toArray 50)) w.heap.size (gotC 0 nilV [] 0 0)) := alloc_bl _ _ _
  have HB : Hid (Below w.heap.size w (w.alloc (.cells (gotC 0 nilV [] 0 0).toArray 50))) := alloc_below _ _
  generalize hw1 : w.alloc (.cells (gotC 0 nilV [] 0 0).toArray 50) = w1 at HBox HB
  have HW1 : Hid (w.alloc (.cells #[.int .i64 0, .slice none 0 0, .string ⟨#[]⟩, .int .i64 0, .int .i64 0] 50) = w1) := hw1
  have HNe : Hid (w.heap.size < w1.heap.size) := HBox.out.lt
  have hgi : (Tryz.prog.info? 50).map (·.size) = some 5 := by kernel_rfl
  clear hw1 hval hX hok hbad hsr
  cases ob
  · -- a list's item
    have HQ : Hid (X = itA ns (V p)) := HX.out.symm
    have C := HVal.out p w1 hp
    clear HX HVal HOk HBad HSr
    go_enter Tryz.func42, Tryz.ntmps42
    go_wp2_with fail
    rw [HW1.out]
    refine C.mono ?_
    clear C HW1
    rintro e w3 ⟨⟨v, rfl, hv⟩, hB3⟩
    obtain ⟨a, ao, n, cap, S, c, d, rfl⟩ := gotL_shape hv
    have HGL : Hid (GotL (V p) (.agg #[.int .i64 a, .slice ao n cap, .string ⟨S.toArray⟩, .int .i64 c, .int .i64 d]) w1.heap.size w3) := hv
    have HBox2 : Hid (Bl 50 w3 w.heap.size (gotC 0 nilV [] 0 0)) := bl_below HBox.out hB3
    have HB3 : Hid (Below w.heap.size w w3) := HB.out.trans (hB3.mono HB.out.size)
    clear hB3 hv hgi
    obtain ⟨wz, hwz⟩ : ∃ wz, w3.setRow w.heap.size (gotC a (.slice ao n cap) S c d).toArray = wz := ⟨_, rfl⟩
    have HBz : Hid (Bl 50 wz w.heap.size (gotC a (.slice ao n cap) S c d)) := by rw [← hwz]; exact set_bl HBox2.out
    have Hz : Hid (Below w.heap.size w wz) := by rw [← hwz]; exact setRow_below _ HB3.out (Nat.le_refl _)
    have HWz : Hid (w3.setRow w.heap.size (gotC a (.slice ao n cap) S c d).toArray = wz) := hwz
    have HGz : Hid (GotL (V p) (gotV a (.slice ao n cap) S c d) w.heap.size wz) := by rw [← hwz]; exact gotL_set _ HGL.out HNe.out
    have hgi : (Tryz.prog.info? 50).map (·.size) = some 5 := by kernel_rfl
    clear hwz
    go_wp2_with (refine wpList_store_row rfl 50 (.tmp 10) (.tmp 19) rfl w.heap.size (gotC a (.slice ao n cap) S c d).toArray rfl rfl 50 (gotC 0 nilV [] 0 0).toArray HBox2.out hgi rfl (by simp [gotC, Value.oneCell']) ?_; rw [HWz.out]; clear HWz hgi)
    (try simp only [Exit.inBlock, Exit.then])
    exact bodyPost_ret (v := gotV a (.slice ao n cap) S c d) (results_got rfl _ _ w.heap.size a (.slice ao n cap) S c d rfl HBz.out) rfl ⟨⟨_, rfl, by rw [HQ.out]; exact gotA HGz.out⟩, Hz.out⟩
  · -- a member
    have HSR1 : Hid (SR w1 sv ns) := sr_below (HSr.out rfl) HB.out
    have C0 := byteAt_any t p w1 (by omega)
    by_cases h34 : bat t p = 34
    · have HQ : Hid (X = itQ V t ns p (quoF t (t.length + 1) (p + 1) [])) := by show _ = _; rw [← HX.out]; unfold itD; rw [if_neg (by decide), if_neg (fun h => h h34)]
      have hlt : p < t.length := bat_lt (by rw [h34]; decide)
      rw [h34] at C0
      have C : Calls Tryz.prog 30 #[.string ⟨t.toArray⟩, .int .i64 ((p : Int) + 1)] w1 fun e w' => (∃ v, e = .returned v ∧ GotS (quoF t (t.length + 1) (p + 1) []) v) ∧ Below w1.heap.size w1 w' := rquoted_any t (p + 1) w1 hlt ht
      obtain ⟨Y, hY⟩ : ∃ Y, quoF t (t.length + 1) (p + 1) [] = Y := ⟨_, rfl⟩
      rw [hY] at HQ C
      have HNZ : Hid (∀ c q, Y = .bad c q → c ≠ 0) := fun c q e => quo_nz _ _ _ _ _ (by omega) (by omega) (hY.trans e)
      have HQL : Hid (∀ S q, Y = .ok S q → q ≤ t.length) := fun S q e => quo_q _ _ _ _ _ (hY.trans e)
      clear hY HX HSr h34
      go_enter Tryz.func42, Tryz.ntmps42
      go_wp2_with fail
      rw [HW1.out]
      refine C0.mono ?_
      clear C0 HW1
      rintro e w2 ⟨rfl, rfl⟩
      go_wp2_with fail
      refine C.mono ?_
      clear C
      rintro e w3 ⟨⟨v, rfl, hv⟩, hB3⟩
      have HBox2 : Hid (Bl 50 w3 w.heap.size (gotC 0 nilV [] 0 0)) := bl_below HBox.out hB3
      have HB3 : Hid (Below w.heap.size w w3) := HB.out.trans (hB3.mono HB.out.size)
      have HN3 : Hid (w.heap.size < w3.heap.size) := Nat.lt_of_lt_of_le HNe.out hB3.size
      have HSR3 : Hid (SR w3 sv ns) := sr_below HSR1.out hB3
      clear hB3 HBox HB HSR1 HNe
      cases Y with
      | bad c b =>
        obtain ⟨A, S, hv1⟩ := hv
        have hv2 : v = .agg #[.int .i64 A, .slice none 0 0, .string ⟨S.toArray⟩, .int .i64 (c : Int), .int .i64 (b : Int)] := hv1
        clear hv1
        subst hv2
        have qc : ((c : Int) != 0) = true := by have := HNZ.out c b rfl; simp; omega
        have HG : Hid (Bl 50 (w3.alloc (.cells #[.int .i64 A, .slice none 0 0, .string ⟨S.toArray⟩, .int .i64 (c : Int), .int .i64 (b : Int)] 50)) w3.heap.size (gotC A nilV S (c : Int) (b : Int))) := alloc_bl _ _ _
        have HBoxA : Hid (Bl 50 (w3.alloc (.cells #[.int .i64 A, .slice none 0 0, .string ⟨S.toArray⟩, .int .i64 (c : Int), .int .i64 (b : Int)] 50)) w.heap.size (gotC 0 nilV [] 0 0)) := bl_below HBox2.out (alloc_below _ _)
        have HBA : Hid (Below w.heap.size w (w3.alloc (.cells #[.int .i64 A, .slice none 0 0, .string ⟨S.toArray⟩, .int .i64 (c : Int), .int .i64 (b : Int)] 50))) := HB3.out.trans ((alloc_below _ _).mono HB3.out.size)
        obtain ⟨w4, hw4⟩ : ∃ w4, (w3.alloc (.cells #[.int .i64 A, .slice none 0 0, .string ⟨S.toArray⟩, .int .i64 (c : Int), .int .i64 (b : Int)] 50)) = w4 := ⟨_, rfl⟩
        have HW4 : Hid ((w3.alloc (.cells #[.int .i64 A, .slice none 0 0, .string ⟨S.toArray⟩, .int .i64 (c : Int), .int .i64 (b : Int)] 50)) = w4) := hw4
        rw [hw4] at HG HBoxA HBA
        clear hw4 HNZ HQL
        go_upto_region 6 with fail
        rw [HW4.out]
        clear HW4
        have k3 : w4.cell? ⟨w3.heap.size, 3, none⟩ = some (.int .i64 (c : Int)) := HG.out.cell 3 (by show 3 < 5; decide)
        have HRg : Hid (w4.rangeAt w3.heap.size 0 (gotC A nilV S (c : Int) (b : Int))) := bl_range HG.out
        obtain ⟨wz, hwz⟩ : ∃ wz, w4.setRow w.heap.size (gotC A nilV S (c : Int) (b : Int)).toArray = wz := ⟨_, rfl⟩
        have HBz : Hid (Bl 50 wz w.heap.size (gotC A nilV S (c : Int) (b : Int))) := by rw [← hwz]; exact set_bl HBoxA.out
        have Hz : Hid (Below w.heap.size w wz) := by rw [← hwz]; exact setRow_below _ HBA.out (Nat.le_refl _)
        have HWz : Hid (w4.setRow w.heap.size (gotC A nilV S (c : Int) (b : Int)).toArray = wz) := hwz
        clear hwz
        go_wp2_with (first | (refine wpList_load_mid rfl 50 (.tmp 11) rfl w3.heap.size 0 rfl (gotC A nilV S (c : Int) (b : Int)) _ HRg.out Tryz.underlying50 rfl hgi ?_) | (refine wpList_store_row rfl 50 (.tmp 10) (.tmp 33) rfl w.heap.size (gotC A nilV S (c : Int) (b : Int)).toArray rfl rfl 50 (gotC 0 nilV [] 0 0).toArray HBoxA.out hgi rfl (by simp [gotC, nilV, Value.oneCell']) ?_; rw [HWz.out]; clear HWz))
        (try simp only [Exit.inBlock, Exit.then])
        exact bodyPost_ret (v := gotV A nilV S (c : Int) (b : Int)) (results_got rfl _ _ w.heap.size A nilV S (c : Int) (b : Int) rfl HBz.out) rfl ⟨⟨_, rfl, by rw [HQ.out]; exact ⟨_, _, rfl⟩⟩, Hz.out⟩
      | ok S q =>
        have hv2 : v = .agg #[.int .i64 (q : Int), .slice none 0 0, .string ⟨S.toArray⟩, .int .i64 0, .int .i64 0] := hv
        clear hv
        subst hv2
        have hql := HQL.out S q rfl
        have HG : Hid (Bl 50 (w3.alloc (.cells #[.int .i64 (q : Int), .slice none 0 0, .string ⟨S.toArray⟩, .int .i64 0, .int .i64 0] 50)) w3.heap.size (gotC (q : Int) nilV S 0 0)) := alloc_bl _ _ _
        have HBoxA : Hid (Bl 50 (w3.alloc (.cells #[.int .i64 (q : Int), .slice none 0 0, .string ⟨S.toArray⟩, .int .i64 0, .int .i64 0] 50)) w.heap.size (gotC 0 nilV [] 0 0)) := bl_below HBox2.out (alloc_below _ _)
        have HBA : Hid (Below w.heap.size w (w3.alloc (.cells #[.int .i64 (q : Int), .slice none 0 0, .string ⟨S.toArray⟩, .int .i64 0, .int .i64 0] 50))) := HB3.out.trans ((alloc_below _ _).mono HB3.out.size)
        have HSA : Hid (SR (w3.alloc (.cells #[.int .i64 (q : Int), .slice none 0 0, .string ⟨S.toArray⟩, .int .i64 0, .int .i64 0] 50)) sv ns) := sr_below HSR3.out (alloc_below _ _)
        have HN4 : Hid (w3.heap.size < (w3.alloc (.cells #[.int .i64 (q : Int), .slice none 0 0, .string ⟨S.toArray⟩, .int .i64 0, .int .i64 0] 50)).heap.size) := by show _ < _; rw [alloc_size]; omega
        obtain ⟨w4, hw4⟩ : ∃ w4, (w3.alloc (.cells #[.int .i64 (q : Int), .slice none 0 0, .string ⟨S.toArray⟩, .int .i64 0, .int .i64 0] 50)) = w4 := ⟨_, rfl⟩
        have HW4 : Hid ((w3.alloc (.cells #[.int .i64 (q : Int), .slice none 0 0, .string ⟨S.toArray⟩, .int .i64 0, .int .i64 0] 50)) = w4) := hw4
        rw [hw4] at HG HBoxA HBA HSA HN4
        clear hw4 HNZ HQL HBox2 HB3 HSR3
        go_upto_region 6 with fail
        rw [HW4.out]
        clear HW4
        have k0 : w4.cell? ⟨w3.heap.size, 0, none⟩ = some (.int .i64 (q : Int)) := HG.out.cell 0 (by show 0 < 5; decide)
        have k2 : w4.cell? ⟨w3.heap.size, 2, none⟩ = some (.string ⟨S.toArray⟩) := HG.out.cell 2 (by show 2 < 5; decide)
        have k3 : w4.cell? ⟨w3.heap.size, 3, none⟩ = some (.int .i64 0) := HG.out.cell 3 (by show 3 < 5; decide)
        have C1 := among_any sv ns S w4 HSA.out hns
        cases hin : ns.contains S
        · rw [hin] at C1
          obtain ⟨z, hz⟩ : ∃ z, skp t blanksS q = z := ⟨_, rfl⟩
          have hzl : z ≤ t.length := by rw [← hz]; exact skp_le _ _ _ hql
          have C2 := skip_any t q w4 hql (by omega)
          rw [hz] at C2
          have C3 := byteAt_any t z w4 (by omega)
          go_wp2_with fail
          refine C1.mono ?_
          clear C1
          rintro e w5 ⟨rfl, rfl⟩
          go_wp2_with fail
          refine C2.mono ?_
          clear C2
          rintro e w6 ⟨rfl, rfl⟩
          by_cases h58 : bat t z = 58
          · have HQ2 : Hid (X = itO ns S (V (skp t blanksS (z + 1)))) := by show _ = _; rw [HQ.out]; unfold itQ; simp only; rw [hin, hz, if_neg Bool.false_ne_true, if_neg (fun h => h h58)]
            rw [h58] at C3
            have hzl2 : z < t.length := bat_lt (by rw [h58]; decide)
            obtain ⟨y, hy⟩ : ∃ y, skp t blanksS (z + 1) = y := ⟨_, rfl⟩
            have hyl : y ≤ t.length := by rw [← hy]; exact skp_le _ _ _ hzl2
            have C4 : Calls Tryz.prog 18 #[.string ⟨t.toArray⟩, .int .i64 ((z : Int) + 1)] w6 fun e w' => e = .returned (.int .i64 y) ∧ w' = w6 := by
              have h := skip_any t (z + 1) w6 hzl2 (by omega)
              rw [hy] at h
              exact h
            have C5 := HVal.out y w6 hyl
            rw [hy] at HQ2
            obtain ⟨Z, hZ⟩ : ∃ Z, V y = Z := ⟨_, rfl⟩
            have HO2 : Hid (∀ L q2, Z = .ok L q2 → L ≠ []) := fun L q2 e => HOk.out y L q2 (hZ.trans e)
            have HO3 : Hid (∀ c b, Z = .bad c b → c ≠ 0) := fun c b e => HBad.out y c b (hZ.trans e)
            rw [hZ] at HQ2 C5
            clear HQ hin hz h58 hy hZ HVal HOk HBad HSA
            go_wp2_with fail
            refine C3.mono ?_
            clear C3
            rintro e w7 ⟨rfl, rfl⟩
            go_wp2_with fail
            refine C4.mono ?_
            clear C4
            rintro e w8 ⟨rfl, rfl⟩
            go_wp2_with fail
            refine C5.mono ?_
            clear C5
            rintro e w5 ⟨⟨v, rfl, hv⟩, hB5⟩
            have HBox5 : Hid (Bl 50 w5 w.heap.size (gotC 0 nilV [] 0 0)) := bl_below HBoxA.out hB5
            have HG5 : Hid (Bl 50 w5 w3.heap.size (gotC (q : Int) nilV S 0 0)) := bl_below HG.out hB5
            have HB5 : Hid (Below w.heap.size w w5) := HBA.out.trans (hB5.mono HBA.out.size)
            have HN5 : Hid (w3.heap.size < w5.heap.size) := Nat.lt_of_lt_of_le HN4.out hB5.size
            clear hB5 HBoxA HBA HG
            cases Z with
            | bad c b =>
              obtain ⟨A, S', hv1⟩ := hv
              have hv2 : v = .agg #[.int .i64 A, .slice none 0 0, .string ⟨S'.toArray⟩, .int .i64 (c : Int), .int .i64 (b : Int)] := hv1
              clear hv1
              subst hv2
              have qc : ((c : Int) == 0) = false := by have := HO3.out c b rfl; simp; omega
              have HGc : Hid (Bl 50 (w5.alloc (.cells #[.int .i64 A, .slice none 0 0, .string ⟨S'.toArray⟩, .int .i64 (c : Int), .int .i64 (b : Int)] 50)) w5.heap.size (gotC A nilV S' (c : Int) (b : Int))) := alloc_bl _ _ _
              have HBoxC : Hid (Bl 50 (w5.alloc (.cells #[.int .i64 A, .slice none 0 0, .string ⟨S'.toArray⟩, .int .i64 (c : Int), .int .i64 (b : Int)] 50)) w.heap.size (gotC 0 nilV [] 0 0)) := bl_below HBox5.out (alloc_below _ _)
              have HBC : Hid (Below w.heap.size w (w5.alloc (.cells #[.int .i64 A, .slice none 0 0, .string ⟨S'.toArray⟩, .int .i64 (c : Int), .int .i64 (b : Int)] 50))) := HB5.out.trans ((alloc_below _ _).mono HB5.out.size)
              obtain ⟨w6, hw6⟩ : ∃ w6, (w5.alloc (.cells #[.int .i64 A, .slice none 0 0, .string ⟨S'.toArray⟩, .int .i64 (c : Int), .int .i64 (b : Int)] 50)) = w6 := ⟨_, rfl⟩
              have HW6 : Hid ((w5.alloc (.cells #[.int .i64 A, .slice none 0 0, .string ⟨S'.toArray⟩, .int .i64 (c : Int), .int .i64 (b : Int)] 50)) = w6) := hw6
              rw [hw6] at HGc HBoxC HBC
              clear hw6 HO2 HO3
              go_upto_region 14 with fail
              rw [HW6.out]
              clear HW6
              have k3c : w6.cell? ⟨w5.heap.size, 3, none⟩ = some (.int .i64 (c : Int)) := HGc.out.cell 3 (by show 3 < 5; decide)
              have HRg : Hid (w6.rangeAt w5.heap.size 0 (gotC A nilV S' (c : Int) (b : Int))) := bl_range HGc.out
              obtain ⟨wz, hwz⟩ : ∃ wz, w6.setRow w.heap.size (gotC A nilV S' (c : Int) (b : Int)).toArray = wz := ⟨_, rfl⟩
              have HBz : Hid (Bl 50 wz w.heap.size (gotC A nilV S' (c : Int) (b : Int))) := by rw [← hwz]; exact set_bl HBoxC.out
              have Hz : Hid (Below w.heap.size w wz) := by rw [← hwz]; exact setRow_below _ HBC.out (Nat.le_refl _)
              have HWz : Hid (w6.setRow w.heap.size (gotC A nilV S' (c : Int) (b : Int)).toArray = wz) := hwz
              clear hwz
              go_wp2_with (first | (refine wpList_load_mid rfl 50 (.tmp 13) rfl w5.heap.size 0 rfl (gotC A nilV S' (c : Int) (b : Int)) _ HRg.out Tryz.underlying50 rfl hgi ?_) | (refine wpList_store_row rfl 50 (.tmp 10) (.tmp 69) rfl w.heap.size (gotC A nilV S' (c : Int) (b : Int)).toArray rfl rfl 50 (gotC 0 nilV [] 0 0).toArray HBoxC.out hgi rfl (by simp [gotC, nilV, Value.oneCell']) ?_; rw [HWz.out]; clear HWz))
              (try simp only [Exit.inBlock, Exit.then])
              exact bodyPost_ret (v := gotV A nilV S' (c : Int) (b : Int)) (results_got rfl _ _ w.heap.size A nilV S' (c : Int) (b : Int) rfl HBz.out) rfl ⟨⟨_, rfl, by rw [HQ2.out]; exact ⟨_, _, rfl⟩⟩, Hz.out⟩
            | ok L q2 =>
              obtain ⟨lv, S', hv1, hn⟩ := hv
              have hL := HO2.out L q2 rfl
              obtain ⟨n0, r, rfl⟩ : ∃ n0 r, L = n0 :: r := by
                cases L with
                | nil => exact absurd rfl hL
                | cons n0 r => exact ⟨n0, r, rfl⟩
              obtain ⟨g, cap, hlv, hg1, hg2⟩ := World.ownsRow.form hn (by simp)
              subst hlv
              have hv2 : v = .agg #[.int .i64 (q2 : Int), .slice (some ⟨g, 0, none⟩) (n0 :: r).length cap, .string ⟨S'.toArray⟩, .int .i64 0, .int .i64 0] := hv1
              clear hv1 hL
              subst hv2
              obtain ⟨m, hm⟩ : ∃ m, (n0 :: r).length = m := ⟨_, rfl⟩
              have hmp : decide ((0 : Int) < (m : Int)) = true := decide_eq_true (by rw [← hm]; simp)
              have hmn : 0 < m := by rw [← hm]; simp
              have hn1 : w5.ownsRow w8.heap.size 38 6 (.slice (some ⟨g, 0, none⟩) m cap) m (nCs (n0 :: r)) := by rw [← hm]; exact hn
              have HGc : Hid (Bl 50 (w5.alloc (.cells #[.int .i64 (q2 : Int), .slice (some ⟨g, 0, none⟩) m cap, .string ⟨S'.toArray⟩, .int .i64 0, .int .i64 0] 50)) w5.heap.size (gotC (q2 : Int) (.slice (some ⟨g, 0, none⟩) m cap) S' 0 0)) := alloc_bl _ _ _
              have HBoxC : Hid (Bl 50 (w5.alloc (.cells #[.int .i64 (q2 : Int), .slice (some ⟨g, 0, none⟩) m cap, .string ⟨S'.toArray⟩, .int .i64 0, .int .i64 0] 50)) w.heap.size (gotC 0 nilV [] 0 0)) := bl_below HBox5.out (alloc_below _ _)
              have HG6 : Hid (Bl 50 (w5.alloc (.cells #[.int .i64 (q2 : Int), .slice (some ⟨g, 0, none⟩) m cap, .string ⟨S'.toArray⟩, .int .i64 0, .int .i64 0] 50)) w3.heap.size (gotC (q : Int) nilV S 0 0)) := bl_below HG5.out (alloc_below _ _)
              have HBC : Hid (Below w.heap.size w (w5.alloc (.cells #[.int .i64 (q2 : Int), .slice (some ⟨g, 0, none⟩) m cap, .string ⟨S'.toArray⟩, .int .i64 0, .int .i64 0] 50))) := HB5.out.trans ((alloc_below _ _).mono HB5.out.size)
              have HNo : Hid ((w5.alloc (.cells #[.int .i64 (q2 : Int), .slice (some ⟨g, 0, none⟩) m cap, .string ⟨S'.toArray⟩, .int .i64 0, .int .i64 0] 50)).ownsRow w8.heap.size 38 6 (.slice (some ⟨g, 0, none⟩) m cap) m (nCs (n0 :: r))) := World.ownsRow.alloc hn1 _
              obtain ⟨w6, hw6⟩ : ∃ w6, (w5.alloc (.cells #[.int .i64 (q2 : Int), .slice (some ⟨g, 0, none⟩) m cap, .string ⟨S'.toArray⟩, .int .i64 0, .int .i64 0] 50)) = w6 := ⟨_, rfl⟩
              have HW6 : Hid ((w5.alloc (.cells #[.int .i64 (q2 : Int), .slice (some ⟨g, 0, none⟩) m cap, .string ⟨S'.toArray⟩, .int .i64 0, .int .i64 0] 50)) = w6) := hw6
              rw [hw6] at HGc HBoxC HG6 HBC HNo
              have HM : Hid ((n0 :: r).length = m) := hm
              rw [hm]
              have Hg1 : Hid (w8.heap.size ≤ g) := hg1
              have Hg2 : Hid (g < w5.heap.size) := hg2
              clear hw6 HO2 HO3 hn hn1 hm hg1 hg2
              go_upto_region 14 with fail
              rw [HW6.out]
              clear HW6
              -- the name
              have k61 : w6.cell? ⟨w5.heap.size, 1, none⟩ = some (.slice (some ⟨g, 0, none⟩) m cap) := HGc.out.cell 1 (by show 1 < 5; decide)
              have k63 : w6.cell? ⟨w5.heap.size, 3, none⟩ = some (.int .i64 0) := HGc.out.cell 3 (by show 3 < 5; decide)
              have k62 : w6.cell? ⟨w3.heap.size, 2, none⟩ = some (.string ⟨S.toArray⟩) := HG6.out.cell 2 (by show 2 < 5; decide)
              have kn := own_cell HNo.out 1 (.string ⟨n0.key.toArray⟩) rfl
              have kn1 := kn.1
              have kn2 := kn.2
              have h7 := World.ownsRow.stored HNo.out 1 (.string ⟨S.toArray⟩)
              have HNo7 : Hid ((w6.setCell ⟨g, 1, none⟩ (.string ⟨S.toArray⟩)).ownsRow w8.heap.size 38 6 (.slice (some ⟨g, 0, none⟩) m cap) m (nCs (keyed S (n0 :: r)))) := h7.1
              have HGc7 : Hid (Bl 50 (w6.setCell ⟨g, 1, none⟩ (.string ⟨S.toArray⟩)) w5.heap.size (gotC (q2 : Int) (.slice (some ⟨g, 0, none⟩) m cap) S' 0 0)) := bl_other HGc.out (by have := Hg2.out; omega)
              have HBox7 : Hid (Bl 50 (w6.setCell ⟨g, 1, none⟩ (.string ⟨S.toArray⟩)) w.heap.size (gotC 0 nilV [] 0 0)) := bl_other HBoxC.out (by have := Hg1.out; have := HN4.out; have := HN3.out; omega)
              have HG7 : Hid (Bl 50 (w6.setCell ⟨g, 1, none⟩ (.string ⟨S.toArray⟩)) w3.heap.size (gotC (q : Int) nilV S 0 0)) := bl_other HG6.out (by have := Hg1.out; have := HN4.out; omega)
              have HB7 : Hid (Below w.heap.size w (w6.setCell ⟨g, 1, none⟩ (.string ⟨S.toArray⟩))) := below_set HBC.out (by have := Hg1.out; have := HN4.out; have := HN3.out; omega)
              obtain ⟨w7, hw7⟩ : ∃ w7, w6.setCell ⟨g, 1, none⟩ (.string ⟨S.toArray⟩) = w7 := ⟨_, rfl⟩
              have HW7 : Hid (w6.setCell ⟨g, 1, none⟩ (.string ⟨S.toArray⟩) = w7) := hw7
              rw [hw7] at HNo7 HGc7 HBox7 HG7 HB7
              clear hw7 h7 kn
              go_upto_region 16 with fail
              rw [HW7.out]
              clear HW7
              have k72 : w7.cell? ⟨w3.heap.size, 2, none⟩ = some (.string ⟨S.toArray⟩) := HG7.out.cell 2 (by show 2 < 5; decide)
              have k7c : w7.cell? ⟨w5.heap.size, 2, none⟩ = some (.string ⟨S'.toArray⟩) := HGc7.out.cell 2 (by show 2 < 5; decide)
              have k7f : w7.frozen? ⟨w5.heap.size, 2, none⟩ = false := HGc7.out.frozen 2
              have HGd : Hid (Bl 50 (w7.setCell ⟨w5.heap.size, 2, none⟩ (.string ⟨S.toArray⟩)) w5.heap.size (gotC (q2 : Int) (.slice (some ⟨g, 0, none⟩) m cap) S 0 0)) := bl_set HGc7.out 2 _
              have HRg : Hid ((w7.setCell ⟨w5.heap.size, 2, none⟩ (.string ⟨S.toArray⟩)).rangeAt w5.heap.size 0 (gotC (q2 : Int) (.slice (some ⟨g, 0, none⟩) m cap) S 0 0)) := bl_range HGd.out
              have HBox8 : Hid (Bl 50 (w7.setCell ⟨w5.heap.size, 2, none⟩ (.string ⟨S.toArray⟩)) w.heap.size (gotC 0 nilV [] 0 0)) := bl_other HBox7.out (by have := HN5.out; have := HN3.out; omega)
              have HB8 : Hid (Below w.heap.size w (w7.setCell ⟨w5.heap.size, 2, none⟩ (.string ⟨S.toArray⟩))) := below_set HB7.out (by have := HN5.out; have := HN3.out; omega)
              have HNz : Hid (NO w.heap.size ((w7.setCell ⟨w5.heap.size, 2, none⟩ (.string ⟨S.toArray⟩)).setRow w.heap.size (gotC (q2 : Int) (.slice (some ⟨g, 0, none⟩) m cap) S 0 0).toArray) (.slice (some ⟨g, 0, none⟩) m cap) (keyed S (n0 :: r))) := by
                have h := World.ownsRow.mono (own_keep (own_keep HNo7.out (fun k hk => heap_setCell_other _ ⟨w5.heap.size, 2, none⟩ k (.string ⟨S.toArray⟩) (by have e : g = k := Option.some.inj hk; have := Hg2.out; show k ≠ w5.heap.size; omega))) (fun k hk => setRow_other _ w.heap.size _ (gotC (q2 : Int) (.slice (some ⟨g, 0, none⟩) m cap) S 0 0).toArray (by have e : g = k := Option.some.inj hk; have := Hg1.out; have := HN4.out; have := HN3.out; omega))) (show w.heap.size ≤ w8.heap.size by have := HN4.out; have := HN3.out; omega)
                unfold Hid NO
                rw [show (keyed S (n0 :: r)).length = m from HM.out]
                exact h
              obtain ⟨wz, hwz⟩ : ∃ wz, (w7.setCell ⟨w5.heap.size, 2, none⟩ (.string ⟨S.toArray⟩)).setRow w.heap.size (gotC (q2 : Int) (.slice (some ⟨g, 0, none⟩) m cap) S 0 0).toArray = wz := ⟨_, rfl⟩
              have HBz : Hid (Bl 50 wz w.heap.size (gotC (q2 : Int) (.slice (some ⟨g, 0, none⟩) m cap) S 0 0)) := by rw [← hwz]; exact set_bl HBox8.out
              have Hz : Hid (Below w.heap.size w wz) := by rw [← hwz]; exact setRow_below _ HB8.out (Nat.le_refl _)
              have HWz : Hid ((w7.setCell ⟨w5.heap.size, 2, none⟩ (.string ⟨S.toArray⟩)).setRow w.heap.size (gotC (q2 : Int) (.slice (some ⟨g, 0, none⟩) m cap) S 0 0).toArray = wz) := hwz
              rw [hwz] at HNz
              clear hwz
              go_wp2_with (first | (refine wpList_load_mid rfl 50 (.tmp 13) rfl w5.heap.size 0 rfl (gotC (q2 : Int) (.slice (some ⟨g, 0, none⟩) m cap) S 0 0) _ HRg.out Tryz.underlying50 rfl hgi ?_) | (refine wpList_store_row rfl 50 (.tmp 10) (.tmp 69) rfl w.heap.size (gotC (q2 : Int) (.slice (some ⟨g, 0, none⟩) m cap) S 0 0).toArray rfl rfl 50 (gotC 0 nilV [] 0 0).toArray HBox8.out hgi rfl (by simp [gotC, Value.oneCell']) ?_; rw [HWz.out]; clear HWz))
              (try simp only [Exit.inBlock, Exit.then])
              exact bodyPost_ret (v := gotV (q2 : Int) (.slice (some ⟨g, 0, none⟩) m cap) S 0 0) (results_got rfl _ _ w.heap.size (q2 : Int) (.slice (some ⟨g, 0, none⟩) m cap) S 0 0 rfl HBz.out) rfl ⟨⟨_, rfl, by rw [HQ2.out]; exact ⟨_, _, rfl, HNz.out, fun _ => rfl, fun e => by cases e⟩⟩, Hz.out⟩
          · have HQ2 : Hid (X = .bad 31 z) := by show _ = _; rw [HQ.out]; unfold itQ; simp only; rw [hin, hz, if_neg Bool.false_ne_true, if_pos h58]
            obtain ⟨b, hb⟩ : ∃ b, bat t z = b := ⟨_, rfl⟩
            rw [hb] at C3 h58
            have q58 : (b != 58) = true := by simpa using h58
            clear HQ hin hz hb HVal HOk HBad
            have HQ := HQ2
            go_wp2_with fail
            refine C3.mono ?_
            clear C3
            rintro e w7 ⟨rfl, rfl⟩
            have C := fault_any 31 (z : Int) w7
            go_wp2_with fail
            refine C.mono ?_
            clear C
            rintro e w9 ⟨rfl, hB9⟩
            have HBox9 : Hid (Bl 50 w9 w.heap.size (gotC 0 nilV [] 0 0)) := bl_below HBoxA.out hB9
            have HB9 : Hid (Below w.heap.size w w9) := HBA.out.trans (hB9.mono HBA.out.size)
            clear hB9 hgi
            obtain ⟨wz, hwz⟩ : ∃ wz, w9.setRow w.heap.size (gotC 0 nilV [] 31 (z : Int)).toArray = wz := ⟨_, rfl⟩
            have HBz : Hid (Bl 50 wz w.heap.size (gotC 0 nilV [] 31 (z : Int))) := by rw [← hwz]; exact set_bl HBox9.out
            have Hz : Hid (Below w.heap.size w wz) := by rw [← hwz]; exact setRow_below _ HB9.out (Nat.le_refl _)
            have HWz : Hid (w9.setRow w.heap.size (gotC 0 nilV [] 31 (z : Int)).toArray = wz) := hwz
            have hgi : (Tryz.prog.info? 50).map (·.size) = some 5 := by kernel_rfl
            clear hwz
            go_wp2_with (refine wpList_store_row rfl 50 (.tmp 10) (.tmp 49) rfl w.heap.size (gotC 0 nilV [] 31 (z : Int)).toArray rfl rfl 50 (gotC 0 nilV [] 0 0).toArray HBox9.out hgi rfl (by simp [gotC, nilV, Value.oneCell']) ?_; rw [HWz.out]; clear HWz hgi)
            (try simp only [Exit.inBlock, Exit.then])
            exact bodyPost_ret (v := gotV 0 nilV [] 31 (z : Int)) (results_got rfl _ _ w.heap.size 0 nilV [] 31 (z : Int) rfl HBz.out) rfl ⟨⟨_, rfl, by rw [HQ.out]; exact ⟨_, _, rfl⟩⟩, Hz.out⟩
        · rw [hin] at C1
          have HQ2 : Hid (X = .bad 34 p) := by show _ = _; rw [HQ.out]; unfold itQ; simp only; rw [hin, if_pos rfl]
          clear HQ hin HVal HOk HBad
          have HQ := HQ2
          go_wp2_with fail
          refine C1.mono ?_
          clear C1
          rintro e w5 ⟨rfl, rfl⟩
          have C := fault_any 34 (p : Int) w5
          go_wp2_with fail
          refine C.mono ?_
          clear C
          rintro e w9 ⟨rfl, hB9⟩
          have HBox9 : Hid (Bl 50 w9 w.heap.size (gotC 0 nilV [] 0 0)) := bl_below HBoxA.out hB9
          have HB9 : Hid (Below w.heap.size w w9) := HBA.out.trans (hB9.mono HBA.out.size)
          clear hB9 hgi
          obtain ⟨wz, hwz⟩ : ∃ wz, w9.setRow w.heap.size (gotC 0 nilV [] 34 (p : Int)).toArray = wz := ⟨_, rfl⟩
          have HBz : Hid (Bl 50 wz w.heap.size (gotC 0 nilV [] 34 (p : Int))) := by rw [← hwz]; exact set_bl HBox9.out
          have Hz : Hid (Below w.heap.size w wz) := by rw [← hwz]; exact setRow_below _ HB9.out (Nat.le_refl _)
          have HWz : Hid (w9.setRow w.heap.size (gotC 0 nilV [] 34 (p : Int)).toArray = wz) := hwz
          have hgi : (Tryz.prog.info? 50).map (·.size) = some 5 := by kernel_rfl
          clear hwz
          go_wp2_with (refine wpList_store_row rfl 50 (.tmp 10) (.tmp 39) rfl w.heap.size (gotC 0 nilV [] 34 (p : Int)).toArray rfl rfl 50 (gotC 0 nilV [] 0 0).toArray HBox9.out hgi rfl (by simp [gotC, nilV, Value.oneCell']) ?_; rw [HWz.out]; clear HWz hgi)
          (try simp only [Exit.inBlock, Exit.then])
          exact bodyPost_ret (v := gotV 0 nilV [] 34 (p : Int)) (results_got rfl _ _ w.heap.size 0 nilV [] 34 (p : Int) rfl HBz.out) rfl ⟨⟨_, rfl, by rw [HQ.out]; exact ⟨_, _, rfl⟩⟩, Hz.out⟩
    · have HQ : Hid (X = .bad 31 p) := by show _ = _; rw [← HX.out]; unfold itD; rw [if_neg (by decide), if_pos h34]
      obtain ⟨b, hb⟩ : ∃ b, bat t p = b := ⟨_, rfl⟩
      rw [hb] at C0 h34
      have q34 : (b != 34) = true := by simpa using h34
      clear hb HX HVal HOk HBad HSr
      go_enter Tryz.func42, Tryz.ntmps42
      go_wp2_with fail
      rw [HW1.out]
      refine C0.mono ?_
      clear C0 HW1
      rintro e w2 ⟨rfl, rfl⟩
      have C := fault_any 31 (p : Int) w2
      go_wp2_with fail
      refine C.mono ?_
      clear C
      rintro e w9 ⟨rfl, hB9⟩
      have HBox9 : Hid (Bl 50 w9 w.heap.size (gotC 0 nilV [] 0 0)) := bl_below HBox.out hB9
      have HB9 : Hid (Below w.heap.size w w9) := HB.out.trans (hB9.mono HB.out.size)
      clear hB9 hgi
      obtain ⟨wz, hwz⟩ : ∃ wz, w9.setRow w.heap.size (gotC 0 nilV [] 31 (p : Int)).toArray = wz := ⟨_, rfl⟩
      have HBz : Hid (Bl 50 wz w.heap.size (gotC 0 nilV [] 31 (p : Int))) := by rw [← hwz]; exact set_bl HBox9.out
      have Hz : Hid (Below w.heap.size w wz) := by rw [← hwz]; exact setRow_below _ HB9.out (Nat.le_refl _)
      have HWz : Hid (w9.setRow w.heap.size (gotC 0 nilV [] 31 (p : Int)).toArray = wz) := hwz
      have hgi : (Tryz.prog.info? 50).map (·.size) = some 5 := by kernel_rfl
      clear hwz
      go_wp2_with (refine wpList_store_row rfl 50 (.tmp 10) (.tmp 25) rfl w.heap.size (gotC 0 nilV [] 31 (p : Int)).toArray rfl rfl 50 (gotC 0 nilV [] 0 0).toArray HBox9.out hgi rfl (by simp [gotC, nilV, Value.oneCell']) ?_; rw [HWz.out]; clear HWz hgi)
      (try simp only [Exit.inBlock, Exit.then])
      exact bodyPost_ret (v := gotV 0 nilV [] 31 (p : Int)) (results_got rfl _ _ w.heap.size 0 nilV [] 31 (p : Int) rfl HBz.out) rfl ⟨⟨_, rfl, by rw [HQ.out]; exact ⟨_, _, rfl⟩⟩, Hz.out⟩

end Go.Proofs.YtapljedegjiliaaGreatDoor
