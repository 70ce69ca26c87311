import Derived.Test.YtapljedegjiliaaGreatDoorDl
import Derived.Test.YtapljedegjiliaaGreatDoorFa
import Derived.Deep.Onto
namespace Go.Proofs.YtapljedegjiliaaGreatDoor
open Go.RowKit Go.Shelf

theorem gotL_shape {x : Lx (List Nd)} {v : Value} {B : Nat} {w : World} (h : GotL x v B w) : ∃ a ao n cap S c d, v = .agg #[.int .i64 a, .slice ao n cap, .string ⟨(S : List UInt8).toArray⟩, .int .i64 c, .int .i64 d] := by
  cases x with
  | ok L q =>
    obtain ⟨lv, S, rfl, hn⟩ := h
    obtain ⟨ao, cap, hr, _⟩ := no_nr hn
    have := hr.val
    subst this
    exact ⟨_, _, _, _, _, _, _, rfl⟩
  | bad c b =>
    obtain ⟨a, S, rfl⟩ := h
    exact ⟨_, _, _, _, _, _, _, rfl⟩
theorem gotL_set {x : Lx (List Nd)} {v : Value} {B b : Nat} {w : World} (cs : Array Value) (h : GotL x v B w) (hb : b < B) : GotL x v b (w.setRow b cs) := by
  cases x with
  | ok L q =>
    obtain ⟨lv, S, rfl, hn⟩ := h
    exact ⟨lv, S, rfl, World.ownsRow.mono (own_keep hn (fun g hg => setRow_other _ _ _ _ (by have := World.ownsRow.lt hn g hg; omega))) (Nat.le_of_lt hb)⟩
  | bad c b => exact h
/-- A string as a value. -/
def qsG : Lx (List UInt8) → Lx (List Nd)
  | .ok S q => .ok [{ nd0 5 with text := S }] q
  | .bad c b => .bad c b
/-- A value, given its row. -/
def valD (RW : Bool → Lx (List Nd)) (t : List UInt8) (op p : Nat) : Lx (List Nd) :=
  if bat t p = 91 then (if op = 32 then .bad 11 p else RW false) else
  if bat t p = 123 then (if op = 32 then .bad 11 p else RW true) else
  if bat t p = 34 then qsG (quoF t (t.length + 1) (p + 1) []) else
  if bat t p = 45 ∨ (48 ≤ bat t p ∧ bat t p ≤ 57) then nuF t p else
  if bat t p = 110 then ltF t [110, 117, 108, 108] 1 p else
  if bat t p = 102 then ltF t [102, 97, 108, 115, 101] 2 p else
  if bat t p = 116 then ltF t [116, 114, 117, 101] 3 p else .bad 31 p
theorem quo_nz {t : List UInt8} : ∀ (n p : Nat) (acc : List UInt8) (c q : Nat), p ≤ t.length → t.length < n + p → quoF t n p acc = .bad c q → c ≠ 0
  | 0, p, acc, c, q, hp, hn, h => by omega
  | n + 1, p, acc, c, q, hp, hn, h => by
    unfold quoF at h
    split at h
    · cases h
    · split at h
      · rename_i e; cases h; exact chrF_nz e
      · rename_i e; exact quo_nz n _ _ c q (chrF_ok e).2 (by have := (chrF_ok e).1; omega) h
theorem bat_lt {t : List UInt8} {p : Nat} (h : 0 ≤ bat t p) : p < t.length := by
  unfold bat at h
  split at h
  · assumption
  · omega

set_option maxRecDepth 100000 in
set_option maxHeartbeats 16000000 in
theorem rvalue_step (t : List UInt8) (op p : Nat) (w : World) (RW : Bool → Lx (List Nd)) (hp : p ≤ t.length) (ht : t.length ≤ 1000000) (hop : op ≤ 32)
    (hrow : ∀ (b : Bool) (wq : World), p < t.length → op < 32 → Calls Tryz.prog 29 #[.string ⟨t.toArray⟩, .int .i64 p, .bool b, .int .i64 ((op : Int) + 1)] wq fun e w' => (∃ v, e = .returned v ∧ GotL (RW b) v wq.heap.size w') ∧ Below wq.heap.size wq w') :
    Calls Tryz.prog 17 #[.string ⟨t.toArray⟩, .int .i64 p, .int .i64 op] w fun e w' => (∃ v, e = .returned v ∧ GotL (valD RW t op p) v w.heap.size w') ∧ Below w.heap.size w w' := by
  have HRow : Hid (∀ (b : Bool) (wq : World), p < t.length → op < 32 → Calls Tryz.prog 29 #[.string ⟨t.toArray⟩, .int .i64 p, .bool b, .int .i64 ((op : Int) + 1)] wq fun e w' => (∃ v, e = .returned v ∧ GotL (RW b) v wq.heap.size w') ∧ Below wq.heap.size wq w') := hrow
  obtain ⟨X, hX⟩ : ∃ X, valD RW t op p = X := ⟨_, rfl⟩
  have HX : Hid (valD RW t op p = X) := hX
  rw [hX]
  have HBox : Hid (Bl 50 (w.alloc (.cells (gotC 0 nilV [] 0 0).toArray 50)) w.heap.size (gotC 0 nilV [] 0 0)) := alloc_bl _ _ _
  have HB : Hid (Below w.heap.size w (w.alloc (.cells (gotC 0 nilV [] 0 0).toArray 50))) := alloc_below _ _
  generalize hw1 : w.alloc (.cells (gotC 0 nilV [] 0 0).toArray 50) = w1 at HBox HB
  have HW1 : Hid (w.alloc (.cells #[.int .i64 0, .slice none 0 0, .string ⟨#[]⟩, .int .i64 0, .int .i64 0] 50) = w1) := hw1
  have HNe : Hid (w.heap.size < w1.heap.size) := HBox.out.lt
  clear hw1 hrow hX
  have C0 := byteAt_any t p w1 (by omega)
  obtain ⟨b, hb⟩ : ∃ b, bat t p = b := ⟨_, rfl⟩
  have HV : Hid (valD RW t op p = if b = 91 then (if op = 32 then .bad 11 p else RW false) else if b = 123 then (if op = 32 then .bad 11 p else RW true) else if b = 34 then qsG (quoF t (t.length + 1) (p + 1) []) else if b = 45 ∨ (48 ≤ b ∧ b ≤ 57) then nuF t p else if b = 110 then ltF t [110, 117, 108, 108] 1 p else if b = 102 then ltF t [102, 97, 108, 115, 101] 2 p else if b = 116 then ltF t [116, 114, 117, 101] 3 p else .bad 31 p) := by
    show _ = _
    unfold valD
    rw [hb]
  have HP : Hid (0 ≤ b → p < t.length) := fun h => bat_lt (by rw [hb]; exact h)
  rw [hb] at C0
  clear hb
  go_enter Tryz.func17, Tryz.ntmps17
  go_wp2_with fail
  rw [HW1.out]
  refine C0.mono ?_
  clear C0 HW1
  rintro e w2 ⟨rfl, rfl⟩
  by_cases h91 : b = 91
  · subst h91
    have hlt := HP.out (by decide)
    by_cases h32 : op = 32
    · have HQ : Hid (X = .bad 11 p) := by show _ = _; rw [← HX.out, HV.out, h32]; simp
      have q0 : ((op : Int) == 32) = true := by simp; omega
      clear HX HV HP HRow
      have C := fault_any 11 (p : Int) w2
      go_wp2_with fail
      refine C.mono ?_
      clear C
      rintro e w3 ⟨rfl, hB3⟩
      have hv : GotL X (gotV 0 nilV [] 11 (p : Int)) w2.heap.size w3 := by rw [HQ.out]; exact ⟨_, _, rfl⟩
      unfold gotV gotC nilV at hv
      have HGL : Hid (GotL X (.agg #[.int .i64 0, .slice none 0 0, .string ⟨#[]⟩, .int .i64 11, .int .i64 (p : Int)]) w2.heap.size w3) := hv
      have HBox2 : Hid (Bl 50 w3 w.heap.size (gotC 0 nilV [] 0 0)) := bl_below HBox.out hB3
      have HB3 : Hid (Below w.heap.size w w3) := HB.out.trans (hB3.mono HB.out.size)
      clear hB3 hv
      obtain ⟨wz, hwz⟩ : ∃ wz, w3.setRow w.heap.size (gotC 0 nilV [] 11 (p : Int)).toArray = wz := ⟨_, rfl⟩
      have HBz : Hid (Bl 50 wz w.heap.size (gotC 0 nilV [] 11 (p : Int))) := by rw [← hwz]; exact set_bl HBox2.out
      have Hz : Hid (Below w.heap.size w wz) := by rw [← hwz]; exact setRow_below _ HB3.out (Nat.le_refl _)
      have HWz : Hid (w3.setRow w.heap.size (gotC 0 nilV [] 11 (p : Int)).toArray = wz) := hwz
      have HGz : Hid (GotL X (gotV 0 nilV [] 11 (p : Int)) w.heap.size wz) := by rw [← hwz]; exact gotL_set _ HGL.out HNe.out
      have hgi : (Tryz.prog.info? 50).map (·.size) = some 5 := by kernel_rfl
      clear hwz
      go_wp2_with (refine wpList_store_row rfl 50 (.tmp 6) (.tmp 22) rfl w.heap.size (gotC 0 nilV [] 11 (p : Int)).toArray rfl rfl 50 (gotC 0 nilV [] 0 0).toArray HBox2.out hgi rfl (by simp [gotC, nilV, Value.oneCell']) ?_; rw [HWz.out]; clear HWz hgi)
      (try simp only [Exit.inBlock, Exit.then])
      exact bodyPost_ret (v := gotV 0 nilV [] 11 (p : Int)) (results_got rfl _ _ w.heap.size 0 nilV [] 11 (p : Int) rfl HBz.out) rfl ⟨⟨_, rfl, HGz.out⟩, Hz.out⟩
    · have HQ : Hid (X = RW false) := by show _ = _; rw [← HX.out, HV.out]; simp [h32]
      have q0 : ((op : Int) == 32) = false := by simp; omega
      have C := HRow.out false w2 hlt (by omega)
      rw [← HQ.out] at C
      clear HX HV HP HRow
      go_wp2_with fail
      refine C.mono ?_
      clear C
      rintro e w3 ⟨⟨v, rfl, hv⟩, hB3⟩
      obtain ⟨a, ao, n, cap, S, c, d, rfl⟩ := gotL_shape hv
      have HGL : Hid (GotL X (.agg #[.int .i64 a, .slice ao n cap, .string ⟨S.toArray⟩, .int .i64 c, .int .i64 d]) w2.heap.size w3) := hv
      have HBox2 : Hid (Bl 50 w3 w.heap.size (gotC 0 nilV [] 0 0)) := bl_below HBox.out hB3
      have HB3 : Hid (Below w.heap.size w w3) := HB.out.trans (hB3.mono HB.out.size)
      clear hB3 hv
      obtain ⟨wz, hwz⟩ : ∃ wz, w3.setRow w.heap.size (gotC a (.slice ao n cap) S c d).toArray = wz := ⟨_, rfl⟩
      have HBz : Hid (Bl 50 wz w.heap.size (gotC a (.slice ao n cap) S c d)) := by rw [← hwz]; exact set_bl HBox2.out
      have Hz : Hid (Below w.heap.size w wz) := by rw [← hwz]; exact setRow_below _ HB3.out (Nat.le_refl _)
      have HWz : Hid (w3.setRow w.heap.size (gotC a (.slice ao n cap) S c d).toArray = wz) := hwz
      have HGz : Hid (GotL X (gotV a (.slice ao n cap) S c d) w.heap.size wz) := by rw [← hwz]; exact gotL_set _ HGL.out HNe.out
      have hgi : (Tryz.prog.info? 50).map (·.size) = some 5 := by kernel_rfl
      clear hwz
      go_wp2_with (refine wpList_store_row rfl 50 (.tmp 6) (.tmp 29) rfl w.heap.size (gotC a (.slice ao n cap) S c d).toArray rfl rfl 50 (gotC 0 nilV [] 0 0).toArray HBox2.out hgi rfl (by simp [gotC, Value.oneCell']) ?_; rw [HWz.out]; clear HWz hgi)
      (try simp only [Exit.inBlock, Exit.then])
      exact bodyPost_ret (v := gotV a (.slice ao n cap) S c d) (results_got rfl _ _ w.heap.size a (.slice ao n cap) S c d rfl HBz.out) rfl ⟨⟨_, rfl, HGz.out⟩, Hz.out⟩
  by_cases h123 : b = 123
  · subst h123
    have hlt := HP.out (by decide)
    by_cases h32 : op = 32
    · have HQ : Hid (X = .bad 11 p) := by show _ = _; rw [← HX.out, HV.out, h32]; simp
      have q0 : ((op : Int) == 32) = true := by simp; omega
      clear HX HV HP HRow
      have C := fault_any 11 (p : Int) w2
      go_wp2_with fail
      refine C.mono ?_
      clear C
      rintro e w3 ⟨rfl, hB3⟩
      have hv : GotL X (gotV 0 nilV [] 11 (p : Int)) w2.heap.size w3 := by rw [HQ.out]; exact ⟨_, _, rfl⟩
      unfold gotV gotC nilV at hv
      have HGL : Hid (GotL X (.agg #[.int .i64 0, .slice none 0 0, .string ⟨#[]⟩, .int .i64 11, .int .i64 (p : Int)]) w2.heap.size w3) := hv
      have HBox2 : Hid (Bl 50 w3 w.heap.size (gotC 0 nilV [] 0 0)) := bl_below HBox.out hB3
      have HB3 : Hid (Below w.heap.size w w3) := HB.out.trans (hB3.mono HB.out.size)
      clear hB3 hv
      obtain ⟨wz, hwz⟩ : ∃ wz, w3.setRow w.heap.size (gotC 0 nilV [] 11 (p : Int)).toArray = wz := ⟨_, rfl⟩
      have HBz : Hid (Bl 50 wz w.heap.size (gotC 0 nilV [] 11 (p : Int))) := by rw [← hwz]; exact set_bl HBox2.out
      have Hz : Hid (Below w.heap.size w wz) := by rw [← hwz]; exact setRow_below _ HB3.out (Nat.le_refl _)
      have HWz : Hid (w3.setRow w.heap.size (gotC 0 nilV [] 11 (p : Int)).toArray = wz) := hwz
      have HGz : Hid (GotL X (gotV 0 nilV [] 11 (p : Int)) w.heap.size wz) := by rw [← hwz]; exact gotL_set _ HGL.out HNe.out
      have hgi : (Tryz.prog.info? 50).map (·.size) = some 5 := by kernel_rfl
      clear hwz
      go_wp2_with (refine wpList_store_row rfl 50 (.tmp 6) (.tmp 22) rfl w.heap.size (gotC 0 nilV [] 11 (p : Int)).toArray rfl rfl 50 (gotC 0 nilV [] 0 0).toArray HBox2.out hgi rfl (by simp [gotC, nilV, Value.oneCell']) ?_; rw [HWz.out]; clear HWz hgi)
      (try simp only [Exit.inBlock, Exit.then])
      exact bodyPost_ret (v := gotV 0 nilV [] 11 (p : Int)) (results_got rfl _ _ w.heap.size 0 nilV [] 11 (p : Int) rfl HBz.out) rfl ⟨⟨_, rfl, HGz.out⟩, Hz.out⟩
    · have HQ : Hid (X = RW true) := by show _ = _; rw [← HX.out, HV.out]; simp [h32]
      have q0 : ((op : Int) == 32) = false := by simp; omega
      have C := HRow.out true w2 hlt (by omega)
      rw [← HQ.out] at C
      clear HX HV HP HRow
      go_wp2_with fail
      refine C.mono ?_
      clear C
      rintro e w3 ⟨⟨v, rfl, hv⟩, hB3⟩
      obtain ⟨a, ao, n, cap, S, c, d, rfl⟩ := gotL_shape hv
      have HGL : Hid (GotL X (.agg #[.int .i64 a, .slice ao n cap, .string ⟨S.toArray⟩, .int .i64 c, .int .i64 d]) w2.heap.size w3) := hv
      have HBox2 : Hid (Bl 50 w3 w.heap.size (gotC 0 nilV [] 0 0)) := bl_below HBox.out hB3
      have HB3 : Hid (Below w.heap.size w w3) := HB.out.trans (hB3.mono HB.out.size)
      clear hB3 hv
      obtain ⟨wz, hwz⟩ : ∃ wz, w3.setRow w.heap.size (gotC a (.slice ao n cap) S c d).toArray = wz := ⟨_, rfl⟩
      have HBz : Hid (Bl 50 wz w.heap.size (gotC a (.slice ao n cap) S c d)) := by rw [← hwz]; exact set_bl HBox2.out
      have Hz : Hid (Below w.heap.size w wz) := by rw [← hwz]; exact setRow_below _ HB3.out (Nat.le_refl _)
      have HWz : Hid (w3.setRow w.heap.size (gotC a (.slice ao n cap) S c d).toArray = wz) := hwz
      have HGz : Hid (GotL X (gotV a (.slice ao n cap) S c d) w.heap.size wz) := by rw [← hwz]; exact gotL_set _ HGL.out HNe.out
      have hgi : (Tryz.prog.info? 50).map (·.size) = some 5 := by kernel_rfl
      clear hwz
      go_wp2_with (refine wpList_store_row rfl 50 (.tmp 6) (.tmp 29) rfl w.heap.size (gotC a (.slice ao n cap) S c d).toArray rfl rfl 50 (gotC 0 nilV [] 0 0).toArray HBox2.out hgi rfl (by simp [gotC, Value.oneCell']) ?_; rw [HWz.out]; clear HWz hgi)
      (try simp only [Exit.inBlock, Exit.then])
      exact bodyPost_ret (v := gotV a (.slice ao n cap) S c d) (results_got rfl _ _ w.heap.size a (.slice ao n cap) S c d rfl HBz.out) rfl ⟨⟨_, rfl, HGz.out⟩, Hz.out⟩
  clear HRow
  by_cases h34 : b = 34
  · subst h34
    have hlt := HP.out (by decide)
    have HQ : Hid (X = qsG (quoF t (t.length + 1) (p + 1) [])) := by show _ = _; rw [← HX.out, HV.out]; simp
    have C := rquoted_any t (p + 1) w2 (by omega) ht
    obtain ⟨Y, hY⟩ : ∃ Y, quoF t (t.length + 1) (p + 1) [] = Y := ⟨_, rfl⟩
    rw [hY] at HQ C
    have HNZ : Hid (∀ c q, Y = .bad c q → c ≠ 0) := fun c q e => quo_nz _ _ _ _ _ (by omega) (by omega) (hY.trans e)
    have HC : Hid (Calls Tryz.prog 30 #[.string ⟨t.toArray⟩, .int .i64 ((p : Int) + 1)] w2 fun e w' => (∃ v, e = .returned v ∧ GotS Y v) ∧ Below w2.heap.size w2 w') := C
    clear C hY HX HV HP
    go_wp2_with fail
    refine HC.out.mono ?_
    clear HC
    rintro e w3 ⟨⟨v, rfl, hv⟩, hB3⟩
    have HBox2 : Hid (Bl 50 w3 w.heap.size (gotC 0 nilV [] 0 0)) := bl_below HBox.out hB3
    have HB3 : Hid (Below w.heap.size w w3) := HB.out.trans (hB3.mono HB.out.size)
    have HN3 : Hid (w.heap.size < w3.heap.size) := Nat.lt_of_lt_of_le HNe.out hB3.size
    have hgi : (Tryz.prog.info? 50).map (·.size) = some 5 := by kernel_rfl
    clear hB3 HBox HB
    cases Y with
    | ok S q =>
      have hv : v = .agg #[.int .i64 (q : Int), .slice none 0 0, .string ⟨S.toArray⟩, .int .i64 0, .int .i64 0] := hv
      subst hv
      have HG : Hid (Bl 50 (w3.alloc (.cells #[.int .i64 (q : Int), .slice none 0 0, .string ⟨S.toArray⟩, .int .i64 0, .int .i64 0] 50)) w3.heap.size (gotC (q : Int) nilV S 0 0)) := alloc_bl _ _ _
      have HBoxA : Hid (Bl 50 (w3.alloc (.cells #[.int .i64 (q : Int), .slice none 0 0, .string ⟨S.toArray⟩, .int .i64 0, .int .i64 0] 50)) w.heap.size (gotC 0 nilV [] 0 0)) := bl_below HBox2.out (alloc_below _ _)
      have HBA : Hid (Below w.heap.size w (w3.alloc (.cells #[.int .i64 (q : Int), .slice none 0 0, .string ⟨S.toArray⟩, .int .i64 0, .int .i64 0] 50))) := HB3.out.trans ((alloc_below _ _).mono HB3.out.size)
      have hsz : (w3.alloc (.cells #[.int .i64 (q : Int), .slice none 0 0, .string ⟨S.toArray⟩, .int .i64 0, .int .i64 0] 50)).heap.size = w3.heap.size + 1 := alloc_size _ _
      obtain ⟨w4, hw4⟩ : ∃ w4, (w3.alloc (.cells #[.int .i64 (q : Int), .slice none 0 0, .string ⟨S.toArray⟩, .int .i64 0, .int .i64 0] 50)) = w4 := ⟨_, rfl⟩
      have HW4 : Hid ((w3.alloc (.cells #[.int .i64 (q : Int), .slice none 0 0, .string ⟨S.toArray⟩, .int .i64 0, .int .i64 0] 50)) = w4) := hw4
      rw [hw4] at HG HBoxA HBA hsz
      clear hw4
      have k2 : w4.cell? ⟨w3.heap.size, 2, none⟩ = some (.string ⟨S.toArray⟩) := HG.out.cell 2 (by show 2 < 5; decide)
      have k3 : w4.cell? ⟨w3.heap.size, 3, none⟩ = some (.int .i64 0) := HG.out.cell 3 (by show 3 < 5; decide)
      go_upto_region 8 with fail
      rw [HW4.out]
      clear HW4
      have kc : w4.cell? ⟨w3.heap.size, 1, none⟩ = some (.slice none 0 0) := HG.out.cell 1 (by show 1 < 5; decide)
      have kf : w4.frozen? ⟨w3.heap.size, 1, none⟩ = false := HG.out.frozen 1
      have hs5 : (w4.setCell ⟨w3.heap.size, 1, none⟩ (.slice (some ⟨w3.heap.size + 1, 0, none⟩) 1 1)).heap.size = w3.heap.size + 1 := by simpa using hsz
      have HBx6 : Hid (Bl 50 ((w4.setCell ⟨w3.heap.size, 1, none⟩ (.slice (some ⟨w3.heap.size + 1, 0, none⟩) 1 1)).alloc (.cells #[.int .i64 5, .string ⟨#[]⟩, .string ⟨S.toArray⟩, .bool false, .int .i64 0, .int .i64 0] 38)) w3.heap.size (gotC (q : Int) (.slice (some ⟨w3.heap.size + 1, 0, none⟩) 1 1) S 0 0)) := bl_below (bl_set HG.out 1 (.slice (some ⟨w3.heap.size + 1, 0, none⟩) 1 1)) (alloc_below _ _)
      have HRg : Hid (((w4.setCell ⟨w3.heap.size, 1, none⟩ (.slice (some ⟨w3.heap.size + 1, 0, none⟩) 1 1)).alloc (.cells #[.int .i64 5, .string ⟨#[]⟩, .string ⟨S.toArray⟩, .bool false, .int .i64 0, .int .i64 0] 38)).rangeAt w3.heap.size 0 (gotC (q : Int) (.slice (some ⟨w3.heap.size + 1, 0, none⟩) 1 1) S 0 0)) := bl_range HBx6.out
      have HBo6 : Hid (Bl 50 ((w4.setCell ⟨w3.heap.size, 1, none⟩ (.slice (some ⟨w3.heap.size + 1, 0, none⟩) 1 1)).alloc (.cells #[.int .i64 5, .string ⟨#[]⟩, .string ⟨S.toArray⟩, .bool false, .int .i64 0, .int .i64 0] 38)) w.heap.size (gotC 0 nilV [] 0 0)) := bl_below (bl_other HBoxA.out (by have := HN3.out; omega)) (alloc_below _ _)
      have HB6 : Hid (Below w.heap.size w ((w4.setCell ⟨w3.heap.size, 1, none⟩ (.slice (some ⟨w3.heap.size + 1, 0, none⟩) 1 1)).alloc (.cells #[.int .i64 5, .string ⟨#[]⟩, .string ⟨S.toArray⟩, .bool false, .int .i64 0, .int .i64 0] 38))) := by
        have h := below_set (g := w3.heap.size) (j := 1) (v := .slice (some ⟨w3.heap.size + 1, 0, none⟩) 1 1) HBA.out (Nat.le_of_lt HN3.out)
        exact h.trans ((alloc_below _ _).mono h.size)
      have HNo : Hid (NO w.heap.size (((w4.setCell ⟨w3.heap.size, 1, none⟩ (.slice (some ⟨w3.heap.size + 1, 0, none⟩) 1 1)).alloc (.cells #[.int .i64 5, .string ⟨#[]⟩, .string ⟨S.toArray⟩, .bool false, .int .i64 0, .int .i64 0] 38)).setRow w.heap.size (gotC (q : Int) (.slice (some ⟨w3.heap.size + 1, 0, none⟩) 1 1) S 0 0).toArray) (.slice (some ⟨w3.heap.size + 1, 0, none⟩) 1 1) [{ nd0 5 with text := S }]) := by
        have h := no_one (w4.setCell ⟨w3.heap.size, 1, none⟩ (.slice (some ⟨w3.heap.size + 1, 0, none⟩) 1 1)) { nd0 5 with text := S } w.heap.size (by rw [hs5]; have := HN3.out; omega)
        rw [hs5] at h
        exact own_keep h (fun g hg => setRow_other _ _ _ _ (by have := HN3.out; have e : w3.heap.size + 1 = g := Option.some.inj hg; omega))
      clear hs5
      obtain ⟨wz, hwz⟩ : ∃ wz, ((w4.setCell ⟨w3.heap.size, 1, none⟩ (.slice (some ⟨w3.heap.size + 1, 0, none⟩) 1 1)).alloc (.cells #[.int .i64 5, .string ⟨#[]⟩, .string ⟨S.toArray⟩, .bool false, .int .i64 0, .int .i64 0] 38)).setRow w.heap.size (gotC (q : Int) (.slice (some ⟨w3.heap.size + 1, 0, none⟩) 1 1) S 0 0).toArray = wz := ⟨_, rfl⟩
      have HBz : Hid (Bl 50 wz w.heap.size (gotC (q : Int) (.slice (some ⟨w3.heap.size + 1, 0, none⟩) 1 1) S 0 0)) := by rw [← hwz]; exact set_bl HBo6.out
      have Hz : Hid (Below w.heap.size w wz) := by rw [← hwz]; exact setRow_below _ HB6.out (Nat.le_refl _)
      have HWz : Hid (((w4.setCell ⟨w3.heap.size, 1, none⟩ (.slice (some ⟨w3.heap.size + 1, 0, none⟩) 1 1)).alloc (.cells #[.int .i64 5, .string ⟨#[]⟩, .string ⟨S.toArray⟩, .bool false, .int .i64 0, .int .i64 0] 38)).setRow w.heap.size (gotC (q : Int) (.slice (some ⟨w3.heap.size + 1, 0, none⟩) 1 1) S 0 0).toArray = wz) := hwz
      rw [hwz] at HNo
      clear hwz HNZ
      go_wp2_with (first | (refine wpList_load_mid rfl 50 (.tmp 8) rfl w3.heap.size 0 rfl (gotC (q : Int) (.slice (some ⟨w3.heap.size + 1, 0, none⟩) 1 1) S 0 0) _ HRg.out Tryz.underlying50 rfl hgi ?_) | (refine wpList_store_row rfl 50 (.tmp 6) (.tmp 45) rfl w.heap.size (gotC (q : Int) (.slice (some ⟨w3.heap.size + 1, 0, none⟩) 1 1) S 0 0).toArray rfl rfl 50 (gotC 0 nilV [] 0 0).toArray HBo6.out hgi rfl (by simp [gotC, Value.oneCell']) ?_; rw [HWz.out]; clear HWz))
      (try simp only [Exit.inBlock, Exit.then])
      exact bodyPost_ret (v := gotV (q : Int) (.slice (some ⟨w3.heap.size + 1, 0, none⟩) 1 1) S 0 0) (results_got rfl _ _ w.heap.size (q : Int) (.slice (some ⟨w3.heap.size + 1, 0, none⟩) 1 1) S 0 0 rfl HBz.out) rfl ⟨⟨_, rfl, by rw [HQ.out]; exact ⟨_, _, rfl, HNo.out⟩⟩, Hz.out⟩
    | bad c b =>
      obtain ⟨A, S, hv1⟩ := hv
      have hv2 : v = .agg #[.int .i64 A, .slice none 0 0, .string ⟨S.toArray⟩, .int .i64 (c : Int), .int .i64 (b : Int)] := hv1
      clear hv1
      subst hv2
      have qc : ((c : Int) == 0) = false := by have := HNZ.out c b rfl; simp; omega
      have HG : Hid (Bl 50 (w3.alloc (.cells #[.int .i64 A, .slice none 0 0, .string ⟨S.toArray⟩, .int .i64 (c : Int), .int .i64 (b : Int)] 50)) w3.heap.size (gotC A nilV S (c : Int) (b : Int))) := alloc_bl _ _ _
      have HBoxA : Hid (Bl 50 (w3.alloc (.cells #[.int .i64 A, .slice none 0 0, .string ⟨S.toArray⟩, .int .i64 (c : Int), .int .i64 (b : Int)] 50)) w.heap.size (gotC 0 nilV [] 0 0)) := bl_below HBox2.out (alloc_below _ _)
      have HBA : Hid (Below w.heap.size w (w3.alloc (.cells #[.int .i64 A, .slice none 0 0, .string ⟨S.toArray⟩, .int .i64 (c : Int), .int .i64 (b : Int)] 50))) := HB3.out.trans ((alloc_below _ _).mono HB3.out.size)
      obtain ⟨w4, hw4⟩ : ∃ w4, (w3.alloc (.cells #[.int .i64 A, .slice none 0 0, .string ⟨S.toArray⟩, .int .i64 (c : Int), .int .i64 (b : Int)] 50)) = w4 := ⟨_, rfl⟩
      have HW4 : Hid ((w3.alloc (.cells #[.int .i64 A, .slice none 0 0, .string ⟨S.toArray⟩, .int .i64 (c : Int), .int .i64 (b : Int)] 50)) = w4) := hw4
      rw [hw4] at HG HBoxA HBA
      clear hw4 HNZ
      go_upto_region 8 with fail
      rw [HW4.out]
      clear HW4
      have k3 : w4.cell? ⟨w3.heap.size, 3, none⟩ = some (.int .i64 (c : Int)) := HG.out.cell 3 (by show 3 < 5; decide)
      have HRg : Hid (w4.rangeAt w3.heap.size 0 (gotC A nilV S (c : Int) (b : Int))) := bl_range HG.out
      obtain ⟨wz, hwz⟩ : ∃ wz, w4.setRow w.heap.size (gotC A nilV S (c : Int) (b : Int)).toArray = wz := ⟨_, rfl⟩
      have HBz : Hid (Bl 50 wz w.heap.size (gotC A nilV S (c : Int) (b : Int))) := by rw [← hwz]; exact set_bl HBoxA.out
      have Hz : Hid (Below w.heap.size w wz) := by rw [← hwz]; exact setRow_below _ HBA.out (Nat.le_refl _)
      have HWz : Hid (w4.setRow w.heap.size (gotC A nilV S (c : Int) (b : Int)).toArray = wz) := hwz
      clear hwz
      go_wp2_with (first | (refine wpList_load_mid rfl 50 (.tmp 8) rfl w3.heap.size 0 rfl (gotC A nilV S (c : Int) (b : Int)) _ HRg.out Tryz.underlying50 rfl hgi ?_) | (refine wpList_store_row rfl 50 (.tmp 6) (.tmp 45) rfl w.heap.size (gotC A nilV S (c : Int) (b : Int)).toArray rfl rfl 50 (gotC 0 nilV [] 0 0).toArray HBoxA.out hgi rfl (by simp [gotC, nilV, Value.oneCell']) ?_; rw [HWz.out]; clear HWz))
      (try simp only [Exit.inBlock, Exit.then])
      exact bodyPost_ret (v := gotV A nilV S (c : Int) (b : Int)) (results_got rfl _ _ w.heap.size A nilV S (c : Int) (b : Int) rfl HBz.out) rfl ⟨⟨_, rfl, by rw [HQ.out]; exact ⟨_, _, rfl⟩⟩, Hz.out⟩
  have q91 : (b == 91) = false := by simpa using h91
  have q123 : (b == 123) = false := by simpa using h123
  have q34 : (b == 34) = false := by simpa using h34
  by_cases hn : b = 45 ∨ (48 ≤ b ∧ b ≤ 57)
  · have hlt := HP.out (by omega)
    have HQ : Hid (X = nuF t p) := by show _ = _; rw [← HX.out, HV.out, if_neg h91, if_neg h123, if_neg h34, if_pos hn]
    have C := rnumber_any t p w2 hlt ht
    rw [← HQ.out] at C
    rcases (show b = 45 ∨ (b ≠ 45 ∧ 48 ≤ b ∧ b ≤ 57) by omega) with h45 | ⟨h45, h48, h57⟩
    · subst h45
      clear HX HV HP hn
      go_wp2_with fail
      refine C.mono ?_
      clear C
      rintro e w3 ⟨⟨v, rfl, hv⟩, hB3⟩
      obtain ⟨a, ao, n, cap, S, c, d, rfl⟩ := gotL_shape hv
      have HGL : Hid (GotL X (.agg #[.int .i64 a, .slice ao n cap, .string ⟨S.toArray⟩, .int .i64 c, .int .i64 d]) w2.heap.size w3) := hv
      have HBox2 : Hid (Bl 50 w3 w.heap.size (gotC 0 nilV [] 0 0)) := bl_below HBox.out hB3
      have HB3 : Hid (Below w.heap.size w w3) := HB.out.trans (hB3.mono HB.out.size)
      clear hB3 hv
      obtain ⟨wz, hwz⟩ : ∃ wz, w3.setRow w.heap.size (gotC a (.slice ao n cap) S c d).toArray = wz := ⟨_, rfl⟩
      have HBz : Hid (Bl 50 wz w.heap.size (gotC a (.slice ao n cap) S c d)) := by rw [← hwz]; exact set_bl HBox2.out
      have Hz : Hid (Below w.heap.size w wz) := by rw [← hwz]; exact setRow_below _ HB3.out (Nat.le_refl _)
      have HWz : Hid (w3.setRow w.heap.size (gotC a (.slice ao n cap) S c d).toArray = wz) := hwz
      have HGz : Hid (GotL X (gotV a (.slice ao n cap) S c d) w.heap.size wz) := by rw [← hwz]; exact gotL_set _ HGL.out HNe.out
      have hgi : (Tryz.prog.info? 50).map (·.size) = some 5 := by kernel_rfl
      clear hwz
      go_wp2_with (refine wpList_store_row rfl 50 (.tmp 6) (.tmp 59) rfl w.heap.size (gotC a (.slice ao n cap) S c d).toArray rfl rfl 50 (gotC 0 nilV [] 0 0).toArray HBox2.out hgi rfl (by simp [gotC, Value.oneCell']) ?_; rw [HWz.out]; clear HWz hgi)
      (try simp only [Exit.inBlock, Exit.then])
      exact bodyPost_ret (v := gotV a (.slice ao n cap) S c d) (results_got rfl _ _ w.heap.size a (.slice ao n cap) S c d rfl HBz.out) rfl ⟨⟨_, rfl, HGz.out⟩, Hz.out⟩
    · have q45 : (b == 45) = false := by simpa using h45
      have q48 : decide (b ≥ 48) = true := decide_eq_true h48
      have q57 : decide (b ≤ 57) = true := decide_eq_true h57
      clear HX HV HP hn
      go_wp2_with fail
      refine C.mono ?_
      clear C
      rintro e w3 ⟨⟨v, rfl, hv⟩, hB3⟩
      obtain ⟨a, ao, n, cap, S, c, d, rfl⟩ := gotL_shape hv
      have HGL : Hid (GotL X (.agg #[.int .i64 a, .slice ao n cap, .string ⟨S.toArray⟩, .int .i64 c, .int .i64 d]) w2.heap.size w3) := hv
      have HBox2 : Hid (Bl 50 w3 w.heap.size (gotC 0 nilV [] 0 0)) := bl_below HBox.out hB3
      have HB3 : Hid (Below w.heap.size w w3) := HB.out.trans (hB3.mono HB.out.size)
      clear hB3 hv
      obtain ⟨wz, hwz⟩ : ∃ wz, w3.setRow w.heap.size (gotC a (.slice ao n cap) S c d).toArray = wz := ⟨_, rfl⟩
      have HBz : Hid (Bl 50 wz w.heap.size (gotC a (.slice ao n cap) S c d)) := by rw [← hwz]; exact set_bl HBox2.out
      have Hz : Hid (Below w.heap.size w wz) := by rw [← hwz]; exact setRow_below _ HB3.out (Nat.le_refl _)
      have HWz : Hid (w3.setRow w.heap.size (gotC a (.slice ao n cap) S c d).toArray = wz) := hwz
      have HGz : Hid (GotL X (gotV a (.slice ao n cap) S c d) w.heap.size wz) := by rw [← hwz]; exact gotL_set _ HGL.out HNe.out
      have hgi : (Tryz.prog.info? 50).map (·.size) = some 5 := by kernel_rfl
      clear hwz
      go_wp2_with (refine wpList_store_row rfl 50 (.tmp 6) (.tmp 59) rfl w.heap.size (gotC a (.slice ao n cap) S c d).toArray rfl rfl 50 (gotC 0 nilV [] 0 0).toArray HBox2.out hgi rfl (by simp [gotC, Value.oneCell']) ?_; rw [HWz.out]; clear HWz hgi)
      (try simp only [Exit.inBlock, Exit.then])
      exact bodyPost_ret (v := gotV a (.slice ao n cap) S c d) (results_got rfl _ _ w.heap.size a (.slice ao n cap) S c d rfl HBz.out) rfl ⟨⟨_, rfl, HGz.out⟩, Hz.out⟩
  by_cases h110 : b = 110
  · subst h110
    have hlt := HP.out (by decide)
    have HQ : Hid (X = ltF t [110, 117, 108, 108] 1 p) := by show _ = _; rw [← HX.out, HV.out]; simp
    have C : Calls Tryz.prog 32 #[.string ⟨t.toArray⟩, .int .i64 p, .string ⟨#[110, 117, 108, 108]⟩, .int .i64 1] w2 fun e w' => (∃ v, e = .returned v ∧ GotL X v w2.heap.size w') ∧ Below w2.heap.size w2 w' := by
      rw [HQ.out]
      exact rliteral_any t [110, 117, 108, 108] 1 p w2 (by omega) ht (by decide)
    clear HX HV HP hn
    go_wp2_with fail
    refine C.mono ?_
    clear C
    rintro e w3 ⟨⟨v, rfl, hv⟩, hB3⟩
    obtain ⟨a, ao, n, cap, S, c, d, rfl⟩ := gotL_shape hv
    have HGL : Hid (GotL X (.agg #[.int .i64 a, .slice ao n cap, .string ⟨S.toArray⟩, .int .i64 c, .int .i64 d]) w2.heap.size w3) := hv
    have HBox2 : Hid (Bl 50 w3 w.heap.size (gotC 0 nilV [] 0 0)) := bl_below HBox.out hB3
    have HB3 : Hid (Below w.heap.size w w3) := HB.out.trans (hB3.mono HB.out.size)
    clear hB3 hv
    obtain ⟨wz, hwz⟩ : ∃ wz, w3.setRow w.heap.size (gotC a (.slice ao n cap) S c d).toArray = wz := ⟨_, rfl⟩
    have HBz : Hid (Bl 50 wz w.heap.size (gotC a (.slice ao n cap) S c d)) := by rw [← hwz]; exact set_bl HBox2.out
    have Hz : Hid (Below w.heap.size w wz) := by rw [← hwz]; exact setRow_below _ HB3.out (Nat.le_refl _)
    have HWz : Hid (w3.setRow w.heap.size (gotC a (.slice ao n cap) S c d).toArray = wz) := hwz
    have HGz : Hid (GotL X (gotV a (.slice ao n cap) S c d) w.heap.size wz) := by rw [← hwz]; exact gotL_set _ HGL.out HNe.out
    have hgi : (Tryz.prog.info? 50).map (·.size) = some 5 := by kernel_rfl
    clear hwz
    go_wp2_with (refine wpList_store_row rfl 50 (.tmp 6) (.tmp 65) rfl w.heap.size (gotC a (.slice ao n cap) S c d).toArray rfl rfl 50 (gotC 0 nilV [] 0 0).toArray HBox2.out hgi rfl (by simp [gotC, Value.oneCell']) ?_; rw [HWz.out]; clear HWz hgi)
    (try simp only [Exit.inBlock, Exit.then])
    exact bodyPost_ret (v := gotV a (.slice ao n cap) S c d) (results_got rfl _ _ w.heap.size a (.slice ao n cap) S c d rfl HBz.out) rfl ⟨⟨_, rfl, HGz.out⟩, Hz.out⟩
  by_cases h102 : b = 102
  · subst h102
    have hlt := HP.out (by decide)
    have HQ : Hid (X = ltF t [102, 97, 108, 115, 101] 2 p) := by show _ = _; rw [← HX.out, HV.out]; simp
    have C : Calls Tryz.prog 32 #[.string ⟨t.toArray⟩, .int .i64 p, .string ⟨#[102, 97, 108, 115, 101]⟩, .int .i64 2] w2 fun e w' => (∃ v, e = .returned v ∧ GotL X v w2.heap.size w') ∧ Below w2.heap.size w2 w' := by
      rw [HQ.out]
      exact rliteral_any t [102, 97, 108, 115, 101] 2 p w2 (by omega) ht (by decide)
    clear HX HV HP hn
    go_wp2_with fail
    refine C.mono ?_
    clear C
    rintro e w3 ⟨⟨v, rfl, hv⟩, hB3⟩
    obtain ⟨a, ao, n, cap, S, c, d, rfl⟩ := gotL_shape hv
    have HGL : Hid (GotL X (.agg #[.int .i64 a, .slice ao n cap, .string ⟨S.toArray⟩, .int .i64 c, .int .i64 d]) w2.heap.size w3) := hv
    have HBox2 : Hid (Bl 50 w3 w.heap.size (gotC 0 nilV [] 0 0)) := bl_below HBox.out hB3
    have HB3 : Hid (Below w.heap.size w w3) := HB.out.trans (hB3.mono HB.out.size)
    clear hB3 hv
    obtain ⟨wz, hwz⟩ : ∃ wz, w3.setRow w.heap.size (gotC a (.slice ao n cap) S c d).toArray = wz := ⟨_, rfl⟩
    have HBz : Hid (Bl 50 wz w.heap.size (gotC a (.slice ao n cap) S c d)) := by rw [← hwz]; exact set_bl HBox2.out
    have Hz : Hid (Below w.heap.size w wz) := by rw [← hwz]; exact setRow_below _ HB3.out (Nat.le_refl _)
    have HWz : Hid (w3.setRow w.heap.size (gotC a (.slice ao n cap) S c d).toArray = wz) := hwz
    have HGz : Hid (GotL X (gotV a (.slice ao n cap) S c d) w.heap.size wz) := by rw [← hwz]; exact gotL_set _ HGL.out HNe.out
    have hgi : (Tryz.prog.info? 50).map (·.size) = some 5 := by kernel_rfl
    clear hwz
    go_wp2_with (refine wpList_store_row rfl 50 (.tmp 6) (.tmp 71) rfl w.heap.size (gotC a (.slice ao n cap) S c d).toArray rfl rfl 50 (gotC 0 nilV [] 0 0).toArray HBox2.out hgi rfl (by simp [gotC, Value.oneCell']) ?_; rw [HWz.out]; clear HWz hgi)
    (try simp only [Exit.inBlock, Exit.then])
    exact bodyPost_ret (v := gotV a (.slice ao n cap) S c d) (results_got rfl _ _ w.heap.size a (.slice ao n cap) S c d rfl HBz.out) rfl ⟨⟨_, rfl, HGz.out⟩, Hz.out⟩
  by_cases h116 : b = 116
  · subst h116
    have hlt := HP.out (by decide)
    have HQ : Hid (X = ltF t [116, 114, 117, 101] 3 p) := by show _ = _; rw [← HX.out, HV.out]; simp
    have C : Calls Tryz.prog 32 #[.string ⟨t.toArray⟩, .int .i64 p, .string ⟨#[116, 114, 117, 101]⟩, .int .i64 3] w2 fun e w' => (∃ v, e = .returned v ∧ GotL X v w2.heap.size w') ∧ Below w2.heap.size w2 w' := by
      rw [HQ.out]
      exact rliteral_any t [116, 114, 117, 101] 3 p w2 (by omega) ht (by decide)
    clear HX HV HP hn
    go_wp2_with fail
    refine C.mono ?_
    clear C
    rintro e w3 ⟨⟨v, rfl, hv⟩, hB3⟩
    obtain ⟨a, ao, n, cap, S, c, d, rfl⟩ := gotL_shape hv
    have HGL : Hid (GotL X (.agg #[.int .i64 a, .slice ao n cap, .string ⟨S.toArray⟩, .int .i64 c, .int .i64 d]) w2.heap.size w3) := hv
    have HBox2 : Hid (Bl 50 w3 w.heap.size (gotC 0 nilV [] 0 0)) := bl_below HBox.out hB3
    have HB3 : Hid (Below w.heap.size w w3) := HB.out.trans (hB3.mono HB.out.size)
    clear hB3 hv
    obtain ⟨wz, hwz⟩ : ∃ wz, w3.setRow w.heap.size (gotC a (.slice ao n cap) S c d).toArray = wz := ⟨_, rfl⟩
    have HBz : Hid (Bl 50 wz w.heap.size (gotC a (.slice ao n cap) S c d)) := by rw [← hwz]; exact set_bl HBox2.out
    have Hz : Hid (Below w.heap.size w wz) := by rw [← hwz]; exact setRow_below _ HB3.out (Nat.le_refl _)
    have HWz : Hid (w3.setRow w.heap.size (gotC a (.slice ao n cap) S c d).toArray = wz) := hwz
    have HGz : Hid (GotL X (gotV a (.slice ao n cap) S c d) w.heap.size wz) := by rw [← hwz]; exact gotL_set _ HGL.out HNe.out
    have hgi : (Tryz.prog.info? 50).map (·.size) = some 5 := by kernel_rfl
    clear hwz
    go_wp2_with (refine wpList_store_row rfl 50 (.tmp 6) (.tmp 77) rfl w.heap.size (gotC a (.slice ao n cap) S c d).toArray rfl rfl 50 (gotC 0 nilV [] 0 0).toArray HBox2.out hgi rfl (by simp [gotC, Value.oneCell']) ?_; rw [HWz.out]; clear HWz hgi)
    (try simp only [Exit.inBlock, Exit.then])
    exact bodyPost_ret (v := gotV a (.slice ao n cap) S c d) (results_got rfl _ _ w.heap.size a (.slice ao n cap) S c d rfl HBz.out) rfl ⟨⟨_, rfl, HGz.out⟩, Hz.out⟩
  have HQ : Hid (X = .bad 31 p) := by show _ = _; rw [← HX.out, HV.out, if_neg h91, if_neg h123, if_neg h34, if_neg hn, if_neg h110, if_neg h102, if_neg h116]
  have q45 : (b == 45) = false := by simp; omega
  have q110 : (b == 110) = false := by simpa using h110
  have q102 : (b == 102) = false := by simpa using h102
  have q116 : (b == 116) = false := by simpa using h116
  rcases (show b < 48 ∨ (48 ≤ b ∧ 57 < b) by omega) with h | ⟨h, h2⟩
  · have q48 : decide (b ≥ 48) = false := decide_eq_false (by omega)
    clear HX HV HP hn
    have C := fault_any 31 (p : Int) w2
    go_wp2_with fail
    refine C.mono ?_
    clear C
    rintro e w3 ⟨rfl, hB3⟩
    have hv : GotL X (gotV 0 nilV [] 31 (p : Int)) w2.heap.size w3 := by rw [HQ.out]; exact ⟨_, _, rfl⟩
    unfold gotV gotC nilV at hv
    have HGL : Hid (GotL X (.agg #[.int .i64 0, .slice none 0 0, .string ⟨#[]⟩, .int .i64 31, .int .i64 (p : Int)]) w2.heap.size w3) := hv
    have HBox2 : Hid (Bl 50 w3 w.heap.size (gotC 0 nilV [] 0 0)) := bl_below HBox.out hB3
    have HB3 : Hid (Below w.heap.size w w3) := HB.out.trans (hB3.mono HB.out.size)
    clear hB3 hv
    obtain ⟨wz, hwz⟩ : ∃ wz, w3.setRow w.heap.size (gotC 0 nilV [] 31 (p : Int)).toArray = wz := ⟨_, rfl⟩
    have HBz : Hid (Bl 50 wz w.heap.size (gotC 0 nilV [] 31 (p : Int))) := by rw [← hwz]; exact set_bl HBox2.out
    have Hz : Hid (Below w.heap.size w wz) := by rw [← hwz]; exact setRow_below _ HB3.out (Nat.le_refl _)
    have HWz : Hid (w3.setRow w.heap.size (gotC 0 nilV [] 31 (p : Int)).toArray = wz) := hwz
    have HGz : Hid (GotL X (gotV 0 nilV [] 31 (p : Int)) w.heap.size wz) := by rw [← hwz]; exact gotL_set _ HGL.out HNe.out
    have hgi : (Tryz.prog.info? 50).map (·.size) = some 5 := by kernel_rfl
    clear hwz
    go_wp2_with (refine wpList_store_row rfl 50 (.tmp 6) (.tmp 79) rfl w.heap.size (gotC 0 nilV [] 31 (p : Int)).toArray rfl rfl 50 (gotC 0 nilV [] 0 0).toArray HBox2.out hgi rfl (by simp [gotC, nilV, Value.oneCell']) ?_; rw [HWz.out]; clear HWz hgi)
    (try simp only [Exit.inBlock, Exit.then])
    exact bodyPost_ret (v := gotV 0 nilV [] 31 (p : Int)) (results_got rfl _ _ w.heap.size 0 nilV [] 31 (p : Int) rfl HBz.out) rfl ⟨⟨_, rfl, HGz.out⟩, Hz.out⟩
  · have q48 : decide (b ≥ 48) = true := decide_eq_true h
    have q57 : decide (b ≤ 57) = false := decide_eq_false (by omega)
    clear HX HV HP hn
    have C := fault_any 31 (p : Int) w2
    go_wp2_with fail
    refine C.mono ?_
    clear C
    rintro e w3 ⟨rfl, hB3⟩
    have hv : GotL X (gotV 0 nilV [] 31 (p : Int)) w2.heap.size w3 := by rw [HQ.out]; exact ⟨_, _, rfl⟩
    unfold gotV gotC nilV at hv
    have HGL : Hid (GotL X (.agg #[.int .i64 0, .slice none 0 0, .string ⟨#[]⟩, .int .i64 31, .int .i64 (p : Int)]) w2.heap.size w3) := hv
    have HBox2 : Hid (Bl 50 w3 w.heap.size (gotC 0 nilV [] 0 0)) := bl_below HBox.out hB3
    have HB3 : Hid (Below w.heap.size w w3) := HB.out.trans (hB3.mono HB.out.size)
    clear hB3 hv
    obtain ⟨wz, hwz⟩ : ∃ wz, w3.setRow w.heap.size (gotC 0 nilV [] 31 (p : Int)).toArray = wz := ⟨_, rfl⟩
    have HBz : Hid (Bl 50 wz w.heap.size (gotC 0 nilV [] 31 (p : Int))) := by rw [← hwz]; exact set_bl HBox2.out
    have Hz : Hid (Below w.heap.size w wz) := by rw [← hwz]; exact setRow_below _ HB3.out (Nat.le_refl _)
    have HWz : Hid (w3.setRow w.heap.size (gotC 0 nilV [] 31 (p : Int)).toArray = wz) := hwz
    have HGz : Hid (GotL X (gotV 0 nilV [] 31 (p : Int)) w.heap.size wz) := by rw [← hwz]; exact gotL_set _ HGL.out HNe.out
    have hgi : (Tryz.prog.info? 50).map (·.size) = some 5 := by kernel_rfl
    clear hwz
    go_wp2_with (refine wpList_store_row rfl 50 (.tmp 6) (.tmp 79) rfl w.heap.size (gotC 0 nilV [] 31 (p : Int)).toArray rfl rfl 50 (gotC 0 nilV [] 0 0).toArray HBox2.out hgi rfl (by simp [gotC, nilV, Value.oneCell']) ?_; rw [HWz.out]; clear HWz hgi)
    (try simp only [Exit.inBlock, Exit.then])
    exact bodyPost_ret (v := gotV 0 nilV [] 31 (p : Int)) (results_got rfl _ _ w.heap.size 0 nilV [] 31 (p : Int) rfl HBz.out) rfl ⟨⟨_, rfl, HGz.out⟩, Hz.out⟩

end Go.Proofs.YtapljedegjiliaaGreatDoor
