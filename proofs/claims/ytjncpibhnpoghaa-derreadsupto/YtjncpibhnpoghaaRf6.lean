import Derived.Test.YtjncpibhnpoghaaRf5
namespace Go.Proofs.Ytjncpibhnpoghaa
open Go.RowKit

theorem sg_snoc (l : List UInt8) (a m : Nat) (h : a + m < l.length) : sg l a (a + (m + 1)) = sg l a (a + m) ++ [l.getD (a + m) 0] := by
  unfold sg
  rw [show a + (m + 1) - a = m + 1 from by omega, show a + m - a = m from by omega]
  have h1 : m < (l.drop a).length := by rw [List.length_drop]; omega
  rw [List.take_succ_eq_append_getElem h1, List.getElem_drop, ← getD_eq l 0 h]

set_option maxRecDepth 100000 in
set_option maxHeartbeats 8000000 in
theorem read_prim (w0 w : World) (rb g off cap : Nat) (l : List UInt8) (lv : Value) (xs : List X) (a b n k : Nat) (op : Int)
    (hr : Rd w0 (some ⟨g, off, none⟩) l) (hl : l.length ≤ 65536) (hc : l.length ≤ cap) (hc2 : cap ≤ 9223372036854775807) (hS : SR w0 w rb (.slice (some ⟨g, off, none⟩) l.length cap) lv 0 0 xs) (hab : a < b) (hb : b ≤ l.length) (hL : lenR (sg l (a + 1) b) = (n, k)) (hxs : xs.length + (b - a) ≤ 65536)
    (hk : 1 ≤ k) (hn : a + 1 + k + n ≤ b) (hT : tagR ((l.getD a 0).toNat : Int) = true) (hI : con ((l.getD a 0).toNat : Int) = false) (hCn : contR ((l.getD a 0).toNat : Int) (sg l (a + 1 + k) (a + 1 + k + n)) = true) :
    Calls Try.prog 22 #[.pointer (some ⟨rb, 0, none⟩), .int .i64 (a : Int), .int .i64 (b : Int), .int .i64 op] w fun e w' => e = .returned (.int .i64 ((a + (1 + k + n) : Nat) : Int)) ∧ ∃ lv' y, SR w0 w' rb (.slice (some ⟨g, off, none⟩) l.length cap) lv' 0 0 (xs ++ [y]) ∧ y.e = ⟨((l.getD a 0).toNat : Int), sg l (a + 1 + k) (a + 1 + k + n), 0⟩ := by
  have hr0 := hr
  have c0 := hS.rd.cell 0 (by simp)
  simp only [List.getElem_cons_zero] at c0
  have hbel := hS.bel
  have hrw := hr.below hbel (Nat.le_refl _)
  have C := rlength_any g off cap l (a + 1) b w hrw hl (by omega) hb
  rw [hL, show ((a + 1 : Nat) : Int) = (a : Int) + 1 from by omega] at C
  have HC : Hid (Calls Try.prog 36 #[.slice (some ⟨g, off, none⟩) l.length cap, .int .i64 ((a : Int) + 1), .int .i64 (b : Int)] w fun e w' => e = .returned (.tuple #[.int .i64 (n : Int), .int .i64 (k : Int)]) ∧ w' = w) := C
  obtain ⟨_, _, e9, _, hcell⟩ := hrw.cell (by omega)
  cases e9
  have ga := hcell a (by omega)
  have HS : Hid (SR w0 w rb (.slice (some ⟨g, off, none⟩) l.length cap) lv 0 0 xs) := hS
  have HR : Hid (Rd w (some ⟨g, off, none⟩) l) := hrw
  have HB0 : Hid (Below w0.heap.size w0 w) := hbel
  have f2 := hS.rd.frozen 2
  have f3 := hS.rd.frozen 3
  have c2 := hS.rd.cell 2 (by simp)
  have c3 := hS.rd.cell 3 (by simp)
  simp only [List.getElem_cons_zero, List.getElem_cons_succ] at c2 c3
  have htl := u8_lt (l.getD a 0)
  clear C hS hrw hr hbel hcell hL
  generalize l.getD a 0 = t at *
  have hb0 : ((k : Int) == 0) = false := by rw [beq_eq_false_iff_ne]; omega
  have hb1 : decide ((b : Int) - ((a : Int) + 1 + (k : Int)) < (n : Int)) = false := decide_eq_false (by omega)
  have CT := fun w => rtag_any t.toNat htl w
  have CI := fun w => rinner_any t.toNat htl w
  rw [hT] at CT
  rw [hI] at CI
  have HCT : Hid (∀ w, Calls Try.prog 37 #[.int .i64 (t.toNat : Int)] w fun e w' => e = .returned (.bool true) ∧ w' = w) := CT
  have HCI : Hid (∀ w, Calls Try.prog 38 #[.int .i64 (t.toNat : Int)] w fun e w' => e = .returned (.bool false) ∧ w' = w) := CI
  obtain ⟨st, hst⟩ : ∃ st, st = a + 1 + k := ⟨_, rfl⟩
  rw [← hst] at hCn
  have hsl := sg_length l st (st + n) (by omega) (by omega)
  have CC := fun ad cc (h : Rd w ad (sg l st (st + n))) => rcont_any (t.toNat : Int) ad cc (sg l st (st + n)) w h (by omega)
  rw [hCn, hsl, show st + n - st = n from by omega] at CC
  have HCC : Hid (∀ ad cc, Rd w ad (sg l st (st + n)) → Calls Try.prog 39 #[.int .i64 (t.toNat : Int), .slice ad n cc] w fun e w' => e = .returned (.bool true) ∧ w' = w) := CC
  have Hst' : Hid (True → (a : Int) + 1 + (k : Int) = (st : Int)) := fun _ => by omega
  have Hst : Hid (st = a + 1 + k) := hst
  have hstc : st < cap ∨ (st = cap ∧ n = 0) := by omega
  have hsnc : st + n ≤ cap := by omega
  have hsnb : st + n ≤ b := by omega
  have cl1 := HS.out.rd.cell 1 (by simp)
  simp only [List.getElem_cons_zero, List.getElem_cons_succ] at cl1
  obtain ⟨i1, hj, hy0, hy1, hy2⟩ := info_parts infoT
  obtain ⟨i0, hi, hz0, hz1, hz2⟩ := info_parts infoB
  have HR0 : Hid (Rd w0 (some ⟨g, off, none⟩) l) := hr0
  have Hg0 : Hid (g < w0.heap.size) := by
    obtain ⟨_, _, e9, h9, _⟩ := hr0.cell (by omega)
    cases e9
    exact h9
  clear CT CI CC hCn hT hI hsl hst c2 c3 f2 f3 hr0
  go_enter Try.func22, Try.ntmps22
  go_wp2_with fail
  refine HC.out.mono ?_
  rintro e w9 ⟨rfl, rfl⟩
  clear HC
  go_wp2_with fail
  refine (HCT.out _).mono ?_
  rintro e w8 ⟨rfl, rfl⟩
  rw [Hst'.out trivial]
  go_wp2_with fail
  refine (HCI.out _).mono ?_
  rintro e w8 ⟨rfl, rfl⟩
  have key : ∀ (P : Prop), (st < cap → ¬ cap = st → P) → (st = cap → n = 0 → P) → P := fun P h1 h2 => by
    rcases hstc with h | ⟨h, h'⟩
    · exact h1 h (by omega)
    · exact h2 h h'
  clear key
  rcases hstc with hstc | ⟨h1, h2⟩
  · have hne : ¬ cap = st := by omega
    go_wp2_with fail
    refine (HCC.out _ _ (HR.out.sg st (st + n))).mono ?_
    rintro e w8 ⟨rfl, rfl⟩
    obtain ⟨aL0, nL0, kL0, hlv0⟩ : ∃ a n c, lv = .slice a n c := (own_slice HS.out.own).elim fun a h => h.elim fun c e => ⟨a, _, c, e⟩
    have hnL0 : nL0 = xs.length := by
      obtain ⟨_, _, e⟩ := own_slice HS.out.own
      rw [hlv0] at e
      simp only [Value.slice.injEq] at e
      exact e.2.1
    subst hnL0
    subst hlv0
    have HBB : Hid (Below w8.heap.size w8 (w8.alloc (Obj.cells #[.int .i64 (t.toNat : Int), .slice none 0 0, .int .i64 0] 36))) := alloc_below w8 _
    have HSB : Hid (SR w0 (w8.alloc (Obj.cells #[.int .i64 (t.toNat : Int), .slice none 0 0, .int .i64 0] 36)) rb (.slice (some ⟨g, off, none⟩) l.length cap) (.slice aL0 xs.length kL0) 0 0 xs) := HS.out.below HBB.out (Nat.le_refl _)
    have HNB : Hid (Bl 36 (w8.alloc (Obj.cells #[.int .i64 (t.toNat : Int), .slice none 0 0, .int .i64 0] 36)) w8.heap.size [.int .i64 (t.toNat : Int), .slice none 0 0, .int .i64 0]) := alloc_bl w8 _ _
    have f1 : ∀ (wY : World) (row : Option Nat), (w8.alloc (Obj.cells #[.int .i64 (t.toNat : Int), .slice none 0 0, .int .i64 0] 36)).grownBy wY row → row ≠ some rb → wY.frozen? ⟨rb, 1, none⟩ = false ∧ wY.cell? ⟨rb, 1, none⟩ = some (.slice aL0 xs.length kL0) := fun wY row hg hne => ⟨(bl_grown HSB.out.rd hg hne).frozen 1, (bl_grown HSB.out.rd hg hne).cell 1 (by simp)⟩
    go_wp2_with (at_builtin; refine wpList_append_own_wide _ rfl (.tmp 103) (.tmp 106) 24 rfl w0.heap.size 36 i1 (.agg #[.int .i64 0, .slice none 0 0, .int .i64 0]) 3 40 Try.underlying24 hj hy0 hy1 hy2 rfl (by decide) _ xs.length (xCs xs) rfl HSB.out.own ⟨w8.heap.size, 0, none⟩ 1 1 [.int .i64 (t.toNat : Int), .slice none 0 0, .int .i64 0] rfl rfl (fun j u hu => by match j, hu with | 0, hu => exact (HNB.out.cell 0 (by simp)).trans hu | 1, hu => exact (HNB.out.cell 1 (by simp)).trans hu | 2, hu => exact (HNB.out.cell 2 (by simp)).trans hu) (by intro u hu; simp at hu; rcases hu with rfl | rfl | rfl <;> rfl) (by unfold maxLen; omega) (by omega) HSB.out.bel.size ?_; intro vZ wY hownZ hgrowZ hnilZ; have HSZ : Hid (SR w0 (wY.setCell ⟨rb, 1, none⟩ vZ) rb (.slice (some ⟨g, off, none⟩) l.length cap) vZ 0 0 (xs ++ [⟨⟨(t.toNat : Int), [], 0⟩, none, 0⟩])) := HS.out.push (x := ⟨⟨(t.toNat : Int), [], 0⟩, none, 0⟩) HBB.out (World.ownsRow_nil _ _ _ _) (fun g hg => by cases hg) ⟨by show (0 : Int) ≤ 0; decide, by show (0 : Int) ≤ 65536; decide⟩ hownZ hgrowZ; have f1' := (f1 wY _ hgrowZ (block_apart HSB.out.own HSB.out.rd (by decide))).1; have c1' := (f1 wY _ hgrowZ (block_apart HSB.out.own HSB.out.rd (by decide))).2; obtain ⟨aZ, kZ, rfl⟩ := own_slice hownZ; clear hownZ hgrowZ hnilZ)
    obtain ⟨gl, kl, hlZ, _, _⟩ := own_some HSZ.out.own (by simp)
    simp only [List.length_append, List.length_cons, List.length_nil, Value.slice.injEq] at hlZ
    obtain ⟨rfl, _, rfl⟩ := hlZ
    generalize (wY.setCell ⟨rb, 1, none⟩ (.slice (some ⟨gl, 0, none⟩) (xs.length + 1) kZ)) = wZ at *
    have HD0 : Hid (DL w0 wZ rb wZ.heap.size (.slice (some ⟨g, off, none⟩) l.length cap) (.slice (some ⟨gl, 0, none⟩) (xs.length + 1) kZ) xs ⟨⟨(t.toNat : Int), [], 0⟩, none, 0⟩) := DL.start HSZ.out
    obtain ⟨bL, hbL⟩ : ∃ bL, bL = wZ.heap.size := ⟨_, rfl⟩
    rw [← hbL] at HD0
    clear hbL
    refine (HCI.out _).mono ?_
    rintro e wT ⟨rfl, rfl⟩
    clear f1 c1' f1' HSB HNB HBB HCI HCT HCC
    go_wp2
    go_loopw [16] (fun s16 wr => ∃ (m : Nat) (xa : Option Addr) (xc : Nat), s16 = .int .i64 ((st + m : Nat) : Int) ∧ m ≤ n ∧ Hid (DL w0 wr rb bL (.slice (some ⟨g, off, none⟩) l.length cap) (.slice (some ⟨gl, 0, none⟩) (xs.length + 1) kZ) xs ⟨⟨(t.toNat : Int), sg l st (st + m), 0⟩, xa, xc⟩)) (fun s _ => st + n - (intOf s).toNat)
    case atStart => exact ⟨0, none, 0, by simp, Nat.zero_le _, (by have e0 : sg l st (st + 0) = [] := sg_nil l st; rw [e0]; exact HD0)⟩
    case round =>
      obtain ⟨m, xa, xc, rfl, hm, HDL⟩ := hrel
      by_cases hmn : m < n
      · have hml : st + m < l.length := by omega
        have HsL : Hid ((sg l st (st + m)).length = m) := by show _ = _; rw [sg_length l st (st + m) (by omega) (by omega)]; omega
        obtain ⟨_, _, e9, _, hcellB⟩ := (HR0.out.below HDL.out.bel (Nat.le_refl _)).cell (by omega)
        cases e9
        have s4 := hcellB (st + m) hml
        have hy8 := u8_lt (l.getD (st + m) 0)
        obtain ⟨y, hyy⟩ : ∃ y, y = (l.getD (st + m) 0).toNat := ⟨_, rfl⟩
        rw [← hyy] at s4 hy8
        have HyB : Hid (([l.getD (st + m) 0] : List UInt8).map B = [.int .u8 (y : Int)]) := by show _ = _; rw [hyy]; rfl
        have s1 : wr.cell? ⟨rb, 1, none⟩ = some (.slice (some ⟨gl, 0, none⟩) (xs.length + 1) kZ) := HDL.out.rd.cell 1 (by simp)
        have s3 : wr.cell? ⟨rb, 0, none⟩ = some (.slice (some ⟨g, off, none⟩) l.length cap) := HDL.out.rd.cell 0 (by simp)
        have s2 : wr.cell? ⟨gl, xs.length * 3 + 1, none⟩ = some (.slice xa (sg l st (st + m)).length xc) := by
          have ho := HDL.out.own
          have hlen9 : (xs ++ [(⟨⟨(t.toNat : Int), sg l st (st + m), 0⟩, xa, xc⟩ : X)]).length = xs.length + 1 := by simp
          rw [hlen9] at ho
          rw [World.ownsRow.cellAt ho _ (by omega), xCs_at1]; rfl
        have Hsn : Hid (sg l st (st + (m + 1)) = sg l st (st + m) ++ [l.getD (st + m) 0]) := sg_snoc l st m hml
        have hxI : (xs.length : Int) < (xs.length : Int) + 1 := by omega
        have hmI : (st : Int) + (m : Int) < (l.length : Int) := by omega
        have hm0 : (0 : Int) ≤ (st : Int) + (m : Int) := by omega
        have hmT : ((st : Int) + (m : Int)).toNat = st + m := by omega
        clear hcellB hyy
        go_wp2_with fail
        refine wp_region_K 24 (fun (w' : World) => w'.cell? ⟨rb, 1, none⟩ = some (.slice (some ⟨gl, 0, none⟩) (xs.length + 1) kZ) ∧ w'.cell? ⟨gl, xs.length * 3 + 1, none⟩ = some (.slice xa (sg l st (st + m)).length xc) ∧ w'.cell? ⟨rb, 0, none⟩ = some (.slice (some ⟨g, off, none⟩) l.length cap) ∧ w'.cell? ⟨g, off + (st + m), none⟩ = some (.int .u8 (y : Int))) (by kernel_rfl) ?_
        have hHeld : ((fun (w' : World) => w'.cell? ⟨rb, 1, none⟩ = some (.slice (some ⟨gl, 0, none⟩) (xs.length + 1) kZ) ∧ w'.cell? ⟨gl, xs.length * 3 + 1, none⟩ = some (.slice xa (sg l st (st + m)).length xc) ∧ w'.cell? ⟨rb, 0, none⟩ = some (.slice (some ⟨g, off, none⟩) l.length cap) ∧ w'.cell? ⟨g, off + (st + m), none⟩ = some (.int .u8 (y : Int)))) (World.drew _) := ⟨s1, s2, s3, s4⟩
        refine wpAnyK_take0 0 (v := ?v1) rfl (by kernel_rfl) (fun _ _ _ h => h) (Or.inl ⟨by rfl, ?hy1⟩) (fun _ => hHeld) ?_
        case hy1 => (intro w hSw; go_simp; try with_reducible rfl)
        try simp only [Act.put, List.setIfInBounds_toArray, List.set_cons_zero, List.set_cons_succ]
        refine wpAnyK_take0 1 (v := ?v2) rfl (by kernel_rfl) (fun _ _ _ h => h) (Or.inl ⟨by rfl, ?hy2⟩) (fun _ => hHeld) ?_
        case hy2 => (intro w hSw; go_simp; try with_reducible rfl)
        try simp only [Act.put, List.setIfInBounds_toArray, List.set_cons_zero, List.set_cons_succ]
        refine wpAnyK_take0 2 (v := ?v3) rfl (by kernel_rfl) (fun _ _ _ h => h) (Or.inl ⟨by rfl, ?hy3⟩) (fun _ => hHeld) ?_
        case hy3 => (intro w hSw; go_simp; try with_reducible rfl)
        try simp only [Act.put, List.setIfInBounds_toArray, List.set_cons_zero, List.set_cons_succ]
        refine wpAnyK_take 3 [22, 23, 24] (v := ?v4) rfl (by kernel_rfl) (fun _ _ _ h => h) (Or.inl ⟨by rfl, ?hy4⟩) hHeld ?_
        case hy4 => (intro w hSw; (try dsimp only at hSw); go_simp; try with_reducible rfl)
        try simp only [Act.put, List.setIfInBounds_toArray, List.set_cons_zero, List.set_cons_succ]
        refine wpAnyK_take0 4 (v := ?v5) rfl (by kernel_rfl) (fun _ _ _ h => h) (Or.inl ⟨by rfl, ?hy5⟩) (fun _ => hHeld) ?_
        case hy5 => (intro w hSw; go_simp; try with_reducible rfl)
        try simp only [Act.put, List.setIfInBounds_toArray, List.set_cons_zero, List.set_cons_succ]
        refine wpAnyK_take0 5 (v := ?v6) rfl (by kernel_rfl) (fun _ _ _ h => h) (Or.inl ⟨by rfl, ?hy6⟩) (fun _ => hHeld) ?_
        case hy6 => (intro w hSw; go_simp; try with_reducible rfl)
        try simp only [Act.put, List.setIfInBounds_toArray, List.set_cons_zero, List.set_cons_succ]
        refine wpAnyK_take0 6 (v := ?v7) rfl (by kernel_rfl) (fun _ _ _ h => h) (Or.inl ⟨by rfl, ?hy7⟩) (fun _ => hHeld) ?_
        case hy7 => (intro w hSw; go_simp; try with_reducible rfl)
        try simp only [Act.put, List.setIfInBounds_toArray, List.set_cons_zero, List.set_cons_succ]
        refine wpAnyK_take0 7 (v := ?v8) rfl (by kernel_rfl) (fun _ _ _ h => h) (Or.inl ⟨by rfl, ?hy8⟩) (fun _ => hHeld) ?_
        case hy8 => (intro w hSw; go_simp; try with_reducible rfl)
        try simp only [Act.put, List.setIfInBounds_toArray, List.set_cons_zero, List.set_cons_succ]
        refine wpAnyK_take 8 [10, 11, 12, 21, 24] (v := ?v9) rfl (by kernel_rfl) (fun _ _ _ h => h) (Or.inl ⟨by rfl, ?hy9⟩) hHeld ?_
        case hy9 => (intro w hSw; (try dsimp only at hSw); go_simp; try with_reducible rfl)
        try simp only [Act.put, List.setIfInBounds_toArray, List.set_cons_zero, List.set_cons_succ]
        refine wpAnyK_take0 9 (v := ?v10) rfl (by kernel_rfl) (fun _ _ _ h => h) (Or.inl ⟨by rfl, ?hy10⟩) (fun _ => hHeld) ?_
        case hy10 => (intro w hSw; go_simp; try with_reducible rfl)
        try simp only [Act.put, List.setIfInBounds_toArray, List.set_cons_zero, List.set_cons_succ]
        refine wpAnyK_take0 10 (v := ?v11) rfl (by kernel_rfl) (fun _ _ _ h => h) (Or.inl ⟨by rfl, ?hy11⟩) (fun _ => hHeld) ?_
        case hy11 => (intro w hSw; go_simp; first | with_reducible rfl | (simp only [if_pos hxI]; with_reducible rfl) | (simp only [if_pos hmI]; with_reducible rfl))
        try simp only [Act.put, List.setIfInBounds_toArray, List.set_cons_zero, List.set_cons_succ]
        refine wpAnyK_take0 11 (v := ?v12) rfl (by kernel_rfl) (fun _ _ _ h => h) (Or.inl ⟨by rfl, ?hy12⟩) (fun _ => hHeld) ?_
        case hy12 => (intro w hSw; go_simp; try with_reducible rfl)
        try simp only [Act.put, List.setIfInBounds_toArray, List.set_cons_zero, List.set_cons_succ]
        refine wpAnyK_take 12 [21, 24] (v := ?v13) rfl (by kernel_rfl) (fun _ _ _ h => h) (Or.inl ⟨by rfl, ?hy13⟩) hHeld ?_
        case hy13 => (intro w hSw; (try dsimp only at hSw); go_simp; try with_reducible rfl)
        try simp only [Act.put, List.setIfInBounds_toArray, List.set_cons_zero, List.set_cons_succ]
        refine wpAnyK_take0 13 (v := ?v14) rfl (by kernel_rfl) (fun _ _ _ h => h) (Or.inl ⟨by rfl, ?hy14⟩) (fun _ => hHeld) ?_
        case hy14 => (intro w hSw; go_simp; try with_reducible rfl)
        try simp only [Act.put, List.setIfInBounds_toArray, List.set_cons_zero, List.set_cons_succ]
        refine wpAnyK_take0 14 (v := ?v15) rfl (by kernel_rfl) (fun _ _ _ h => h) (Or.inl ⟨by rfl, ?hy15⟩) (fun _ => hHeld) ?_
        case hy15 => (intro w hSw; go_simp; try with_reducible rfl)
        try simp only [Act.put, List.setIfInBounds_toArray, List.set_cons_zero, List.set_cons_succ]
        refine wpAnyK_take0 15 (v := ?v16) rfl (by kernel_rfl) (fun _ _ _ h => h) (Or.inl ⟨by rfl, ?hy16⟩) (fun _ => hHeld) ?_
        case hy16 => (intro w hSw; go_simp; try with_reducible rfl)
        try simp only [Act.put, List.setIfInBounds_toArray, List.set_cons_zero, List.set_cons_succ]
        refine wpAnyK_take 16 [18, 19, 20, 21, 24] (v := ?v17) rfl (by kernel_rfl) (fun _ _ _ h => h) (Or.inl ⟨by rfl, ?hy17⟩) hHeld ?_
        case hy17 => (intro w hSw; (try dsimp only at hSw); go_simp; try with_reducible rfl)
        try simp only [Act.put, List.setIfInBounds_toArray, List.set_cons_zero, List.set_cons_succ]
        refine wpAnyK_take0 17 (v := ?v18) rfl (by kernel_rfl) (fun _ _ _ h => h) (Or.inl ⟨by rfl, ?hy18⟩) (fun _ => hHeld) ?_
        case hy18 => (intro w hSw; go_simp; try with_reducible rfl)
        try simp only [Act.put, List.setIfInBounds_toArray, List.set_cons_zero, List.set_cons_succ]
        refine wpAnyK_take0 18 (v := ?v19) rfl (by kernel_rfl) (fun _ _ _ h => h) (Or.inl ⟨by rfl, ?hy19⟩) (fun _ => hHeld) ?_
        case hy19 => (intro w hSw; go_simp; first | (simp only [if_pos hm0, hmT]; with_reducible rfl) | (simp only [hmT]; with_reducible rfl) | (trace_state; with_reducible rfl))
        try simp only [Act.put, List.setIfInBounds_toArray, List.set_cons_zero, List.set_cons_succ]
        refine wpAnyK_take 19 [20, 21, 24] (v := ?v20) rfl (by kernel_rfl) (fun _ _ _ h => h) (Or.inl ⟨by rfl, ?hy20⟩) hHeld ?_
        case hy20 => (intro w hSw; (try dsimp only at hSw); go_simp; try with_reducible rfl)
        try simp only [Act.put, List.setIfInBounds_toArray, List.set_cons_zero, List.set_cons_succ]
        refine wpAnyK_step 20 rfl (by kernel_rfl) (fun K hK => ?_)
        go_simp
        have HBB : Hid (Below wr.heap.size wr (wr.drew.alloc (Obj.cells #[.int .u8 (y : Int)] 5))) := alloc_below_drew wr _
        have HKB : Hid ((fun (w' : World) => w'.cell? ⟨rb, 1, none⟩ = some (.slice (some ⟨gl, 0, none⟩) (xs.length + 1) kZ) ∧ w'.cell? ⟨gl, xs.length * 3 + 1, none⟩ = some (.slice xa (sg l st (st + m)).length xc) ∧ w'.cell? ⟨rb, 0, none⟩ = some (.slice (some ⟨g, off, none⟩) l.length cap) ∧ w'.cell? ⟨g, off + (st + m), none⟩ = some (.int .u8 (y : Int))) (wr.drew.alloc (Obj.cells #[.int .u8 (y : Int)] 5))) := ⟨cell_but s1 fun h => HBB.out.block rb h, cell_but s2 fun h => HBB.out.block gl h, cell_but s3 fun h => HBB.out.block rb h, cell_but s4 fun h => HBB.out.block g h⟩
        have HNB : Hid (Bl 5 (wr.drew.alloc (Obj.cells #[.int .u8 (y : Int)] 5)) wr.heap.size [.int .u8 (y : Int)]) := alloc_bl wr.drew _ _
        have HRB : Hid ((wr.drew.alloc (Obj.cells #[.int .u8 (y : Int)] 5)).ownsRow bL 5 1 (.slice xa (sg l st (st + m)).length xc) (sg l st (st + m)).length ((sg l st (st + m)).map B)) := own_below HDL.out.row HBB.out (Nat.le_refl _)
        have HZB : Hid (bL ≤ (wr.drew.alloc (Obj.cells #[.int .u8 (y : Int)] 5)).heap.size) := Nat.le_trans HDL.out.hi HBB.out.size
        refine hK.out _ _ ?hk21 ?_
        case hk21 => exact fun _ => HKB.out
        have hHeld : (fun (w' : World) => w'.cell? ⟨rb, 1, none⟩ = some (.slice (some ⟨gl, 0, none⟩) (xs.length + 1) kZ) ∧ w'.cell? ⟨gl, xs.length * 3 + 1, none⟩ = some (.slice xa (sg l st (st + m)).length xc) ∧ w'.cell? ⟨rb, 0, none⟩ = some (.slice (some ⟨g, off, none⟩) l.length cap) ∧ w'.cell? ⟨g, off + (st + m), none⟩ = some (.int .u8 (y : Int))) _ := HKB.out
        clear hK K
        try simp only [Act.put, List.setIfInBounds_toArray, List.set_cons_zero, List.set_cons_succ]
        refine wpAnyK_step 21 rfl (by kernel_rfl) (fun K hK => ?_)
        rw [if_pos (by rfl)]
        refine wp_append_own_wide _ (.tmp 133) (.tmp 141) 22 rfl bL 5 i0 (.int .u8 0) 1 1 Try.underlying22 hi hz0 hz1 hz2 rfl (by decide) (.slice xa (sg l st (st + m)).length xc) (sg l st (st + m)).length ((sg l st (st + m)).map B) rfl HRB.out ⟨wr.heap.size, 0, none⟩ 1 1 [.int .u8 (y : Int)] rfl rfl (fun j u hu => by match j, hu with | 0, hu => exact (HNB.out.cell 0 (by simp)).trans hu) (by intro u hu; simp at hu; subst hu; rfl) (by unfold maxLen; have := HsL.out; omega) (by have := HsL.out; omega) HZB.out ?_
        intro v7 w7 hown7 hgrow7 hnil7
        have hown7' : w7.ownsRow bL 5 1 v7 (sg l st (st + m) ++ [l.getD (st + m) 0]).length ((sg l st (st + m) ++ [l.getD (st + m) 0]).map B) := by rw [List.length_append, List.map_append]; rw [← HyB.out] at hown7; exact hown7
        obtain ⟨a7, c7, hv7⟩ := own_slice hown7'
        have HD7 : Hid (DL w0 (w7.setCell ⟨gl, xs.length * 3 + 1, none⟩ v7) rb bL (.slice (some ⟨g, off, none⟩) l.length cap) (.slice (some ⟨gl, 0, none⟩) (xs.length + 1) kZ) xs ⟨⟨(t.toNat : Int), sg l st (st + m) ++ [l.getD (st + m) 0], 0⟩, a7, c7⟩) := HDL.out.step HBB.out hv7 hown7' hgrow7
        have hlt7 : (Value.slice xa (sg l st (st + m)).length xc).ownBlock ≠ some rb := block_apart HRB.out (HDL.out.rd.below HBB.out HDL.out.rd.lt) (by decide)
        have hlg7 : (Value.slice xa (sg l st (st + m)).length xc).ownBlock ≠ some gl := fun e => kinds_apart HRB.out (own_below HDL.out.own HBB.out (Nat.le_refl _)) (by decide) e rfl
        have hgb7 : (Value.slice xa (sg l st (st + m)).length xc).ownBlock ≠ some g := fun e => by have := own_block HRB.out g e; have := HDL.out.lo; have := Hg0.out; omega
        have HK7 : Hid ((fun (w' : World) => w'.cell? ⟨rb, 1, none⟩ = some (.slice (some ⟨gl, 0, none⟩) (xs.length + 1) kZ) ∧ w'.cell? ⟨gl, xs.length * 3 + 1, none⟩ = some (.slice xa (sg l st (st + m)).length xc) ∧ w'.cell? ⟨rb, 0, none⟩ = some (.slice (some ⟨g, off, none⟩) l.length cap) ∧ w'.cell? ⟨g, off + (st + m), none⟩ = some (.int .u8 (y : Int))) w7) := ⟨hgrow7.cell HKB.out.1 (fun e => hlt7 e.symm), hgrow7.cell HKB.out.2.1 (fun e => hlg7 e.symm), hgrow7.cell HKB.out.2.2.1 (fun e => hlt7 e.symm), hgrow7.cell HKB.out.2.2.2 (fun e => hgb7 e.symm)⟩
        have fK7 : w7.frozen? ⟨gl, xs.length * 3 + 1, none⟩ = false := frozen_grown hgrow7 (own_frozen (own_below HDL.out.own HBB.out (Nat.le_refl _)) _) (fun e => hlg7 e.symm) (cell_lt HKB.out.2.1)
        have cK7 := HK7.out.2.1
        subst hv7
        clear hown7 hgrow7 hnil7 hown7' hlt7 hlg7 hgb7
        refine hK.out _ _ ?hk22 ?_
        case hk22 => exact fun _ => HK7.out
        have hHeld : (fun (w' : World) => w'.cell? ⟨rb, 1, none⟩ = some (.slice (some ⟨gl, 0, none⟩) (xs.length + 1) kZ) ∧ w'.cell? ⟨gl, xs.length * 3 + 1, none⟩ = some (.slice xa (sg l st (st + m)).length xc) ∧ w'.cell? ⟨rb, 0, none⟩ = some (.slice (some ⟨g, off, none⟩) l.length cap) ∧ w'.cell? ⟨g, off + (st + m), none⟩ = some (.int .u8 (y : Int))) _ := HK7.out
        clear hK K
        try simp only [Act.put, List.setIfInBounds_toArray, List.set_cons_zero, List.set_cons_succ]
        refine wpAnyK_take0 22 (v := ?v23) rfl (by kernel_rfl) (fun _ _ _ h => h) (Or.inl ⟨by rfl, ?hy23⟩) (fun _ => hHeld) ?_
        case hy23 => (intro w hSw; go_simp; first | with_reducible rfl | (simp only [if_pos hxI]; with_reducible rfl) | (simp only [if_pos hmI]; with_reducible rfl))
        try simp only [Act.put, List.setIfInBounds_toArray, List.set_cons_zero, List.set_cons_succ]
        refine wpAnyK_take0 23 (v := ?v24) rfl (by kernel_rfl) (fun _ _ _ h => h) (Or.inl ⟨by rfl, ?hy24⟩) (fun _ => hHeld) ?_
        case hy24 => (intro w hSw; go_simp; try with_reducible rfl)
        try simp only [Act.put, List.setIfInBounds_toArray, List.set_cons_zero, List.set_cons_succ]
        refine wpAnyK_step 24 rfl (by kernel_rfl) (fun K hK => ?_)
        go_simp
        refine hK.out _ _ ?hk25 ?_
        case hk25 => exact (fun h => nomatch (h.symm.trans (show _ = true by kernel_rfl)))
        clear hK K
        try simp only [Act.put, List.setIfInBounds_toArray, List.set_cons_zero, List.set_cons_succ]
        refine wpAnyK_done (by kernel_rfl) ?_ _
        go_wp2
        go_roundw
        case rel => exact ⟨m + 1, a7, c7, by go_num, by omega, by rw [Hsn.out]; have h9 := HD7; rw [show (sg l st (st + m) ++ [l.getD (st + m) 0]).length = (sg l st (st + m)).length + 1 from by simp] at h9; exact h9⟩
        case measure => simp [intOf]; omega
      · obtain rfl : m = n := by omega
        go_wp2
        go_ret
        exact ⟨by rw [show ((a + (1 + k + m) : Nat) : Int) = (st : Int) + (m : Int) from by have := Hst.out; omega]; rfl, _, ⟨⟨(t.toNat : Int), sg l st (st + m), 0⟩, xa, xc⟩, HDL.out.done, by have := Hst.out; rw [this]⟩
  · subst h2
    subst h1
    go_wp2_with fail
    refine (HCC.out _ _ (by rw [Nat.add_zero, sg_nil]; exact Rd.nil _ _)).mono ?_
    rintro e w8 ⟨rfl, rfl⟩
    obtain ⟨aL0, nL0, kL0, hlv0⟩ : ∃ a n c, lv = .slice a n c := (own_slice HS.out.own).elim fun a h => h.elim fun c e => ⟨a, _, c, e⟩
    have hnL0 : nL0 = xs.length := by
      obtain ⟨_, _, e⟩ := own_slice HS.out.own
      rw [hlv0] at e
      simp only [Value.slice.injEq] at e
      exact e.2.1
    subst hnL0
    subst hlv0
    have HBB : Hid (Below w8.heap.size w8 (w8.alloc (Obj.cells #[.int .i64 (t.toNat : Int), .slice none 0 0, .int .i64 0] 36))) := alloc_below w8 _
    have HSB : Hid (SR w0 (w8.alloc (Obj.cells #[.int .i64 (t.toNat : Int), .slice none 0 0, .int .i64 0] 36)) rb (.slice (some ⟨g, off, none⟩) l.length st) (.slice aL0 xs.length kL0) 0 0 xs) := HS.out.below HBB.out (Nat.le_refl _)
    have HNB : Hid (Bl 36 (w8.alloc (Obj.cells #[.int .i64 (t.toNat : Int), .slice none 0 0, .int .i64 0] 36)) w8.heap.size [.int .i64 (t.toNat : Int), .slice none 0 0, .int .i64 0]) := alloc_bl w8 _ _
    have f1 : ∀ (wY : World) (row : Option Nat), (w8.alloc (Obj.cells #[.int .i64 (t.toNat : Int), .slice none 0 0, .int .i64 0] 36)).grownBy wY row → row ≠ some rb → wY.frozen? ⟨rb, 1, none⟩ = false ∧ wY.cell? ⟨rb, 1, none⟩ = some (.slice aL0 xs.length kL0) := fun wY row hg hne => ⟨(bl_grown HSB.out.rd hg hne).frozen 1, (bl_grown HSB.out.rd hg hne).cell 1 (by simp)⟩
    go_wp2_with (at_builtin; refine wpList_append_own_wide _ rfl (.tmp 103) (.tmp 106) 24 rfl w0.heap.size 36 i1 (.agg #[.int .i64 0, .slice none 0 0, .int .i64 0]) 3 40 Try.underlying24 hj hy0 hy1 hy2 rfl (by decide) _ xs.length (xCs xs) rfl HSB.out.own ⟨w8.heap.size, 0, none⟩ 1 1 [.int .i64 (t.toNat : Int), .slice none 0 0, .int .i64 0] rfl rfl (fun j u hu => by match j, hu with | 0, hu => exact (HNB.out.cell 0 (by simp)).trans hu | 1, hu => exact (HNB.out.cell 1 (by simp)).trans hu | 2, hu => exact (HNB.out.cell 2 (by simp)).trans hu) (by intro u hu; simp at hu; rcases hu with rfl | rfl | rfl <;> rfl) (by unfold maxLen; omega) (by omega) HSB.out.bel.size ?_; intro vZ wY hownZ hgrowZ hnilZ; have HSZ : Hid (SR w0 (wY.setCell ⟨rb, 1, none⟩ vZ) rb (.slice (some ⟨g, off, none⟩) l.length st) vZ 0 0 (xs ++ [⟨⟨(t.toNat : Int), [], 0⟩, none, 0⟩])) := HS.out.push (x := ⟨⟨(t.toNat : Int), [], 0⟩, none, 0⟩) HBB.out (World.ownsRow_nil _ _ _ _) (fun g hg => by cases hg) ⟨by show (0 : Int) ≤ 0; decide, by show (0 : Int) ≤ 65536; decide⟩ hownZ hgrowZ; have f1' := (f1 wY _ hgrowZ (block_apart HSB.out.own HSB.out.rd (by decide))).1; have c1' := (f1 wY _ hgrowZ (block_apart HSB.out.own HSB.out.rd (by decide))).2; obtain ⟨aZ, kZ, rfl⟩ := own_slice hownZ; clear hownZ hgrowZ hnilZ)
    obtain ⟨gl, kl, hlZ, _, _⟩ := own_some HSZ.out.own (by simp)
    simp only [List.length_append, List.length_cons, List.length_nil, Value.slice.injEq] at hlZ
    obtain ⟨rfl, _, rfl⟩ := hlZ
    generalize (wY.setCell ⟨rb, 1, none⟩ (.slice (some ⟨gl, 0, none⟩) (xs.length + 1) kZ)) = wZ at *
    have HD0 : Hid (DL w0 wZ rb wZ.heap.size (.slice (some ⟨g, off, none⟩) l.length st) (.slice (some ⟨gl, 0, none⟩) (xs.length + 1) kZ) xs ⟨⟨(t.toNat : Int), [], 0⟩, none, 0⟩) := DL.start HSZ.out
    obtain ⟨bL, hbL⟩ : ∃ bL, bL = wZ.heap.size := ⟨_, rfl⟩
    rw [← hbL] at HD0
    clear hbL
    refine (HCI.out _).mono ?_
    rintro e wT ⟨rfl, rfl⟩
    clear f1 c1' f1' HSB HNB HBB HCI HCT HCC
    go_wp2
    go_loopw [16] (fun s16 wr => ∃ (m : Nat) (xa : Option Addr) (xc : Nat), s16 = .int .i64 ((st + m : Nat) : Int) ∧ m ≤ 0 ∧ Hid (DL w0 wr rb bL (.slice (some ⟨g, off, none⟩) l.length st) (.slice (some ⟨gl, 0, none⟩) (xs.length + 1) kZ) xs ⟨⟨(t.toNat : Int), sg l st (st + m), 0⟩, xa, xc⟩)) (fun s _ => st + 0 - (intOf s).toNat)
    case atStart => exact ⟨0, none, 0, by simp, Nat.zero_le _, (by have e0 : sg l st (st + 0) = [] := sg_nil l st; rw [e0]; exact HD0)⟩
    case round =>
      obtain ⟨m, xa, xc, rfl, hm, HDL⟩ := hrel
      obtain rfl : m = 0 := by omega
      go_wp2
      go_ret
      exact ⟨by rw [show ((a + (1 + k + 0) : Nat) : Int) = (st : Int) from by have := Hst.out; omega]; rfl, _, ⟨⟨(t.toNat : Int), sg l st (st + 0), 0⟩, xa, xc⟩, HDL.out.done, by have := Hst.out; rw [this]⟩

end Go.Proofs.Ytjncpibhnpoghaa
