import Derived.Test.YtjncpibhnpoghaaRf6
namespace Go.Proofs.Ytjncpibhnpoghaa
open Go.RowKit

/-- What reading an element comes to. -/
def RdP (w0 : World) (rb : Nat) (bv : Value) (xs : List X) (a : Nat) (r : Res) (e : Ending) (w' : World) : Prop :=
  match r with
  | .error (p, c) => e = .returned (.int .i64 ((a + p : Nat) : Int)) ∧ ∃ lv' ys, SR w0 w' rb bv lv' c ((a + p : Nat) : Int) (xs ++ ys)
  | .ok (ts, n) => e = .returned (.int .i64 ((a + n : Nat) : Int)) ∧ ∃ lv' ys, SR w0 w' rb bv lv' 0 0 (xs ++ ys) ∧ es ys = ts

def RdC (d : Nat) : Prop := ∀ (w0 w : World) (rb g off cap : Nat) (l : List UInt8) (lv : Value) (xs : List X) (a b : Nat) (op : Int),
  Rd w0 (some ⟨g, off, none⟩) l → l.length ≤ 65536 → l.length ≤ cap → cap ≤ 9223372036854775807 → SR w0 w rb (.slice (some ⟨g, off, none⟩) l.length cap) lv 0 0 xs → xs.length + (b - a) ≤ 65536 → a ≤ b → b ≤ l.length → op = 32 - (d : Int) →
  Calls Try.prog 22 #[.pointer (some ⟨rb, 0, none⟩), .int .i64 (a : Int), .int .i64 (b : Int), .int .i64 op] w fun e w' => RdP w0 rb (.slice (some ⟨g, off, none⟩) l.length cap) xs a (pe d (sg l a b)) e w'

/-- Going into an element: so far no fault. -/
def LA (w0 wr : World) (rb : Nat) (bv : Value) (xs : List X) (t : Int) (d : Nat) (l : List UInt8) (st n i : Nat) : Prop :=
  ∃ (m K : Nat) (ys : List X) (lv' : Value), m ≤ i ∧ ys.length ≤ i ∧ SR w0 wr rb bv lv' 0 0 (xs ++ ⟨⟨t, [], (m : Int)⟩, none, 0⟩ :: ys) ∧ n - i ≤ K ∧ pk (pe d) (sg l st (st + n)).length (sg l st (st + n)) = comb i (es ys) m (pk (pe d) K (sg l (st + i) (st + n)))
/-- Going into an element: a fault. -/
def LB (w0 wr : World) (rb : Nat) (bv : Value) (xs : List X) (d : Nat) (l : List UInt8) (st n i : Nat) : Prop :=
  ∃ (c : Int) (ys : List X) (lv' : Value), c ≠ 0 ∧ SR w0 wr rb bv lv' c ((st + i : Nat) : Int) (xs ++ ys) ∧ pk (pe d) (sg l st (st + n)).length (sg l st (st + n)) = .error (i, c)

set_option maxRecDepth 100000 in
set_option maxHeartbeats 8000000 in
theorem read_deep (w0 w : World) (rb g off cap : Nat) (l : List UInt8) (lv : Value) (xs : List X) (a b n k : Nat) (op : Int)
    (hr : Rd w0 (some ⟨g, off, none⟩) l) (hl : l.length ≤ 65536) (hc : l.length ≤ cap) (hc2 : cap ≤ 9223372036854775807) (hS : SR w0 w rb (.slice (some ⟨g, off, none⟩) l.length cap) lv 0 0 xs) (hab : a < b) (hb : b ≤ l.length) (hL : lenR (sg l (a + 1) b) = (n, k)) (hxs : xs.length + (b - a) ≤ 65536)
    (hk : 1 ≤ k) (hn : a + 1 + k + n ≤ b) (hT : tagR ((l.getD a 0).toNat : Int) = true) (hI : con ((l.getD a 0).toNat : Int) = true) (hop : op = 32) :
    Calls Try.prog 22 #[.pointer (some ⟨rb, 0, none⟩), .int .i64 (a : Int), .int .i64 (b : Int), .int .i64 op] w fun e w' => e = .returned (.int .i64 (a : Int)) ∧ ∃ lv' y, SR w0 w' rb (.slice (some ⟨g, off, none⟩) l.length cap) lv' 11 (a : Int) (xs ++ [y]) := by
  subst hop
  have c0 := hS.rd.cell 0 (by simp)
  simp only [List.getElem_cons_zero] at c0
  have hbel := hS.bel
  have hrw := hr.below hbel (Nat.le_refl _)
  have C := rlength_any g off cap l (a + 1) b w hrw hl (by omega) hb
  rw [hL, show ((a + 1 : Nat) : Int) = (a : Int) + 1 from by omega] at C
  have HC : Hid (Calls Try.prog 36 #[.slice (some ⟨g, off, none⟩) l.length cap, .int .i64 ((a : Int) + 1), .int .i64 (b : Int)] w fun e w' => e = .returned (.tuple #[.int .i64 (n : Int), .int .i64 (k : Int)]) ∧ w' = w) := C
  obtain ⟨_, _, e9, _, hcell⟩ := hrw.cell (by omega)
  cases e9
  have ga := hcell a (by omega)
  have HS : Hid (SR w0 w rb (.slice (some ⟨g, off, none⟩) l.length cap) lv 0 0 xs) := hS
  have HR : Hid (Rd w (some ⟨g, off, none⟩) l) := hrw
  have HB0 : Hid (Below w0.heap.size w0 w) := hbel
  have f2 := hS.rd.frozen 2
  have f3 := hS.rd.frozen 3
  have c2 := hS.rd.cell 2 (by simp)
  have c3 := hS.rd.cell 3 (by simp)
  simp only [List.getElem_cons_zero, List.getElem_cons_succ] at c2 c3
  have htl := u8_lt (l.getD a 0)
  clear C hS hrw hr hbel hcell hL
  generalize l.getD a 0 = t at *
  have hb0 : ((k : Int) == 0) = false := by rw [beq_eq_false_iff_ne]; omega
  have hb1 : decide ((b : Int) - ((a : Int) + 1 + (k : Int)) < (n : Int)) = false := decide_eq_false (by omega)
  have CT := fun w => rtag_any t.toNat htl w
  have CI := fun w => rinner_any t.toNat htl w
  rw [hT] at CT
  rw [hI] at CI
  have HCT : Hid (∀ w, Calls Try.prog 37 #[.int .i64 (t.toNat : Int)] w fun e w' => e = .returned (.bool true) ∧ w' = w) := CT
  have HCI : Hid (∀ w, Calls Try.prog 38 #[.int .i64 (t.toNat : Int)] w fun e w' => e = .returned (.bool true) ∧ w' = w) := CI
  clear CT CI hT hI c2 c3 f2 f3
  have cl1 := HS.out.rd.cell 1 (by simp)
  simp only [List.getElem_cons_zero, List.getElem_cons_succ] at cl1
  obtain ⟨i1, hj, hy0, hy1, hy2⟩ := info_parts infoT
  go_enter Try.func22, Try.ntmps22
  go_wp2_with fail
  refine HC.out.mono ?_
  rintro e w9 ⟨rfl, rfl⟩
  clear HC
  go_wp2_with fail
  refine (HCT.out _).mono ?_
  rintro e w8 ⟨rfl, rfl⟩
  go_wp2_with fail
  refine (HCI.out _).mono ?_
  rintro e w8 ⟨rfl, rfl⟩
  obtain ⟨aL0, nL0, kL0, hlv0⟩ : ∃ a n c, lv = .slice a n c := (own_slice HS.out.own).elim fun a h => h.elim fun c e => ⟨a, _, c, e⟩
  have hnL0 : nL0 = xs.length := by
    obtain ⟨_, _, e⟩ := own_slice HS.out.own
    rw [hlv0] at e
    simp only [Value.slice.injEq] at e
    exact e.2.1
  subst hnL0
  subst hlv0
  have HBB : Hid (Below w8.heap.size w8 (w8.alloc (Obj.cells #[.int .i64 (t.toNat : Int), .slice none 0 0, .int .i64 0] 36))) := alloc_below w8 _
  have HSB : Hid (SR w0 (w8.alloc (Obj.cells #[.int .i64 (t.toNat : Int), .slice none 0 0, .int .i64 0] 36)) rb (.slice (some ⟨g, off, none⟩) l.length cap) (.slice aL0 xs.length kL0) 0 0 xs) := HS.out.below HBB.out (Nat.le_refl _)
  have HNB : Hid (Bl 36 (w8.alloc (Obj.cells #[.int .i64 (t.toNat : Int), .slice none 0 0, .int .i64 0] 36)) w8.heap.size [.int .i64 (t.toNat : Int), .slice none 0 0, .int .i64 0]) := alloc_bl w8 _ _
  have f1 : ∀ (wY : World) (row : Option Nat), (w8.alloc (Obj.cells #[.int .i64 (t.toNat : Int), .slice none 0 0, .int .i64 0] 36)).grownBy wY row → row ≠ some rb → wY.frozen? ⟨rb, 1, none⟩ = false ∧ wY.cell? ⟨rb, 1, none⟩ = some (.slice aL0 xs.length kL0) := fun wY row hg hne => ⟨(bl_grown HSB.out.rd hg hne).frozen 1, (bl_grown HSB.out.rd hg hne).cell 1 (by simp)⟩
  go_wp2_with (at_builtin; refine wpList_append_own_wide _ rfl (.tmp 103) (.tmp 106) 24 rfl w0.heap.size 36 i1 (.agg #[.int .i64 0, .slice none 0 0, .int .i64 0]) 3 40 Try.underlying24 hj hy0 hy1 hy2 rfl (by decide) _ xs.length (xCs xs) rfl HSB.out.own ⟨w8.heap.size, 0, none⟩ 1 1 [.int .i64 (t.toNat : Int), .slice none 0 0, .int .i64 0] rfl rfl (fun j u hu => by match j, hu with | 0, hu => exact (HNB.out.cell 0 (by simp)).trans hu | 1, hu => exact (HNB.out.cell 1 (by simp)).trans hu | 2, hu => exact (HNB.out.cell 2 (by simp)).trans hu) (by intro u hu; simp at hu; rcases hu with rfl | rfl | rfl <;> rfl) (by unfold maxLen; omega) (by omega) HSB.out.bel.size ?_; intro vZ wY hownZ hgrowZ hnilZ; have HSZ : Hid (SR w0 (wY.setCell ⟨rb, 1, none⟩ vZ) rb (.slice (some ⟨g, off, none⟩) l.length cap) vZ 0 0 (xs ++ [⟨⟨(t.toNat : Int), [], 0⟩, none, 0⟩])) := HS.out.push (x := ⟨⟨(t.toNat : Int), [], 0⟩, none, 0⟩) HBB.out (World.ownsRow_nil _ _ _ _) (fun g hg => by cases hg) ⟨by show (0 : Int) ≤ 0; decide, by show (0 : Int) ≤ 65536; decide⟩ hownZ hgrowZ; have f1' := (f1 wY _ hgrowZ (block_apart HSB.out.own HSB.out.rd (by decide))).1; have c1' := (f1 wY _ hgrowZ (block_apart HSB.out.own HSB.out.rd (by decide))).2; obtain ⟨aZ, kZ, rfl⟩ := own_slice hownZ; clear hownZ hgrowZ hnilZ)
  obtain ⟨gl, kl, hlZ, _, _⟩ := own_some HSZ.out.own (by simp)
  simp only [List.length_append, List.length_cons, List.length_nil, Value.slice.injEq] at hlZ
  obtain ⟨rfl, _, rfl⟩ := hlZ
  generalize (wY.setCell ⟨rb, 1, none⟩ (.slice (some ⟨gl, 0, none⟩) (xs.length + 1) kZ)) = wZ at *
  refine (HCI.out _).mono ?_
  rintro e wT ⟨rfl, rfl⟩
  clear f1 c1' f1' HSB HNB HBB HCI HCT
  have f2 := HSZ.out.rd.frozen 2
  have f3 := HSZ.out.rd.frozen 3
  have c2 := HSZ.out.rd.cell 2 (by simp)
  have c3 := HSZ.out.rd.cell 3 (by simp)
  simp only [List.getElem_cons_zero, List.getElem_cons_succ] at c2 c3
  have HE : Hid _ := HSZ.out.err 11 (a : Int)
  clear HSZ
  go_wp2
  go_ret
  exact ⟨rfl, _, _, HE.out⟩

set_option maxRecDepth 100000 in
set_option maxHeartbeats 8000000 in
theorem read_con (d : Nat) (hd : d < 32) (hE : RdC d) (w0 w : World) (rb g off cap : Nat) (l : List UInt8) (lv : Value) (xs : List X) (a b n k : Nat) (op : Int)
    (hr : Rd w0 (some ⟨g, off, none⟩) l) (hl : l.length ≤ 65536) (hc : l.length ≤ cap) (hc2 : cap ≤ 9223372036854775807) (hS : SR w0 w rb (.slice (some ⟨g, off, none⟩) l.length cap) lv 0 0 xs) (hab : a < b) (hb : b ≤ l.length) (hL : lenR (sg l (a + 1) b) = (n, k)) (hxs : xs.length + (b - a) ≤ 65536)
    (hk : 1 ≤ k) (hn : a + 1 + k + n ≤ b) (hT : tagR ((l.getD a 0).toNat : Int) = true) (hI : con ((l.getD a 0).toNat : Int) = true) (hop : op = 31 - (d : Int)) (st : Nat) (hst : st = a + 1 + k) :
    Calls Try.prog 22 #[.pointer (some ⟨rb, 0, none⟩), .int .i64 (a : Int), .int .i64 (b : Int), .int .i64 op] w fun e w' => ∃ i, e = .returned (.int .i64 ((st + i : Nat) : Int)) ∧ ((i = n ∧ LA w0 w' rb (.slice (some ⟨g, off, none⟩) l.length cap) xs ((l.getD a 0).toNat : Int) d l st n i) ∨ LB w0 w' rb (.slice (some ⟨g, off, none⟩) l.length cap) xs d l st n i) := by
  have HE : Hid (RdC d) := hE
  have HR0 : Hid (Rd w0 (some ⟨g, off, none⟩) l) := hr
  have Hop : Hid (op = 31 - (d : Int)) := hop
  have ho1 : 0 ≤ op := by omega
  have ho2 : op < 32 := by omega
  clear hE hop
  have c0 := hS.rd.cell 0 (by simp)
  simp only [List.getElem_cons_zero] at c0
  have hbel := hS.bel
  have hrw := hr.below hbel (Nat.le_refl _)
  have C := rlength_any g off cap l (a + 1) b w hrw hl (by omega) hb
  rw [hL, show ((a + 1 : Nat) : Int) = (a : Int) + 1 from by omega] at C
  have HC : Hid (Calls Try.prog 36 #[.slice (some ⟨g, off, none⟩) l.length cap, .int .i64 ((a : Int) + 1), .int .i64 (b : Int)] w fun e w' => e = .returned (.tuple #[.int .i64 (n : Int), .int .i64 (k : Int)]) ∧ w' = w) := C
  obtain ⟨_, _, e9, _, hcell⟩ := hrw.cell (by omega)
  cases e9
  have ga := hcell a (by omega)
  have HS : Hid (SR w0 w rb (.slice (some ⟨g, off, none⟩) l.length cap) lv 0 0 xs) := hS
  have HR : Hid (Rd w (some ⟨g, off, none⟩) l) := hrw
  have HB0 : Hid (Below w0.heap.size w0 w) := hbel
  have f2 := hS.rd.frozen 2
  have f3 := hS.rd.frozen 3
  have c2 := hS.rd.cell 2 (by simp)
  have c3 := hS.rd.cell 3 (by simp)
  simp only [List.getElem_cons_zero, List.getElem_cons_succ] at c2 c3
  have htl := u8_lt (l.getD a 0)
  clear C hS hrw hr hbel hcell hL
  generalize l.getD a 0 = t at *
  have hb0 : ((k : Int) == 0) = false := by rw [beq_eq_false_iff_ne]; omega
  have hb1 : decide ((b : Int) - ((a : Int) + 1 + (k : Int)) < (n : Int)) = false := decide_eq_false (by omega)
  have CT := fun w => rtag_any t.toNat htl w
  have CI := fun w => rinner_any t.toNat htl w
  rw [hT] at CT
  rw [hI] at CI
  have HCT : Hid (∀ w, Calls Try.prog 37 #[.int .i64 (t.toNat : Int)] w fun e w' => e = .returned (.bool true) ∧ w' = w) := CT
  have HCI : Hid (∀ w, Calls Try.prog 38 #[.int .i64 (t.toNat : Int)] w fun e w' => e = .returned (.bool true) ∧ w' = w) := CI
  have Hst' : Hid (True → (a : Int) + 1 + (k : Int) = (st : Int)) := fun _ => by omega
  have hsnb : st + n ≤ b := by omega
  have hsa : a < st := by omega
  clear CT CI hT hI hst c2 c3 f2 f3
  have cl1 := HS.out.rd.cell 1 (by simp)
  simp only [List.getElem_cons_zero, List.getElem_cons_succ] at cl1
  obtain ⟨i1, hj, hy0, hy1, hy2⟩ := info_parts infoT
  go_enter Try.func22, Try.ntmps22
  go_wp2_with fail
  refine HC.out.mono ?_
  rintro e w9 ⟨rfl, rfl⟩
  clear HC
  go_wp2_with fail
  refine (HCT.out _).mono ?_
  rintro e w8 ⟨rfl, rfl⟩
  rw [Hst'.out trivial]
  go_wp2_with fail
  refine (HCI.out _).mono ?_
  rintro e w8 ⟨rfl, rfl⟩
  obtain ⟨aL0, nL0, kL0, hlv0⟩ : ∃ a n c, lv = .slice a n c := (own_slice HS.out.own).elim fun a h => h.elim fun c e => ⟨a, _, c, e⟩
  have hnL0 : nL0 = xs.length := by
    obtain ⟨_, _, e⟩ := own_slice HS.out.own
    rw [hlv0] at e
    simp only [Value.slice.injEq] at e
    exact e.2.1
  subst hnL0
  subst hlv0
  have HBB : Hid (Below w8.heap.size w8 (w8.alloc (Obj.cells #[.int .i64 (t.toNat : Int), .slice none 0 0, .int .i64 0] 36))) := alloc_below w8 _
  have HSB : Hid (SR w0 (w8.alloc (Obj.cells #[.int .i64 (t.toNat : Int), .slice none 0 0, .int .i64 0] 36)) rb (.slice (some ⟨g, off, none⟩) l.length cap) (.slice aL0 xs.length kL0) 0 0 xs) := HS.out.below HBB.out (Nat.le_refl _)
  have HNB : Hid (Bl 36 (w8.alloc (Obj.cells #[.int .i64 (t.toNat : Int), .slice none 0 0, .int .i64 0] 36)) w8.heap.size [.int .i64 (t.toNat : Int), .slice none 0 0, .int .i64 0]) := alloc_bl w8 _ _
  have f1 : ∀ (wY : World) (row : Option Nat), (w8.alloc (Obj.cells #[.int .i64 (t.toNat : Int), .slice none 0 0, .int .i64 0] 36)).grownBy wY row → row ≠ some rb → wY.frozen? ⟨rb, 1, none⟩ = false ∧ wY.cell? ⟨rb, 1, none⟩ = some (.slice aL0 xs.length kL0) := fun wY row hg hne => ⟨(bl_grown HSB.out.rd hg hne).frozen 1, (bl_grown HSB.out.rd hg hne).cell 1 (by simp)⟩
  go_wp2_with (at_builtin; refine wpList_append_own_wide _ rfl (.tmp 103) (.tmp 106) 24 rfl w0.heap.size 36 i1 (.agg #[.int .i64 0, .slice none 0 0, .int .i64 0]) 3 40 Try.underlying24 hj hy0 hy1 hy2 rfl (by decide) _ xs.length (xCs xs) rfl HSB.out.own ⟨w8.heap.size, 0, none⟩ 1 1 [.int .i64 (t.toNat : Int), .slice none 0 0, .int .i64 0] rfl rfl (fun j u hu => by match j, hu with | 0, hu => exact (HNB.out.cell 0 (by simp)).trans hu | 1, hu => exact (HNB.out.cell 1 (by simp)).trans hu | 2, hu => exact (HNB.out.cell 2 (by simp)).trans hu) (by intro u hu; simp at hu; rcases hu with rfl | rfl | rfl <;> rfl) (by unfold maxLen; omega) (by omega) HSB.out.bel.size ?_; intro vZ wY hownZ hgrowZ hnilZ; have HSZ : Hid (SR w0 (wY.setCell ⟨rb, 1, none⟩ vZ) rb (.slice (some ⟨g, off, none⟩) l.length cap) vZ 0 0 (xs ++ [⟨⟨(t.toNat : Int), [], 0⟩, none, 0⟩])) := HS.out.push (x := ⟨⟨(t.toNat : Int), [], 0⟩, none, 0⟩) HBB.out (World.ownsRow_nil _ _ _ _) (fun g hg => by cases hg) ⟨by show (0 : Int) ≤ 0; decide, by show (0 : Int) ≤ 65536; decide⟩ hownZ hgrowZ; have f1' := (f1 wY _ hgrowZ (block_apart HSB.out.own HSB.out.rd (by decide))).1; have c1' := (f1 wY _ hgrowZ (block_apart HSB.out.own HSB.out.rd (by decide))).2; obtain ⟨aZ, kZ, rfl⟩ := own_slice hownZ; clear hownZ hgrowZ hnilZ)
  obtain ⟨gl, kl, hlZ, _, _⟩ := own_some HSZ.out.own (by simp)
  simp only [List.length_append, List.length_cons, List.length_nil, Value.slice.injEq] at hlZ
  obtain ⟨rfl, _, rfl⟩ := hlZ
  generalize (wY.setCell ⟨rb, 1, none⟩ (.slice (some ⟨gl, 0, none⟩) (xs.length + 1) kZ)) = wZ at *
  refine (HCI.out _).mono ?_
  rintro e wT ⟨rfl, rfl⟩
  clear f1 c1' f1' HSB HNB HBB HCI HCT
  have H0 : Hid (LA w0 wT rb (.slice (some ⟨g, off, none⟩) l.length cap) xs (t.toNat : Int) d l st n 0) := by
    refine ⟨0, (sg l st (st + n)).length, [], _, Nat.le_refl _, Nat.le_refl _, HSZ.out, ?_, ?_⟩
    · rw [sg_length l st (st + n) (by omega) (by omega)]; omega
    · rw [Nat.add_zero]
      generalize pk (pe d) (sg l st (st + n)).length (sg l st (st + n)) = r
      match r with
      | .error (p, c) => simp [comb]
      | .ok (us, m) => simp [comb, es]
  clear HSZ
  go_wp2
  go_loopw [17] (fun s17 wr => ∃ (i : Nat), s17 = .int .i64 ((st + i : Nat) : Int) ∧ i ≤ n ∧ Hid (LA w0 wr rb (.slice (some ⟨g, off, none⟩) l.length cap) xs (t.toNat : Int) d l st n i ∨ LB w0 wr rb (.slice (some ⟨g, off, none⟩) l.length cap) xs d l st n i)) (fun s wr => @ite Nat (wr.cell? ⟨rb, 2, none⟩ = some (.int .i64 0)) (Classical.propDecidable _) (st + n + 1 - (intOf s).toNat) 0)
  case atStart => exact ⟨0, by simp, Nat.zero_le _, .inl H0.out⟩
  case round =>
    obtain ⟨i, rfl, hin, HL⟩ := hrel
    rcases HL.out with hA | hB
    · by_cases hlt : i < n
      · obtain ⟨m, K, ys, lv', hmi, hys, hS, hK1, hK⟩ := hA
        obtain ⟨K', rfl⟩ : ∃ K', K = K' + 1 := ⟨K - 1, by omega⟩
        have hne : sg l (st + i) (st + n) ≠ [] := fun e => by
          have := sg_length l (st + i) (st + n) (by omega) (by omega)
          rw [e] at this
          simp at this
          omega
        have hsl2 := sg_length l (st + i) (st + n) (by omega) (by omega)
        have C := HE.out w0 wr rb g off cap l lv' (xs ++ ⟨⟨(t.toNat : Int), [], (m : Int)⟩, none, 0⟩ :: ys) (st + i) (st + n) (op + 1) HR0.out hl hc hc2 hS (by simp only [List.length_append, List.length_cons]; omega) (by omega) (by omega) (by have := Hop.out; omega)
        have HKe : Hid (∀ p c, pe d (sg l (st + i) (st + n)) = .error (p, c) → pk (pe d) (sg l st (st + n)).length (sg l st (st + n)) = .error (i + p, c)) := fun p c h => by
          rw [hK, pk, if_neg hne, h]; rfl
        have HKo : Hid (∀ ts q, pe d (sg l (st + i) (st + n)) = .ok (ts, q) → pk (pe d) (sg l st (st + n)).length (sg l st (st + n)) = comb (i + q) (es ys ++ ts) (m + 1) (pk (pe d) K' (sg l (st + (i + q)) (st + n)))) := fun ts q h => by
          rw [hK, pk, if_neg hne, h]
          simp only [sg_drop]
          rw [Nat.add_assoc]
          exact comb_step _ _ _ _ _ _
        have hcnt := fun ts q => pe_count (d := d) (l := sg l (st + i) (st + n)) (ts := ts) (n := q) (by omega)
        have hcode := pe_code d (sg l (st + i) (st + n))
        have herr := fun p c => pe_err d (sg l (st + i) (st + n)) p c (by omega)
        rw [hsl2] at hcnt herr
        have c2 := hS.rd.cell 2 (by simp)
        simp only [List.getElem_cons_zero, List.getElem_cons_succ] at c2
        rw [show ((st + i : Nat) : Int) = (st : Int) + (i : Int) from by omega, show ((st + n : Nat) : Int) = (st : Int) + (n : Int) from by omega] at C
        have HC2 : Hid (wr.cell? ⟨rb, 2, none⟩ = some (.int .i64 0)) := c2
        clear hK hne HE hsl2 hS HL
        generalize pe d (sg l (st + i) (st + n)) = r at *
        go_wp2_with fail
        refine C.mono ?_
        intro e w1 hres
        clear C
        have key : ∃ (q : Nat) (er pl : Int) (zs : List X) (lv2 : Value), e = .returned (.int .i64 ((st + i + q : Nat) : Int)) ∧ i + q ≤ n ∧ SR w0 w1 rb (.slice (some ⟨g, off, none⟩) l.length cap) lv2 er pl (xs ++ ⟨⟨(t.toNat : Int), [], (m : Int)⟩, none, 0⟩ :: (ys ++ zs)) ∧ ((er = 0 ∧ pl = 0 ∧ 0 < q ∧ zs.length ≤ q ∧ pk (pe d) (sg l st (st + n)).length (sg l st (st + n)) = comb (i + q) (es (ys ++ zs)) (m + 1) (pk (pe d) K' (sg l (st + (i + q)) (st + n)))) ∨ (er ≠ 0 ∧ pl = ((st + (i + q) : Nat) : Int) ∧ pk (pe d) (sg l st (st + n)).length (sg l st (st + n)) = .error (i + q, er))) := by
          match r, hres, HKe, HKo, hcnt, hcode, herr with
          | .error (p, c), hres, HKe, HKo, _, hcode, herr =>
            obtain ⟨he, lv2, zs, hS2⟩ := hres
            rw [List.append_assoc, List.cons_append] at hS2
            have h1 := hcode p c rfl
            have h2 := herr p c rfl
            exact ⟨p, c, _, zs, lv2, he, by omega, hS2, .inr ⟨by omega, by rw [Nat.add_assoc], HKe.out p c rfl⟩⟩
          | .ok (ts, q), hres, HKe, HKo, hcnt, _, _ =>
            obtain ⟨he, lv2, zs, hS2, hzs⟩ := hres
            rw [List.append_assoc, List.cons_append] at hS2
            obtain ⟨h1, h2, h3⟩ := hcnt ts q rfl
            have h4 := HKo.out ts q rfl
            have h5 := congrArg List.length hzs
            rw [es_length] at h5
            exact ⟨q, 0, 0, zs, lv2, he, by omega, hS2, .inl ⟨rfl, rfl, h3, by omega, by rw [es_append, hzs]; exact h4⟩⟩
        clear hres HKe HKo hcnt hcode herr
        obtain ⟨q, er, pl, zs, lv2, rfl, hq, hS2, hcase⟩ := key
        have c1' := hS2.rd.cell 1 (by simp)
        simp only [List.getElem_cons_zero, List.getElem_cons_succ] at c1'
        obtain ⟨g2, cl, hlv, hlc1, hlc2⟩ := own_some hS2.own (by simp only [List.length_append, List.length_cons]; omega)
        subst hlv
        have cK : w1.cell? ⟨g2, xs.length * 3 + 2, none⟩ = some (.int .i64 (m : Int)) := by
          rw [hS2.own.cellAt _ (by simp; omega)]
          exact xCs_at xs (ys ++ zs) _
        have fK := hS2.own.frozenAt (xs.length * 3 + 2)
        have HS4 : Hid _ := hS2.kid (v := ((m + 1 : Nat) : Int)) ⟨by omega, by omega⟩
        have HC4 : Hid ((w1.setCell ⟨g2, xs.length * 3 + 2, none⟩ (.int .i64 ((m + 1 : Nat) : Int))).cell? ⟨rb, 2, none⟩ = some (.int .i64 er)) := HS4.out.rd.cell 2 (by simp)
        have hmb : m < 65536 := by omega
        have hNl : xs.length < (xs ++ (⟨⟨(t.toNat : Int), [], (m : Int)⟩, none, 0⟩ : X) :: (ys ++ zs)).length := by simp
        have hmq : m + 1 ≤ i + 1 := by omega
        have HLL : Hid (LA w0 (w1.setCell ⟨g2, xs.length * 3 + 2, none⟩ (.int .i64 ((m + 1 : Nat) : Int))) rb (.slice (some ⟨g, off, none⟩) l.length cap) xs (t.toNat : Int) d l st n (i + q) ∧ 0 < q ∨ LB w0 (w1.setCell ⟨g2, xs.length * 3 + 2, none⟩ (.int .i64 ((m + 1 : Nat) : Int))) rb (.slice (some ⟨g, off, none⟩) l.length cap) xs d l st n (i + q) ∧ er ≠ 0) := by
          rcases hcase with ⟨rfl, rfl, h1, h2, h3⟩ | ⟨h1, rfl, h3⟩
          · exact .inl ⟨⟨m + 1, K', ys ++ zs, _, by omega, by rw [List.length_append]; omega, HS4.out, by omega, h3⟩, h1⟩
          · exact .inr ⟨⟨er, _, _, h1, HS4.out, h3⟩, h1⟩
        generalize (xs ++ (⟨⟨(t.toNat : Int), [], (m : Int)⟩, none, 0⟩ : X) :: (ys ++ zs)).length = NN at *
        clear hS2 HS4 hcase
        go_wp2
        go_roundw
        case rel => exact ⟨i + q, by go_num, by omega, HLL.out.elim (fun h => .inl h.1) (fun h => .inr h.1)⟩
        case measure =>
          have h4 : (w1.setCell ⟨g2, xs.length * 3 + 2, none⟩ (.int .i64 ((m : Int) + 1))).cell? ⟨rb, 2, none⟩ = some (.int .i64 er) := HC4.out
          rw [h4, if_pos HC2.out]
          rcases HLL.out with ⟨_, hq0⟩ | ⟨_, he0⟩
          · split
            · simp only [intOf]; omega
            · simp only [intOf]; omega
          · rw [if_neg (fun e => he0 (by simpa using e))]
            simp only [intOf]; omega
      · obtain rfl : i = n := by omega
        have HA : Hid (LA w0 wr rb (.slice (some ⟨g, off, none⟩) l.length cap) xs (t.toNat : Int) d l st i i) := hA
        clear hA HL
        go_wp2
        go_ret
        exact ⟨i, rfl, .inl ⟨rfl, HA.out⟩⟩
    · have HB : Hid (LB w0 wr rb (.slice (some ⟨g, off, none⟩) l.length cap) xs d l st n i) := hB
      obtain ⟨c, ys, lv', hc0, hS, _⟩ := hB
      have c2 := hS.rd.cell 2 (by simp)
      simp only [List.getElem_cons_zero, List.getElem_cons_succ] at c2
      clear hS HL
      by_cases hlt : i < n
      · go_wp2
        go_ret
        exact ⟨i, rfl, .inr HB.out⟩
      · obtain rfl : i = n := by omega
        go_wp2
        go_ret
        exact ⟨i, rfl, .inr HB.out⟩

end Go.Proofs.Ytjncpibhnpoghaa
