import Derived.Test.YtjncpibhnpoghaaRf3
namespace Go.Proofs.Ytjncpibhnpoghaa
open Go.RowKit

theorem sg_cons (l : List UInt8) (a b : Nat) (hab : a < b) (hb : b ≤ l.length) : sg l a b = l.getD a 0 :: sg l (a + 1) b := by
  have h1 := sg_length l a b (by omega) hb
  have h2 : (sg l a b).drop 1 = sg l (a + 1) b := sg_drop l a b 1
  have h3 := sg_head l a b hab hb
  match hs : sg l a b with
  | [] => rw [hs] at h1; simp at h1; omega
  | y :: q =>
    rw [hs] at h2 h3
    simp only [List.drop_succ_cons, List.drop_zero, List.getD_cons_zero] at h2 h3
    rw [h2, h3]

set_option maxRecDepth 100000 in
set_option maxHeartbeats 4000000 in
theorem read_end (w0 w : World) (rb : Nat) (bv lv : Value) (xs : List X) (a : Nat) (op : Int) (hS : SR w0 w rb bv lv 0 0 xs) :
    Calls Try.prog 22 #[.pointer (some ⟨rb, 0, none⟩), .int .i64 (a : Int), .int .i64 (a : Int), .int .i64 op] w fun e w' => e = .returned (.int .i64 (a : Int)) ∧ SR w0 w' rb bv lv 80 (a : Int) xs := by
  have f2 := hS.rd.frozen 2
  have f3 := hS.rd.frozen 3
  have c2 := hS.rd.cell 2 (by simp)
  have c3 := hS.rd.cell 3 (by simp)
  simp only [List.getElem_cons_zero, List.getElem_cons_succ] at c2 c3
  have HE : Hid _ := hS.err 80 (a : Int)
  clear hS
  go_enter Try.func22, Try.ntmps22
  go_wp2
  go_ret
  exact ⟨rfl, HE.out⟩

set_option maxRecDepth 100000 in
set_option maxHeartbeats 4000000 in
theorem read_none (w0 w : World) (rb g off cap : Nat) (l : List UInt8) (lv : Value) (xs : List X) (a b n k : Nat) (op : Int)
    (hr : Rd w0 (some ⟨g, off, none⟩) l) (hl : l.length ≤ 65536) (hc : l.length ≤ cap) (hc2 : cap ≤ 9223372036854775807) (hS : SR w0 w rb (.slice (some ⟨g, off, none⟩) l.length cap) lv 0 0 xs) (hab : a < b) (hb : b ≤ l.length) (hL : lenR (sg l (a + 1) b) = (n, k))
    (hm : k = 0 ∨ b < a + 1 + k + n) (hk : k ≤ 5) (_hn : n ≤ 4294967296) :
    Calls Try.prog 22 #[.pointer (some ⟨rb, 0, none⟩), .int .i64 (a : Int), .int .i64 (b : Int), .int .i64 op] w fun e w' => e = .returned (.int .i64 (a : Int)) ∧ SR w0 w' rb (.slice (some ⟨g, off, none⟩) l.length cap) lv 80 (a : Int) xs := by
  have c0 := hS.rd.cell 0 (by simp)
  simp only [List.getElem_cons_zero] at c0
  have hbel := hS.bel
  have hrw := hr.below hbel (Nat.le_refl _)
  have C := rlength_any g off cap l (a + 1) b w hrw hl (by omega) hb
  rw [hL, show ((a + 1 : Nat) : Int) = (a : Int) + 1 from by omega] at C
  have HC : Hid (Calls Try.prog 36 #[.slice (some ⟨g, off, none⟩) l.length cap, .int .i64 ((a : Int) + 1), .int .i64 (b : Int)] w fun e w' => e = .returned (.tuple #[.int .i64 (n : Int), .int .i64 (k : Int)]) ∧ w' = w) := C
  obtain ⟨_, _, e9, _, hcell⟩ := hrw.cell (by omega)
  cases e9
  have ga := hcell a (by omega)
  have HS : Hid (SR w0 w rb (.slice (some ⟨g, off, none⟩) l.length cap) lv 0 0 xs) := hS
  have HR : Hid (Rd w (some ⟨g, off, none⟩) l) := hrw
  have HB0 : Hid (Below w0.heap.size w0 w) := hbel
  have f2 := hS.rd.frozen 2
  have f3 := hS.rd.frozen 3
  have c2 := hS.rd.cell 2 (by simp)
  have c3 := hS.rd.cell 3 (by simp)
  simp only [List.getElem_cons_zero, List.getElem_cons_succ] at c2 c3
  have htl := u8_lt (l.getD a 0)
  clear C hS hrw hr hbel hcell hL
  generalize l.getD a 0 = t at *
  have HE : Hid _ := HS.out.err 80 (a : Int)
  by_cases hk0 : k = 0
  · subst hk0
    clear hm HS
    go_enter Try.func22, Try.ntmps22
    go_wp2_with fail
    refine HC.out.mono ?_
    rintro e w9 ⟨rfl, rfl⟩
    clear HC
    go_wp2
    go_ret
    exact ⟨rfl, HE.out⟩
  · have hb0 : ((k : Int) == 0) = false := by rw [beq_eq_false_iff_ne]; omega
    have hb1 : decide ((b : Int) - ((a : Int) + 1 + (k : Int)) < (n : Int)) = true := decide_eq_true (by omega)
    clear hm HS
    go_enter Try.func22, Try.ntmps22
    go_wp2_with fail
    refine HC.out.mono ?_
    rintro e w9 ⟨rfl, rfl⟩
    clear HC
    go_wp2
    go_ret
    exact ⟨rfl, HE.out⟩

set_option maxRecDepth 100000 in
set_option maxHeartbeats 4000000 in
theorem read_bad (w0 w : World) (rb g off cap : Nat) (l : List UInt8) (lv : Value) (xs : List X) (a b n k : Nat) (op : Int)
    (hr : Rd w0 (some ⟨g, off, none⟩) l) (hl : l.length ≤ 65536) (hc : l.length ≤ cap) (hc2 : cap ≤ 9223372036854775807) (hS : SR w0 w rb (.slice (some ⟨g, off, none⟩) l.length cap) lv 0 0 xs) (hab : a < b) (hb : b ≤ l.length) (hL : lenR (sg l (a + 1) b) = (n, k))
    (hk : 1 ≤ k) (hn : a + 1 + k + n ≤ b) (hbad : tagR ((l.getD a 0).toNat : Int) = false ∨ (con ((l.getD a 0).toNat : Int) = false ∧ contR ((l.getD a 0).toNat : Int) (sg l (a + 1 + k) (a + 1 + k + n)) = false)) :
    Calls Try.prog 22 #[.pointer (some ⟨rb, 0, none⟩), .int .i64 (a : Int), .int .i64 (b : Int), .int .i64 op] w fun e w' => e = .returned (.int .i64 (a : Int)) ∧ SR w0 w' rb (.slice (some ⟨g, off, none⟩) l.length cap) lv 80 (a : Int) xs := by
  have c0 := hS.rd.cell 0 (by simp)
  simp only [List.getElem_cons_zero] at c0
  have hbel := hS.bel
  have hrw := hr.below hbel (Nat.le_refl _)
  have C := rlength_any g off cap l (a + 1) b w hrw hl (by omega) hb
  rw [hL, show ((a + 1 : Nat) : Int) = (a : Int) + 1 from by omega] at C
  have HC : Hid (Calls Try.prog 36 #[.slice (some ⟨g, off, none⟩) l.length cap, .int .i64 ((a : Int) + 1), .int .i64 (b : Int)] w fun e w' => e = .returned (.tuple #[.int .i64 (n : Int), .int .i64 (k : Int)]) ∧ w' = w) := C
  obtain ⟨_, _, e9, _, hcell⟩ := hrw.cell (by omega)
  cases e9
  have ga := hcell a (by omega)
  have HS : Hid (SR w0 w rb (.slice (some ⟨g, off, none⟩) l.length cap) lv 0 0 xs) := hS
  have HR : Hid (Rd w (some ⟨g, off, none⟩) l) := hrw
  have HB0 : Hid (Below w0.heap.size w0 w) := hbel
  have f2 := hS.rd.frozen 2
  have f3 := hS.rd.frozen 3
  have c2 := hS.rd.cell 2 (by simp)
  have c3 := hS.rd.cell 3 (by simp)
  simp only [List.getElem_cons_zero, List.getElem_cons_succ] at c2 c3
  have htl := u8_lt (l.getD a 0)
  clear C hS hrw hr hbel hcell hL
  generalize l.getD a 0 = t at *
  have hb0 : ((k : Int) == 0) = false := by rw [beq_eq_false_iff_ne]; omega
  have hb1 : decide ((b : Int) - ((a : Int) + 1 + (k : Int)) < (n : Int)) = false := decide_eq_false (by omega)
  have CT := fun w => rtag_any t.toNat htl w
  have CI := fun w => rinner_any t.toNat htl w
  have HE : Hid _ := HS.out.err 80 (a : Int)
  cases hT : tagR (t.toNat : Int) with
  | false =>
    rw [hT] at CT
    have HCT : Hid (∀ w, Calls Try.prog 37 #[.int .i64 (t.toNat : Int)] w fun e w' => e = .returned (.bool false) ∧ w' = w) := CT
    clear CT CI hbad HS
    go_enter Try.func22, Try.ntmps22
    go_wp2_with fail
    refine HC.out.mono ?_
    rintro e w9 ⟨rfl, rfl⟩
    clear HC
    go_wp2_with fail
    refine (HCT.out _).mono ?_
    rintro e w8 ⟨rfl, rfl⟩
    go_wp2
    go_ret
    exact ⟨rfl, HE.out⟩
  | true =>
    rw [hT] at hbad
    have hb2 : con (t.toNat : Int) = false ∧ contR (t.toNat : Int) (sg l (a + 1 + k) (a + 1 + k + n)) = false := by
      rcases hbad with h | h
      · cases h
      · exact h
    rw [hT] at CT
    rw [hb2.1] at CI
    have HCT : Hid (∀ w, Calls Try.prog 37 #[.int .i64 (t.toNat : Int)] w fun e w' => e = .returned (.bool true) ∧ w' = w) := CT
    have HCI : Hid (∀ w, Calls Try.prog 38 #[.int .i64 (t.toNat : Int)] w fun e w' => e = .returned (.bool false) ∧ w' = w) := CI
    obtain ⟨st, hst⟩ : ∃ st, st = a + 1 + k := ⟨_, rfl⟩
    obtain ⟨sp, hsp⟩ : ∃ sp, sp = st + n := ⟨_, rfl⟩
    rw [← hst, ← hsp] at hb2
    have hsl := sg_length l st sp (by omega) (by omega)
    have CC := fun ad cc (h : Rd w ad (sg l st sp)) => rcont_any (t.toNat : Int) ad cc (sg l st sp) w h (by omega)
    rw [hb2.2, hsl, show sp - st = n from by omega] at CC
    have HCC : Hid (∀ ad cc, Rd w ad (sg l st sp) → Calls Try.prog 39 #[.int .i64 (t.toNat : Int), .slice ad n cc] w fun e w' => e = .returned (.bool false) ∧ w' = w) := CC
    have Hst' : Hid (True → (a : Int) + 1 + (k : Int) = (st : Int)) := fun _ => by omega
    have Hsp' : Hid (True → (st : Int) + (n : Int) = (sp : Int)) := fun _ => by omega
    have Hsl : Hid ((sg l st sp).length = sp - st) := hsl
    have hstp : st ≤ sp := by omega
    have hspc : sp ≤ cap := by omega
    have hsps : (a : Int) + 1 + (k : Int) + (n : Int) - ((a : Int) + 1 + (k : Int)) = (n : Int) := by omega
    have hstc : st < cap ∨ (st = cap ∧ n = 0) := by omega
    have hsnc : st + n ≤ cap := by omega
    have Hspn : Hid (sp = st + n) := hsp
    clear CT CI CC hbad HS hb2 hT hsl hst hsp hsps
    go_enter Try.func22, Try.ntmps22
    go_wp2_with fail
    refine HC.out.mono ?_
    rintro e w9 ⟨rfl, rfl⟩
    clear HC
    go_wp2_with fail
    refine (HCT.out _).mono ?_
    rintro e w8 ⟨rfl, rfl⟩
    rw [Hst'.out trivial]
    go_wp2_with fail
    refine (HCI.out _).mono ?_
    rintro e w8 ⟨rfl, rfl⟩
    rcases hstc with hstc | ⟨h1, h2⟩
    · have hne : ¬ cap = st := by omega
      go_wp2_with fail
      refine (HCC.out _ _ (HR.out.sg st sp)).mono ?_
      rintro e w8 ⟨rfl, rfl⟩
      go_wp2
      go_ret
      exact ⟨rfl, HE.out⟩
    · subst h2
      subst h1
      go_wp2_with fail
      refine (HCC.out _ _ (by rw [Hspn.out, Nat.add_zero, sg_nil]; exact Rd.nil _ _)).mono ?_
      rintro e w8 ⟨rfl, rfl⟩
      go_wp2
      go_ret
      exact ⟨rfl, HE.out⟩

end Go.Proofs.Ytjncpibhnpoghaa
