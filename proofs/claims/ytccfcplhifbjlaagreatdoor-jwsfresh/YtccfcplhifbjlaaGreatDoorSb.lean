import Derived.Test.YtccfcplhifbjlaaGreatDoorSa
namespace Go.Proofs.YtccfcplhifbjlaaGreatDoor
open Go.RowKit Go.Shelf
set_option maxRecDepth 100000

theorem results_tmp4 {fn : Func} {t u v x : Tmp} (h : fn.results = #[.tmp t, .tmp u, .tmp v, .tmp x]) (tmps : Array Value) (P : Program) (w : World) :
    (results fn tmps).run P w = .ok (.tuple #[tmps.getD t undef, tmps.getD u undef, tmps.getD v undef, tmps.getD x undef]) w := by
  simp [results, h]

/-- strings.Cut at the first dot. -/
theorem scut_any (a b : List UInt8) (w : World) (ha : a.count 46 = 0) (hl : (a ++ 46 :: b).length ≤ 1073741824) : Calls Tryz.prog 32 #[.string ⟨(a ++ 46 :: b).toArray⟩, .string ⟨#[46]⟩] w fun e w' => e = .returned (.tuple #[.string ⟨a.toArray⟩, .string ⟨b.toArray⟩, .bool true]) ∧ ∃ q, w' = w.drewN q := by
  have C := slcut_any a b w ha hl
  generalize a ++ 46 :: b = t at *
  go_enter Tryz.func32, Tryz.ntmps32
  go_wp2_with fail
  refine C.mono ?_
  clear C
  rintro e w1 ⟨rfl, q, rfl⟩
  go_wp2
  go_ret3
  exact ⟨rfl, q, rfl⟩

set_option maxHeartbeats 1000000 in
theorem split_any (t : List UInt8) (w : World) : Calls Tryz.prog 11 #[.string ⟨t.toArray⟩] w fun e w' => e = .returned (.tuple #[.string ⟨(splF t).1.1.toArray⟩, .string ⟨(splF t).1.2.1.toArray⟩, .string ⟨(splF t).1.2.2.toArray⟩, .int .i64 ((splF t).2 : Nat)]) ∧ Below w.heap.size w w' := by
  by_cases h1 : 65536 < t.length
  · rw [splF_large h1]
    have c1 : decide ((t.length : Int) > 65536) = true := decide_eq_true (by omega)
    go_enter Tryz.func11, Tryz.ntmps11
    go_wp2
    ((try simp only [Exit.inBlock, Exit.then]); refine bodyPost_ret (results_tmp4 rfl _ _ _) rfl ?_)
    exact ⟨rfl, Below.refl _ _⟩
  · have c1 : decide ((t.length : Int) > 65536) = false := decide_eq_false (by omega)
    by_cases h2 : t.count 46 = 2
    · obtain ⟨a, b, c, rfl, ha, hb, hc⟩ := three h2
      rw [splF_ok (by omega) ha hb hc]
      have C1 := count_any (a ++ 46 :: (b ++ 46 :: c)) w
      rw [h2] at C1
      have hl1 : a.length ≤ 65536 ∧ b.length ≤ 65536 ∧ c.length ≤ 65536 := by simp at h1; omega
      obtain ⟨hla, hlb, hlc⟩ := hl1
      have C2 := scut_any a (b ++ 46 :: c) w ha (by omega)
      have C3 : Hid (∀ w : World, Calls Tryz.prog 32 #[.string ⟨(b ++ 46 :: c).toArray⟩, .string ⟨#[46]⟩] w fun e w' => e = .returned (.tuple #[.string ⟨b.toArray⟩, .string ⟨c.toArray⟩, .bool true]) ∧ ∃ q, w' = w.drewN q) := fun w => scut_any b c w hb (by simp at h1 ⊢; omega)
      generalize b ++ 46 :: c = r at *
      generalize a ++ 46 :: r = t at *
      clear h2
      go_enter Tryz.func11, Tryz.ntmps11
      go_wp2_with fail
      refine C1.mono ?_
      clear C1
      rintro e w1 ⟨rfl, rfl⟩
      go_wp2_with fail
      refine C2.mono ?_
      clear C2
      rintro e w2 ⟨rfl, q2, rfl⟩
      go_wp2_with fail
      refine (C3.out _).mono ?_
      clear C3
      rintro e w3 ⟨rfl, q3, rfl⟩
      go_wp2_with fail
      refine (sclone_any a _ (by omega)).mono ?_
      rintro e w4 ⟨rfl, B4⟩
      go_wp2_with fail
      refine (sclone_any b _ (by omega)).mono ?_
      rintro e w5 ⟨rfl, B5⟩
      go_wp2_with fail
      refine (sclone_any c _ (by omega)).mono ?_
      rintro e w6 ⟨rfl, B6⟩
      go_wp2
      ((try simp only [Exit.inBlock, Exit.then]); refine bodyPost_ret (results_tmp4 rfl _ _ _) rfl ?_)
      exact ⟨rfl, (below_drewN (Below.refl _ _) (q2 + q3)).trans (B4.trans ((B5.mono B4.size).trans (B6.mono (Nat.le_trans B4.size B5.size))))⟩
    · rw [splF_dots (by omega) h2]
      have C1 := count_any t w
      have c2 : (((t.count 46 : Nat) : Int) != 2) = true := by simp; omega
      generalize t.count 46 = n at *
      go_enter Tryz.func11, Tryz.ntmps11
      go_wp2_with fail
      refine C1.mono ?_
      clear C1
      rintro e w1 ⟨rfl, rfl⟩
      go_wp2
      ((try simp only [Exit.inBlock, Exit.then]); refine bodyPost_ret (results_tmp4 rfl _ _ _) rfl ?_)
      exact ⟨rfl, Below.refl _ _⟩

/-- A list of numbers of one's own. -/
def zV (i : Nat) : Value := .int .i64 (i : Int)
theorem infoI : (Tryz.prog.info? 3).map (fun i => (i.zero, i.size, i.bytes)) = some (some (.int .i64 0), 1, 8) := by kernel_rfl
structure OZ (B : Nat) (w0 w : World) (v : Value) (l : List Nat) : Prop where
  own : w.ownsRow B 3 1 v l.length (l.map zV)
  bel : Below B w0 w
theorem OZ.lift {B : Nat} {w0 w w' : World} {v : Value} {l : List Nat} (h : OZ B w0 w v l) (hb : Below w.heap.size w w') (hB : B ≤ w0.heap.size) : OZ B w0 w' v l :=
  ⟨own_below h.own hb (Nat.le_refl _), h.bel.trans (hb.mono (Nat.le_trans hB h.bel.size))⟩
theorem OZ.slice {B : Nat} {w0 w : World} {v : Value} {l : List Nat} (h : OZ B w0 w v l) : ∃ a c, v = .slice a l.length c := by
  rcases h.own.2 with ⟨rfl, h0⟩ | ⟨g, cap, cur, rfl, _⟩
  · exact ⟨none, 0, by rw [h0]⟩
  · exact ⟨_, cap, rfl⟩
theorem OZ.two {B : Nat} {w0 w : World} {a : Option Addr} {n c i j : Nat} (h : OZ B w0 w (.slice a n c) [i, j]) : ∃ g, a = some ⟨g, 0, none⟩ ∧ w.cell? ⟨g, 0, none⟩ = some (.int .i64 (i : Int)) ∧ w.cell? ⟨g, 1, none⟩ = some (.int .i64 (j : Int)) := by
  have h1 := h.own
  rcases h1.2 with ⟨_, h0⟩ | ⟨g, cap, cur, e, _⟩
  · simp at h0
  · have e' := e
    injection e with e1 e2 e3
    subst e1
    rw [e'] at h1
    exact ⟨g, rfl, h1.cellAt 0 (by simp), h1.cellAt 1 (by simp)⟩

theorem sub_mid (a b c : List UInt8) (n m : Nat) (hn : n = a.length + 1) (hm : m = a.length + 1 + b.length) : (⟨(a ++ 46 :: (b ++ 46 :: c)).toArray⟩ : ByteArray).extract n m = ⟨b.toArray⟩ := by
  subst hn; subst hm
  rw [Lib.extract_eq]
  congr 2
  have e : a ++ 46 :: (b ++ 46 :: c) = (a ++ [46]) ++ (b ++ 46 :: c) := by simp
  show List.take (a.length + 1 + b.length - (a.length + 1)) (List.drop (a.length + 1) (a ++ 46 :: (b ++ 46 :: c))) = b
  rw [e, List.drop_append_of_le_length (by simp), List.drop_of_length_le (by simp), List.nil_append, show a.length + 1 + b.length - (a.length + 1) = b.length by omega, List.take_append_of_le_length (Nat.le_refl _), List.take_length]
theorem sub_end (a b c : List UInt8) (n m : Nat) (hn : n = a.length + 1 + b.length + 1) (hm : (a ++ 46 :: (b ++ 46 :: c)).length ≤ m) : (⟨(a ++ 46 :: (b ++ 46 :: c)).toArray⟩ : ByteArray).extract n m = ⟨c.toArray⟩ := by
  subst hn
  rw [Lib.extract_eq]
  congr 2
  have e : a ++ 46 :: (b ++ 46 :: c) = (a ++ 46 :: b ++ [46]) ++ c := by simp
  show List.take (m - (a.length + 1 + b.length + 1)) (List.drop (a.length + 1 + b.length + 1) (a ++ 46 :: (b ++ 46 :: c))) = c
  simp at hm
  rw [e, List.drop_append_of_le_length (by simp; omega), List.drop_of_length_le (by simp; omega), List.nil_append, List.take_of_length_le (by omega)]

end Go.Proofs.YtccfcplhifbjlaaGreatDoor
