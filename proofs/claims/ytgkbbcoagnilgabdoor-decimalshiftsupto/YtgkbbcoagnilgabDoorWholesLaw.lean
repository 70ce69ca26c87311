import Derived.Test.YtgkbbcoagnilgabDoorWholesM
import Derived.Test.YtgkbbcoagnilgabDoorStarted
import Derived.Test.YtgkbbcoagnilgabDoorKeys
import Derived.Test.YtgkbbcoagnilgabDoorShelfF
import Derived.Lib.AppendIntMem
namespace Go.Proofs.YtgkbbcoagnilgabDoor
open Go.RowKit Go.Shelf

theorem var_below {P : Program} {w w' : World} {name : String} {c : Array Value} (h : w.var? P name = some c) (hb : Below w.heap.size w w') : w'.var? P name = some c := by
  unfold World.var? at *
  cases hg : P.globalNamed name with
  | none => simp [hg] at h
  | some g =>
    simp only [hg, Option.bind_some] at h ⊢
    have hlt : g < w.heap.size := by
      rcases Nat.lt_or_ge g w.heap.size with h' | h'
      · exact h'
      · rw [Array.getElem?_eq_none h'] at h; simp at h
    rw [hb.block g hlt]
    exact h

theorem format_any (n : Int) (h0 : -9223372036854775808 ≤ n) (h1 : n ≤ 9223372036854775807) (w : World) (htab : Lib.TabIs Tryd.prog w "internal/strconv.uint64pow10" .u64 Lib.pow10Tab) :
    Calls Tryd.prog 14 #[.int .i64 n, .int .i64 10] w fun e w' => e = .returned (.string ⟨(Lib.itoa n).toArray⟩) ∧ Below w.heap.size w w' := by
  refine (Any.strconv_FormatInt_10 Tryd.laysFormatInt n h0 h1 w htab).mono ?_
  rintro e w' ⟨he, k, os, rfl⟩
  exact ⟨he, Lib.below_grow _ w (Nat.le_refl _) k os⟩

set_option maxHeartbeats 1000000 in
theorem wholes_walk (m n X : Int) (A B Bd : List UInt8) (w : World) (_hm0 : -9223372036854775808 ≤ m) (_hm1 : m ≤ 9223372036854775807) (_hn0 : -9223372036854775808 ≤ n) (_hn1 : n ≤ 9223372036854775807)
    (hX : Hid (X = cmp3 m n)) (hBd : Hid (Bd = B ++ [46, 48, 48, 48])) (hBl : B.length ≤ 100)
    (HS : Hid (∀ w, Calls Tryd.prog 7 #[] w fun e w' => e = .returned (.bool true) ∧ Below w.heap.size w w'))
    (H1 : Hid (∀ w', Below w.heap.size w w' → Calls Tryd.prog 14 #[.int .i64 m, .int .i64 10] w' fun e w2 => e = .returned (.string ⟨A.toArray⟩) ∧ Below w'.heap.size w' w2))
    (H2 : Hid (∀ w', Below w.heap.size w w' → Calls Tryd.prog 14 #[.int .i64 n, .int .i64 10] w' fun e w2 => e = .returned (.string ⟨B.toArray⟩) ∧ Below w'.heap.size w' w2))
    (H3 : Hid (∀ w', Below w.heap.size w w' → Calls Tryd.prog 15 #[.string ⟨A.toArray⟩] w' fun e w2 => e = .returned (.tuple #[.int .i64 m, .bool true]) ∧ Below w'.heap.size w' w2))
    (H4 : Hid (∀ w', Calls Tryd.prog 16 #[.string ⟨A.toArray⟩, .string ⟨Bd.toArray⟩] w' fun e w2 => e = .returned (.tuple #[.int .i64 X, .int .i64 0]) ∧ Below w'.heap.size w' w2))
    (H5 : Hid (∀ w', Below w.heap.size w w' → Calls Tryd.prog 15 #[.string ⟨Bd.toArray⟩] w' fun e w2 => e = .returned (.tuple #[.int .i64 0, .bool false]) ∧ Below w'.heap.size w' w2)) :
    Calls Tryd.prog 5 #[.int .i64 m, .int .i64 n] w fun e w' => e = .returned (.bool true) ∧ Below w.heap.size w w' := by
  have hcat : (ByteArray.mk B.toArray) ++ (ByteArray.mk #[46, 48, 48, 48]) = ByteArray.mk Bd.toArray := by
    rw [hBd.out]
    apply ByteArray.ext
    simp
  have hmm : (m == m) = true := by simp
  go_enter Tryd.func5, Tryd.ntmps5
  go_wp2_with fail
  refine (HS.out _).mono ?_
  rintro e w1 ⟨rfl, c1⟩
  go_wp2_with fail
  refine (H1.out _ c1).mono ?_
  rintro e w2 ⟨rfl, hB2⟩
  have c2 := c1.trans (hB2.mono c1.size)
  go_wp2_with fail
  refine (H2.out _ c2).mono ?_
  rintro e w3 ⟨rfl, hB3⟩
  have c3 := c2.trans (hB3.mono c2.size)
  go_wp2_with fail
  refine (H3.out _ c3).mono ?_
  rintro e w4 ⟨rfl, hB4⟩
  have c4 := c3.trans (hB4.mono c3.size)
  go_wp2_with fail
  refine (H4.out _).mono ?_
  rintro e w5 ⟨rfl, hB5⟩
  have c5 := c4.trans (hB5.mono c4.size)
  go_wp2_with fail
  refine (H5.out _ c5).mono ?_
  rintro e w6 ⟨rfl, hB6⟩
  have c6 := c5.trans (hB6.mono c5.size)
  have c := @cmp3_of m n
  by_cases h1 : m < n
  · have e1 : X = -1 := hX.out.trans (c.1 h1)
    subst e1
    have h2 : ¬ n < m := by omega
    clear c
    go_wp2
    go_ret
    exact ⟨rfl, c6⟩
  · by_cases h2 : n < m
    · have e1 : X = 1 := hX.out.trans (c.2.2 h2)
      subst e1
      clear c
      go_wp2
      go_ret
      exact ⟨rfl, c6⟩
    · have e1 : X = 0 := hX.out.trans (c.2.1 (by omega))
      subst e1
      clear c
      go_wp2
      go_ret
      exact ⟨rfl, c6⟩

theorem wholes_law (m n : Int) (hm0 : -9223372036854775808 ≤ m) (hm1 : m ≤ 9223372036854775807) (hn0 : -9223372036854775808 ≤ n) (hn1 : n ≤ 9223372036854775807) (w : World)
    (htab : Lib.TabIs Tryd.prog w "internal/strconv.uint64pow10" .u64 Lib.pow10Tab) (t1 t2 : TypeId) (p1 p2 : Value) (s1 : w.var? Tryd.prog "strconv.ErrSyntax" = some #[.iface t1 p1]) (s2 : w.var? Tryd.prog "strconv.ErrRange" = some #[.iface t2 p2]) :
    Calls Tryd.prog 5 #[.int .i64 m, .int .i64 n] w fun e w' => e = .returned (.bool true) ∧ Below w.heap.size w w' := by
  have tb := Lib.tabBelow_of_tabIs htab
  have la := Lib.itoa_length_le m hm0 hm1
  have lb := Lib.itoa_length_le n hn0 hn1
  have lbd : (Lib.itoa n ++ [46, 48, 48, 48]).length ≤ 25 := by rw [List.length_append]; simp; omega
  refine wholes_walk m n (cmp3 m n) (Lib.itoa m) (Lib.itoa n) (Lib.itoa n ++ [46, 48, 48, 48]) w hm0 hm1 hn0 hn1 rfl rfl (by omega) started_any
    (fun w' hb => format_any m hm0 hm1 w' (tb w' hb)) (fun w' hb => format_any n hn0 hn1 w' (tb w' hb)) (fun w' hb => ?_) (fun w' => ?_) (fun w' hb => ?_)
  · have h := whole_any (Lib.itoa m) w' (by omega) t1 t2 p1 p2 (var_below s1 hb) (var_below s2 hb)
    rw [whole_itoa m hm0 hm1] at h
    exact h
  · have h := compare_key (pcut_itoa m) (pcut_dot n) (by omega) (by omega) w'
    rw [okey_wholes] at h
    exact h
  · have h := whole_any (Lib.itoa n ++ [46, 48, 48, 48]) w' (by omega) t1 t2 p1 p2 (var_below s1 hb) (var_below s2 hb)
    rw [whole_dot] at h
    exact h

end Go.Proofs.YtgkbbcoagnilgabDoor
