import Derived.Test.YtkfchdmlemcjhaaDoorDcA
import Derived.Test.YtkfchdmlemcjhaaDoorDcShelf
namespace Go.Proofs.YtkfchdmlemcjhaaDoor.Dec
open Go.RowKit Go.Shelf

set_option maxHeartbeats 1000000 in
theorem whole_any (l : List UInt8) (w : World) (hlen : l.length ≤ 1099511627776) (t1 t2 : TypeId) (p1 p2 : Value) (h1 : w.var? Tryd.prog "strconv.ErrSyntax" = some #[.iface t1 p1]) (h2 : w.var? Tryd.prog "strconv.ErrRange" = some #[.iface t2 p2]) :
    Calls Tryd.prog 52 #[.string ⟨l.toArray⟩] w fun e w' => e = .returned (.tuple #[.int .i64 (wholeV (pcut l)).1, .bool (wholeV (pcut l)).2]) ∧ Below w.heap.size w w' := by
  have hw := parse_whole l
  have hsz : (⟨l.toArray⟩ : ByteArray).size = l.length := by show l.toArray.size = _; simp
  have hv := fun w => valid_any l w (by omega)
  have hls : (⟨l.toArray⟩ : ByteArray).data.toList = l := rfl
  rcases hp : Lib.parseIntB 64 l with v | _ | _
  · have c : ∀ _ : Unit, Calls Tryd.prog 55 #[.string ⟨l.toArray⟩, .int .i64 10, .int .i64 64] w fun e w' => e = .returned (.tuple #[.int .i64 v, .nilIface]) ∧ Below w.heap.size w w' := fun _ => by
      refine (Any.strconv_ParseInt_10_at64_ok Tryd.laysParseInt ⟨l.toArray⟩ (by omega) v hp w).mono ?_
      rintro e w' ⟨he, hb | ⟨t, ht⟩⟩
      · subst hb; exact ⟨he, Below.refl _ _⟩
      · subst ht; exact ⟨he, Lib.bytesWorld_below _ _ _⟩
    rw [hp] at hw
    rcases hc : pcut l with _ | x
    · rw [hc] at hw hv
      have e1 : wholeV none = (0, false) := rfl
      rw [e1]
      have Hv : Hid _ := hv
      have Hc : Hid _ := c
      clear hw hv c hp hc hls hsz h1 h2 e1
      go_enter Tryd.func52, Tryd.ntmps52
      go_wp2_with fail
      refine (Hc.out ()).mono ?_
      rintro e w2 ⟨rfl, hB2⟩
      go_wp2_with fail
      refine (Hv.out _).mono ?_
      rintro e w3 ⟨rfl, hB3⟩
      go_wp2
      go_ret2
      exact ⟨rfl, Below.trans hB2 (Below.mono hB3 hB2.size)⟩
    · rw [hc] at hw hv
      rw [hw]
      have Hv : Hid _ := hv
      have Hc : Hid _ := c
      clear hw hv c hp hc hls hsz h1 h2
      go_enter Tryd.func52, Tryd.ntmps52
      go_wp2_with fail
      refine (Hc.out ()).mono ?_
      rintro e w2 ⟨rfl, hB2⟩
      go_wp2_with fail
      refine (Hv.out _).mono ?_
      rintro e w3 ⟨rfl, hB3⟩
      go_wp2
      go_ret2
      exact ⟨rfl, Below.trans hB2 (Below.mono hB3 hB2.size)⟩
  · have c : ∀ _ : Unit, Calls Tryd.prog 55 #[.string ⟨l.toArray⟩, .int .i64 10, .int .i64 64] w fun e w' => ∃ N, e = .returned (.tuple #[.int .i64 0, .iface (Tryd.laysParseInt_ren.t 168) (.pointer (some ⟨N, 0, none⟩))]) ∧ Below w.heap.size w w' := fun _ => by
      refine (Any.strconv_ParseInt_10_at64_syntax_var Tryd.laysParseInt ⟨l.toArray⟩ (by omega) hp t1 p1 w h1).mono ?_
      rintro e w' ⟨N, he, _, _, hb⟩
      exact ⟨N, he, hb⟩
    rw [hp] at hw
    have e1 : wholeV (pcut l) = (0, false) := by rw [hw]
    rw [e1]
    have Hc : Hid _ := c
    clear hw hv c hp hls hsz h1 h2 e1
    go_enter Tryd.func52, Tryd.ntmps52
    go_wp2_with fail
    refine (Hc.out ()).mono ?_
    rintro e w2 ⟨N, rfl, hB2⟩
    go_wp2
    go_ret2
    exact ⟨rfl, hB2⟩
  · have c : ∀ _ : Unit, Calls Tryd.prog 55 #[.string ⟨l.toArray⟩, .int .i64 10, .int .i64 64] w fun e w' => ∃ N u, e = .returned (.tuple #[.int .i64 u, .iface (Tryd.laysParseInt_ren.t 168) (.pointer (some ⟨N, 0, none⟩))]) ∧ Below w.heap.size w w' := fun _ => by
      refine (Any.strconv_ParseInt_10_at64_range_var Tryd.laysParseInt ⟨l.toArray⟩ (by omega) hp t2 p2 w h2).mono ?_
      rintro e w' ⟨N, he, _, _, hb⟩
      exact ⟨N, _, he, hb⟩
    rw [hp] at hw
    have e1 : wholeV (pcut l) = (0, false) := by rw [hw]
    rw [e1]
    have Hc : Hid _ := c
    clear hw hv c hp hls hsz h1 h2 e1
    go_enter Tryd.func52, Tryd.ntmps52
    go_wp2_with fail
    refine (Hc.out ()).mono ?_
    rintro e w2 ⟨N, u, rfl, hB2⟩
    go_wp2
    go_ret2
    exact ⟨rfl, hB2⟩

end Go.Proofs.YtkfchdmlemcjhaaDoor.Dec