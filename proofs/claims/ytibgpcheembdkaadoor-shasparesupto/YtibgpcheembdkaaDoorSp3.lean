import Derived.Test.YtibgpcheembdkaaDoorSp2
namespace Go.Proofs.YtibgpcheembdkaaDoor
open Go.RowKit

set_option maxRecDepth 100000 in
set_option maxHeartbeats 1000000 in
theorem spares_none (h : Int) (aa ab : Option Addr) (ca cb n m : Nat) (w : World) (T : Tb w) (hh : ¬ isH h) :
    Calls Tryd.prog 3 #[.int .i64 h, .slice aa n ca, .slice ab m cb] w fun e w' => e = .returned (.bool true) ∧ Below w.heap.size w w' := by
  have HT : Hid (Tb w) := T
  have CS := fun w => size_any h w
  rw [(siz_not hh []).1] at CS
  clear T
  go_enter Tryd.func3, Tryd.ntmps3
  go_wp2_with fail
  refine (awake_any w HT.out).mono ?_
  rintro e w1 ⟨rfl, hb1⟩
  have HB1 : Hid (Below w.heap.size w w1) := hb1
  clear hb1
  go_wp2_with fail
  refine (new_none h w1 hh).mono ?_
  rintro e w2 ⟨rfl, hb2⟩
  have HB2 : Hid (Below w.heap.size w w2) := HB1.out.trans (hb2.mono HB1.out.size)
  clear hb2 HB1
  go_wp2_with fail
  refine (new_none h w2 hh).mono ?_
  rintro e w3 ⟨rfl, hb3⟩
  have HB3 : Hid (Below w.heap.size w w3) := HB2.out.trans (hb3.mono HB2.out.size)
  clear hb3 HB2
  go_wp2_with fail
  refine (CS w3).mono ?_
  rintro e w4 ⟨rfl, hw4⟩
  subst w4
  go_wp2
  go_ret
  exact ⟨rfl, HB3.out⟩

theorem spares_any (h : Int) (aa ab : Option Addr) (ca cb : Nat) (a b : List UInt8) (w : World) (T : Tb w) (ha : Rd w aa a) (hb : Rd w ab b) (hca : a.length ≤ ca) (hca2 : ca ≤ 9223372036854775807) (hcb : b.length ≤ cb) (hcb2 : cb ≤ 9223372036854775807) (hal : a.length ≤ 1048576) (hbl : b.length ≤ 1048576) :
    Calls Tryd.prog 3 #[.int .i64 h, .slice aa a.length ca, .slice ab b.length cb] w fun e w' => e = .returned (.bool true) ∧ Below w.heap.size w w' := by
  by_cases hh : isH h
  · exact spares_core h aa ab ca cb a b w T ha hb hca hca2 hcb hcb2 hal hbl hh
  · exact spares_none h aa ab ca cb _ _ w T hh

end Go.Proofs.YtibgpcheembdkaaDoor
