import Derived.Test.YtgkbbcoagnilgabDoorNearW
import Derived.Test.YtgkbbcoagnilgabDoorExact
import Derived.Test.YtgkbbcoagnilgabDoorWh
namespace Go.Proofs.YtgkbbcoagnilgabDoor
open Go.RowKit Go.Shelf

set_option maxHeartbeats 1000000 in
theorem whole_ok (l : List UInt8) (v : Int) (w : World) (hlen : l.length ≤ 1048576) (hp : Lib.parseIntB 64 l = .ok v) (hc : (pcut l).isSome = true) :
    Calls Tryd.prog 15 #[.string ⟨l.toArray⟩] w fun e w' => e = .returned (.tuple #[.int .i64 v, .bool true]) ∧ Below w.heap.size w w' := by
  have hsz : (⟨l.toArray⟩ : ByteArray).size = l.length := by show l.toArray.size = _; simp
  have hv := fun w => valid_any l w (by omega)
  have c : ∀ _ : Unit, Calls Tryd.prog 27 #[.string ⟨l.toArray⟩, .int .i64 10, .int .i64 64] w fun e w' => e = .returned (.tuple #[.int .i64 v, .nilIface]) ∧ Below w.heap.size w w' := fun _ => by
    refine (Any.strconv_ParseInt_10_at64_ok Tryd.laysParseInt ⟨l.toArray⟩ (by omega) v hp w).mono ?_
    rintro e w' ⟨he, hb | ⟨t, ht⟩⟩
    · subst hb; exact ⟨he, Below.refl _ _⟩
    · subst ht; exact ⟨he, Lib.bytesWorld_below _ _ _⟩
  rw [hc] at hv
  have Hv : Hid (∀ w, Calls Tryd.prog 9 #[.string ⟨l.toArray⟩] w fun e w' => e = .returned (.bool true) ∧ Below w.heap.size w w') := hv
  have Hc : Hid (∀ _ : Unit, Calls Tryd.prog 27 #[.string ⟨l.toArray⟩, .int .i64 10, .int .i64 64] w fun e w' => e = .returned (.tuple #[.int .i64 v, .nilIface]) ∧ Below w.heap.size w w') := c
  clear hv c hp hc hsz
  go_enter Tryd.func15, Tryd.ntmps15
  go_wp2_with fail
  refine (Hc.out ()).mono ?_
  rintro e w2 ⟨rfl, hB2⟩
  go_wp2_with fail
  refine (Hv.out _).mono ?_
  rintro e w3 ⟨rfl, hB3⟩
  go_wp2
  go_ret2
  exact ⟨rfl, Below.trans hB2 (Below.mono hB3 hB2.size)⟩

theorem half_near (b : Nat) (h : NearS (false, [48], [53], false, []) b) : b = 1056964608 := by
  have e1 : zof (false, [48], [53], false, []) = [53] := by decide
  have e2 : Pof (false, [48], [53], false, []) = 0 := by decide
  unfold NearS at h
  rw [e1, e2] at h
  have e3 : vU [53] 0 = 5 := by decide
  have e4 : vD [53] 0 = 10 := by decide
  rw [e3, e4] at h
  have h2 : Rnd (5 * 2 ^ 160) 10 1056964608 := by
    refine ⟨by decide, fun a ha => .inl ?_, fun _ => .inl (by decide)⟩
    obtain rfl : a = 1056964607 := by omega
    decide
  exact h.one h2 (by decide) (by decide) rfl

set_option maxRecDepth 10000 in
set_option maxHeartbeats 1000000 in
theorem started_any (w : World) : Calls Tryd.prog 7 #[] w fun e w' => e = .returned (.bool true) ∧ Below w.heap.size w w' := by
  have H1 : Hid (∀ w, Calls Tryd.prog 15 #[.string ⟨#[45, 49, 50]⟩] w fun e w' => e = .returned (.tuple #[.int .i64 (-12), .bool true]) ∧ Below w.heap.size w w') := fun w => whole_ok [45, 49, 50] (-12) w (by decide) (by decide) (by decide)
  have H2 : Hid (∀ w, Calls Tryd.prog 16 #[.string ⟨#[49, 101, 50]⟩, .string ⟨#[57, 57, 46, 53]⟩] w fun e w' => e = .returned (.tuple #[.int .i64 1, .int .i64 0]) ∧ Below w.heap.size w w') := fun w => by
    have h := compare_any [49, 101, 50] [57, 57, 46, 53] w (by decide) (by decide)
    rw [show cmpV (pcut [49, 101, 50]) (pcut [57, 57, 46, 53]) = (1, 0) from by decide] at h
    exact h
  have H3 : Hid (∀ w, Calls Tryd.prog 8 #[.string ⟨#[48, 46, 53]⟩] w fun e w' => e = .returned (.tuple #[.int .u32 1056964608, .int .i64 0]) ∧ Below w.heap.size w w') := fun w => by
    have h := nearest_some_any [48, 46, 53] w (false, [48], [53], false, []) (by decide) (by decide)
    refine h.mono ?_
    rintro e w' ⟨b, he, hb, hB⟩
    rw [half_near b hb] at he
    exact ⟨he, hB⟩
  have H4 : Hid (∀ w, Calls Tryd.prog 9 #[.string ⟨#[49, 46, 53, 101, 45, 51]⟩] w fun e w' => e = .returned (.bool true) ∧ Below w.heap.size w w') := fun w => by
    have h := valid_any [49, 46, 53, 101, 45, 51] w (by decide)
    rw [show (pcut [49, 46, 53, 101, 45, 51]).isSome = true from by decide] at h
    exact h
  have H5 : Hid (∀ w, Calls Tryd.prog 9 #[.string ⟨#[49, 46]⟩] w fun e w' => e = .returned (.bool false) ∧ Below w.heap.size w w') := fun w => by
    have h := valid_any [49, 46] w (by decide)
    rw [show (pcut [49, 46]).isSome = false from by decide] at h
    exact h
  have H6 : Hid (∀ w, Calls Tryd.prog 18 #[.int .u32 1056964608] w fun e w' => e = .returned (.string ⟨#[48, 46, 53]⟩) ∧ Below w.heap.size w w') := fun w => by
    have h := exact_any 1056964608 w (by decide)
    rw [show exactT 1056964608 = [48, 46, 53] from by decide] at h
    exact h
  go_enter Tryd.func7, Tryd.ntmps7
  go_wp2_with fail
  refine (H1.out _).mono ?_
  rintro e w1 ⟨rfl, hB1⟩
  go_wp2_with fail
  refine (H2.out _).mono ?_
  rintro e w2 ⟨rfl, hB2⟩
  go_wp2_with fail
  refine (H3.out _).mono ?_
  rintro e w3 ⟨rfl, hB3⟩
  go_wp2_with fail
  refine (H4.out _).mono ?_
  rintro e w4 ⟨rfl, hB4⟩
  go_wp2_with fail
  refine (H5.out _).mono ?_
  rintro e w5 ⟨rfl, hB5⟩
  go_wp2_with fail
  refine (H6.out _).mono ?_
  rintro e w6 ⟨rfl, hB6⟩
  go_wp2
  go_ret
  have c2 := hB1.trans (hB2.mono hB1.size)
  have c3 := c2.trans (hB3.mono c2.size)
  have c4 := c3.trans (hB4.mono c3.size)
  have c5 := c4.trans (hB5.mono c4.size)
  exact ⟨rfl, c5.trans (hB6.mono c5.size)⟩

end Go.Proofs.YtgkbbcoagnilgabDoor
