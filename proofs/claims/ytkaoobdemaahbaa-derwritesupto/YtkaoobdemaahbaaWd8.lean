import Derived.Test.YtkaoobdemaahbaaWd7
import Derived.Test.YtkaoobdemaahbaaWr3
namespace Go.Proofs.Ytkaoobdemaahbaa
open Go.RowKit

set_option maxRecDepth 100000 in
set_option maxHeartbeats 2000000 in
/-- The document's Print. -/
theorem rprint_any (ao : Option Addr) (cap : Nat) (xs : List X) (w : World) (hR : Row w ao xs) (hnl : ∀ x ∈ xs, x.a = none → x.c = 0) (hlen : xs.length ≤ 2000000) (hdl : ∀ x ∈ xs, x.e.data.length ≤ 100000000) :
    Calls Try.prog 8 #[.slice ao xs.length cap] w fun e w' => PrA w (es xs) e w' := by
  have C1 := rshaped_any ao cap xs w hR hlen
  cases hsh : shaped (es xs) with
  | false =>
    have HP : Hid (prints (es xs) = ([], 80)) := by show _ = _; unfold prints; rw [hsh]; rfl
    rw [hsh] at C1
    clear hsh hR hnl hdl
    go_enter Try.func8, Try.ntmps8
    go_wp2_with fail
    refine C1.mono ?_
    rintro e w1 ⟨rfl, hB⟩
    clear C1
    have HB : Hid (Below w.heap.size w w1) := hB
    clear hB
    go_wp2
    go_ret2
    refine ⟨_, ⟨by rw [HP.out]; rfl, HB.out⟩, ?_⟩
    rw [HP.out]
    exact World.ownsRow_nil _ _ _ _
  | true =>
    obtain ⟨bs, hE⟩ := shaped_El.1 hsh
    have HPr : Hid ((bs.length ≤ 65536 → prints (es xs) = (bs, 0)) ∧ (65536 < bs.length → prints (es xs) = ([], 10))) := prints_El hE
    have HC2 : Hid (∀ w', Below w.heap.size w w' → Calls Try.prog 17 #[.slice ao xs.length cap, .int .i64 0] w' fun e w'' => ∃ v c, e = .returned v ∧ w''.ownsRow w'.heap.size 5 1 v c.length (c.map B) ∧ Acc bs c ∧ c.length ≤ 65542 ∧ Below w'.heap.size w' w'') := fun w' hb =>
      bytes_any 32 ao cap xs w' 0 (es xs) bs [] (hR.below hb (Nat.le_refl _)) hlen hnl hdl (by rw [List.drop_zero, List.append_nil]) hE
    rw [hsh] at C1
    clear hsh hR hnl hdl hE
    go_enter Try.func8, Try.ntmps8
    go_wp2_with fail
    refine C1.mono ?_
    rintro e w1 ⟨rfl, hB⟩
    clear C1
    have HB : Hid (Below w.heap.size w w1) := hB
    clear hB
    have C2 := HC2.out w1 HB.out
    go_wp2_with fail
    refine C2.mono ?_
    rintro e w2 ⟨v, c, rfl, ho, hA, hl, hb⟩
    clear C2
    obtain ⟨a2, k2, hv⟩ := own_slice ho
    subst hv
    obtain ⟨n, Hn⟩ : ∃ n, Hid (c.length = n) := ⟨_, rfl⟩
    have HO : Hid (w2.ownsRow w.heap.size 5 1 (.slice a2 c.length k2) c.length (c.map B)) := own_base ho HB.out.size
    have HA : Hid (Acc bs c) := hA
    have HB2 : Hid (Below w.heap.size w w2) := HB.out.trans (hb.mono HB.out.size)
    rw [Hn.out] at hl ⊢
    clear ho hA hb HB HC2
    by_cases hbig : n ≤ 65536
    · have d1 : decide ((n : Int) > 65536) = false := decide_eq_false (by omega)
      have d1' : decide (65536 < (n : Int)) = false := decide_eq_false (by omega)
      have hp : (n : Int) ≤ 65536 := by omega
      have HP : Hid (prints (es xs) = (c, 0)) := by
        have hbs : bs.length ≤ 65536 := by
          rcases Nat.lt_or_ge 65536 bs.length with h | h
          · have := HA.out.2 h; rw [Hn.out] at this; omega
          · exact h
        show _ = _
        rw [HPr.out.1 hbs, HA.out.1 hbs]
      go_wp2
      go_ret2
      refine ⟨_, ⟨by rw [HP.out]; rfl, HB2.out⟩, ?_⟩
      rw [HP.out]
      have := HO.out
      rw [Hn.out] at this
      show w2.ownsRow _ _ _ _ c.length _
      rw [Hn.out]
      exact this
    · have d1 : decide ((n : Int) > 65536) = true := decide_eq_true (by omega)
      have d1' : decide (65536 < (n : Int)) = true := decide_eq_true (by omega)
      have hp : 65536 < (n : Int) := by omega
      have HP : Hid (prints (es xs) = ([], 10)) := HPr.out.2 (by
        rcases Nat.lt_or_ge 65536 bs.length with h | h
        · exact h
        · have := HA.out.1 h; rw [this] at Hn; have := Hn.out; omega)
      go_wp2
      go_ret2
      refine ⟨_, ⟨by rw [HP.out]; rfl, HB2.out⟩, ?_⟩
      rw [HP.out]
      exact World.ownsRow_nil _ _ _ _

end Go.Proofs.Ytkaoobdemaahbaa
