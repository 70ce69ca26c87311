import Derived.Test.YtkaoobdemaahbaaRf8
import Derived.Test.YtkaoobdemaahbaaSm
import Derived.Test.YtkaoobdemaahbaaWr1
namespace Go.Proofs.Ytkaoobdemaahbaa
open Go.RowKit

/-- The marks behind a copy. -/
def mks (k : Nat) : List UInt8 := (List.range k).map fun i => UInt8.ofNat (90 + i)
theorem mks_length (k : Nat) : (mks k).length = k := by simp [mks]
theorem mks_succ (k : Nat) : mks (k + 1) = mks k ++ [UInt8.ofNat (90 + k)] := by simp [mks, List.range_succ]

set_option maxRecDepth 100000 in
set_option maxHeartbeats 4000000 in
theorem marked_any (ao : Option Addr) (cap : Nat) (l : List UInt8) (w : World) (hr : Rd w ao l) (hl : l.length ≤ 2000000) :
    Calls Try.prog 13 #[.slice ao l.length cap] w fun e w' => ∃ v, e = .returned v ∧ Ob w.heap.size w w' v (l ++ mks 90) := by
  have HR : Hid (Rd w ao l) := hr
  have HO0 : Hid (Ob w.heap.size w w (.slice none 0 0) (l.take 0)) := ⟨World.ownsRow_nil _ _ _ _, Below.refl _ _, Ku.refl _⟩
  clear hr
  go_enter Try.func13, Try.ntmps13
  go_wp2
  go_loopw [3, 4] (fun s3 s4 wr => ∃ k : Nat, s4 = .int .i64 (k : Int) ∧ k ≤ l.length ∧ Hid (Ob w.heap.size w wr s3 (l.take k))) (fun _ s _ => l.length - (intOf s).toNat)
  case atStart => exact ⟨0, rfl, Nat.zero_le _, HO0⟩
  case round =>
    obtain ⟨k, rfl, hk, HO⟩ := hrel
    obtain ⟨va, vn, vc, hv⟩ : ∃ a n c, u3 = .slice a n c := (own_slice HO.out.own).elim fun a h => h.elim fun c e => ⟨a, _, c, e⟩
    subst hv
    by_cases hkl : k < l.length
    · obtain ⟨g, off, hao, _, hcell⟩ := (HR.out.below HO.out.bel (Nat.le_refl _)).cell (by omega)
      cases hao
      have gx := hcell k hkl
      have Htk : Hid (l.take (k + 1) = l.take k ++ [UInt8.ofNat ((((l.getD k 0).toNat : Nat) : Int)).toNat]) := by
        show _ = _
        rw [List.take_succ_eq_append_getElem hkl, ← getD_eq l 0 hkl, Int.toNat_natCast, u8_of]
      have hy := u8_lt (l.getD k 0)
      generalize (l.getD k 0).toNat = y at *
      have hbr := HO.out.bel.size
      have hal : (l.take k).length + 1 ≤ 10000000000 := by rw [List.length_take]; omega
      clear hcell
      go_wp2_with (at_builtin; refine append_ob rfl (.tmp 12) (.tmp 17) rfl w.heap.size _ (l.take k) rfl (HO.out.alloc hbr _) (some ⟨wr.heap.size, 0, none⟩) 1 1 [UInt8.ofNat ((y : Int)).toNat] rfl rfl (fun e => by cases e) (rd_lit1 wr (y : Int) (by omega) (by omega)) hal (by rw [alloc_size]; omega) ?_; intro v6 w6 hob6)
      have HO6 : Hid (Ob w.heap.size w w6 v6 (l.take (k + 1))) := by rw [Htk.out]; exact hob6
      clear hob6
      obtain ⟨a6, n6, c6, hv6⟩ : ∃ a n c, v6 = .slice a n c := (own_slice HO6.out.own).elim fun a h => h.elim fun c e => ⟨a, _, c, e⟩
      subst hv6
      go_wp2
      go_roundw
      case rel => exact ⟨k + 1, by go_num, by omega, HO6⟩
      case measure => simp [intOf]; omega
    · have HO1 : Hid (Ob w.heap.size w wr (.slice va vn vc) (l ++ mks 0)) := by
        have := HO.out
        rw [List.take_of_length_le (by omega)] at this
        rw [show mks 0 = [] from rfl, List.append_nil]
        exact this
      clear HO
      go_wp2
      go_loopw [3, 5] (fun s3 s5 wq => ∃ k : Nat, s5 = .int .i64 (k : Int) ∧ k ≤ 90 ∧ Hid (Ob w.heap.size w wq s3 (l ++ mks k))) (fun _ s _ => 90 - (intOf s).toNat)
      case atStart => exact ⟨0, rfl, Nat.zero_le _, HO1⟩
      case round =>
        obtain ⟨m, rfl, hm, HO⟩ := hrel
        obtain ⟨va, vn, vc, hv⟩ : ∃ a n c, u3 = .slice a n c := (own_slice HO.out.own).elim fun a h => h.elim fun c e => ⟨a, _, c, e⟩
        subst hv
        by_cases hml : m < 90
        · have Htk : Hid (l ++ mks (m + 1) = (l ++ mks m) ++ [UInt8.ofNat ((90 : Int) + (m : Int)).toNat]) := by
            show _ = _
            rw [mks_succ, ← List.append_assoc, show ((90 : Int) + (m : Int)).toNat = 90 + m from by omega]
          have hbr := HO.out.bel.size
          have hal : (l ++ mks m).length + 1 ≤ 10000000000 := by rw [List.length_append, mks_length]; omega
          go_wp2_with (at_builtin; refine append_ob rfl (.tmp 23) (.tmp 27) rfl w.heap.size _ (l ++ mks m) rfl (HO.out.alloc hbr _) (some ⟨wr.heap.size, 0, none⟩) 1 1 [UInt8.ofNat ((90 : Int) + (m : Int)).toNat] rfl rfl (fun e => by cases e) (rd_lit1 wr ((90 : Int) + (m : Int)) (by omega) (by omega)) hal (by rw [alloc_size]; omega) ?_; intro v6 w6 hob6)
          have HO6 : Hid (Ob w.heap.size w w6 v6 (l ++ mks (m + 1))) := by rw [Htk.out]; exact hob6
          clear hob6
          obtain ⟨a6, n6, c6, hv6⟩ : ∃ a n c, v6 = .slice a n c := (own_slice HO6.out.own).elim fun a h => h.elim fun c e => ⟨a, _, c, e⟩
          subst hv6
          go_wp2
          go_roundw
          case rel => exact ⟨m + 1, by go_num, by omega, HO6⟩
          case measure => simp [intOf]; omega
        · obtain rfl : m = 90 := by omega
          go_wp2
          go_ret
          exact ⟨_, rfl, HO.out⟩

end Go.Proofs.Ytkaoobdemaahbaa
