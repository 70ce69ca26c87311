import Derived.Test.YtkfchdmlemcjhaaDoorRows
import Derived.WalkKit
import Derived.WalkSpells
import Derived.WalkLawsBesides
import Derived.Deep.QuietTactic
import Derived.BigQuiet
import Derived.Lib.Bytealg
import Derived.Deep.RegionWith
import Derived.Laws.NewBlocks
import Derived.Laws.Alloc2
import Derived.Laws.ResultCell
import Derived.Lib.ParseIntB
namespace Go.Proofs.YtkfchdmlemcjhaaDoor.Dec
open Go.RowKit

theorem below_drewN {B : Nat} {a w : World} (h : Below B a w) (q : Nat) : Below B a (w.drewN q) := ⟨h.os, h.tape, h.output, h.size, h.block⟩

/-- Is the byte a digit's sign? -/
def isD (c : UInt8) : Bool := decide (48 ≤ c.toNat) && decide (c.toNat ≤ 57)

/-- How many digits a text begins with; these; what follows them. -/
def nd (l : List UInt8) : Nat := l.findIdx fun c => !isD c
def digs (l : List UInt8) : List UInt8 := l.take (nd l)
def rst (l : List UInt8) : List UInt8 := l.drop (nd l)

theorem nd_le (l : List UInt8) : nd l ≤ l.length := List.findIdx_le_length

theorem nd_lt (l : List UInt8) (k : Nat) (hk : k ≤ nd l) (hlt : k < l.length) : k < nd l ↔ isD l[k] = true := by
  constructor
  · intro h
    have := List.not_of_lt_findIdx h
    simpa using this
  · intro h
    rcases Nat.lt_or_ge k (nd l) with h1 | h1
    · exact h1
    · exfalso
      have e : nd l = k := Nat.le_antisymm h1 hk
      have hl : List.findIdx (fun c => !isD c) l < l.length := by show nd l < _; omega
      have h2 := List.findIdx_getElem (p := fun c => !isD c) (w := hl)
      have e' : List.findIdx (fun c => !isD c) l = k := e
      simp only [e'] at h2
      rw [h] at h2
      cases h2

theorem digs_length (l : List UInt8) : (digs l).length = nd l := by
  unfold digs; rw [List.length_take]; have := nd_le l; omega

theorem pre_eq (l : List UInt8) (k : Nat) : (⟨l.toArray⟩ : ByteArray).extract 0 k = ⟨(l.take k).toArray⟩ := by
  rw [Lib.extract_eq]; simp

theorem suf_eq (l : List UInt8) (k : Nat) : (⟨l.toArray⟩ : ByteArray).extract k l.length = ⟨(l.drop k).toArray⟩ := by
  rw [Lib.extract_eq]
  simp only [ByteArray.mk.injEq]
  rw [List.take_of_length_le (by simp)]

theorem head_eq (l : List UInt8) (c : UInt8) (h : 1 ≤ l.length) : (((⟨l.toArray⟩ : ByteArray).extract 0 1).toList == [c]) = decide (l.head? = some c) := by
  obtain ⟨x, r, rfl⟩ : ∃ x r, l = x :: r := by
    cases l with
    | nil => simp at h
    | cons x r => exact ⟨x, r, rfl⟩
  rw [Lib.extract_toList]
  show (([x] : List UInt8) == [c]) = _
  by_cases hc : x = c <;> simp [hc]

set_option maxHeartbeats 400000 in
theorem hasLite_any (l : List UInt8) (c : UInt8) (w : World) (hlen : l.length ≤ 281474976710656) :
    Calls Tryd.prog 68 #[.string ⟨l.toArray⟩, .string ⟨#[c]⟩] w fun e w' => e = .returned (.bool (decide (l.head? = some c))) ∧ w' = w := by
  by_cases h0 : 1 ≤ l.length
  · have H : Hid ((((⟨l.toArray⟩ : ByteArray).extract 0 1).toList == [c]) = decide (l.head? = some c)) := head_eq l c h0
    go_enter Tryd.func68, Tryd.ntmps68
    go_wp2
    go_ret
    rw [H.out]
    exact ⟨rfl, rfl⟩
  · obtain rfl : l = [] := List.eq_nil_of_length_eq_zero (by omega)
    go_enter Tryd.func68, Tryd.ntmps68
    go_wp2
    go_ret
    exact ⟨by simp, rfl⟩

set_option maxHeartbeats 400000 in
theorem has_any (l : List UInt8) (c : UInt8) (w : World) (hlen : l.length ≤ 281474976710656) :
    Calls Tryd.prog 62 #[.string ⟨l.toArray⟩, .string ⟨#[c]⟩] w fun e w' => e = .returned (.bool (decide (l.head? = some c))) ∧ w' = w := by
  go_enter Tryd.func62, Tryd.ntmps62
  go_wp2_with fail
  refine (hasLite_any l c w hlen).mono ?_
  rintro e w' ⟨rfl, rfl⟩
  go_wp2
  go_ret
  exact ⟨rfl, rfl⟩

set_option maxHeartbeats 400000 in
theorem cutDigits_any (l : List UInt8) (w : World) (hlen : l.length ≤ 281474976710656) :
    Calls Tryd.prog 57 #[.string ⟨l.toArray⟩] w fun e w' => e = .returned (.tuple #[.string ⟨(digs l).toArray⟩, .string ⟨(rst l).toArray⟩]) ∧ ∃ q, w' = w.drewN q := by
  have Hp : Hid (∀ k, (⟨l.toArray⟩ : ByteArray).extract 0 k = ⟨(l.take k).toArray⟩) := pre_eq l
  have Hs : Hid (∀ k, (⟨l.toArray⟩ : ByteArray).extract k l.length = ⟨(l.drop k).toArray⟩) := suf_eq l
  go_enter Tryd.func57, Tryd.ntmps57
  go_wp2
  go_loop [4] (fun s => ∃ k : Nat, k ≤ l.length ∧ s = .int .i64 k ∧ k ≤ nd l) (fun s => l.length - (intOf s).toNat)
  case atStart => exact ⟨0, Nat.zero_le _, rfl, Nat.zero_le _⟩
  case round =>
    obtain ⟨k, hk, rfl, hkf⟩ := hrel
    by_cases hlt : k < l.length
    · have Hk : Hid (k < nd l ↔ isD l[k] = true) := nd_lt l k hkf hlt
      obtain ⟨c, hc⟩ : ∃ c, l[k] = c := ⟨_, rfl⟩
      have gx : (⟨l.toArray⟩ : ByteArray)[k]'(by show k < l.toArray.size; simpa using hlt) = c := hc
      rw [hc] at Hk
      clear hc
      by_cases hD : isD c = true
      · have hk1 : k < nd l := Hk.out.2 hD
        have h1 : 48 ≤ c.toNat := by unfold isD at hD; simp at hD; exact hD.1
        have h2 : c.toNat ≤ 57 := by unfold isD at hD; simp at hD; exact hD.2
        clear hD Hk
        go_wp2
        go_round
        case rel => exact ⟨k + 1, by omega, by go_num, by omega⟩
        case measure => simp [intOf]; omega
      · have hk1 : ¬ k < nd l := fun h => hD (Hk.out.1 h)
        have e : nd l = k := by omega
        have He : Hid (nd l = k) := e
        clear e hk1 hkf Hk
        by_cases h1 : 48 ≤ c.toNat
        · have h2 : ¬ c.toNat ≤ 57 := by intro h; exact hD (by unfold isD; simp; omega)
          clear hD
          go_wp2
          go_quiet (fail)
          go_wp2
          go_ret2
          rw [Hp.out, Hs.out]
          unfold digs rst
          rw [He.out]
          exact ⟨rfl, _, rfl⟩
        · clear hD
          go_wp2
          go_quiet (fail)
          go_wp2
          go_ret2
          rw [Hp.out, Hs.out]
          unfold digs rst
          rw [He.out]
          exact ⟨rfl, _, rfl⟩
    · have hle := nd_le l
      have e : nd l = k := by omega
      have He : Hid (nd l = k) := e
      clear e hle hkf
      go_wp2
      go_quiet (fail)
      go_wp2
      go_ret2
      rw [Hp.out, Hs.out]
      unfold digs rst
      rw [He.out]
      exact ⟨rfl, _, rfl⟩

end Go.Proofs.YtkfchdmlemcjhaaDoor.Dec
namespace Go.Proofs.YtkfchdmlemcjhaaDoor.Dec
open Go.RowKit

/-- What cutFraction answers; what cutPower does: the sign and the digits, what follows, whether. -/
def cutF (l : List UInt8) : List UInt8 × List UInt8 × Bool :=
  if l.head? = some 46 then (digs l.tail, rst l.tail, !(digs l.tail).isEmpty) else ([], l, true)
def isE (l : List UInt8) : Prop := l.head? = some 101 ∨ l.head? = some 69
instance (l : List UInt8) : Decidable (isE l) := inferInstanceAs (Decidable (_ ∨ _))
def isS (l : List UInt8) : Prop := l.head? = some 43 ∨ l.head? = some 45
instance (l : List UInt8) : Decidable (isS l) := inferInstanceAs (Decidable (_ ∨ _))
def skS (l : List UInt8) : List UInt8 := if isS l then l.tail else l
def cutP (l : List UInt8) : Bool × List UInt8 × List UInt8 × Bool :=
  if isE l then (decide (l.tail.head? = some 45), digs (skS l.tail), rst (skS l.tail), !(digs (skS l.tail)).isEmpty) else (false, [], l, true)

theorem suf1 (l : List UInt8) : (⟨l.toArray⟩ : ByteArray).extract 1 l.length = ⟨l.tail.toArray⟩ := by rw [suf_eq]; simp

theorem skS_len (l : List UInt8) : (skS l).length ≤ l.length := by unfold skS; split <;> simp

set_option maxHeartbeats 400000 in
theorem cutFraction_any (l : List UInt8) (w : World) (hlen : l.length ≤ 281474976710656) :
    Calls Tryd.prog 58 #[.string ⟨l.toArray⟩] w fun e w' => e = .returned (.tuple #[.string ⟨(cutF l).1.toArray⟩, .string ⟨(cutF l).2.1.toArray⟩, .bool (cutF l).2.2]) ∧ ∃ q, w' = w.drewN q := by
  by_cases h : l.head? = some 46
  · have Hd : Hid (decide (l.head? = some 46) = true) := by show _ = _; simpa using h
    have Hc : Hid (cutF l = (digs l.tail, rst l.tail, !(digs l.tail).isEmpty)) := by show _ = _; unfold cutF; rw [if_pos h]
    have Hs : Hid ((⟨l.toArray⟩ : ByteArray).extract 1 l.length = ⟨l.tail.toArray⟩) := suf1 l
    have h1 : 1 ≤ l.length := by
      cases l with
      | nil => simp at h
      | cons x r => simp
    have hl : l.tail.length ≤ 281474976710656 := by rw [List.length_tail]; omega
    clear h
    go_enter Tryd.func58, Tryd.ntmps58
    go_wp2_with fail
    refine (has_any l 46 w hlen).mono ?_
    rintro e w' ⟨rfl, rfl⟩
    rw [Hd.out]
    go_wp2_with fail
    rw [Hs.out]
    refine (cutDigits_any l.tail _ hl).mono ?_
    rintro e w'' ⟨rfl, q, rfl⟩
    generalize digs l.tail = g at Hc ⊢
    generalize rst l.tail = r at Hc ⊢
    go_wp2
    go_ret3
    rw [Hc.out]
    exact ⟨rfl, _, rfl⟩
  · have Hd : Hid (decide (l.head? = some 46) = false) := by show _ = _; simpa using h
    have Hc : Hid (cutF l = ([], l, true)) := by show _ = _; unfold cutF; rw [if_neg h]
    clear h
    go_enter Tryd.func58, Tryd.ntmps58
    go_wp2_with fail
    refine (has_any l 46 w hlen).mono ?_
    rintro e w' ⟨rfl, rfl⟩
    rw [Hd.out]
    go_wp2
    go_ret3
    rw [Hc.out]
    exact ⟨rfl, 0, rfl⟩

set_option maxHeartbeats 400000 in
theorem firstPart_any (l : List UInt8) (w : World) (hlen : l.length ≤ 281474976710656) :
    Calls Tryd.prog 56 #[.string ⟨l.toArray⟩] w fun e w' => e = .returned (.int .i64 (if l.head? = some 45 then 0 else 1)) ∧ w' = w := by
  by_cases h : l.head? = some 45
  · have Hd : Hid (decide (l.head? = some 45) = true) := by show _ = _; simpa using h
    rw [if_pos h]
    clear h
    go_enter Tryd.func56, Tryd.ntmps56
    go_wp2_with fail
    refine (has_any l 45 w hlen).mono ?_
    rintro e w' ⟨rfl, rfl⟩
    rw [Hd.out]
    go_wp2
    go_ret
    exact ⟨rfl, rfl⟩
  · have Hd : Hid (decide (l.head? = some 45) = false) := by show _ = _; simpa using h
    rw [if_neg h]
    clear h
    go_enter Tryd.func56, Tryd.ntmps56
    go_wp2_with fail
    refine (has_any l 45 w hlen).mono ?_
    rintro e w' ⟨rfl, rfl⟩
    rw [Hd.out]
    go_wp2
    go_ret
    exact ⟨rfl, rfl⟩

theorem results_cell_tmp2 {fn : Func} {p u v : Tmp} {ty : TypeId} (h : fn.results = #[.cell p ty, .tmp u, .tmp v]) (tmps : Array Value) (P : Program) (w : World) :
    (results fn tmps).run P w =
      ((asAddr (tmps.getD p undef)).run P w).andThen fun a w₁ => ((loadVar ty a).run P w₁).andThen fun x w₂ => .ok (.tuple #[x, tmps.getD u undef, tmps.getD v undef]) w₂ := by
  simp only [results, h]
  simp [Sem.run_bind, Result.andThen]

end Go.Proofs.YtkfchdmlemcjhaaDoor.Dec
namespace Go.Proofs.YtkfchdmlemcjhaaDoor.Dec
open Go.RowKit

set_option maxHeartbeats 1000000 in
theorem pow0_0 (l t : List UInt8) (w : World) (hlen : l.length ≤ 281474976710656) (h1 : 1 ≤ l.length) (Hs : Hid ((⟨l.toArray⟩ : ByteArray).extract 1 l.length = ⟨t.toArray⟩)) (hl : t.length ≤ 281474976710656) (Hd1 : Hid (decide (l.head? = some 101) = true)) (H3 : Hid (decide (t.head? = some 43) = false)) (H2 : Hid (decide (t.head? = some 45) = false)) :
    Calls Tryd.prog 59 #[.string ⟨l.toArray⟩] w fun e w' => e = .returned (.tuple #[.agg #[.bool false, .string ⟨(digs t).toArray⟩], .string ⟨(rst t).toArray⟩, .bool (!(digs t).isEmpty)]) ∧ Below w.heap.size w w' := by
  go_enter Tryd.func59, Tryd.ntmps59
  go_wp2_with fail
  refine (has_any l 101 _ hlen).mono ?_
  rintro e w' ⟨rfl, rfl⟩
  rw [Hd1.out]
  go_wp2_with fail
  rw [Hs.out]
  refine (has_any t 43 _ hl).mono ?_
  rintro e w' ⟨rfl, rfl⟩
  rw [H3.out]
  go_wp2_with fail
  refine (has_any t 45 _ hl).mono ?_
  rintro e w' ⟨rfl, rfl⟩
  rw [H2.out]
  go_wp2_with fail
  refine (cutDigits_any t _ hl).mono ?_
  rintro e w' ⟨rfl, q, rfl⟩
  all_goals go_wp2
  all_goals (try simp only [Exit.inBlock, Exit.then])
  all_goals refine bodyPost_ret (v := .tuple #[.agg #[.bool false, .string ⟨(digs t).toArray⟩], .string ⟨(rst t).toArray⟩, .bool (!(digs t).isEmpty)]) ?_ rfl ⟨rfl, ?_⟩
  all_goals first
    | (rw [results_cell_tmp2 rfl]; go_simp; done)
    | (repeat' (first | with_reducible assumption | with_reducible exact Below.refl _ _ | with_reducible exact Nat.le_refl _ | with_reducible refine Below.setCell ?_ ?_ _ | with_reducible refine Below.alloc ?_ ?_ _ | with_reducible apply Below.drew | with_reducible apply below_drewN | omega | (simp; done) | (simp; omega)))

set_option maxHeartbeats 1000000 in
theorem pow0_43 (l t : List UInt8) (w : World) (hlen : l.length ≤ 281474976710656) (h1 : 1 ≤ l.length) (Hs : Hid ((⟨l.toArray⟩ : ByteArray).extract 1 l.length = ⟨t.toArray⟩)) (hl : t.length ≤ 281474976710656) (Hd1 : Hid (decide (l.head? = some 101) = true)) (H3 : Hid (decide (t.head? = some 43) = true)) (u : List UInt8) (Hs2 : Hid ((⟨t.toArray⟩ : ByteArray).extract 1 t.length = ⟨u.toArray⟩)) (hu : u.length ≤ 281474976710656) (h1t : 1 ≤ t.length) (c : UInt8) (gx : (⟨t.toArray⟩ : ByteArray)[0]'(by show 0 < t.toArray.size; simp; omega) = c) (hq : ((c.toNat : Int) == 45) = false) :
    Calls Tryd.prog 59 #[.string ⟨l.toArray⟩] w fun e w' => e = .returned (.tuple #[.agg #[.bool false, .string ⟨(digs u).toArray⟩], .string ⟨(rst u).toArray⟩, .bool (!(digs u).isEmpty)]) ∧ Below w.heap.size w w' := by
  go_enter Tryd.func59, Tryd.ntmps59
  go_wp2_with fail
  refine (has_any l 101 _ hlen).mono ?_
  rintro e w' ⟨rfl, rfl⟩
  rw [Hd1.out]
  go_wp2_with fail
  rw [Hs.out]
  refine (has_any t 43 _ hl).mono ?_
  rintro e w' ⟨rfl, rfl⟩
  rw [H3.out]
  go_wp2_with fail
  go_region
  all_goals rw [Hs2.out]
  all_goals go_wp2_with fail
  all_goals refine (cutDigits_any u _ hu).mono ?_
  all_goals rintro e w' ⟨rfl, q, rfl⟩
  all_goals go_wp2
  all_goals (try simp only [Exit.inBlock, Exit.then])
  all_goals refine bodyPost_ret (v := .tuple #[.agg #[.bool false, .string ⟨(digs u).toArray⟩], .string ⟨(rst u).toArray⟩, .bool (!(digs u).isEmpty)]) ?_ rfl ⟨rfl, ?_⟩
  all_goals first
    | (rw [results_cell_tmp2 rfl]; go_simp; done)
    | (repeat' (first | with_reducible assumption | with_reducible exact Below.refl _ _ | with_reducible exact Nat.le_refl _ | with_reducible refine Below.setCell ?_ ?_ _ | with_reducible refine Below.alloc ?_ ?_ _ | with_reducible apply Below.drew | with_reducible apply below_drewN | omega | (simp; done) | (simp; omega)))

set_option maxHeartbeats 1000000 in
theorem pow0_45 (l t : List UInt8) (w : World) (hlen : l.length ≤ 281474976710656) (h1 : 1 ≤ l.length) (Hs : Hid ((⟨l.toArray⟩ : ByteArray).extract 1 l.length = ⟨t.toArray⟩)) (hl : t.length ≤ 281474976710656) (Hd1 : Hid (decide (l.head? = some 101) = true)) (H3 : Hid (decide (t.head? = some 43) = false)) (H2 : Hid (decide (t.head? = some 45) = true)) (u : List UInt8) (Hs2 : Hid ((⟨t.toArray⟩ : ByteArray).extract 1 t.length = ⟨u.toArray⟩)) (hu : u.length ≤ 281474976710656) (h1t : 1 ≤ t.length) (c : UInt8) (gx : (⟨t.toArray⟩ : ByteArray)[0]'(by show 0 < t.toArray.size; simp; omega) = c) (hq : ((c.toNat : Int) == 45) = true) :
    Calls Tryd.prog 59 #[.string ⟨l.toArray⟩] w fun e w' => e = .returned (.tuple #[.agg #[.bool true, .string ⟨(digs u).toArray⟩], .string ⟨(rst u).toArray⟩, .bool (!(digs u).isEmpty)]) ∧ Below w.heap.size w w' := by
  go_enter Tryd.func59, Tryd.ntmps59
  go_wp2_with fail
  refine (has_any l 101 _ hlen).mono ?_
  rintro e w' ⟨rfl, rfl⟩
  rw [Hd1.out]
  go_wp2_with fail
  rw [Hs.out]
  refine (has_any t 43 _ hl).mono ?_
  rintro e w' ⟨rfl, rfl⟩
  rw [H3.out]
  go_wp2_with fail
  refine (has_any t 45 _ hl).mono ?_
  rintro e w' ⟨rfl, rfl⟩
  rw [H2.out]
  go_wp2_with fail
  go_region
  all_goals rw [Hs2.out]
  all_goals go_wp2_with fail
  all_goals refine (cutDigits_any u _ hu).mono ?_
  all_goals rintro e w' ⟨rfl, q, rfl⟩
  all_goals go_wp2
  all_goals (try simp only [Exit.inBlock, Exit.then])
  all_goals refine bodyPost_ret (v := .tuple #[.agg #[.bool true, .string ⟨(digs u).toArray⟩], .string ⟨(rst u).toArray⟩, .bool (!(digs u).isEmpty)]) ?_ rfl ⟨rfl, ?_⟩
  all_goals first
    | (rw [results_cell_tmp2 rfl]; go_simp; done)
    | (repeat' (first | with_reducible assumption | with_reducible exact Below.refl _ _ | with_reducible exact Nat.le_refl _ | with_reducible refine Below.setCell ?_ ?_ _ | with_reducible refine Below.alloc ?_ ?_ _ | with_reducible apply Below.drew | with_reducible apply below_drewN | omega | (simp; done) | (simp; omega)))

set_option maxHeartbeats 1000000 in
theorem pow1_0 (l t : List UInt8) (w : World) (hlen : l.length ≤ 281474976710656) (h1 : 1 ≤ l.length) (Hs : Hid ((⟨l.toArray⟩ : ByteArray).extract 1 l.length = ⟨t.toArray⟩)) (hl : t.length ≤ 281474976710656) (Hd1 : Hid (decide (l.head? = some 101) = false)) (Hd2 : Hid (decide (l.head? = some 69) = true)) (H3 : Hid (decide (t.head? = some 43) = false)) (H2 : Hid (decide (t.head? = some 45) = false)) :
    Calls Tryd.prog 59 #[.string ⟨l.toArray⟩] w fun e w' => e = .returned (.tuple #[.agg #[.bool false, .string ⟨(digs t).toArray⟩], .string ⟨(rst t).toArray⟩, .bool (!(digs t).isEmpty)]) ∧ Below w.heap.size w w' := by
  go_enter Tryd.func59, Tryd.ntmps59
  go_wp2_with fail
  refine (has_any l 101 _ hlen).mono ?_
  rintro e w' ⟨rfl, rfl⟩
  rw [Hd1.out]
  go_wp2_with fail
  refine (has_any l 69 _ hlen).mono ?_
  rintro e w' ⟨rfl, rfl⟩
  rw [Hd2.out]
  go_wp2_with fail
  rw [Hs.out]
  refine (has_any t 43 _ hl).mono ?_
  rintro e w' ⟨rfl, rfl⟩
  rw [H3.out]
  go_wp2_with fail
  refine (has_any t 45 _ hl).mono ?_
  rintro e w' ⟨rfl, rfl⟩
  rw [H2.out]
  go_wp2_with fail
  refine (cutDigits_any t _ hl).mono ?_
  rintro e w' ⟨rfl, q, rfl⟩
  all_goals go_wp2
  all_goals (try simp only [Exit.inBlock, Exit.then])
  all_goals refine bodyPost_ret (v := .tuple #[.agg #[.bool false, .string ⟨(digs t).toArray⟩], .string ⟨(rst t).toArray⟩, .bool (!(digs t).isEmpty)]) ?_ rfl ⟨rfl, ?_⟩
  all_goals first
    | (rw [results_cell_tmp2 rfl]; go_simp; done)
    | (repeat' (first | with_reducible assumption | with_reducible exact Below.refl _ _ | with_reducible exact Nat.le_refl _ | with_reducible refine Below.setCell ?_ ?_ _ | with_reducible refine Below.alloc ?_ ?_ _ | with_reducible apply Below.drew | with_reducible apply below_drewN | omega | (simp; done) | (simp; omega)))

set_option maxHeartbeats 1000000 in
theorem pow1_43 (l t : List UInt8) (w : World) (hlen : l.length ≤ 281474976710656) (h1 : 1 ≤ l.length) (Hs : Hid ((⟨l.toArray⟩ : ByteArray).extract 1 l.length = ⟨t.toArray⟩)) (hl : t.length ≤ 281474976710656) (Hd1 : Hid (decide (l.head? = some 101) = false)) (Hd2 : Hid (decide (l.head? = some 69) = true)) (H3 : Hid (decide (t.head? = some 43) = true)) (u : List UInt8) (Hs2 : Hid ((⟨t.toArray⟩ : ByteArray).extract 1 t.length = ⟨u.toArray⟩)) (hu : u.length ≤ 281474976710656) (h1t : 1 ≤ t.length) (c : UInt8) (gx : (⟨t.toArray⟩ : ByteArray)[0]'(by show 0 < t.toArray.size; simp; omega) = c) (hq : ((c.toNat : Int) == 45) = false) :
    Calls Tryd.prog 59 #[.string ⟨l.toArray⟩] w fun e w' => e = .returned (.tuple #[.agg #[.bool false, .string ⟨(digs u).toArray⟩], .string ⟨(rst u).toArray⟩, .bool (!(digs u).isEmpty)]) ∧ Below w.heap.size w w' := by
  go_enter Tryd.func59, Tryd.ntmps59
  go_wp2_with fail
  refine (has_any l 101 _ hlen).mono ?_
  rintro e w' ⟨rfl, rfl⟩
  rw [Hd1.out]
  go_wp2_with fail
  refine (has_any l 69 _ hlen).mono ?_
  rintro e w' ⟨rfl, rfl⟩
  rw [Hd2.out]
  go_wp2_with fail
  rw [Hs.out]
  refine (has_any t 43 _ hl).mono ?_
  rintro e w' ⟨rfl, rfl⟩
  rw [H3.out]
  go_wp2_with fail
  go_region
  all_goals rw [Hs2.out]
  all_goals go_wp2_with fail
  all_goals refine (cutDigits_any u _ hu).mono ?_
  all_goals rintro e w' ⟨rfl, q, rfl⟩
  all_goals go_wp2
  all_goals (try simp only [Exit.inBlock, Exit.then])
  all_goals refine bodyPost_ret (v := .tuple #[.agg #[.bool false, .string ⟨(digs u).toArray⟩], .string ⟨(rst u).toArray⟩, .bool (!(digs u).isEmpty)]) ?_ rfl ⟨rfl, ?_⟩
  all_goals first
    | (rw [results_cell_tmp2 rfl]; go_simp; done)
    | (repeat' (first | with_reducible assumption | with_reducible exact Below.refl _ _ | with_reducible exact Nat.le_refl _ | with_reducible refine Below.setCell ?_ ?_ _ | with_reducible refine Below.alloc ?_ ?_ _ | with_reducible apply Below.drew | with_reducible apply below_drewN | omega | (simp; done) | (simp; omega)))

set_option maxHeartbeats 1000000 in
theorem pow1_45 (l t : List UInt8) (w : World) (hlen : l.length ≤ 281474976710656) (h1 : 1 ≤ l.length) (Hs : Hid ((⟨l.toArray⟩ : ByteArray).extract 1 l.length = ⟨t.toArray⟩)) (hl : t.length ≤ 281474976710656) (Hd1 : Hid (decide (l.head? = some 101) = false)) (Hd2 : Hid (decide (l.head? = some 69) = true)) (H3 : Hid (decide (t.head? = some 43) = false)) (H2 : Hid (decide (t.head? = some 45) = true)) (u : List UInt8) (Hs2 : Hid ((⟨t.toArray⟩ : ByteArray).extract 1 t.length = ⟨u.toArray⟩)) (hu : u.length ≤ 281474976710656) (h1t : 1 ≤ t.length) (c : UInt8) (gx : (⟨t.toArray⟩ : ByteArray)[0]'(by show 0 < t.toArray.size; simp; omega) = c) (hq : ((c.toNat : Int) == 45) = true) :
    Calls Tryd.prog 59 #[.string ⟨l.toArray⟩] w fun e w' => e = .returned (.tuple #[.agg #[.bool true, .string ⟨(digs u).toArray⟩], .string ⟨(rst u).toArray⟩, .bool (!(digs u).isEmpty)]) ∧ Below w.heap.size w w' := by
  go_enter Tryd.func59, Tryd.ntmps59
  go_wp2_with fail
  refine (has_any l 101 _ hlen).mono ?_
  rintro e w' ⟨rfl, rfl⟩
  rw [Hd1.out]
  go_wp2_with fail
  refine (has_any l 69 _ hlen).mono ?_
  rintro e w' ⟨rfl, rfl⟩
  rw [Hd2.out]
  go_wp2_with fail
  rw [Hs.out]
  refine (has_any t 43 _ hl).mono ?_
  rintro e w' ⟨rfl, rfl⟩
  rw [H3.out]
  go_wp2_with fail
  refine (has_any t 45 _ hl).mono ?_
  rintro e w' ⟨rfl, rfl⟩
  rw [H2.out]
  go_wp2_with fail
  go_region
  all_goals rw [Hs2.out]
  all_goals go_wp2_with fail
  all_goals refine (cutDigits_any u _ hu).mono ?_
  all_goals rintro e w' ⟨rfl, q, rfl⟩
  all_goals go_wp2
  all_goals (try simp only [Exit.inBlock, Exit.then])
  all_goals refine bodyPost_ret (v := .tuple #[.agg #[.bool true, .string ⟨(digs u).toArray⟩], .string ⟨(rst u).toArray⟩, .bool (!(digs u).isEmpty)]) ?_ rfl ⟨rfl, ?_⟩
  all_goals first
    | (rw [results_cell_tmp2 rfl]; go_simp; done)
    | (repeat' (first | with_reducible assumption | with_reducible exact Below.refl _ _ | with_reducible exact Nat.le_refl _ | with_reducible refine Below.setCell ?_ ?_ _ | with_reducible refine Below.alloc ?_ ?_ _ | with_reducible apply Below.drew | with_reducible apply below_drewN | omega | (simp; done) | (simp; omega)))

theorem cutPower_any (l : List UInt8) (w : World) (hlen : l.length ≤ 281474976710656) :
    Calls Tryd.prog 59 #[.string ⟨l.toArray⟩] w fun e w' => e = .returned (.tuple #[.agg #[.bool (cutP l).1, .string ⟨(cutP l).2.1.toArray⟩], .string ⟨(cutP l).2.2.1.toArray⟩, .bool (cutP l).2.2.2]) ∧ Below w.heap.size w w' := by
  by_cases hE : isE l
  · have h1 : 1 ≤ l.length := by
      cases l with
      | nil => rcases hE with h | h <;> simp at h
      | cons x r => simp
    have Hs : Hid ((⟨l.toArray⟩ : ByteArray).extract 1 l.length = ⟨l.tail.toArray⟩) := suf1 l
    have hl : l.tail.length ≤ 281474976710656 := by rw [List.length_tail]; omega
    have hc : cutP l = (decide (l.tail.head? = some 45), digs (skS l.tail), rst (skS l.tail), !(digs (skS l.tail)).isEmpty) := by unfold cutP; rw [if_pos hE]
    rw [hc]
    clear hc
    obtain ⟨t, ht⟩ : ∃ t, t = l.tail := ⟨_, rfl⟩
    rw [← ht] at Hs hl ⊢
    clear ht
    have hsg : (t.head? = some 43 ∨ t.head? = some 45) → ∃ c u, t = c :: u := by
      cases t with
      | nil => intro h; rcases h with h | h <;> simp at h
      | cons c u => intro _; exact ⟨c, u, rfl⟩
    by_cases hA : l.head? = some 101
    · have Hd1 : Hid (decide (l.head? = some 101) = true) := decide_eq_true hA
      by_cases h3 : t.head? = some 43
      · obtain ⟨c, u, rfl⟩ := hsg (.inl h3)
        have hc : c = 43 := by simpa using h3
        have e : skS (c :: u) = u := by unfold skS; rw [if_pos (.inl h3)]; rfl
        have e2 : decide ((c :: u).head? = some 45) = false := by subst hc; rfl
        rw [e, e2]
        exact pow0_43 l (c :: u) w hlen h1 Hs hl Hd1 (decide_eq_true h3) u (suf1 (c :: u)) (by simp at hl; omega) (by simp) c rfl (by subst hc; rfl)
      · by_cases h2 : t.head? = some 45
        · obtain ⟨c, u, rfl⟩ := hsg (.inr h2)
          have hc : c = 45 := by simpa using h2
          have e : skS (c :: u) = u := by unfold skS; rw [if_pos (.inr h2)]; rfl
          have e2 : decide ((c :: u).head? = some 45) = true := decide_eq_true h2
          rw [e, e2]
          exact pow0_45 l (c :: u) w hlen h1 Hs hl Hd1 (decide_eq_false h3) (decide_eq_true h2) u (suf1 (c :: u)) (by simp at hl; omega) (by simp) c rfl (by subst hc; rfl)
        · have e : skS t = t := by unfold skS; rw [if_neg (fun h => h.elim h3 h2)]
          rw [e, decide_eq_false h2]
          exact pow0_0 l t w hlen h1 Hs hl Hd1 (decide_eq_false h3) (decide_eq_false h2)
    · have Hd1 : Hid (decide (l.head? = some 101) = false) := decide_eq_false hA
      have Hd2 : Hid (decide (l.head? = some 69) = true) := decide_eq_true (hE.resolve_left hA)
      by_cases h3 : t.head? = some 43
      · obtain ⟨c, u, rfl⟩ := hsg (.inl h3)
        have hc : c = 43 := by simpa using h3
        have e : skS (c :: u) = u := by unfold skS; rw [if_pos (.inl h3)]; rfl
        have e2 : decide ((c :: u).head? = some 45) = false := by subst hc; rfl
        rw [e, e2]
        exact pow1_43 l (c :: u) w hlen h1 Hs hl Hd1 Hd2 (decide_eq_true h3) u (suf1 (c :: u)) (by simp at hl; omega) (by simp) c rfl (by subst hc; rfl)
      · by_cases h2 : t.head? = some 45
        · obtain ⟨c, u, rfl⟩ := hsg (.inr h2)
          have hc : c = 45 := by simpa using h2
          have e : skS (c :: u) = u := by unfold skS; rw [if_pos (.inr h2)]; rfl
          have e2 : decide ((c :: u).head? = some 45) = true := decide_eq_true h2
          rw [e, e2]
          exact pow1_45 l (c :: u) w hlen h1 Hs hl Hd1 Hd2 (decide_eq_false h3) (decide_eq_true h2) u (suf1 (c :: u)) (by simp at hl; omega) (by simp) c rfl (by subst hc; rfl)
        · have e : skS t = t := by unfold skS; rw [if_neg (fun h => h.elim h3 h2)]
          rw [e, decide_eq_false h2]
          exact pow1_0 l t w hlen h1 Hs hl Hd1 Hd2 (decide_eq_false h3) (decide_eq_false h2)
  · have hd1 : decide (l.head? = some 101) = false := decide_eq_false fun h => hE (.inl h)
    have hd2 : decide (l.head? = some 69) = false := decide_eq_false fun h => hE (.inr h)
    have Hd1 : Hid (decide (l.head? = some 101) = false) := hd1
    have Hd2 : Hid (decide (l.head? = some 69) = false) := hd2
    have Hc : Hid (cutP l = (false, [], l, true)) := by show _ = _; unfold cutP; rw [if_neg hE]
    clear hE hd1 hd2
    go_enter Tryd.func59, Tryd.ntmps59
    go_wp2_with fail
    refine (has_any l 101 _ hlen).mono ?_
    rintro e w' ⟨rfl, rfl⟩
    rw [Hd1.out]
    go_wp2_with fail
    refine (has_any l 69 _ hlen).mono ?_
    rintro e w' ⟨rfl, rfl⟩
    rw [Hd2.out]
    go_wp2
    (try simp only [Exit.inBlock, Exit.then])
    refine bodyPost_ret (v := .tuple #[.agg #[.bool false, .string ⟨#[]⟩], .string ⟨l.toArray⟩, .bool true]) ?_ rfl ⟨?_, ?_⟩
    · rw [results_cell_tmp2 rfl]; go_simp
    · rw [Hc.out]
    · (repeat' (first | with_reducible assumption | with_reducible exact Below.refl _ _ | with_reducible exact Nat.le_refl _ | with_reducible refine Below.setCell ?_ ?_ _ | with_reducible refine Below.alloc ?_ ?_ _ | with_reducible apply Below.drew | with_reducible apply below_drewN | omega | (simp; done) | (simp; omega)))

end Go.Proofs.YtkfchdmlemcjhaaDoor.Dec
namespace Go.Proofs.YtkfchdmlemcjhaaDoor.Dec
open Go.RowKit

def cutL (l : List UInt8) : List UInt8 := if l.head? = some 45 then l.tail else l
def badW (g : List UInt8) : Bool := g.isEmpty || (decide (1 < g.length) && decide (g.head? = some 48))

abbrev PartsM := Bool × List UInt8 × List UInt8 × Bool × List UInt8

/-- What cut tells of a text behind its sign: its first digits, and what follows. -/
def pcut4 (m : Bool) (g f : List UInt8) (p : Bool) (d r : List UInt8) (ok : Bool) : Option PartsM :=
  if ok = false then none else if r = [] then some (m, g, f, p, d) else none
def pcut3 (m : Bool) (g f r : List UInt8) (ok : Bool) : Option PartsM :=
  if ok = false then none else pcut4 m g f (cutP r).1 (cutP r).2.1 (cutP r).2.2.1 (cutP r).2.2.2
def pcut2 (m : Bool) (g r : List UInt8) : Option PartsM :=
  if badW g = true then none else pcut3 m g (cutF r).1 (cutF r).2.1 (cutF r).2.2
def pcut1 (m : Bool) (l : List UInt8) : Option PartsM := pcut2 m (digs l) (rst l)

/-- The parts of a number's text, or none. -/
def pcut (l : List UInt8) : Option PartsM := pcut1 (decide (l.head? = some 45)) (cutL l)

def pvals : Option PartsM → Value
  | none => .agg #[.bool false, .string ⟨#[]⟩, .string ⟨#[]⟩, .bool false, .string ⟨#[]⟩]
  | some (m, g, f, p, d) => .agg #[.bool m, .string ⟨g.toArray⟩, .string ⟨f.toArray⟩, .bool p, .string ⟨d.toArray⟩]

theorem nd_len (l : List UInt8) : (digs l).length ≤ l.length ∧ (rst l).length ≤ l.length := by
  have := nd_le l
  rw [digs_length]; unfold rst; rw [List.length_drop]; omega

theorem cutF_len (l : List UInt8) : (cutF l).2.1.length ≤ l.length := by
  unfold cutF
  split
  · have := (nd_len l.tail).2
    rw [List.length_tail] at this
    show (rst l.tail).length ≤ _
    omega
  · exact Nat.le_refl _

theorem u8_eq48 (x : UInt8) : ((x.toNat : Int) == 48) = decide (x = 48) := by
  by_cases h : x = 48
  · subst h; rfl
  · have : x.toNat ≠ 48 := fun e => h (UInt8.toNat_inj.1 e)
    simp [h]; omega

set_option maxHeartbeats 2000000 in
theorem cut_plus (l : List UInt8) (w : World) (hlen : l.length ≤ 281474976710656) (hm : ¬ l.head? = some 45) :
    Calls Tryd.prog 53 #[.string ⟨l.toArray⟩] w fun e w' => e = .returned (.tuple #[pvals (pcut1 false l), .bool (pcut1 false l).isSome]) ∧ Below w.heap.size w w' := by
  have Hm : Hid ((if l.head? = some 45 then (0 : Int) else 1) = 1) := by show _ = _; rw [if_neg hm]
  have Hp : Hid (pcut1 false l = pcut2 false (digs l) (rst l)) := rfl
  have hr := (nd_len l).2
  have hF := cutF_len (rst l)
  clear hm
  go_enter Tryd.func53, Tryd.ntmps53
  go_wp2_with fail
  refine (firstPart_any l _ hlen).mono ?_
  rintro e w' ⟨rfl, rfl⟩
  rw [Hm.out]
  go_wp2_with fail
  refine (cutDigits_any l _ hlen).mono ?_
  rintro e w' ⟨rfl, q, rfl⟩
  generalize digs l = g at Hp ⊢
  generalize rst l = r at Hp hr hF ⊢
  by_cases hg : g = []
  · have Hr : Hid (pcut2 false g r = none) := by subst hg; rfl
    have hg' : g.isEmpty = true := by subst hg; rfl
    clear hg
    go_wp2
    (try simp only [Exit.inBlock, Exit.then])
    refine bodyPost_ret (v := .tuple #[.agg #[.bool false, .string ⟨#[]⟩, .string ⟨#[]⟩, .bool false, .string ⟨#[]⟩], .bool false]) ?_ rfl ⟨?_, ?_⟩
    · rw [results_cell_tmp rfl]; go_simp
    · rw [Hp.out, Hr.out]; rfl
    · (repeat' (first | with_reducible assumption | with_reducible exact Below.refl _ _ | with_reducible exact Nat.le_refl _ | with_reducible refine Below.setCell ?_ ?_ _ | with_reducible refine Below.alloc ?_ ?_ _ | with_reducible apply Below.drew | with_reducible apply below_drewN | omega | (simp; done) | (simp; omega)))
  · have hg' : g.isEmpty = false := by simpa using hg
    obtain ⟨c, hc⟩ : ∃ c, g.head? = some c := by
      cases g with
      | nil => exact absurd rfl hg
      | cons x y => exact ⟨x, rfl⟩
    have hl1 : 1 ≤ g.length := by
      cases g with
      | nil => exact absurd rfl hg
      | cons x y => simp
    have gx : (⟨g.toArray⟩ : ByteArray)[0]'(by show 0 < g.toArray.size; simp; omega) = c := by
      cases g with
      | nil => exact absurd rfl hg
      | cons x y => have e : x = c := by simpa using hc
                    subst e; rfl
    clear hg
    by_cases hbad : 1 < g.length ∧ c = 48
    · have Hr : Hid (pcut2 false g r = none) := by
        show _ = _
        have : badW g = true := by unfold badW; rw [hc, hbad.2]; simp [hbad.1]
        unfold pcut2; rw [if_pos this]
      have h2 : 1 < g.length := hbad.1
      have hq : ((c.toNat : Int) == 48) = true := by rw [u8_eq48, hbad.2]; rfl
      clear hc hbad
      go_wp2
      (try simp only [Exit.inBlock, Exit.then])
      refine bodyPost_ret (v := .tuple #[.agg #[.bool false, .string ⟨#[]⟩, .string ⟨#[]⟩, .bool false, .string ⟨#[]⟩], .bool false]) ?_ rfl ⟨?_, ?_⟩
      · rw [results_cell_tmp rfl]; go_simp
      · rw [Hp.out, Hr.out]; rfl
      · (repeat' (first | with_reducible assumption | with_reducible exact Below.refl _ _ | with_reducible exact Nat.le_refl _ | with_reducible refine Below.setCell ?_ ?_ _ | with_reducible refine Below.alloc ?_ ?_ _ | with_reducible apply Below.drew | with_reducible apply below_drewN | omega | (simp; done) | (simp; omega)))
    · have Hb : Hid (¬ badW g = true) := by
        show ¬ _
        unfold badW; rw [hc, hg']; simp; intro h1 h2; exact hbad ⟨h1, h2⟩
      have hq2 : 1 < g.length → ((c.toNat : Int) == 48) = false := by
        intro h; rw [u8_eq48]; exact decide_eq_false fun e => hbad ⟨h, e⟩
      have hcases : (g.length ≤ 1) ∨ (1 < g.length ∧ ((c.toNat : Int) == 48) = false) := by
        by_cases h : 1 < g.length
        · exact .inr ⟨h, hq2 h⟩
        · exact .inl (by omega)
      clear hc hbad hq2
      have Hn : Hid (pcut2 false g r = pcut3 false g (cutF r).1 (cutF r).2.1 (cutF r).2.2) := by show _ = _; unfold pcut2; rw [if_neg Hb.out]
      rcases hcases with hle | ⟨hgt, hq⟩
      all_goals go_wp2_with fail
      all_goals refine (cutFraction_any r _ (by omega)).mono ?_
      all_goals rintro e w' ⟨rfl, q2, rfl⟩
      all_goals generalize (cutF r).1 = f at Hn ⊢
      all_goals generalize (cutF r).2.1 = r2 at Hn hF ⊢
      all_goals generalize (cutF r).2.2 = ok at Hn ⊢
      all_goals cases ok
      · have Hr : Hid (pcut2 false g r = none) := Hn
        go_wp2
        (try simp only [Exit.inBlock, Exit.then])
        refine bodyPost_ret (v := .tuple #[.agg #[.bool false, .string ⟨#[]⟩, .string ⟨#[]⟩, .bool false, .string ⟨#[]⟩], .bool false]) ?_ rfl ⟨?_, ?_⟩
        · rw [results_cell_tmp rfl]; go_simp
        · rw [Hp.out, Hr.out]; rfl
        · (repeat' (first | with_reducible assumption | with_reducible exact Below.refl _ _ | with_reducible exact Nat.le_refl _ | with_reducible refine Below.setCell ?_ ?_ _ | with_reducible refine Below.alloc ?_ ?_ _ | with_reducible apply Below.drew | with_reducible apply below_drewN | omega | (simp; done) | (simp; omega)))
      · have Hn2 : Hid (pcut3 false g f r2 true = pcut4 false g f (cutP r2).1 (cutP r2).2.1 (cutP r2).2.2.1 (cutP r2).2.2.2) := rfl
        go_wp2_with fail
        refine (cutPower_any r2 _ (by omega)).mono ?_
        rintro e w2 ⟨rfl, hB⟩
        have c00 : w2.cell? ⟨w.heap.size, 0, none⟩ = some (.bool false) := (hB.cell (by go_simp)).trans (by go_simp)
        have f00 : w2.frozen? ⟨w.heap.size, 0, none⟩ = false := (hB.frozen (by go_simp)).trans (by go_simp)
        have c01 : w2.cell? ⟨w.heap.size, 1, none⟩ = some (.string ⟨#[]⟩) := (hB.cell (by go_simp)).trans (by go_simp)
        have f01 : w2.frozen? ⟨w.heap.size, 1, none⟩ = false := (hB.frozen (by go_simp)).trans (by go_simp)
        have c02 : w2.cell? ⟨w.heap.size, 2, none⟩ = some (.string ⟨#[]⟩) := (hB.cell (by go_simp)).trans (by go_simp)
        have f02 : w2.frozen? ⟨w.heap.size, 2, none⟩ = false := (hB.frozen (by go_simp)).trans (by go_simp)
        have c03 : w2.cell? ⟨w.heap.size, 3, none⟩ = some (.bool false) := (hB.cell (by go_simp)).trans (by go_simp)
        have f03 : w2.frozen? ⟨w.heap.size, 3, none⟩ = false := (hB.frozen (by go_simp)).trans (by go_simp)
        have c04 : w2.cell? ⟨w.heap.size, 4, none⟩ = some (.string ⟨#[]⟩) := (hB.cell (by go_simp)).trans (by go_simp)
        have f04 : w2.frozen? ⟨w.heap.size, 4, none⟩ = false := (hB.frozen (by go_simp)).trans (by go_simp)
        have c10 : w2.cell? ⟨w.heap.size + 1, 0, none⟩ = some (.bool false) := (hB.cell (by go_simp)).trans (by go_simp)
        have f10 : w2.frozen? ⟨w.heap.size + 1, 0, none⟩ = false := (hB.frozen (by go_simp)).trans (by go_simp)
        have c11 : w2.cell? ⟨w.heap.size + 1, 1, none⟩ = some (.string ⟨g.toArray⟩) := (hB.cell (by go_simp)).trans (by go_simp)
        have f11 : w2.frozen? ⟨w.heap.size + 1, 1, none⟩ = false := (hB.frozen (by go_simp)).trans (by go_simp)
        have c12 : w2.cell? ⟨w.heap.size + 1, 2, none⟩ = some (.string ⟨f.toArray⟩) := (hB.cell (by go_simp)).trans (by go_simp)
        have f12 : w2.frozen? ⟨w.heap.size + 1, 2, none⟩ = false := (hB.frozen (by go_simp)).trans (by go_simp)
        have c13 : w2.cell? ⟨w.heap.size + 1, 3, none⟩ = some (.bool false) := (hB.cell (by go_simp)).trans (by go_simp)
        have f13 : w2.frozen? ⟨w.heap.size + 1, 3, none⟩ = false := (hB.frozen (by go_simp)).trans (by go_simp)
        have c14 : w2.cell? ⟨w.heap.size + 1, 4, none⟩ = some (.string ⟨#[]⟩) := (hB.cell (by go_simp)).trans (by go_simp)
        have f14 : w2.frozen? ⟨w.heap.size + 1, 4, none⟩ = false := (hB.frozen (by go_simp)).trans (by go_simp)
        have hB2 : Below w.heap.size w w2 := by
          refine Below.trans ?_ (Below.mono hB (by simp <;> omega))
          (repeat' (first | with_reducible assumption | with_reducible exact Below.refl _ _ | with_reducible exact Nat.le_refl _ | with_reducible refine Below.setCell ?_ ?_ _ | with_reducible refine Below.alloc ?_ ?_ _ | with_reducible apply Below.drew | with_reducible apply below_drewN | omega | (simp; done) | (simp; omega)))
        clear hB
        generalize (cutP r2).1 = pm at Hn2 ⊢
        generalize (cutP r2).2.1 = pd at Hn2 ⊢
        generalize (cutP r2).2.2.1 = r3 at Hn2 ⊢
        generalize (cutP r2).2.2.2 = ok2 at Hn2 ⊢
        cases ok2
        · have Hr : Hid (pcut2 false g r = none) := Hn.out.trans Hn2.out
          go_wp2
          (try simp only [Exit.inBlock, Exit.then])
          refine bodyPost_ret (v := .tuple #[.agg #[.bool false, .string ⟨#[]⟩, .string ⟨#[]⟩, .bool false, .string ⟨#[]⟩], .bool false]) ?_ rfl ⟨?_, ?_⟩
          · rw [results_cell_tmp rfl]; go_simp
          · rw [Hp.out, Hr.out]; rfl
          · (repeat' (first | with_reducible assumption | with_reducible exact Below.refl _ _ | with_reducible exact Nat.le_refl _ | with_reducible refine Below.setCell ?_ ?_ _ | with_reducible refine Below.alloc ?_ ?_ _ | with_reducible apply Below.drew | with_reducible apply below_drewN | omega | (simp; done) | (simp; omega)))
        · by_cases h3 : r3 = []
          · have Hr : Hid (pcut2 false g r = some (false, g, f, pm, pd)) := by
              show _ = _
              rw [Hn.out, Hn2.out]; unfold pcut4; rw [if_neg (by simp), if_pos h3]
            have h3' : r3.isEmpty = true := by simpa using h3
            clear h3
            go_wp2
            (try simp only [Exit.inBlock, Exit.then])
            refine bodyPost_ret (v := .tuple #[.agg #[.bool false, .string ⟨g.toArray⟩, .string ⟨f.toArray⟩, .bool pm, .string ⟨pd.toArray⟩], .bool true]) ?_ rfl ⟨?_, ?_⟩
            · rw [results_cell_tmp rfl]; go_simp
            · rw [Hp.out, Hr.out]; rfl
            · (repeat' (first | with_reducible assumption | with_reducible exact Below.refl _ _ | with_reducible exact Nat.le_refl _ | with_reducible refine Below.setCell ?_ ?_ _ | with_reducible refine Below.alloc ?_ ?_ _ | with_reducible apply Below.drew | with_reducible apply below_drewN | omega | (simp; done) | (simp; omega)))
          · have Hr : Hid (pcut2 false g r = none) := by
              show _ = _
              rw [Hn.out, Hn2.out]; unfold pcut4; rw [if_neg (by simp), if_neg h3]
            have h3' : r3.isEmpty = false := by simpa using h3
            clear h3
            go_wp2
            (try simp only [Exit.inBlock, Exit.then])
            refine bodyPost_ret (v := .tuple #[.agg #[.bool false, .string ⟨#[]⟩, .string ⟨#[]⟩, .bool false, .string ⟨#[]⟩], .bool false]) ?_ rfl ⟨?_, ?_⟩
            · rw [results_cell_tmp rfl]; go_simp
            · rw [Hp.out, Hr.out]; rfl
            · (repeat' (first | with_reducible assumption | with_reducible exact Below.refl _ _ | with_reducible exact Nat.le_refl _ | with_reducible refine Below.setCell ?_ ?_ _ | with_reducible refine Below.alloc ?_ ?_ _ | with_reducible apply Below.drew | with_reducible apply below_drewN | omega | (simp; done) | (simp; omega)))
      · have Hr : Hid (pcut2 false g r = none) := Hn
        go_wp2
        (try simp only [Exit.inBlock, Exit.then])
        refine bodyPost_ret (v := .tuple #[.agg #[.bool false, .string ⟨#[]⟩, .string ⟨#[]⟩, .bool false, .string ⟨#[]⟩], .bool false]) ?_ rfl ⟨?_, ?_⟩
        · rw [results_cell_tmp rfl]; go_simp
        · rw [Hp.out, Hr.out]; rfl
        · (repeat' (first | with_reducible assumption | with_reducible exact Below.refl _ _ | with_reducible exact Nat.le_refl _ | with_reducible refine Below.setCell ?_ ?_ _ | with_reducible refine Below.alloc ?_ ?_ _ | with_reducible apply Below.drew | with_reducible apply below_drewN | omega | (simp; done) | (simp; omega)))
      · have Hn2 : Hid (pcut3 false g f r2 true = pcut4 false g f (cutP r2).1 (cutP r2).2.1 (cutP r2).2.2.1 (cutP r2).2.2.2) := rfl
        go_wp2_with fail
        refine (cutPower_any r2 _ (by omega)).mono ?_
        rintro e w2 ⟨rfl, hB⟩
        have c00 : w2.cell? ⟨w.heap.size, 0, none⟩ = some (.bool false) := (hB.cell (by go_simp)).trans (by go_simp)
        have f00 : w2.frozen? ⟨w.heap.size, 0, none⟩ = false := (hB.frozen (by go_simp)).trans (by go_simp)
        have c01 : w2.cell? ⟨w.heap.size, 1, none⟩ = some (.string ⟨#[]⟩) := (hB.cell (by go_simp)).trans (by go_simp)
        have f01 : w2.frozen? ⟨w.heap.size, 1, none⟩ = false := (hB.frozen (by go_simp)).trans (by go_simp)
        have c02 : w2.cell? ⟨w.heap.size, 2, none⟩ = some (.string ⟨#[]⟩) := (hB.cell (by go_simp)).trans (by go_simp)
        have f02 : w2.frozen? ⟨w.heap.size, 2, none⟩ = false := (hB.frozen (by go_simp)).trans (by go_simp)
        have c03 : w2.cell? ⟨w.heap.size, 3, none⟩ = some (.bool false) := (hB.cell (by go_simp)).trans (by go_simp)
        have f03 : w2.frozen? ⟨w.heap.size, 3, none⟩ = false := (hB.frozen (by go_simp)).trans (by go_simp)
        have c04 : w2.cell? ⟨w.heap.size, 4, none⟩ = some (.string ⟨#[]⟩) := (hB.cell (by go_simp)).trans (by go_simp)
        have f04 : w2.frozen? ⟨w.heap.size, 4, none⟩ = false := (hB.frozen (by go_simp)).trans (by go_simp)
        have c10 : w2.cell? ⟨w.heap.size + 1, 0, none⟩ = some (.bool false) := (hB.cell (by go_simp)).trans (by go_simp)
        have f10 : w2.frozen? ⟨w.heap.size + 1, 0, none⟩ = false := (hB.frozen (by go_simp)).trans (by go_simp)
        have c11 : w2.cell? ⟨w.heap.size + 1, 1, none⟩ = some (.string ⟨g.toArray⟩) := (hB.cell (by go_simp)).trans (by go_simp)
        have f11 : w2.frozen? ⟨w.heap.size + 1, 1, none⟩ = false := (hB.frozen (by go_simp)).trans (by go_simp)
        have c12 : w2.cell? ⟨w.heap.size + 1, 2, none⟩ = some (.string ⟨f.toArray⟩) := (hB.cell (by go_simp)).trans (by go_simp)
        have f12 : w2.frozen? ⟨w.heap.size + 1, 2, none⟩ = false := (hB.frozen (by go_simp)).trans (by go_simp)
        have c13 : w2.cell? ⟨w.heap.size + 1, 3, none⟩ = some (.bool false) := (hB.cell (by go_simp)).trans (by go_simp)
        have f13 : w2.frozen? ⟨w.heap.size + 1, 3, none⟩ = false := (hB.frozen (by go_simp)).trans (by go_simp)
        have c14 : w2.cell? ⟨w.heap.size + 1, 4, none⟩ = some (.string ⟨#[]⟩) := (hB.cell (by go_simp)).trans (by go_simp)
        have f14 : w2.frozen? ⟨w.heap.size + 1, 4, none⟩ = false := (hB.frozen (by go_simp)).trans (by go_simp)
        have hB2 : Below w.heap.size w w2 := by
          refine Below.trans ?_ (Below.mono hB (by simp <;> omega))
          (repeat' (first | with_reducible assumption | with_reducible exact Below.refl _ _ | with_reducible exact Nat.le_refl _ | with_reducible refine Below.setCell ?_ ?_ _ | with_reducible refine Below.alloc ?_ ?_ _ | with_reducible apply Below.drew | with_reducible apply below_drewN | omega | (simp; done) | (simp; omega)))
        clear hB
        generalize (cutP r2).1 = pm at Hn2 ⊢
        generalize (cutP r2).2.1 = pd at Hn2 ⊢
        generalize (cutP r2).2.2.1 = r3 at Hn2 ⊢
        generalize (cutP r2).2.2.2 = ok2 at Hn2 ⊢
        cases ok2
        · have Hr : Hid (pcut2 false g r = none) := Hn.out.trans Hn2.out
          go_wp2
          (try simp only [Exit.inBlock, Exit.then])
          refine bodyPost_ret (v := .tuple #[.agg #[.bool false, .string ⟨#[]⟩, .string ⟨#[]⟩, .bool false, .string ⟨#[]⟩], .bool false]) ?_ rfl ⟨?_, ?_⟩
          · rw [results_cell_tmp rfl]; go_simp
          · rw [Hp.out, Hr.out]; rfl
          · (repeat' (first | with_reducible assumption | with_reducible exact Below.refl _ _ | with_reducible exact Nat.le_refl _ | with_reducible refine Below.setCell ?_ ?_ _ | with_reducible refine Below.alloc ?_ ?_ _ | with_reducible apply Below.drew | with_reducible apply below_drewN | omega | (simp; done) | (simp; omega)))
        · by_cases h3 : r3 = []
          · have Hr : Hid (pcut2 false g r = some (false, g, f, pm, pd)) := by
              show _ = _
              rw [Hn.out, Hn2.out]; unfold pcut4; rw [if_neg (by simp), if_pos h3]
            have h3' : r3.isEmpty = true := by simpa using h3
            clear h3
            go_wp2
            (try simp only [Exit.inBlock, Exit.then])
            refine bodyPost_ret (v := .tuple #[.agg #[.bool false, .string ⟨g.toArray⟩, .string ⟨f.toArray⟩, .bool pm, .string ⟨pd.toArray⟩], .bool true]) ?_ rfl ⟨?_, ?_⟩
            · rw [results_cell_tmp rfl]; go_simp
            · rw [Hp.out, Hr.out]; rfl
            · (repeat' (first | with_reducible assumption | with_reducible exact Below.refl _ _ | with_reducible exact Nat.le_refl _ | with_reducible refine Below.setCell ?_ ?_ _ | with_reducible refine Below.alloc ?_ ?_ _ | with_reducible apply Below.drew | with_reducible apply below_drewN | omega | (simp; done) | (simp; omega)))
          · have Hr : Hid (pcut2 false g r = none) := by
              show _ = _
              rw [Hn.out, Hn2.out]; unfold pcut4; rw [if_neg (by simp), if_neg h3]
            have h3' : r3.isEmpty = false := by simpa using h3
            clear h3
            go_wp2
            (try simp only [Exit.inBlock, Exit.then])
            refine bodyPost_ret (v := .tuple #[.agg #[.bool false, .string ⟨#[]⟩, .string ⟨#[]⟩, .bool false, .string ⟨#[]⟩], .bool false]) ?_ rfl ⟨?_, ?_⟩
            · rw [results_cell_tmp rfl]; go_simp
            · rw [Hp.out, Hr.out]; rfl
            · (repeat' (first | with_reducible assumption | with_reducible exact Below.refl _ _ | with_reducible exact Nat.le_refl _ | with_reducible refine Below.setCell ?_ ?_ _ | with_reducible refine Below.alloc ?_ ?_ _ | with_reducible apply Below.drew | with_reducible apply below_drewN | omega | (simp; done) | (simp; omega)))

set_option maxHeartbeats 2000000 in
theorem cut_minus (l t : List UInt8) (w : World) (hlen : l.length ≤ 281474976710656) (hm : l.head? = some 45) (Hs : Hid ((⟨l.toArray⟩ : ByteArray).extract 1 l.length = ⟨t.toArray⟩)) (ht : t.length ≤ 281474976710656) (h1 : 1 ≤ l.length) :
    Calls Tryd.prog 53 #[.string ⟨l.toArray⟩] w fun e w' => e = .returned (.tuple #[pvals (pcut1 true t), .bool (pcut1 true t).isSome]) ∧ Below w.heap.size w w' := by
  have Hm : Hid ((if l.head? = some 45 then (0 : Int) else 1) = 0) := by show _ = _; rw [if_pos hm]
  have Hp : Hid (pcut1 true t = pcut2 true (digs t) (rst t)) := rfl
  have hr := (nd_len t).2
  have hF := cutF_len (rst t)
  clear hm
  go_enter Tryd.func53, Tryd.ntmps53
  go_wp2_with fail
  refine (firstPart_any l _ hlen).mono ?_
  rintro e w' ⟨rfl, rfl⟩
  rw [Hm.out]
  go_wp2_with fail
  go_region
  rw [Hs.out]
  go_wp2_with fail
  refine (cutDigits_any t _ ht).mono ?_
  rintro e w' ⟨rfl, q, rfl⟩
  generalize digs t = g at Hp ⊢
  generalize rst t = r at Hp hr hF ⊢
  by_cases hg : g = []
  · have Hr : Hid (pcut2 true g r = none) := by subst hg; rfl
    have hg' : g.isEmpty = true := by subst hg; rfl
    clear hg
    go_wp2
    (try simp only [Exit.inBlock, Exit.then])
    refine bodyPost_ret (v := .tuple #[.agg #[.bool false, .string ⟨#[]⟩, .string ⟨#[]⟩, .bool false, .string ⟨#[]⟩], .bool false]) ?_ rfl ⟨?_, ?_⟩
    · rw [results_cell_tmp rfl]; go_simp
    · rw [Hp.out, Hr.out]; rfl
    · (repeat' (first | with_reducible assumption | with_reducible exact Below.refl _ _ | with_reducible exact Nat.le_refl _ | with_reducible refine Below.setCell ?_ ?_ _ | with_reducible refine Below.alloc ?_ ?_ _ | with_reducible apply Below.drew | with_reducible apply below_drewN | omega | (simp; done) | (simp; omega)))
  · have hg' : g.isEmpty = false := by simpa using hg
    obtain ⟨c, hc⟩ : ∃ c, g.head? = some c := by
      cases g with
      | nil => exact absurd rfl hg
      | cons x y => exact ⟨x, rfl⟩
    have hl1 : 1 ≤ g.length := by
      cases g with
      | nil => exact absurd rfl hg
      | cons x y => simp
    have gx : (⟨g.toArray⟩ : ByteArray)[0]'(by show 0 < g.toArray.size; simp; omega) = c := by
      cases g with
      | nil => exact absurd rfl hg
      | cons x y => have e : x = c := by simpa using hc
                    subst e; rfl
    clear hg
    by_cases hbad : 1 < g.length ∧ c = 48
    · have Hr : Hid (pcut2 true g r = none) := by
        show _ = _
        have : badW g = true := by unfold badW; rw [hc, hbad.2]; simp [hbad.1]
        unfold pcut2; rw [if_pos this]
      have h2 : 1 < g.length := hbad.1
      have hq : ((c.toNat : Int) == 48) = true := by rw [u8_eq48, hbad.2]; rfl
      clear hc hbad
      go_wp2
      (try simp only [Exit.inBlock, Exit.then])
      refine bodyPost_ret (v := .tuple #[.agg #[.bool false, .string ⟨#[]⟩, .string ⟨#[]⟩, .bool false, .string ⟨#[]⟩], .bool false]) ?_ rfl ⟨?_, ?_⟩
      · rw [results_cell_tmp rfl]; go_simp
      · rw [Hp.out, Hr.out]; rfl
      · (repeat' (first | with_reducible assumption | with_reducible exact Below.refl _ _ | with_reducible exact Nat.le_refl _ | with_reducible refine Below.setCell ?_ ?_ _ | with_reducible refine Below.alloc ?_ ?_ _ | with_reducible apply Below.drew | with_reducible apply below_drewN | omega | (simp; done) | (simp; omega)))
    · have Hb : Hid (¬ badW g = true) := by
        show ¬ _
        unfold badW; rw [hc, hg']; simp; intro h1 h2; exact hbad ⟨h1, h2⟩
      have hq2 : 1 < g.length → ((c.toNat : Int) == 48) = false := by
        intro h; rw [u8_eq48]; exact decide_eq_false fun e => hbad ⟨h, e⟩
      have hcases : (g.length ≤ 1) ∨ (1 < g.length ∧ ((c.toNat : Int) == 48) = false) := by
        by_cases h : 1 < g.length
        · exact .inr ⟨h, hq2 h⟩
        · exact .inl (by omega)
      clear hc hbad hq2
      have Hn : Hid (pcut2 true g r = pcut3 true g (cutF r).1 (cutF r).2.1 (cutF r).2.2) := by show _ = _; unfold pcut2; rw [if_neg Hb.out]
      rcases hcases with hle | ⟨hgt, hq⟩
      all_goals go_wp2_with fail
      all_goals refine (cutFraction_any r _ (by omega)).mono ?_
      all_goals rintro e w' ⟨rfl, q2, rfl⟩
      all_goals generalize (cutF r).1 = f at Hn ⊢
      all_goals generalize (cutF r).2.1 = r2 at Hn hF ⊢
      all_goals generalize (cutF r).2.2 = ok at Hn ⊢
      all_goals cases ok
      · have Hr : Hid (pcut2 true g r = none) := Hn
        go_wp2
        (try simp only [Exit.inBlock, Exit.then])
        refine bodyPost_ret (v := .tuple #[.agg #[.bool false, .string ⟨#[]⟩, .string ⟨#[]⟩, .bool false, .string ⟨#[]⟩], .bool false]) ?_ rfl ⟨?_, ?_⟩
        · rw [results_cell_tmp rfl]; go_simp
        · rw [Hp.out, Hr.out]; rfl
        · (repeat' (first | with_reducible assumption | with_reducible exact Below.refl _ _ | with_reducible exact Nat.le_refl _ | with_reducible refine Below.setCell ?_ ?_ _ | with_reducible refine Below.alloc ?_ ?_ _ | with_reducible apply Below.drew | with_reducible apply below_drewN | omega | (simp; done) | (simp; omega)))
      · have Hn2 : Hid (pcut3 true g f r2 true = pcut4 true g f (cutP r2).1 (cutP r2).2.1 (cutP r2).2.2.1 (cutP r2).2.2.2) := rfl
        go_wp2_with fail
        refine (cutPower_any r2 _ (by omega)).mono ?_
        rintro e w2 ⟨rfl, hB⟩
        have c00 : w2.cell? ⟨w.heap.size, 0, none⟩ = some (.bool false) := (hB.cell (by go_simp)).trans (by go_simp)
        have f00 : w2.frozen? ⟨w.heap.size, 0, none⟩ = false := (hB.frozen (by go_simp)).trans (by go_simp)
        have c01 : w2.cell? ⟨w.heap.size, 1, none⟩ = some (.string ⟨#[]⟩) := (hB.cell (by go_simp)).trans (by go_simp)
        have f01 : w2.frozen? ⟨w.heap.size, 1, none⟩ = false := (hB.frozen (by go_simp)).trans (by go_simp)
        have c02 : w2.cell? ⟨w.heap.size, 2, none⟩ = some (.string ⟨#[]⟩) := (hB.cell (by go_simp)).trans (by go_simp)
        have f02 : w2.frozen? ⟨w.heap.size, 2, none⟩ = false := (hB.frozen (by go_simp)).trans (by go_simp)
        have c03 : w2.cell? ⟨w.heap.size, 3, none⟩ = some (.bool false) := (hB.cell (by go_simp)).trans (by go_simp)
        have f03 : w2.frozen? ⟨w.heap.size, 3, none⟩ = false := (hB.frozen (by go_simp)).trans (by go_simp)
        have c04 : w2.cell? ⟨w.heap.size, 4, none⟩ = some (.string ⟨#[]⟩) := (hB.cell (by go_simp)).trans (by go_simp)
        have f04 : w2.frozen? ⟨w.heap.size, 4, none⟩ = false := (hB.frozen (by go_simp)).trans (by go_simp)
        have c10 : w2.cell? ⟨w.heap.size + 1, 0, none⟩ = some (.bool true) := (hB.cell (by go_simp)).trans (by go_simp)
        have f10 : w2.frozen? ⟨w.heap.size + 1, 0, none⟩ = false := (hB.frozen (by go_simp)).trans (by go_simp)
        have c11 : w2.cell? ⟨w.heap.size + 1, 1, none⟩ = some (.string ⟨g.toArray⟩) := (hB.cell (by go_simp)).trans (by go_simp)
        have f11 : w2.frozen? ⟨w.heap.size + 1, 1, none⟩ = false := (hB.frozen (by go_simp)).trans (by go_simp)
        have c12 : w2.cell? ⟨w.heap.size + 1, 2, none⟩ = some (.string ⟨f.toArray⟩) := (hB.cell (by go_simp)).trans (by go_simp)
        have f12 : w2.frozen? ⟨w.heap.size + 1, 2, none⟩ = false := (hB.frozen (by go_simp)).trans (by go_simp)
        have c13 : w2.cell? ⟨w.heap.size + 1, 3, none⟩ = some (.bool false) := (hB.cell (by go_simp)).trans (by go_simp)
        have f13 : w2.frozen? ⟨w.heap.size + 1, 3, none⟩ = false := (hB.frozen (by go_simp)).trans (by go_simp)
        have c14 : w2.cell? ⟨w.heap.size + 1, 4, none⟩ = some (.string ⟨#[]⟩) := (hB.cell (by go_simp)).trans (by go_simp)
        have f14 : w2.frozen? ⟨w.heap.size + 1, 4, none⟩ = false := (hB.frozen (by go_simp)).trans (by go_simp)
        have hB2 : Below w.heap.size w w2 := by
          refine Below.trans ?_ (Below.mono hB (by simp <;> omega))
          (repeat' (first | with_reducible assumption | with_reducible exact Below.refl _ _ | with_reducible exact Nat.le_refl _ | with_reducible refine Below.setCell ?_ ?_ _ | with_reducible refine Below.alloc ?_ ?_ _ | with_reducible apply Below.drew | with_reducible apply below_drewN | omega | (simp; done) | (simp; omega)))
        clear hB
        generalize (cutP r2).1 = pm at Hn2 ⊢
        generalize (cutP r2).2.1 = pd at Hn2 ⊢
        generalize (cutP r2).2.2.1 = r3 at Hn2 ⊢
        generalize (cutP r2).2.2.2 = ok2 at Hn2 ⊢
        cases ok2
        · have Hr : Hid (pcut2 true g r = none) := Hn.out.trans Hn2.out
          go_wp2
          (try simp only [Exit.inBlock, Exit.then])
          refine bodyPost_ret (v := .tuple #[.agg #[.bool false, .string ⟨#[]⟩, .string ⟨#[]⟩, .bool false, .string ⟨#[]⟩], .bool false]) ?_ rfl ⟨?_, ?_⟩
          · rw [results_cell_tmp rfl]; go_simp
          · rw [Hp.out, Hr.out]; rfl
          · (repeat' (first | with_reducible assumption | with_reducible exact Below.refl _ _ | with_reducible exact Nat.le_refl _ | with_reducible refine Below.setCell ?_ ?_ _ | with_reducible refine Below.alloc ?_ ?_ _ | with_reducible apply Below.drew | with_reducible apply below_drewN | omega | (simp; done) | (simp; omega)))
        · by_cases h3 : r3 = []
          · have Hr : Hid (pcut2 true g r = some (true, g, f, pm, pd)) := by
              show _ = _
              rw [Hn.out, Hn2.out]; unfold pcut4; rw [if_neg (by simp), if_pos h3]
            have h3' : r3.isEmpty = true := by simpa using h3
            clear h3
            go_wp2
            (try simp only [Exit.inBlock, Exit.then])
            refine bodyPost_ret (v := .tuple #[.agg #[.bool true, .string ⟨g.toArray⟩, .string ⟨f.toArray⟩, .bool pm, .string ⟨pd.toArray⟩], .bool true]) ?_ rfl ⟨?_, ?_⟩
            · rw [results_cell_tmp rfl]; go_simp
            · rw [Hp.out, Hr.out]; rfl
            · (repeat' (first | with_reducible assumption | with_reducible exact Below.refl _ _ | with_reducible exact Nat.le_refl _ | with_reducible refine Below.setCell ?_ ?_ _ | with_reducible refine Below.alloc ?_ ?_ _ | with_reducible apply Below.drew | with_reducible apply below_drewN | omega | (simp; done) | (simp; omega)))
          · have Hr : Hid (pcut2 true g r = none) := by
              show _ = _
              rw [Hn.out, Hn2.out]; unfold pcut4; rw [if_neg (by simp), if_neg h3]
            have h3' : r3.isEmpty = false := by simpa using h3
            clear h3
            go_wp2
            (try simp only [Exit.inBlock, Exit.then])
            refine bodyPost_ret (v := .tuple #[.agg #[.bool false, .string ⟨#[]⟩, .string ⟨#[]⟩, .bool false, .string ⟨#[]⟩], .bool false]) ?_ rfl ⟨?_, ?_⟩
            · rw [results_cell_tmp rfl]; go_simp
            · rw [Hp.out, Hr.out]; rfl
            · (repeat' (first | with_reducible assumption | with_reducible exact Below.refl _ _ | with_reducible exact Nat.le_refl _ | with_reducible refine Below.setCell ?_ ?_ _ | with_reducible refine Below.alloc ?_ ?_ _ | with_reducible apply Below.drew | with_reducible apply below_drewN | omega | (simp; done) | (simp; omega)))
      · have Hr : Hid (pcut2 true g r = none) := Hn
        go_wp2
        (try simp only [Exit.inBlock, Exit.then])
        refine bodyPost_ret (v := .tuple #[.agg #[.bool false, .string ⟨#[]⟩, .string ⟨#[]⟩, .bool false, .string ⟨#[]⟩], .bool false]) ?_ rfl ⟨?_, ?_⟩
        · rw [results_cell_tmp rfl]; go_simp
        · rw [Hp.out, Hr.out]; rfl
        · (repeat' (first | with_reducible assumption | with_reducible exact Below.refl _ _ | with_reducible exact Nat.le_refl _ | with_reducible refine Below.setCell ?_ ?_ _ | with_reducible refine Below.alloc ?_ ?_ _ | with_reducible apply Below.drew | with_reducible apply below_drewN | omega | (simp; done) | (simp; omega)))
      · have Hn2 : Hid (pcut3 true g f r2 true = pcut4 true g f (cutP r2).1 (cutP r2).2.1 (cutP r2).2.2.1 (cutP r2).2.2.2) := rfl
        go_wp2_with fail
        refine (cutPower_any r2 _ (by omega)).mono ?_
        rintro e w2 ⟨rfl, hB⟩
        have c00 : w2.cell? ⟨w.heap.size, 0, none⟩ = some (.bool false) := (hB.cell (by go_simp)).trans (by go_simp)
        have f00 : w2.frozen? ⟨w.heap.size, 0, none⟩ = false := (hB.frozen (by go_simp)).trans (by go_simp)
        have c01 : w2.cell? ⟨w.heap.size, 1, none⟩ = some (.string ⟨#[]⟩) := (hB.cell (by go_simp)).trans (by go_simp)
        have f01 : w2.frozen? ⟨w.heap.size, 1, none⟩ = false := (hB.frozen (by go_simp)).trans (by go_simp)
        have c02 : w2.cell? ⟨w.heap.size, 2, none⟩ = some (.string ⟨#[]⟩) := (hB.cell (by go_simp)).trans (by go_simp)
        have f02 : w2.frozen? ⟨w.heap.size, 2, none⟩ = false := (hB.frozen (by go_simp)).trans (by go_simp)
        have c03 : w2.cell? ⟨w.heap.size, 3, none⟩ = some (.bool false) := (hB.cell (by go_simp)).trans (by go_simp)
        have f03 : w2.frozen? ⟨w.heap.size, 3, none⟩ = false := (hB.frozen (by go_simp)).trans (by go_simp)
        have c04 : w2.cell? ⟨w.heap.size, 4, none⟩ = some (.string ⟨#[]⟩) := (hB.cell (by go_simp)).trans (by go_simp)
        have f04 : w2.frozen? ⟨w.heap.size, 4, none⟩ = false := (hB.frozen (by go_simp)).trans (by go_simp)
        have c10 : w2.cell? ⟨w.heap.size + 1, 0, none⟩ = some (.bool true) := (hB.cell (by go_simp)).trans (by go_simp)
        have f10 : w2.frozen? ⟨w.heap.size + 1, 0, none⟩ = false := (hB.frozen (by go_simp)).trans (by go_simp)
        have c11 : w2.cell? ⟨w.heap.size + 1, 1, none⟩ = some (.string ⟨g.toArray⟩) := (hB.cell (by go_simp)).trans (by go_simp)
        have f11 : w2.frozen? ⟨w.heap.size + 1, 1, none⟩ = false := (hB.frozen (by go_simp)).trans (by go_simp)
        have c12 : w2.cell? ⟨w.heap.size + 1, 2, none⟩ = some (.string ⟨f.toArray⟩) := (hB.cell (by go_simp)).trans (by go_simp)
        have f12 : w2.frozen? ⟨w.heap.size + 1, 2, none⟩ = false := (hB.frozen (by go_simp)).trans (by go_simp)
        have c13 : w2.cell? ⟨w.heap.size + 1, 3, none⟩ = some (.bool false) := (hB.cell (by go_simp)).trans (by go_simp)
        have f13 : w2.frozen? ⟨w.heap.size + 1, 3, none⟩ = false := (hB.frozen (by go_simp)).trans (by go_simp)
        have c14 : w2.cell? ⟨w.heap.size + 1, 4, none⟩ = some (.string ⟨#[]⟩) := (hB.cell (by go_simp)).trans (by go_simp)
        have f14 : w2.frozen? ⟨w.heap.size + 1, 4, none⟩ = false := (hB.frozen (by go_simp)).trans (by go_simp)
        have hB2 : Below w.heap.size w w2 := by
          refine Below.trans ?_ (Below.mono hB (by simp <;> omega))
          (repeat' (first | with_reducible assumption | with_reducible exact Below.refl _ _ | with_reducible exact Nat.le_refl _ | with_reducible refine Below.setCell ?_ ?_ _ | with_reducible refine Below.alloc ?_ ?_ _ | with_reducible apply Below.drew | with_reducible apply below_drewN | omega | (simp; done) | (simp; omega)))
        clear hB
        generalize (cutP r2).1 = pm at Hn2 ⊢
        generalize (cutP r2).2.1 = pd at Hn2 ⊢
        generalize (cutP r2).2.2.1 = r3 at Hn2 ⊢
        generalize (cutP r2).2.2.2 = ok2 at Hn2 ⊢
        cases ok2
        · have Hr : Hid (pcut2 true g r = none) := Hn.out.trans Hn2.out
          go_wp2
          (try simp only [Exit.inBlock, Exit.then])
          refine bodyPost_ret (v := .tuple #[.agg #[.bool false, .string ⟨#[]⟩, .string ⟨#[]⟩, .bool false, .string ⟨#[]⟩], .bool false]) ?_ rfl ⟨?_, ?_⟩
          · rw [results_cell_tmp rfl]; go_simp
          · rw [Hp.out, Hr.out]; rfl
          · (repeat' (first | with_reducible assumption | with_reducible exact Below.refl _ _ | with_reducible exact Nat.le_refl _ | with_reducible refine Below.setCell ?_ ?_ _ | with_reducible refine Below.alloc ?_ ?_ _ | with_reducible apply Below.drew | with_reducible apply below_drewN | omega | (simp; done) | (simp; omega)))
        · by_cases h3 : r3 = []
          · have Hr : Hid (pcut2 true g r = some (true, g, f, pm, pd)) := by
              show _ = _
              rw [Hn.out, Hn2.out]; unfold pcut4; rw [if_neg (by simp), if_pos h3]
            have h3' : r3.isEmpty = true := by simpa using h3
            clear h3
            go_wp2
            (try simp only [Exit.inBlock, Exit.then])
            refine bodyPost_ret (v := .tuple #[.agg #[.bool true, .string ⟨g.toArray⟩, .string ⟨f.toArray⟩, .bool pm, .string ⟨pd.toArray⟩], .bool true]) ?_ rfl ⟨?_, ?_⟩
            · rw [results_cell_tmp rfl]; go_simp
            · rw [Hp.out, Hr.out]; rfl
            · (repeat' (first | with_reducible assumption | with_reducible exact Below.refl _ _ | with_reducible exact Nat.le_refl _ | with_reducible refine Below.setCell ?_ ?_ _ | with_reducible refine Below.alloc ?_ ?_ _ | with_reducible apply Below.drew | with_reducible apply below_drewN | omega | (simp; done) | (simp; omega)))
          · have Hr : Hid (pcut2 true g r = none) := by
              show _ = _
              rw [Hn.out, Hn2.out]; unfold pcut4; rw [if_neg (by simp), if_neg h3]
            have h3' : r3.isEmpty = false := by simpa using h3
            clear h3
            go_wp2
            (try simp only [Exit.inBlock, Exit.then])
            refine bodyPost_ret (v := .tuple #[.agg #[.bool false, .string ⟨#[]⟩, .string ⟨#[]⟩, .bool false, .string ⟨#[]⟩], .bool false]) ?_ rfl ⟨?_, ?_⟩
            · rw [results_cell_tmp rfl]; go_simp
            · rw [Hp.out, Hr.out]; rfl
            · (repeat' (first | with_reducible assumption | with_reducible exact Below.refl _ _ | with_reducible exact Nat.le_refl _ | with_reducible refine Below.setCell ?_ ?_ _ | with_reducible refine Below.alloc ?_ ?_ _ | with_reducible apply Below.drew | with_reducible apply below_drewN | omega | (simp; done) | (simp; omega)))

theorem cutL_len (l : List UInt8) : (cutL l).length ≤ l.length := by unfold cutL; split <;> simp

theorem cut_any (l : List UInt8) (w : World) (hlen : l.length ≤ 281474976710656) :
    Calls Tryd.prog 53 #[.string ⟨l.toArray⟩] w fun e w' => e = .returned (.tuple #[pvals (pcut l), .bool (pcut l).isSome]) ∧ Below w.heap.size w w' := by
  by_cases h : l.head? = some 45
  · have e : pcut l = pcut1 true l.tail := by unfold pcut cutL; rw [if_pos h, decide_eq_true h]
    rw [e]
    have h1 : 1 ≤ l.length := by
      cases l with
      | nil => simp at h
      | cons x r => simp
    exact cut_minus l l.tail w hlen h (suf1 l) (by rw [List.length_tail]; omega) h1
  · have e : pcut l = pcut1 false l := by unfold pcut cutL; rw [if_neg h, decide_eq_false h]
    rw [e]
    exact cut_plus l w hlen h

end Go.Proofs.YtkfchdmlemcjhaaDoor.Dec
namespace Go.Proofs.YtkfchdmlemcjhaaDoor.Dec
open Go.RowKit

set_option maxHeartbeats 400000 in
theorem valid_any (l : List UInt8) (w : World) (hlen : l.length ≤ 281474976710656) :
    Calls Tryd.prog 48 #[.string ⟨l.toArray⟩] w fun e w' => e = .returned (.bool (pcut l).isSome) ∧ Below w.heap.size w w' := by
  have hc := fun w => cut_any l w hlen
  generalize pcut l = o at hc ⊢
  rcases o with _ | ⟨m, g, f, p, d⟩ <;> simp only [pvals, Option.isSome] at hc ⊢
  all_goals
    have Hc : Hid _ := hc
    clear hc
    go_enter Tryd.func48, Tryd.ntmps48
    go_wp2_with fail
    refine (Hc.out _).mono ?_
    rintro e w' ⟨rfl, hB⟩
    have hs := hB.size
    go_wp2
    go_ret
    refine ⟨rfl, ?_⟩
    (repeat' (first | with_reducible assumption | with_reducible exact Below.refl _ _ | with_reducible exact Nat.le_refl _ | with_reducible refine Below.setCell ?_ ?_ _ | with_reducible refine Below.alloc ?_ ?_ _ | with_reducible apply Below.drew | with_reducible apply below_drewN | omega | (simp; done) | (simp; omega)))

/-- Without the noughts at its beginning; without those at its end. -/
def tl (l : List UInt8) : List UInt8 := l.dropWhile fun c => c == 48
def tr (l : List UInt8) : List UInt8 := (tl l.reverse).reverse

theorem tr_snoc (y : List UInt8) (x : UInt8) : tr (y ++ [x]) = if (x == 48) = true then tr y else y ++ [x] := by
  unfold tr tl
  rw [List.reverse_append]
  show (List.dropWhile _ (x :: y.reverse)).reverse = _
  rw [List.dropWhile_cons]
  split <;> simp

/-- The length of a text as the model's value. -/
def sLen : Value → Nat
  | .string b => b.size
  | _ => 0
end Go.Proofs.YtkfchdmlemcjhaaDoor.Dec
namespace Go.Proofs.YtkfchdmlemcjhaaDoor.Dec
open Go.RowKit

theorem isD_rg {c : UInt8} (h : isD c = true) : 48 ≤ c.toNat ∧ c.toNat ≤ 57 := by
  unfold isD at h; simp at h; exact h

theorem digs_al (l : List UInt8) : ∀ c ∈ digs l, isD c = true := by
  intro c hc
  obtain ⟨i, hi, e⟩ := List.getElem_of_mem hc
  have hi' : i < nd l := by rw [← digs_length]; exact hi
  have hl := nd_le l
  have hil : i < l.length := by omega
  have e1 : (digs l)[i] = l[i] := by
    have e2 : (digs l)[i]? = l[i]? := by unfold digs; rw [List.getElem?_take_of_lt hi']
    rw [List.getElem?_eq_getElem hi, List.getElem?_eq_getElem hil] at e2
    exact Option.some.inj e2
  rw [← e, e1]
  exact (nd_lt l i (by omega) hil).1 hi'

/-- The number that digits say, behind acc. -/
def natOf (acc : Nat) : List UInt8 → Nat
  | [] => acc
  | c :: r => natOf (acc * 10 + (c.toNat - 48)) r

theorem natOf_ge : ∀ (l : List UInt8) (acc : Nat), acc ≤ natOf acc l
  | [], acc => Nat.le_refl _
  | c :: r, acc => by
    have := natOf_ge r (acc * 10 + (c.toNat - 48))
    show acc ≤ natOf (acc * 10 + (c.toNat - 48)) r
    omega

theorem natOf_append : ∀ (a b : List UInt8) (acc : Nat), natOf acc (a ++ b) = natOf (natOf acc a) b
  | [], _, _ => rfl
  | _ :: r, b, _ => natOf_append r b _

theorem natOf_snoc (a : List UInt8) (c : UInt8) : natOf 0 (a ++ [c]) = natOf 0 a * 10 + (c.toNat - 48) := by rw [natOf_append]; rfl

theorem natOf_take (g : List UInt8) (i : Nat) : natOf 0 (g.take i) ≤ natOf 0 g := by
  have e : natOf 0 g = natOf 0 (g.take i ++ g.drop i) := by rw [List.take_append_drop]
  rw [e, natOf_append]
  exact natOf_ge _ _

theorem pum_ok (M : Nat) : ∀ (l : List UInt8) (acc u : Nat), Lib.parseUintM M acc l = .ok u → (∀ c ∈ l, isD c = true) ∧ natOf acc l = u
  | [], acc, u, h => by
    unfold Lib.parseUintM at h
    cases h
    exact ⟨fun c hc => by simp at hc, rfl⟩
  | c :: r, acc, u, h => by
    unfold Lib.parseUintM at h
    split at h
    · rename_i hd
      split at h
      · cases h
      · split at h
        · cases h
        · have ih := pum_ok M r _ u h
          refine ⟨fun x hx => ?_, ih.2⟩
          rcases List.mem_cons.1 hx with e | e
          · rw [e]; unfold isD; simp; exact hd
          · exact ih.1 x e
    · cases h

theorem pum_digits : ∀ (l : List UInt8) (acc : Nat), (∀ c ∈ l, isD c = true) → Lib.parseUintM 18446744073709551615 acc l = .ok (natOf acc l) ∨ (Lib.parseUintM 18446744073709551615 acc l = .range ∧ 18446744073709551615 < natOf acc l)
  | [], acc, _ => .inl (by unfold Lib.parseUintM; rfl)
  | c :: r, acc, h => by
    have hc := isD_rg (h c (by simp))
    have hr : ∀ x ∈ r, isD x = true := fun x hx => h x (by simp [hx])
    have hge := natOf_ge r (acc * 10 + (c.toNat - 48))
    have e : natOf acc (c :: r) = natOf (acc * 10 + (c.toNat - 48)) r := rfl
    unfold Lib.parseUintM
    rw [if_pos hc]
    by_cases h1 : 1844674407370955162 ≤ acc
    · rw [if_pos h1]
      exact .inr ⟨rfl, by rw [e]; omega⟩
    · rw [if_neg h1]
      by_cases h2 : 18446744073709551615 < acc * 10 + (c.toNat - 48)
      · rw [if_pos h2]
        exact .inr ⟨rfl, by rw [e]; omega⟩
      · rw [if_neg h2, e]
        exact pum_digits r _ hr

/-- What Whole answers of a sign and digits. -/
def wholeG (m : Bool) (g : List UInt8) : Int × Bool :=
  if 9223372036854775808 < natOf 0 g then (0, false) else if m then (-(natOf 0 g : Int), true) else if natOf 0 g = 9223372036854775808 then (0, false) else ((natOf 0 g : Int), true)

def wholeV : Option PartsM → Int × Bool
  | some (m, g, f, _, d) => if (f.isEmpty && d.isEmpty) = true then wholeG m g else (0, false)
  | none => (0, false)

theorem digs_of_all {l : List UInt8} (h : ∀ c ∈ l, isD c = true) : digs l = l ∧ rst l = [] := by
  have hn : nd l = l.length := by
    have h1 := nd_le l
    rcases Nat.lt_or_ge (nd l) l.length with h2 | h2
    · have := (nd_lt l (nd l) (Nat.le_refl _) h2).2 (h _ (List.getElem_mem h2))
      omega
    · omega
  unfold digs rst
  rw [hn]
  simp

theorem dig_app (l : List UInt8) : digs l ++ rst l = l := by unfold digs rst; exact List.take_append_drop _ _

/-- Where all behind the sign is digits, and it is a number: what its parts are. -/
theorem pcut_plain {l : List UInt8} {m p : Bool} {g f d : List UInt8} (h : pcut l = some (m, g, f, p, d)) (he : (f.isEmpty && d.isEmpty) = true) : cutL l = g ∧ m = decide (l.head? = some 45) ∧ g ≠ [] ∧ ∀ c ∈ g, isD c = true := by
  unfold pcut pcut1 pcut2 pcut3 pcut4 at h
  generalize hl1 : cutL l = l1 at h ⊢
  split at h
  · cases h
  rename_i hbad
  split at h
  · cases h
  rename_i hF
  split at h
  · cases h
  rename_i hP
  split at h
  · rename_i h3
    cases h
    rw [Bool.and_eq_true] at he
    have hf : ¬ (rst l1).head? = some 46 := by
      intro hh
      unfold cutF at hF he
      rw [if_pos hh] at hF
      rw [if_pos hh] at he
      simp only [he.1, Bool.not_true, not_true_eq_false] at hF
    have eF : cutF (rst l1) = ([], rst l1, true) := by unfold cutF; rw [if_neg hf]
    rw [eF] at hP h3 he
    have hE : ¬ isE (rst l1) := by
      intro hh
      unfold cutP at hP he
      rw [if_pos hh] at hP he
      simp only [he.2, Bool.not_true, not_true_eq_false] at hP
    have eP : cutP (rst l1) = (false, [], rst l1, true) := by unfold cutP; rw [if_neg hE]
    simp only [eP] at h3
    refine ⟨?_, rfl, ?_, digs_al l1⟩
    · have := dig_app l1
      rw [h3, List.append_nil] at this
      exact this.symm
    · intro e
      apply hbad
      unfold badW
      rw [e]; rfl
  · cases h

theorem pib_eq (c : UInt8) (r : List UInt8) : Lib.parseIntB 64 (c :: r) = (match Lib.parseUintB 64 (if c.toNat = 43 ∨ c.toNat = 45 then r else c :: r) with
    | .syntax => .syntax
    | .range => .range
    | .ok u => if ¬ c.toNat = 45 ∧ 9223372036854775808 ≤ u then .range else if c.toNat = 45 ∧ 9223372036854775808 < u then .range else .ok (if c.toNat = 45 then -(u : Int) else u)) := rfl

theorem pib_neg (r : List UInt8) : Lib.parseIntB 64 (45 :: r) = (match Lib.parseUintB 64 r with
    | .syntax => .syntax
    | .range => .range
    | .ok u => if 9223372036854775808 < u then .range else .ok (-(u : Int))) := by
  rw [pib_eq]
  have e : (45 : UInt8).toNat = 45 := rfl
  rw [if_pos (.inr e)]
  cases Lib.parseUintB 64 r with
  | ok u => simp [e]
  | «syntax» => rfl
  | range => rfl

theorem pib_pos (c : UInt8) (r : List UInt8) (h1 : c.toNat ≠ 43) (h2 : c.toNat ≠ 45) : Lib.parseIntB 64 (c :: r) = (match Lib.parseUintB 64 (c :: r) with
    | .syntax => .syntax
    | .range => .range
    | .ok u => if 9223372036854775808 ≤ u then .range else .ok (u : Int)) := by
  rw [pib_eq, if_neg (by omega)]
  cases Lib.parseUintB 64 (c :: r) with
  | ok u => simp [h2]
  | «syntax» => rfl
  | range => rfl

theorem pib_ok (c : UInt8) (r : List UInt8) (v : Int) (h : Lib.parseIntB 64 (c :: r) = .ok v) : ∃ u, Lib.parseUintB 64 (if c.toNat = 43 ∨ c.toNat = 45 then r else c :: r) = .ok u := by
  rw [pib_eq] at h
  cases hq : Lib.parseUintB 64 (if c.toNat = 43 ∨ c.toNat = 45 then r else c :: r) with
  | ok u => exact ⟨u, rfl⟩
  | «syntax» => rw [hq] at h; cases h
  | range => rw [hq] at h; cases h

/-- ParseInt's end, and what Whole wants of it. -/
theorem parse_whole (l : List UInt8) : wholeV (pcut l) = match Lib.parseIntB 64 l, pcut l with
    | .ok v, some _ => (v, true)
    | _, _ => (0, false) := by
  rcases hp : pcut l with _ | ⟨m, g, f, p, d⟩
  · cases Lib.parseIntB 64 l <;> rfl
  · show (if (f.isEmpty && d.isEmpty) = true then wholeG m g else (0, false)) = _
    by_cases he : (f.isEmpty && d.isEmpty) = true
    · rw [if_pos he]
      obtain ⟨hc, hm, hne, hall⟩ := pcut_plain hp he
      have hu : Lib.parseIntB 64 l = match Lib.parseUintB 64 g with
          | .syntax => .syntax
          | .range => .range
          | .ok u => if m = true then (if 9223372036854775808 < u then .range else .ok (-(u : Int))) else (if 9223372036854775808 ≤ u then .range else .ok (u : Int)) := by
        cases l with
        | nil =>
          have : g = [] := by rw [← hc]; rfl
          exact absurd this hne
        | cons c r =>
          by_cases h45 : c = 45
          · subst h45
            have hmt : m = true := by rw [hm]; rfl
            have hg : r = g := by rw [← hc]; rfl
            rw [pib_neg, hg, hmt]
            rfl
          · have hmf : m = false := by rw [hm]; simp [h45]
            have hg : c :: r = g := by rw [← hc]; unfold cutL; rw [if_neg (by simpa using h45)]
            have hcD := isD_rg (hall c (by rw [← hg]; simp))
            rw [pib_pos c r (by omega) (by omega), hg, hmf]
            rfl
      have hB : Lib.parseUintB 64 g = Lib.parseUintM 18446744073709551615 0 g := by unfold Lib.parseUintB; rw [if_neg hne]
      rw [hB] at hu
      unfold wholeG
      rcases pum_digits g 0 hall with h | ⟨h, h2⟩
      · rw [h] at hu
        rw [hu]
        by_cases h63 : 9223372036854775808 < natOf 0 g
        · rw [if_pos h63]
          cases m
          · show _ = (match (if 9223372036854775808 ≤ natOf 0 g then Lib.NumEnd.range else .ok (natOf 0 g : Int)), some (false, g, f, p, d) with | .ok v, some _ => (v, true) | _, _ => ((0 : Int), false))
            rw [if_pos (by omega)]
          · show _ = (match (if 9223372036854775808 < natOf 0 g then Lib.NumEnd.range else .ok (-(natOf 0 g : Int))), some (true, g, f, p, d) with | .ok v, some _ => (v, true) | _, _ => ((0 : Int), false))
            rw [if_pos h63]
        · rw [if_neg h63]
          cases m
          · show (if natOf 0 g = 9223372036854775808 then ((0 : Int), false) else ((natOf 0 g : Int), true)) = (match (if 9223372036854775808 ≤ natOf 0 g then Lib.NumEnd.range else .ok (natOf 0 g : Int)), some (false, g, f, p, d) with | .ok v, some _ => (v, true) | _, _ => ((0 : Int), false))
            by_cases heq : natOf 0 g = 9223372036854775808
            · rw [if_pos heq, if_pos (by omega)]
            · rw [if_neg heq, if_neg (by omega)]
          · show (-(natOf 0 g : Int), true) = (match (if 9223372036854775808 < natOf 0 g then Lib.NumEnd.range else .ok (-(natOf 0 g : Int))), some (true, g, f, p, d) with | .ok v, some _ => (v, true) | _, _ => ((0 : Int), false))
            rw [if_neg h63]
      · rw [h] at hu
        rw [hu, if_pos (by omega)]
    · rw [if_neg he]
      rcases hu : Lib.parseIntB 64 l with v | _ | _
      · exfalso
        -- all behind the sign is digits: no dot, no exponent
        cases l with
        | nil => unfold Lib.parseIntB at hu; cases hu
        | cons c r =>
          have hcut : ∀ x, (if c.toNat = 43 ∨ c.toNat = 45 then r else c :: r) = x → (∀ y ∈ x, isD y = true) → False := by
            intro x hx hall
            by_cases h45 : c.toNat = 45
            · have hc45 : c = 45 := UInt8.toNat_inj.1 h45
              rw [if_pos (.inr h45)] at hx
              subst hx
              have e1 : cutL (c :: r) = r := by unfold cutL; rw [if_pos (by simp [hc45])]; rfl
              obtain ⟨e2, e3⟩ := digs_of_all hall
              unfold pcut pcut1 pcut2 pcut3 pcut4 at hp
              rw [e1, e3] at hp
              have eF : cutF [] = ([], [], true) := rfl
              have eP : cutP [] = (false, [], [], true) := rfl
              rw [eF] at hp
              simp only [eP] at hp
              split at hp
              · cases hp
              · simp at hp
                obtain ⟨_, _, h1, _, h2⟩ := hp
                apply he
                rw [h1, h2]; rfl
            · by_cases h43 : c.toNat = 43
              · have hc43 : c = 43 := UInt8.toNat_inj.1 h43
                -- a plus is no number
                have e1 : cutL (c :: r) = c :: r := by unfold cutL; rw [if_neg (by simp [hc43])]
                have e2 : digs (c :: r) = [] := by
                  unfold digs nd
                  rw [hc43]
                  rfl
                unfold pcut pcut1 pcut2 at hp
                rw [e1, e2] at hp
                simp [badW] at hp
              · rw [if_neg (by omega)] at hx
                subst hx
                have e1 : cutL (c :: r) = c :: r := by
                  unfold cutL
                  rw [if_neg]
                  intro h
                  have : c = 45 := by simpa using h
                  apply h45
                  rw [this]; rfl
                obtain ⟨e2, e3⟩ := digs_of_all hall
                unfold pcut pcut1 pcut2 pcut3 pcut4 at hp
                rw [e1, e3] at hp
                have eF : cutF [] = ([], [], true) := rfl
                have eP : cutP [] = (false, [], [], true) := rfl
                rw [eF] at hp
                simp only [eP] at hp
                split at hp
                · cases hp
                · simp at hp
                  obtain ⟨_, _, h1, _, h2⟩ := hp
                  apply he
                  rw [h1, h2]; rfl
          obtain ⟨u, hq⟩ := pib_ok c r v hu
          have hx := hcut _ rfl
          generalize (if c.toNat = 43 ∨ c.toNat = 45 then r else c :: r) = x at hq hx
          unfold Lib.parseUintB at hq
          by_cases h0 : x = []
          · rw [if_pos h0] at hq; cases hq
          · rw [if_neg h0] at hq
            exact hx (pum_ok _ _ _ _ hq).1
      · rfl
      · rfl

end Go.Proofs.YtkfchdmlemcjhaaDoor.Dec