import Derived.Test.YtcdcfgkgighmhaaGreatDoorDcBase
import Derived.Laws.ResultCell
namespace Go.Proofs.YtcdcfgkgighmhaaGreatDoor.Dec
open Go.RowKit

/-- What cutFraction answers; what cutPower does: the sign and the digits, what follows, whether. -/
def cutF (l : List UInt8) : List UInt8 × List UInt8 × Bool :=
  if l.head? = some 46 then (digs l.tail, rst l.tail, !(digs l.tail).isEmpty) else ([], l, true)
def isE (l : List UInt8) : Prop := l.head? = some 101 ∨ l.head? = some 69
instance (l : List UInt8) : Decidable (isE l) := inferInstanceAs (Decidable (_ ∨ _))
def isS (l : List UInt8) : Prop := l.head? = some 43 ∨ l.head? = some 45
instance (l : List UInt8) : Decidable (isS l) := inferInstanceAs (Decidable (_ ∨ _))
def skS (l : List UInt8) : List UInt8 := if isS l then l.tail else l
def cutP (l : List UInt8) : Bool × List UInt8 × List UInt8 × Bool :=
  if isE l then (decide (l.tail.head? = some 45), digs (skS l.tail), rst (skS l.tail), !(digs (skS l.tail)).isEmpty) else (false, [], l, true)

theorem suf1 (l : List UInt8) : (⟨l.toArray⟩ : ByteArray).extract 1 l.length = ⟨l.tail.toArray⟩ := by rw [suf_eq]; simp

theorem skS_len (l : List UInt8) : (skS l).length ≤ l.length := by unfold skS; split <;> simp

set_option maxHeartbeats 400000 in
theorem cutFraction_any (l : List UInt8) (w : World) (hlen : l.length ≤ 281474976710656) :
    Calls Tryz.prog 118 #[.string ⟨l.toArray⟩] w fun e w' => e = .returned (.tuple #[.string ⟨(cutF l).1.toArray⟩, .string ⟨(cutF l).2.1.toArray⟩, .bool (cutF l).2.2]) ∧ ∃ q, w' = w.drewN q := by
  by_cases h : l.head? = some 46
  · have Hd : Hid (decide (l.head? = some 46) = true) := by show _ = _; simpa using h
    have Hc : Hid (cutF l = (digs l.tail, rst l.tail, !(digs l.tail).isEmpty)) := by show _ = _; unfold cutF; rw [if_pos h]
    have Hs : Hid ((⟨l.toArray⟩ : ByteArray).extract 1 l.length = ⟨l.tail.toArray⟩) := suf1 l
    have h1 : 1 ≤ l.length := by
      cases l with
      | nil => simp at h
      | cons x r => simp
    have hl : l.tail.length ≤ 281474976710656 := by rw [List.length_tail]; omega
    clear h
    go_enter Tryz.func118, Tryz.ntmps118
    go_wp2_with fail
    refine (has_any l 46 w hlen).mono ?_
    rintro e w' ⟨rfl, rfl⟩
    rw [Hd.out]
    go_wp2_with fail
    rw [Hs.out]
    refine (cutDigits_any l.tail _ hl).mono ?_
    rintro e w'' ⟨rfl, q, rfl⟩
    generalize digs l.tail = g at Hc ⊢
    generalize rst l.tail = r at Hc ⊢
    go_wp2
    go_ret3
    rw [Hc.out]
    exact ⟨rfl, _, rfl⟩
  · have Hd : Hid (decide (l.head? = some 46) = false) := by show _ = _; simpa using h
    have Hc : Hid (cutF l = ([], l, true)) := by show _ = _; unfold cutF; rw [if_neg h]
    clear h
    go_enter Tryz.func118, Tryz.ntmps118
    go_wp2_with fail
    refine (has_any l 46 w hlen).mono ?_
    rintro e w' ⟨rfl, rfl⟩
    rw [Hd.out]
    go_wp2
    go_ret3
    rw [Hc.out]
    exact ⟨rfl, 0, rfl⟩

set_option maxHeartbeats 400000 in
theorem firstPart_any (l : List UInt8) (w : World) (hlen : l.length ≤ 281474976710656) :
    Calls Tryz.prog 116 #[.string ⟨l.toArray⟩] w fun e w' => e = .returned (.int .i64 (if l.head? = some 45 then 0 else 1)) ∧ w' = w := by
  by_cases h : l.head? = some 45
  · have Hd : Hid (decide (l.head? = some 45) = true) := by show _ = _; simpa using h
    rw [if_pos h]
    clear h
    go_enter Tryz.func116, Tryz.ntmps116
    go_wp2_with fail
    refine (has_any l 45 w hlen).mono ?_
    rintro e w' ⟨rfl, rfl⟩
    rw [Hd.out]
    go_wp2
    go_ret
    exact ⟨rfl, rfl⟩
  · have Hd : Hid (decide (l.head? = some 45) = false) := by show _ = _; simpa using h
    rw [if_neg h]
    clear h
    go_enter Tryz.func116, Tryz.ntmps116
    go_wp2_with fail
    refine (has_any l 45 w hlen).mono ?_
    rintro e w' ⟨rfl, rfl⟩
    rw [Hd.out]
    go_wp2
    go_ret
    exact ⟨rfl, rfl⟩

theorem results_cell_tmp2 {fn : Func} {p u v : Tmp} {ty : TypeId} (h : fn.results = #[.cell p ty, .tmp u, .tmp v]) (tmps : Array Value) (P : Program) (w : World) :
    (results fn tmps).run P w =
      ((asAddr (tmps.getD p undef)).run P w).andThen fun a w₁ => ((loadVar ty a).run P w₁).andThen fun x w₂ => .ok (.tuple #[x, tmps.getD u undef, tmps.getD v undef]) w₂ := by
  simp only [results, h]
  simp [Sem.run_bind, Result.andThen]

end Go.Proofs.YtcdcfgkgighmhaaGreatDoor.Dec