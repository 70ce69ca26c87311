import Derived.Test.YtgkbbcoagnilgabDoorCut2
namespace Go.Proofs.YtgkbbcoagnilgabDoor
open Go.RowKit

set_option maxHeartbeats 400000 in
theorem valid_any (l : List UInt8) (w : World) (hlen : l.length ≤ 281474976710656) :
    Calls Tryd.prog 9 #[.string ⟨l.toArray⟩] w fun e w' => e = .returned (.bool (pcut l).isSome) ∧ Below w.heap.size w w' := by
  have hc := fun w => cut_any l w hlen
  generalize pcut l = o at hc ⊢
  rcases o with _ | ⟨m, g, f, p, d⟩ <;> simp only [pvals, Option.isSome] at hc ⊢
  all_goals
    have Hc : Hid _ := hc
    clear hc
    go_enter Tryd.func9, Tryd.ntmps9
    go_wp2_with fail
    refine (Hc.out _).mono ?_
    rintro e w' ⟨rfl, hB⟩
    have hs := hB.size
    go_wp2
    go_ret
    refine ⟨rfl, ?_⟩
    (repeat' (first | with_reducible assumption | with_reducible exact Below.refl _ _ | with_reducible exact Nat.le_refl _ | with_reducible refine Below.setCell ?_ ?_ _ | with_reducible refine Below.alloc ?_ ?_ _ | with_reducible apply Below.drew | with_reducible apply below_drewN | omega | (simp; done) | (simp; omega)))

/-- Without the noughts at its beginning; without those at its end. -/
def tl (l : List UInt8) : List UInt8 := l.dropWhile fun c => c == 48
def tr (l : List UInt8) : List UInt8 := (tl l.reverse).reverse

theorem eq48 (x : UInt8) : ((x.toNat : Int) == 48) = (x == 48) := by
  rw [u8_eq48]
  by_cases h : x = 48 <;> simp [h]

theorem tl_len (l : List UInt8) : (tl l).length ≤ l.length := by
  unfold tl
  induction l with
  | nil => simp
  | cons x y ih => rw [List.dropWhile_cons]; split <;> simp <;> omega

theorem tr_snoc (y : List UInt8) (x : UInt8) : tr (y ++ [x]) = if (x == 48) = true then tr y else y ++ [x] := by
  unfold tr tl
  rw [List.reverse_append]
  show (List.dropWhile _ (x :: y.reverse)).reverse = _
  rw [List.dropWhile_cons]
  split <;> simp

theorem sufC (x : UInt8) (y : List UInt8) : (⟨(x :: y).toArray⟩ : ByteArray).extract 1 (y.length + 1) = ⟨y.toArray⟩ := by
  have := suf1 (x :: y)
  simpa using this

/-- The length of a text as the model's value. -/
def sLen : Value → Nat
  | .string b => b.size
  | _ => 0
theorem sLen_mk (m : List UInt8) : sLen (.string ⟨m.toArray⟩) = m.length := by show m.toArray.size = _; simp

set_option maxHeartbeats 400000 in
theorem trimLeftByte_any (l : List UInt8) (w : World) (_hlen : l.length ≤ 281474976710656) :
    Calls Tryd.prog 61 #[.string ⟨l.toArray⟩, .int .u8 48] w fun e w' => e = .returned (.string ⟨(tl l).toArray⟩) ∧ w' = w := by
  go_enter Tryd.func61, Tryd.ntmps61
  go_wp2
  go_loop [0] (fun s => ∃ m : List UInt8, s = .string ⟨m.toArray⟩ ∧ m.length ≤ l.length ∧ Hid (tl m = tl l)) (fun s => sLen s)
  case atStart => exact ⟨l, rfl, Nat.le_refl _, rfl⟩
  case round =>
    obtain ⟨m, rfl, hml, Hm⟩ := hrel
    by_cases h0 : m.length = 0
    · obtain rfl : m = [] := List.eq_nil_of_length_eq_zero h0
      clear h0
      go_wp2
      go_ret
      rw [← Hm.out]
      exact ⟨rfl, rfl⟩
    · have h1 : 1 ≤ m.length := by omega
      obtain ⟨c, hc⟩ : ∃ c, m.head? = some c := by
        cases m with
        | nil => simp at h1
        | cons x y => exact ⟨x, rfl⟩
      have gx : (⟨m.toArray⟩ : ByteArray)[0]'(by show 0 < m.toArray.size; simp; omega) = c := by
        cases m with
        | nil => simp at h1
        | cons x y => have e : x = c := by simpa using hc
                      subst e; rfl
      have Hs : Hid ((⟨m.toArray⟩ : ByteArray).extract 1 m.length = ⟨m.tail.toArray⟩) := suf1 m
      have hq := eq48 c
      have Ht : Hid (tl m = if (c == 48) = true then tl m.tail else m) := by
        show _ = _
        cases m with
        | nil => simp at h1
        | cons x y => have e : x = c := by simpa using hc
                      subst e; unfold tl; rw [List.dropWhile_cons]; rfl
      have htl : m.tail.length < m.length := by rw [List.length_tail]; omega
      clear h0 hc
      by_cases hb : (c == 48) = true
      · rw [hb] at hq
        have Ht' : Hid (tl m.tail = tl l) := by
          show _ = _
          rw [← Hm.out, Ht.out, if_pos hb]
        clear hb Ht Hm
        go_wp2
        rw [Hs.out]
        go_round
        case rel => exact ⟨m.tail, rfl, by omega, Ht'⟩
        case measure => rw [sLen_mk, sLen_mk]; exact htl
      · have hb' : (c == 48) = false := by simpa using hb
        rw [hb'] at hq
        have Ht' : Hid (tl l = m) := by
          show _ = _
          rw [← Hm.out, Ht.out, if_neg hb]
        clear hb hb' Ht Hm
        go_wp2
        go_ret
        rw [Ht'.out]
        exact ⟨rfl, rfl⟩

set_option maxHeartbeats 400000 in
theorem trimRightByte_any (l : List UInt8) (w : World) (hlen : l.length ≤ 281474976710656) :
    Calls Tryd.prog 65 #[.string ⟨l.toArray⟩, .int .u8 48] w fun e w' => e = .returned (.string ⟨(tr l).toArray⟩) ∧ w' = w := by
  go_enter Tryd.func65, Tryd.ntmps65
  go_wp2
  go_loop [0] (fun s => ∃ m : List UInt8, s = .string ⟨m.toArray⟩ ∧ m.length ≤ l.length ∧ Hid (tr m = tr l)) (fun s => sLen s)
  case atStart => exact ⟨l, rfl, Nat.le_refl _, rfl⟩
  case round =>
    obtain ⟨m, rfl, hml, Hm⟩ := hrel
    by_cases h0 : m.length = 0
    · obtain rfl : m = [] := List.eq_nil_of_length_eq_zero h0
      clear h0
      go_wp2
      go_ret
      rw [← Hm.out]
      exact ⟨rfl, rfl⟩
    · have h1 : 1 ≤ m.length := by omega
      have hne : m ≠ [] := by intro e; subst e; simp at h1
      obtain ⟨y, c, hy⟩ : ∃ y c, m = y ++ [c] := ⟨m.dropLast, m.getLast hne, (List.dropLast_concat_getLast hne).symm⟩
      have hyl : y.length = m.length - 1 := by rw [hy]; simp
      have Hyl : Hid (y.length = m.length - 1) := hyl
      have gx : (⟨m.toArray⟩ : ByteArray)[m.length - 1]'(by show m.length - 1 < m.toArray.size; simp; omega) = c := by
        subst hy
        show (y ++ [c]).toArray[(y ++ [c]).length - 1]'(by simp) = c
        simp
      have Hs : Hid ((⟨m.toArray⟩ : ByteArray).extract 0 (m.length - 1) = ⟨y.toArray⟩) := by
        show _ = _
        rw [pre_eq, ← hyl, hy, List.take_left]
      have hq := eq48 c
      have Ht : Hid (tr m = if (c == 48) = true then tr y else m) := by
        show _ = _
        rw [hy]; exact tr_snoc y c
      clear h0 hne hy hyl
      by_cases hb : (c == 48) = true
      · rw [hb] at hq
        have Ht' : Hid (tr y = tr l) := by
          show _ = _
          rw [← Hm.out, Ht.out, if_pos hb]
        clear hb Ht Hm
        go_wp2
        rw [Hs.out]
        go_round
        case rel => exact ⟨y, rfl, by have := Hyl.out; omega, Ht'⟩
        case measure => rw [sLen_mk, sLen_mk]; have := Hyl.out; omega
      · have hb' : (c == 48) = false := by simpa using hb
        rw [hb'] at hq
        have Ht' : Hid (tr l = m) := by
          show _ = _
          rw [← Hm.out, Ht.out, if_neg hb]
        clear hb hb' Ht Hm
        go_wp2
        go_ret
        rw [Ht'.out]
        exact ⟨rfl, rfl⟩

theorem tl_nil : tl [] = [] := rfl
theorem tr_nil : tr [] = [] := rfl

set_option maxRecDepth 10000 in
set_option maxHeartbeats 400000 in
theorem trimLeft_any (l : List UInt8) (w : World) (hlen : l.length ≤ 281474976710656) :
    Calls Tryd.prog 34 #[.string ⟨l.toArray⟩, .string ⟨#[48]⟩] w fun e w' => e = .returned (.string ⟨(tl l).toArray⟩) ∧ w' = w := by
  by_cases h : l = []
  · subst h
    rw [tl_nil]
    go_enter Tryd.func34, Tryd.ntmps34
    go_wp2
    go_ret
    exact ⟨rfl, rfl⟩
  · have h' : l.isEmpty = false := by simpa using h
    clear h
    go_enter Tryd.func34, Tryd.ntmps34
    go_wp2_with fail
    refine (trimLeftByte_any l w hlen).mono ?_
    rintro e w' ⟨rfl, rfl⟩
    go_wp2
    go_ret
    exact ⟨rfl, rfl⟩

set_option maxRecDepth 10000 in
set_option maxHeartbeats 400000 in
theorem trimRight_any (l : List UInt8) (w : World) (hlen : l.length ≤ 281474976710656) :
    Calls Tryd.prog 35 #[.string ⟨l.toArray⟩, .string ⟨#[48]⟩] w fun e w' => e = .returned (.string ⟨(tr l).toArray⟩) ∧ w' = w := by
  by_cases h : l = []
  · subst h
    rw [tr_nil]
    go_enter Tryd.func35, Tryd.ntmps35
    go_wp2
    go_ret
    exact ⟨rfl, rfl⟩
  · have h' : l.isEmpty = false := by simpa using h
    clear h
    go_enter Tryd.func35, Tryd.ntmps35
    go_wp2_with fail
    refine (trimRightByte_any l w hlen).mono ?_
    rintro e w' ⟨rfl, rfl⟩
    go_wp2
    go_ret
    exact ⟨rfl, rfl⟩

end Go.Proofs.YtgkbbcoagnilgabDoor
