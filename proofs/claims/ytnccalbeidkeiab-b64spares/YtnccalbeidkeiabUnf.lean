import Derived.Test.YtnccalbeidkeiabFirst
namespace Go.Proofs.Ytnccalbeidkeiab
open Go.RowKit

/-- Without one '=' at the end. -/
def cut1 (l : List UInt8) : List UInt8 := if l.getLast? = some 61 then l.dropLast else l

theorem cut1_len (l : List UInt8) : (cut1 l).length ≤ l.length := by
  unfold cut1; split <;> simp

theorem last_eq (l : List UInt8) (h : 1 ≤ l.length) : (((⟨l.toArray⟩ : ByteArray).extract (l.length - 1) l.length).toList == [61]) = decide (l.getLast? = some 61) := by
  have hne : l ≠ [] := by intro e; subst e; simp at h
  obtain ⟨m, x, rfl⟩ : ∃ m x, l = m ++ [x] := ⟨l.dropLast, l.getLast hne, (List.dropLast_concat_getLast hne).symm⟩
  rw [Lib.extract_toList]
  show (((m ++ [x]).drop ((m ++ [x]).length - 1)).take ((m ++ [x]).length - ((m ++ [x]).length - 1)) == [61]) = _
  have e2 : (m ++ [x]).length - ((m ++ [x]).length - 1) = 1 := by simp
  have e3 : (m ++ [x]).length - 1 = m.length := by simp
  rw [e2, e3, List.drop_left]
  by_cases hc : x = 61 <;> simp [hc]

theorem cut_eq (l : List UInt8) : (⟨l.toArray⟩ : ByteArray).extract 0 (l.length - 1) = ⟨l.dropLast.toArray⟩ := by
  rw [Lib.extract_eq]
  simp [List.dropLast_eq_take]

set_option maxHeartbeats 400000 in
theorem has_any (l : List UInt8) (w : World) (hlen : l.length ≤ 281474976710656) :
    Calls Try.prog 23 #[.string ⟨l.toArray⟩, .string ⟨#[61]⟩] w fun e w' => e = .returned (.bool (decide (l.getLast? = some 61))) ∧ w' = w := by
  by_cases h0 : 1 ≤ l.length
  · have H : Hid ((((⟨l.toArray⟩ : ByteArray).extract (l.length - 1) l.length).toList == [61]) = decide (l.getLast? = some 61)) := last_eq l h0
    go_enter Try.func23, Try.ntmps23
    go_wp2
    go_ret
    rw [H.out]
    exact ⟨rfl, rfl⟩
  · obtain rfl : l = [] := List.eq_nil_of_length_eq_zero (by omega)
    go_enter Try.func23, Try.ntmps23
    go_wp2
    go_ret
    exact ⟨by simp, rfl⟩

set_option maxHeartbeats 400000 in
theorem trimLite_any (l : List UInt8) (w : World) (hlen : l.length ≤ 281474976710656) :
    Calls Try.prog 21 #[.string ⟨l.toArray⟩, .string ⟨#[61]⟩] w fun e w' => e = .returned (.string ⟨(cut1 l).toArray⟩) ∧ w' = w := by
  have Hc : Hid ((⟨l.toArray⟩ : ByteArray).extract 0 (l.length - 1) = ⟨l.dropLast.toArray⟩) := cut_eq l
  by_cases h : l.getLast? = some 61
  · have hd : decide (l.getLast? = some 61) = true := by simpa using h
    have Hd : Hid (decide (l.getLast? = some 61) = true) := hd
    have He : Hid (cut1 l = l.dropLast) := by simp [Hid, cut1, h]
    have hp : 1 ≤ l.length := by
      cases l with
      | nil => simp at h
      | cons a r => simp
    clear h hd
    go_enter Try.func21, Try.ntmps21
    go_wp2_with fail
    refine (has_any l w hlen).mono ?_
    rintro e w' ⟨rfl, rfl⟩
    rw [Hd.out]
    go_wp2
    go_ret
    rw [He.out, ← Hc.out]
    exact ⟨rfl, rfl⟩
  · have hd : decide (l.getLast? = some 61) = false := by simpa using h
    have Hd : Hid (decide (l.getLast? = some 61) = false) := hd
    have He : Hid (cut1 l = l) := by simp [Hid, cut1, h]
    clear h hd
    go_enter Try.func21, Try.ntmps21
    go_wp2_with fail
    refine (has_any l w hlen).mono ?_
    rintro e w' ⟨rfl, rfl⟩
    rw [Hd.out]
    go_wp2
    go_ret
    rw [He.out]
    exact ⟨rfl, rfl⟩

set_option maxHeartbeats 400000 in
theorem trim_any (l : List UInt8) (w : World) (hlen : l.length ≤ 281474976710656) :
    Calls Try.prog 17 #[.string ⟨l.toArray⟩, .string ⟨#[61]⟩] w fun e w' => e = .returned (.string ⟨(cut1 l).toArray⟩) ∧ w' = w := by
  go_enter Try.func17, Try.ntmps17
  go_wp2_with fail
  refine (trimLite_any l w hlen).mono ?_
  rintro e w' ⟨rfl, rfl⟩
  go_wp2
  go_ret
  exact ⟨rfl, rfl⟩

set_option maxHeartbeats 400000 in
theorem unf_any (l : List UInt8) (w : World) (hlen : l.length ≤ 281474976710656) :
    Calls Try.prog 13 #[.string ⟨l.toArray⟩] w fun e w' => e = .returned (.string ⟨(cut1 (cut1 l)).toArray⟩) ∧ w' = w := by
  have h1 := cut1_len l
  go_enter Try.func13, Try.ntmps13
  go_wp2_with fail
  refine (trim_any l w hlen).mono ?_
  rintro e w' ⟨rfl, rfl⟩
  go_wp2_with fail
  refine (trim_any (cut1 l) w' (by omega)).mono ?_
  rintro e w'' ⟨rfl, rfl⟩
  go_wp2
  go_ret
  exact ⟨rfl, rfl⟩

end Go.Proofs.Ytnccalbeidkeiab
