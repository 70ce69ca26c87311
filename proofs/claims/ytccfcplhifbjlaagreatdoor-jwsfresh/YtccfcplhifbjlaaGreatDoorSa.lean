import Derived.Test.YtccfcplhifbjlaaGreatDoorJm
import Derived.Test.YtccfcplhifbjlaaGreatDoorShelf
import Derived.Lib.Walk
import Derived.Lib.Bytealg
import Derived.Shelf.RegionOpenPlain
namespace Go.Proofs.YtccfcplhifbjlaaGreatDoor
open Go.RowKit Go.Shelf
set_option maxRecDepth 100000

theorem sclone_any (l : List UInt8) (w : World) (hl : l.length ≤ 1073741824) : Calls Tryz.prog 33 #[.string ⟨l.toArray⟩] w fun e w' => e = .returned (.string ⟨l.toArray⟩) ∧ Below w.heap.size w w' := by
  have c : Calls Tryz.prog 85 #[.string ⟨l.toArray⟩] w fun e w' => e = .returned (.string ⟨l.toArray⟩) ∧ Below w.heap.size w w' :=
    Any.stringslite_Clone Tryz.laysClone ⟨l.toArray⟩ w (by show l.toArray.size ≤ _; simp; omega)
  go_enter Tryz.func33, Tryz.ntmps33
  go_wp2_with fail
  refine c.mono ?_
  rintro e w1 ⟨rfl, hB⟩
  go_wp2
  go_ret
  exact ⟨rfl, hB⟩

/-- strings.Count of dots. -/
theorem count_any (t : List UInt8) (w : World) : Calls Tryz.prog 31 #[.string ⟨t.toArray⟩, .string ⟨#[46]⟩] w fun e w' => e = .returned (.int .i64 (t.count 46 : Nat)) ∧ w' = w := by
  go_enter Tryz.func31, Tryz.ntmps31
  go_wp2
  rw [run_callFunc_extern Tryz.func82 (by kernel_rfl) (by kernel_rfl) (by kernel_rfl) (e := Extern.BytealgCount.count) (by kernel_rfl), Lib.run_countString]
  simp only [Result.andThen]
  rw [Oper.upon_value]
  go_wp2
  go_ret
  exact ⟨rfl, rfl⟩

theorem index_dot : ∀ (a b : List UInt8), a.count 46 = 0 → Lib.indexByte (a ++ 46 :: b) 46 = (a.length : Int)
  | [], b, _ => by simp [Lib.indexByte]
  | x :: r, b, h => by
    have hx : x ≠ 46 := fun e => by rw [e] at h; simp at h
    rw [List.count_cons] at h
    have ih := index_dot r b (by omega)
    rw [List.cons_append, Lib.indexByte, ih]
    simp [hx]

set_option maxRecDepth 100000 in
set_option maxHeartbeats 1000000 in
/-- stringslite.Index of a dot. -/
theorem sindex_any (a b : List UInt8) (w : World) (ha : a.count 46 = 0) : Calls Tryz.prog 174 #[.string ⟨(a ++ 46 :: b).toArray⟩, .string ⟨#[46]⟩] w fun e w' => e = .returned (.int .i64 (a.length : Nat)) ∧ w' = w := by
  have HI : Hid (Lib.indexByte (a ++ 46 :: b) 46 = (a.length : Int)) := index_dot a b ha
  obtain ⟨t, ht⟩ : ∃ t, a ++ 46 :: b = t := ⟨_, rfl⟩
  rw [ht] at HI ⊢
  clear ht ha
  by_cases hq : t = [46]
  · subst hq
    have c0 : (([46] : List UInt8) == [46]) = true := rfl
    go_enter Tryz.func174, Tryz.ntmps174
    go_wp2
    go_ret
    exact ⟨congrArg (fun i => Ending.returned (.int .i64 i)) HI.out, rfl⟩
  · have c0 : (([46] : List UInt8) == t) = false := beq_eq_false_iff_ne.2 (fun e => hq e.symm)
    go_enter Tryz.func174, Tryz.ntmps174
    go_wp2
    rw [run_callFunc_extern Tryz.func297 (by kernel_rfl) (by kernel_rfl) (by kernel_rfl) (e := Extern.BytealgIndexByte.indexByte) (by kernel_rfl), Lib.run_indexByteString]
    simp only [Result.andThen]
    rw [Oper.upon_value]
    go_wp2
    go_ret
    exact ⟨congrArg (fun i => Ending.returned (.int .i64 i)) HI.out, rfl⟩

theorem ext_take (a b : List UInt8) : (⟨(a ++ 46 :: b).toArray⟩ : ByteArray).extract 0 a.length = ⟨a.toArray⟩ := by
  rw [Lib.extract_eq]
  simp
theorem ext_drop (a b : List UInt8) (n : Nat) (hn : (a ++ 46 :: b).length ≤ n) : (⟨(a ++ 46 :: b).toArray⟩ : ByteArray).extract (a.length + 1) n = ⟨b.toArray⟩ := by
  rw [Lib.extract_eq]
  congr 2
  show List.take (n - (a.length + 1)) (List.drop (a.length + 1) (a ++ 46 :: b)) = b
  simp at hn
  rw [show a ++ 46 :: b = (a ++ [46]) ++ b by simp, List.drop_append_of_le_length (by simp), List.drop_of_length_le (by simp), List.nil_append, List.take_of_length_le (by omega)]

set_option maxRecDepth 100000 in
set_option maxHeartbeats 1000000 in
/-- strings.Cut at the first dot. -/
theorem slcut_any (a b : List UInt8) (w : World) (ha : a.count 46 = 0) (hl : (a ++ 46 :: b).length ≤ 1073741824) : Calls Tryz.prog 84 #[.string ⟨(a ++ 46 :: b).toArray⟩, .string ⟨#[46]⟩] w fun e w' => e = .returned (.tuple #[.string ⟨a.toArray⟩, .string ⟨b.toArray⟩, .bool true]) ∧ ∃ q, w' = w.drewN q := by
  have C := sindex_any a b w ha
  have hn : a.length + 1 ≤ (a ++ 46 :: b).length := by simp
  have HE1 : Hid ((⟨(a ++ 46 :: b).toArray⟩ : ByteArray).extract 0 a.length = ⟨a.toArray⟩) := ext_take a b
  have HE2 : Hid ((⟨(a ++ 46 :: b).toArray⟩ : ByteArray).extract (a.length + 1) (a ++ 46 :: b).length = ⟨b.toArray⟩) := ext_drop a b _ (Nat.le_refl _)
  generalize a ++ 46 :: b = t at *
  generalize a.length = k at *
  clear ha
  have c1 : decide ((k : Int) ≥ 0) = true := decide_eq_true (by omega)
  go_enter Tryz.func84, Tryz.ntmps84
  go_wp2_with fail
  refine C.mono ?_
  clear C
  rintro e w1 ⟨rfl, rfl⟩
  go_wp2
  go_quiet (fail)
  go_wp2
  go_ret3
  refine ⟨?_, _, rfl⟩
  show Ending.returned (.tuple #[.string ((⟨t.toArray⟩ : ByteArray).extract 0 k), .string ((⟨t.toArray⟩ : ByteArray).extract (k + 1) t.length), .bool true]) = _
  rw [HE1.out, HE2.out]

end Go.Proofs.YtccfcplhifbjlaaGreatDoor
