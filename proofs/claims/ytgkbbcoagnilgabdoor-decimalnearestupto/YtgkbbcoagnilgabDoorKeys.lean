import Derived.Test.YtgkbbcoagnilgabDoorOrdM
import Derived.Test.YtgkbbcoagnilgabDoorComp4
namespace Go.Proofs.YtgkbbcoagnilgabDoor
open Go.RowKit

theorem cmpV_key {a b : List UInt8} {x y : PartsM} (ha : pcut a = some x) (hb : pcut b = some y) (hla : a.length ≤ 1073741824) (hlb : b.length ≤ 1073741824) : cmpV (pcut a) (pcut b) = (okey x y, 0) := by
  obtain ⟨m, g, f, p, d⟩ := x
  obtain ⟨m', g', f', p', d'⟩ := y
  have l1 := pcut_len ha
  have l2 := pcut_len hb
  have o1 := oof_bd (m, g, f, p, d) a.length (by show g.length + f.length ≤ _; omega)
  have o2 := oof_bd (m', g', f', p', d') b.length (by show g'.length + f'.length ≤ _; omega)
  rw [ha, hb]
  show (cmpP _ _, (0 : Int)) = _
  rw [cmpP_key _ _ (pcut_digs ha).2.2 (pcut_digs hb).2.2 (by omega) (by omega)]

theorem compare_key {a b : List UInt8} {x y : PartsM} (ha : pcut a = some x) (hb : pcut b = some y) (hla : a.length ≤ 1073741824) (hlb : b.length ≤ 1073741824) (w : World) :
    Calls Tryd.prog 16 #[.string ⟨a.toArray⟩, .string ⟨b.toArray⟩] w fun e w' => e = .returned (.tuple #[.int .i64 (okey x y), .int .i64 0]) ∧ Below w.heap.size w w' := by
  have h := compare_any a b w (by omega) (by omega)
  rw [cmpV_key ha hb hla hlb] at h
  exact h

theorem compare_bad {a b : List UInt8} (h : pcut a = none ∨ pcut b = none) (hla : a.length ≤ 1073741824) (hlb : b.length ≤ 1073741824) (w : World) :
    Calls Tryd.prog 16 #[.string ⟨a.toArray⟩, .string ⟨b.toArray⟩] w fun e w' => e = .returned (.tuple #[.int .i64 0, .int .i64 30]) ∧ Below w.heap.size w w' := by
  have hc := compare_any a b w (by omega) (by omega)
  have e : cmpV (pcut a) (pcut b) = (0, 30) := by
    rcases h with h | h
    · rw [h]; rfl
    · rw [h]; cases pcut a <;> rfl
  rw [e] at hc
  exact hc

end Go.Proofs.YtgkbbcoagnilgabDoor
