import Derived.Test.YtkfchdmlemcjhaaDoorDcA
namespace Go.Proofs.YtkfchdmlemcjhaaDoor.Dec
open Go.RowKit

/-- What read answers. -/
def nvals : Option PartsM → Value
  | none => .agg #[.bool false, .string ⟨#[]⟩, .int .i64 0, .bool false, .string ⟨#[]⟩]
  | some (m, g, f, p, d) => .agg #[.bool m, .string ⟨(tr (tl (g ++ f))).toArray⟩, .int .i64 ((g.length : Int) - (((g ++ f).length : Int) - ((tl (g ++ f)).length : Int))), .bool p, .string ⟨d.toArray⟩]

theorem nd_sum (l : List UInt8) : (digs l).length + (rst l).length = l.length := by
  have := nd_le l
  rw [digs_length]; unfold rst; rw [List.length_drop]; omega

theorem cutF_sum (l : List UInt8) : (cutF l).1.length + (cutF l).2.1.length ≤ l.length := by
  unfold cutF
  split
  · have := nd_sum l.tail
    rw [List.length_tail] at this
    show (digs l.tail).length + (rst l.tail).length ≤ _
    omega
  · simp

theorem cutP_len (l : List UInt8) : (cutP l).2.1.length ≤ l.length := by
  unfold cutP
  split
  · have h1 := nd_len (skS l.tail)
    have h2 := skS_len l.tail
    rw [List.length_tail] at h2
    show (digs (skS l.tail)).length ≤ _
    omega
  · simp

theorem pcut_len {l : List UInt8} {m p : Bool} {g f d : List UInt8} (h : pcut l = some (m, g, f, p, d)) : g.length + f.length + d.length ≤ l.length := by
  unfold pcut pcut1 pcut2 pcut3 pcut4 at h
  have h0 := cutL_len l
  generalize cutL l = l1 at h h0
  have h1 := nd_sum l1
  have h2 := cutF_sum (rst l1)
  have h3 := cutP_len (cutF (rst l1)).2.1
  split at h
  · cases h
  split at h
  · cases h
  split at h
  · cases h
  split at h
  · cases h
    omega
  · cases h

theorem app_eq (g f : List UInt8) : (⟨g.toArray⟩ : ByteArray) ++ ⟨f.toArray⟩ = ⟨(g ++ f).toArray⟩ := by
  apply ByteArray.ext
  simp

end Go.Proofs.YtkfchdmlemcjhaaDoor.Dec