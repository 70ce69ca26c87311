import Derived.Test.YtkfchdmlemcjhaaMb
namespace Go.Proofs.Ytkfchdmlemcjhaa
open Go.RowKit Go.Shelf

theorem nr_pre {B : Nat} {w : World} {g n cap : Nat} {l M : List Nd} (h : NO B w (.slice (some ⟨g, 0, none⟩) n cap) (l ++ M)) : NR w (.slice (some ⟨g, 0, none⟩) l.length cap) l (some ⟨g, 0, none⟩) cap := by
  obtain ⟨a, c, e, hc, _⟩ := own_slice h
  cases e
  have hlt := (h.lt g rfl).2
  rw [List.length_append] at hc
  refine ⟨rfl, by omega, .inr ⟨g, 0, rfl, hlt, fun j u hu => ?_⟩⟩
  rw [Nat.zero_add]
  unfold NO at h
  refine (own_cell h j u ?_).1
  rw [nCs_append, List.getElem?_append_left (List.getElem?_eq_some_iff.1 hu).1]
  exact hu
theorem tr_pre {B : Nat} {w : World} {g n cap : Nat} {l M : List (List UInt8)} (h : OT B w (.slice (some ⟨g, 0, none⟩) n cap) (l ++ M)) : TR w (.slice (some ⟨g, 0, none⟩) l.length cap) l (some ⟨g, 0, none⟩) cap := by
  obtain ⟨a, c, e, hc, _⟩ := own_slice h
  cases e
  have hlt := (h.lt g rfl).2
  rw [List.length_append] at hc
  refine ⟨rfl, by omega, .inr ⟨g, 0, rfl, hlt, fun j hj => ?_⟩⟩
  rw [Nat.zero_add]
  unfold OT at h
  refine (own_cell h j _ ?_).1
  rw [List.map_append, List.getElem?_append_left (by simpa using hj), List.getElem?_map, List.getElem?_eq_getElem hj, List.getD_eq_getElem?_getD, List.getElem?_eq_getElem hj]
  rfl
theorem no_mark {B : Nat} {w : World} {g n cap : Nat} {l : List Nd} (h : NO B w (.slice (some ⟨g, 0, none⟩) n cap) (l ++ [mkN, mkN])) (i : Nat) (hi : i < 2) : w.rangeAt g ((l.length + i) * 6) [.int .i64 0, .string ⟨#[]⟩, .string ⟨#[109, 97, 114, 107]⟩, .bool false, .int .i64 0, .int .i64 0] := fun j u hu => by
  obtain ⟨hj, e⟩ := List.getElem?_eq_some_iff.1 hu
  unfold NO at h
  obtain ⟨a, c, e2, _, _⟩ := own_slice h
  cases e2
  refine (own_cell h ((l.length + i) * 6 + j) u ?_).1
  rw [nCs_append, List.getElem?_append_right (by rw [nCs_length]; omega), nCs_length, show (l.length + i) * 6 + j - l.length * 6 = i * 6 + j by omega]
  have hj6 : j < 6 := hj
  have : i = 0 ∨ i = 1 := by omega
  rcases this with rfl | rfl
  · rw [Nat.zero_mul, Nat.zero_add]
    show (([.int .i64 0, .string ⟨#[]⟩, .string ⟨#[109, 97, 114, 107]⟩, .bool false, .int .i64 0, .int .i64 0] : List Value) ++ nCs [mkN])[j]? = _
    rw [List.getElem?_append_left hj]; exact hu
  · show (([.int .i64 0, .string ⟨#[]⟩, .string ⟨#[109, 97, 114, 107]⟩, .bool false, .int .i64 0, .int .i64 0] : List Value) ++ (([.int .i64 0, .string ⟨#[]⟩, .string ⟨#[109, 97, 114, 107]⟩, .bool false, .int .i64 0, .int .i64 0] : List Value) ++ []))[1 * 6 + j]? = _
    rw [List.getElem?_append_right (by simp), List.getElem?_append_left (by simpa using hj)]
    simp only [List.length_cons, List.length_nil]
    rw [show 1 * 6 + j - (0 + 1 + 1 + 1 + 1 + 1 + 1) = j by omega]
    exact hu
theorem ot_mark {B : Nat} {w : World} {g n cap : Nat} {l : List (List UInt8)} (h : OT B w (.slice (some ⟨g, 0, none⟩) n cap) (l ++ [mkT, mkT])) (i : Nat) (hi : i < 2) : w.cell? ⟨g, l.length + i, none⟩ = some (.string ⟨#[109, 97, 114, 107]⟩) := by
  unfold OT at h
  obtain ⟨a, c, e2, _, _⟩ := own_slice h
  cases e2
  refine (own_cell h (l.length + i) _ ?_).1
  rw [List.map_append, List.getElem?_append_right (by simp), List.length_map, show l.length + i - l.length = i by omega]
  have : i = 0 ∨ i = 1 := by omega
  rcases this with rfl | rfl <;> rfl

end Go.Proofs.Ytkfchdmlemcjhaa
