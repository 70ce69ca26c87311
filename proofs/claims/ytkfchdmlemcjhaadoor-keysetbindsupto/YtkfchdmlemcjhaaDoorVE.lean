import Derived.Test.YtkfchdmlemcjhaaDoorJZ
import Derived.Test.YtkfchdmlemcjhaaDoorRW
import Derived.Lib.ValidLaws
namespace Go.Proofs.YtkfchdmlemcjhaaDoor
open Go.RowKit

theorem u8n (x : Int) (h : x < 256) : (x.toNat.toUInt8).toNat = x.toNat := by
  show x.toNat % 256 = _
  omega

theorem dec_enc (r : Int) (m : List UInt8) : (Lib.decodeL (Lib.encodeRune r ++ m)).2 = (Lib.encodeRune r).length ∧ ¬ ((Lib.decodeL (Lib.encodeRune r ++ m)).1 = 65533 ∧ (Lib.decodeL (Lib.encodeRune r ++ m)).2 = 1) := by
  rw [Lib.decodeL_N]
  unfold Lib.encodeRune
  have hall : (0 ≤ r ∧ r ≤ 127) ∨ (128 ≤ r ∧ r ≤ 2047) ∨ ((2048 ≤ r ∧ r < 55296) ∨ (57343 < r ∧ r ≤ 65535)) ∨ (65536 ≤ r ∧ r ≤ 1114111) ∨ (r < 0 ∨ (55296 ≤ r ∧ r ≤ 57343) ∨ 1114111 < r) := by omega
  rcases hall with ⟨h0, h1⟩ | ⟨h0, h1⟩ | h | ⟨h0, h1⟩ | h
  · rw [Lib.encodeRuneZ_one h0 h1]
    simp only [List.map_cons, List.map_nil, List.cons_append, List.nil_append, List.length_cons, List.getD_cons_zero, List.length_nil]
    rw [u8n _ (by omega)]
    unfold Lib.decodeN
    rw [if_pos (by omega)]
    exact ⟨rfl, fun h => by have h2 : r.toNat = 65533 := h.1; omega⟩
  · rw [Lib.encodeRuneZ_two h0 h1]
    simp only [List.map_cons, List.map_nil, List.cons_append, List.nil_append, List.length_cons, List.getD_cons_zero, List.getD_cons_succ, List.length_nil]
    rw [u8n _ (by omega), u8n _ (by omega)]
    unfold Lib.decodeN
    rw [if_neg (by omega), if_pos (by omega), if_pos (by omega)]
    exact ⟨rfl, fun h => by have h2 := h.2; simp at h2⟩
  · rw [Lib.encodeRuneZ_three h]
    simp only [List.map_cons, List.map_nil, List.cons_append, List.nil_append, List.length_cons, List.getD_cons_zero, List.getD_cons_succ, List.length_nil]
    rw [u8n _ (by omega), u8n _ (by omega), u8n _ (by omega)]
    unfold Lib.decodeN
    rw [if_neg (by omega), if_neg (by omega), if_pos (by omega), if_pos (by omega)]
    exact ⟨rfl, fun h => by have h2 := h.2; simp at h2⟩
  · rw [Lib.encodeRuneZ_four h0 h1]
    simp only [List.map_cons, List.map_nil, List.cons_append, List.nil_append, List.length_cons, List.getD_cons_zero, List.getD_cons_succ, List.length_nil]
    rw [u8n _ (by omega), u8n _ (by omega), u8n _ (by omega), u8n _ (by omega)]
    unfold Lib.decodeN
    rw [if_neg (by omega), if_neg (by omega), if_neg (by omega), if_pos (by omega), if_pos (by omega)]
    exact ⟨rfl, fun h => by have h2 := h.2; simp at h2⟩
  · rw [Lib.encodeRuneZ_bad h]
    simp only [List.map_cons, List.map_nil, List.cons_append, List.nil_append, List.length_cons, List.getD_cons_zero, List.getD_cons_succ, List.length_nil]
    rw [u8n _ (by omega), u8n _ (by omega), u8n _ (by omega)]
    unfold Lib.decodeN
    rw [if_neg (by decide), if_neg (by omega), if_pos (by omega), if_pos (by decide)]
    exact ⟨rfl, fun h => by have h2 := h.2; simp at h2⟩

theorem enc_ne (r : Int) : Lib.encodeRune r ≠ [] := by
  have := Lib.encodeRuneZ_length r
  unfold Lib.encodeRune
  intro h
  have h2 := congrArg List.length h
  simp at h2
  rw [h2] at this
  simp at this

theorem valid_enc (r : Int) (m : List UInt8) : Lib.validD (Lib.encodeRune r ++ m) = Lib.validD m := by
  have h := dec_enc r m
  rw [Lib.validD_step _ (by simp [enc_ne r]), if_neg h.2, h.1]
  simp

theorem valid_app {a : List UInt8} (ha : Lib.validD a = true) (b : List UInt8) (hb : Lib.validD b = true) : ∀ n, a.length ≤ n → Lib.validD (a ++ b) = true := by
  intro n
  induction n generalizing a with
  | zero =>
    intro hn
    have : a = [] := List.eq_nil_of_length_eq_zero (by omega)
    rw [this]; exact hb
  | succ n ih =>
    intro hn
    by_cases he : a = []
    · rw [he]; exact hb
    · rw [Lib.validD_step a he] at ha
      split at ha
      · cases ha
      · rename_i hv
        have h1 := Lib.encode_decode a he hv
        have hle := Lib.decodeL_le a he
        have hw := Lib.decodeL_width a
        have e1 : a = Lib.encodeRune ((Lib.decodeL a).1 : Int) ++ a.drop (Lib.decodeL a).2 := by rw [h1, List.take_append_drop]
        rw [e1, List.append_assoc, valid_enc]
        refine ih ha ?_
        rw [List.length_drop]
        omega

end Go.Proofs.YtkfchdmlemcjhaaDoor

namespace Go.Proofs.YtkfchdmlemcjhaaDoor
open Go.RowKit
open Dec (isD nd digs rst cutF cutP cutL badW pcut pcut1 pcut2 pcut3 pcut4 isE isS skS)

/-- What may stand at a number's end. -/
def PE (x : List UInt8) : Prop := (cutP x).2.2.1 = [] ∧ (cutP x).2.2.2 = true ∧ ∀ c r, x = c :: r → isD c = false ∧ c ≠ 46
def PF (x : List UInt8) : Prop := (cutF x).2.2 = true ∧ PE (cutF x).2.1 ∧ ∀ c r, x = c :: r → isD c = false

end Go.Proofs.YtkfchdmlemcjhaaDoor
