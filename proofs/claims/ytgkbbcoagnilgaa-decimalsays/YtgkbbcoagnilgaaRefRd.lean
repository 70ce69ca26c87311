import Derived.Test.YtgkbbcoagnilgaaRefB2
namespace Go.Proofs.Ytgkbbcoagnilgaa
open Go.RowKit

abbrev Z46 : Obj := .cells #[.bool false, .slice none 0 0, .int .i64 0, .bool false, .slice none 0 0, .bool false, .string ⟨#[]⟩] 35
abbrev N46 (m : Bool) (o : Int) (p pl : Bool) (t : List UInt8) : Obj := .cells #[.bool m, .slice none 0 0, .int .i64 o, .bool p, .slice none 0 0, .bool pl, .string ⟨t.toArray⟩] 35
abbrev W46 (w : World) (m : Bool) (o : Int) (p pl : Bool) (t : List UInt8) : World := (w.alloc Z46).alloc (N46 m o p pl t)

theorem ext_eq (l : List UInt8) (k j : Nat) : (⟨l.toArray⟩ : ByteArray).extract k j = ⟨((l.drop k).take (j - k)).toArray⟩ := by
  rw [Lib.extract_eq]

theorem u8_eqk (x k : UInt8) : ((x.toNat : Int) == (k.toNat : Int)) = decide (x = k) := by
  by_cases h : x = k
  · subst h; simp
  · have : x.toNat ≠ k.toNat := fun e => h (UInt8.toNat_inj.1 e)
    simp [h]; omega

/-- Is the byte at the place this one? -/
def isAt (l : List UInt8) (k : Nat) (c : UInt8) : Bool := decide ((l.drop k).head? = some c)

/-- What a walk may meet where it asks for the byte at a place. -/
theorem atK (l : List UInt8) (k : Nat) : (¬ k < l.length ∧ Hid (∀ c, isAt l k c = false)) ∨ (k < l.length ∧ ∃ c : UInt8, ∃ h : k < (⟨l.toArray⟩ : ByteArray).size, (⟨l.toArray⟩ : ByteArray)[k] = c ∧ Hid (∀ d : UInt8, ((c.toNat : Int) == (d.toNat : Int)) = isAt l k d)) := by
  by_cases h : k < l.length
  · refine .inr ⟨h, l[k], by show k < l.toArray.size; simpa using h, rfl, fun d => ?_⟩
    rw [u8_eqk]
    unfold isAt
    rw [List.head?_drop, List.getElem?_eq_getElem h]
    simp
  · refine .inl ⟨h, fun c => ?_⟩
    unfold isAt
    rw [List.drop_eq_nil_of_le (by omega)]
    simp

def fr (l : List UInt8) : Nat := if isAt l 0 45 then 1 else 0
theorem fr_cut (l : List UInt8) : cutL l = l.drop (fr l) := by
  unfold cutL fr isAt
  by_cases h : l.head? = some 45
  · rw [if_pos h, if_pos (by simpa using h)]; simp
  · rw [if_neg h, if_neg (by simpa using h)]; simp

/-- A digit as a whole number, as the model's value. -/
def DV (c : UInt8) : Value := .int .i64 ((c.toNat : Int) - 48)

def aheadN (g f : List UInt8) : Int := (g.length : Int) - (((g ++ f).length : Int) - ((tl (g ++ f)).length : Int))

/-- What Read does: none, or the number. -/
def RPost (l : List UInt8) (w : World) (e : Ending) (w' : World) : Prop :=
  ((pcut l = none ∧ ∃ (m : Bool) (a1 : Option Addr) (n1 c1 : Nat) (o : Int) (p : Bool) (a2 : Option Addr) (n2 c2 : Nat) (pl : Bool) (t : ByteArray), e = .returned (.tuple #[.agg #[.bool m, .slice a1 n1 c1, .int .i64 o, .bool p, .slice a2 n2 c2, .bool pl, .string t], .bool false])) ∨
    (∃ m g f p d s1 s2, pcut l = some (m, g, f, p, d) ∧ e = .returned (.tuple #[.agg #[.bool m, s1, .int .i64 (aheadN g f), .bool p, s2, .bool (f.isEmpty && d.isEmpty), .string ⟨g.toArray⟩], .bool true]) ∧
      w'.ownsRow (w.heap.size + 2) 3 1 s1 (tr (tl (g ++ f))).length ((tr (tl (g ++ f))).map DV) ∧ w'.ownsRow (w.heap.size + 2) 3 1 s2 (tl d).length ((tl d).map DV))) ∧ Below w.heap.size w w'

theorem rbox_a (w : World) (m : Bool) (o : Int) (p pl : Bool) (t : List UInt8) : RBox (W46 w m o p pl t) w.heap.size false (.slice none 0 0) 0 false (.slice none 0 0) false [] := by
  constructor <;> first | (go_simp; done) | (simp; done)
theorem rbox_b (w : World) (m : Bool) (o : Int) (p pl : Bool) (t : List UInt8) : RBox (W46 w m o p pl t) (w.heap.size + 1) m (.slice none 0 0) o p (.slice none 0 0) pl t := by
  constructor <;> first | (go_simp; done) | (simp; done)
theorem below_W46 (w : World) (m : Bool) (o : Int) (p pl : Bool) (t : List UInt8) : Below w.heap.size w (W46 w m o p pl t) := by
  (repeat' (first | with_reducible assumption | with_reducible exact Below.refl _ _ | with_reducible exact Nat.le_refl _ | with_reducible refine Below.setCell ?_ ?_ _ | with_reducible refine Below.alloc ?_ ?_ _ | with_reducible apply Below.drew | with_reducible apply below_drewN | omega | (simp; done) | (simp; omega)))

theorem head_drop (l : List UInt8) (k : Nat) (c : UInt8) : isAt l k c = decide ((l.drop k).head? = some c) := rfl

/-- The length of a list in a cell. -/
def lenAt : Option Value → Nat
  | some (.slice _ n _) => n
  | _ => 0

theorem digs_all2 (l : List UInt8) : ∀ c ∈ digs l, isD c = true := by
  intro c hc
  obtain ⟨i, hi, e⟩ := List.getElem_of_mem hc
  have hi' : i < nd l := by rw [← digs_length]; exact hi
  have hl := nd_le l
  have hil : i < l.length := by omega
  have e1 : (digs l)[i] = l[i] := by
    have e2 : (digs l)[i]? = l[i]? := by unfold digs; rw [List.getElem?_take_of_lt hi']
    rw [List.getElem?_eq_getElem hi, List.getElem?_eq_getElem hil] at e2
    exact Option.some.inj e2
  rw [← e, e1]
  exact (nd_lt l i (by omega) hil).1 hi'

theorem pcut_digs2 {l : List UInt8} {m p : Bool} {g f d : List UInt8} (h : pcut l = some (m, g, f, p, d)) : ∀ c ∈ g ++ f, isD c = true := by
  unfold pcut pcut1 pcut2 pcut3 pcut4 at h
  generalize cutL l = l1 at h
  split at h
  · cases h
  split at h
  · cases h
  split at h
  · cases h
  split at h
  · cases h
    intro c hc
    rcases List.mem_append.1 hc with hc | hc
    · exact digs_all2 _ c hc
    · unfold cutF at hc; split at hc
      · exact digs_all2 _ c hc
      · simp at hc
  · cases h

end Go.Proofs.Ytgkbbcoagnilgaa
