import Derived.Test.YtgkbbcoagnilgaaComp2
namespace Go.Proofs.Ytgkbbcoagnilgaa
open Go.RowKit

theorem digs_all (l : List UInt8) : allD (digs l) := by
  intro c hc
  obtain ⟨i, hi, e⟩ := List.getElem_of_mem hc
  have hi' : i < nd l := by rw [← digs_length]; exact hi
  have hl := nd_le l
  have hil : i < l.length := by omega
  have e1 : (digs l)[i] = l[i] := by
    have e2 : (digs l)[i]? = l[i]? := by unfold digs; rw [List.getElem?_take_of_lt hi']
    rw [List.getElem?_eq_getElem hi, List.getElem?_eq_getElem hil] at e2
    exact Option.some.inj e2
  rw [← e, e1]
  exact (nd_lt l i (by omega) hil).1 hi'

theorem allD_nil : allD [] := fun c h => by simp at h

theorem pcut_digs {l : List UInt8} {m p : Bool} {g f d : List UInt8} (h : pcut l = some (m, g, f, p, d)) : allD g ∧ allD f ∧ allD d := by
  unfold pcut pcut1 pcut2 pcut3 pcut4 at h
  generalize cutL l = l1 at h
  split at h
  · cases h
  split at h
  · cases h
  split at h
  · cases h
  split at h
  · cases h
    refine ⟨digs_all _, ?_, ?_⟩
    · unfold cutF; split
      · exact digs_all _
      · exact allD_nil
    · generalize (cutF (rst l1)).2.1 = r
      unfold cutP; split
      · exact digs_all _
      · exact allD_nil
  · cases h

/-- The number that a text's parts say: its digits, and how many of them stand ahead of the dot. -/
def zof (x : PartsM) : List UInt8 := tr (tl (x.2.1 ++ x.2.2.1))
def oof (x : PartsM) : Int := (x.2.1.length : Int) - (((x.2.1 ++ x.2.2.1).length : Int) - ((tl (x.2.1 ++ x.2.2.1)).length : Int))

def cmpP (x y : PartsM) : Int :=
  if sgn x.1 (zof x) = sgn y.1 (zof y) then sgn x.1 (zof x) * csz (zof x) (oof x) x.2.2.2.1 x.2.2.2.2 (zof y) (oof y) y.2.2.2.1 y.2.2.2.2 else cmp3 (sgn x.1 (zof x)) (sgn y.1 (zof y))

/-- What Compare answers of two texts: the order, and the error. -/
def cmpV : Option PartsM → Option PartsM → Int × Int
  | some x, some y => (cmpP x y, 0)
  | _, _ => (0, 30)

theorem sgn_bd (m : Bool) (z : List UInt8) : -1 ≤ sgn m z ∧ sgn m z ≤ 1 := by
  unfold sgn; split
  · omega
  · split <;> omega

theorem cmp3_bd (a b : Int) : -1 ≤ cmp3 a b ∧ cmp3 a b ≤ 1 := by
  unfold cmp3; split
  · omega
  · split <;> omega

theorem compareBytes_bd : ∀ a b : List UInt8, -1 ≤ Lib.compareBytes a b ∧ Lib.compareBytes a b ≤ 1
  | [], [] => by simp [Lib.compareBytes]
  | [], _ :: _ => by simp [Lib.compareBytes]
  | _ :: _, [] => by simp [Lib.compareBytes]
  | a :: u, b :: v => by
    unfold Lib.compareBytes
    split
    · omega
    · split
      · omega
      · exact compareBytes_bd u v

theorem csz_bd (zx : List UInt8) (ox : Int) (px : Bool) (dx : List UInt8) (zy : List UInt8) (oy : Int) (py : Bool) (dy : List UInt8) : -1 ≤ csz zx ox px dx zy oy py dy ∧ csz zx ox px dx zy oy py dy ≤ 1 := by
  unfold csz; split
  · exact cmp3_bd _ _
  · exact compareBytes_bd _ _

theorem NBox.c0' {W : World} {b : Nat} {m p : Bool} {z d : List UInt8} {o : Int} (h : NBox W b m z o p d) (x : Obj) : (W.alloc x).cell? ⟨b, 0, none⟩ = some (.bool m) := (h.alloc x).c0

end Go.Proofs.Ytgkbbcoagnilgaa
