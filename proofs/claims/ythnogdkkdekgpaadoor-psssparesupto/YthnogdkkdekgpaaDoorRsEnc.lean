import Derived.Test.YthnogdkkdekgpaaDoorRsRep
import Derived.Test.YthnogdkkdekgpaaDoorRsConc
import Derived.Lib.ConvBytes
namespace Go.Proofs.YthnogdkkdekgpaaDoor
open Go.RowKit

/-- What stands ahead of the sum in a DigestInfo. -/
def info (h : Int) : List UInt8 :=
  if h = 1 then [48, 49, 48, 13, 6, 9, 96, 134, 72, 1, 101, 3, 4, 2, 1, 5, 0, 4, 32]
  else if h = 2 then [48, 65, 48, 13, 6, 9, 96, 134, 72, 1, 101, 3, 4, 2, 2, 5, 0, 4, 48]
  else [48, 81, 48, 13, 6, 9, 96, 134, 72, 1, 101, 3, 4, 2, 3, 5, 0, 4, 64]
theorem info_length (h : Int) : (info h).length = 19 := by unfold info; split; rfl; split <;> rfl
/-- The encoding. -/
def emV (h : Int) (m : List UInt8) (size : Nat) : List UInt8 := [0, 1] ++ List.replicate (size - 22 - Sha.siz h) 255 ++ [0] ++ info h ++ Sha.sumF h m
/-- Is it a hash? -/
def isHB (h : Int) : Bool := decide (h = 1 ∨ h = 2 ∨ h = 3)
theorem isHB_iff (h : Int) : isHB h = true ↔ Sha.isH h := by unfold isHB Sha.isH; exact decide_eq_true_iff
/-- The error. -/
def ecode (h size : Int) : Int := if isHB h = false then 111 else if size < 30 + Sha.siz h ∨ 512 < size then 90 else 0
def encV (h : Int) (m : List UInt8) (size : Int) : List UInt8 := if ecode h size = 0 then emV h m size.toNat else []

theorem knownB (h : Int) : decide (0 < Sha.siz h) = isHB h := by
  apply decide_eq_decide.2
  unfold Sha.siz
  split
  · simp_all
  · split
    · simp_all
    · split <;> simp_all

theorem rd_lit {w : World} (l : List UInt8) : Rd (w.alloc (.cells (l.map B).toArray 5)) (some ⟨w.heap.size, 0, none⟩) l := (alloc_bl w (l.map B) 5).rdb
theorem bytesWorld_below (w : World) (s : ByteArray) : Below w.heap.size w (Lib.bytesWorld w 5 s) :=
  ⟨rfl, rfl, rfl, by rw [Lib.bytesWorld_size]; omega, fun k hk => Lib.bytesWorld_at_old w _ s k hk⟩
theorem bytesWorld_rd (w : World) (l : List UInt8) : Rd (Lib.bytesWorld w 5 ⟨l.toArray⟩) (some ⟨w.heap.size, 0, none⟩) l := by
  refine .inr ⟨_, 0, rfl, by rw [Lib.bytesWorld_size]; omega, fun j hj => ?_⟩
  rw [Nat.zero_add, Lib.bytesWorld_cell w 5 ⟨l.toArray⟩ j hj]
  rfl

theorem parts_five (w : World) (p1 p2 p3 p4 p5 : Sha.Prt) (h1 : Sha.prOk w p1) (h2 : Sha.prOk w p2) (h3 : Sha.prOk w p3) (h4 : Sha.prOk w p4) (h5 : Sha.prOk w p5) :
    Sha.Pts (w.alloc (.cells #[Sha.prV p1, Sha.prV p2, Sha.prV p3, Sha.prV p4, Sha.prV p5] 23)) (some ⟨w.heap.size, 0, none⟩) [p1, p2, p3, p4, p5] := by
  have hb := alloc_below w (.cells #[Sha.prV p1, Sha.prV p2, Sha.prV p3, Sha.prV p4, Sha.prV p5] 23)
  have hk : ∀ p, Sha.prOk w p → Sha.prOk (w.alloc (.cells #[Sha.prV p1, Sha.prV p2, Sha.prV p3, Sha.prV p4, Sha.prV p5] 23)) p := fun p h => ⟨Sha.Rd.below h.1 hb (Nat.le_refl _), h.2⟩
  refine ⟨.inr ⟨w.heap.size, 0, rfl, fun j hj => ?_⟩, ?_⟩
  · have hbl := alloc_bl w [Sha.prV p1, Sha.prV p2, Sha.prV p3, Sha.prV p4, Sha.prV p5] 23
    have := hbl.cell j (by simpa using hj)
    rw [Nat.zero_add]
    refine this.trans ?_
    have e : [Sha.prV p1, Sha.prV p2, Sha.prV p3, Sha.prV p4, Sha.prV p5] = [p1, p2, p3, p4, p5].map Sha.prV := rfl
    simp only [e, List.getElem_map]
  · intro p hp
    simp only [List.mem_cons, List.not_mem_nil, or_false] at hp
    rcases hp with rfl | rfl | rfl | rfl | rfl <;> (apply hk; assumption)
theorem parts_one (w : World) (p : Sha.Prt) (h : Sha.prOk w p) : Sha.Pts (w.alloc (.cells #[Sha.prV p] 23)) (some ⟨w.heap.size, 0, none⟩) [p] := by
  refine ⟨.inr ⟨w.heap.size, 0, rfl, fun j hj => ?_⟩, ?_⟩
  · have hbl := alloc_bl w [Sha.prV p] 23
    have := hbl.cell j (by simpa using hj)
    rw [Nat.zero_add]
    refine this.trans ?_
    have e : [Sha.prV p] = [p].map Sha.prV := rfl
    simp only [e, List.getElem_map]
  · intro p' hp
    simp only [List.mem_singleton] at hp
    subst hp
    exact ⟨Sha.Rd.below h.1 (alloc_below w _) (Nat.le_refl _), h.2⟩

end Go.Proofs.YthnogdkkdekgpaaDoor
