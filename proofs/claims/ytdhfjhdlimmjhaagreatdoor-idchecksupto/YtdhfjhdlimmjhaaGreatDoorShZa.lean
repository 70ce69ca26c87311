import Derived.Test.YtdhfjhdlimmjhaaGreatDoorShZe
import Derived.Lib.SlBytesConst
import Derived.Deep.DeepAppendWide
import Derived.OwnWalk
namespace Go.Proofs.YtdhfjhdlimmjhaaGreatDoor.Sha
open Go.RowKit
set_option maxRecDepth 100000

def pk (x : Int) (n : Nat) : Nat := (x % (n : Int)).toNat
end Go.Proofs.YtdhfjhdlimmjhaaGreatDoor.Sha
namespace Go.Proofs.YtdhfjhdlimmjhaaGreatDoor.Sha
open Go.RowKit
set_option maxRecDepth 100000


end Go.Proofs.YtdhfjhdlimmjhaaGreatDoor.Sha
namespace Go.Proofs.YtdhfjhdlimmjhaaGreatDoor.Sha
open Go.RowKit
set_option maxRecDepth 100000

theorem alloc_size (w : World) (o : Obj) : (w.alloc o).heap.size = w.heap.size + 1 := by unfold World.alloc; simp

theorem own_cell {w : World} {B0 : Nat} {a : Option Addr} {l : List UInt8} (h : Own w B0 a l) (hl : 0 < l.length) : ∃ g, a = some ⟨g, 0, none⟩ ∧ B0 ≤ g ∧ Cl w g (l.map B) := by
  rcases h with ⟨_, h⟩ | h
  · subst h; simp at hl
  · obtain ⟨g, e, hg, hc⟩ := h
    exact ⟨g, e, hg, hc.cl⟩
end Go.Proofs.YtdhfjhdlimmjhaaGreatDoor.Sha
namespace Go.Proofs.YtdhfjhdlimmjhaaGreatDoor.Sha
open Go.RowKit
set_option maxRecDepth 100000

theorem own_below {w w' : World} {base n k : Nat} {e : TypeId} {v : Value} {xs : List Value} (h : w.ownsRow base e 1 v n xs) (hb : Below k w w') (hk : w.heap.size ≤ k) : w'.ownsRow base e 1 v n xs := by
  refine ⟨h.1, ?_⟩
  rcases h.2 with h0 | ⟨g, cap, cur, e, hg, hh, r⟩
  · exact .inl h0
  · exact .inr ⟨g, cap, cur, e, hg, by rw [hb.block g (Nat.lt_of_lt_of_le (Array.getElem?_eq_some_iff.1 hh).1 hk)]; exact hh, r⟩
theorem own_but {w w' : World} {base n b : Nat} {e : TypeId} {v : Value} {xs : List Value} (h : w.ownsRow base e 1 v n xs) (hb : But w w' b) (hk : b < base) : w'.ownsRow base e 1 v n xs := by
  refine ⟨h.1, ?_⟩
  rcases h.2 with h0 | ⟨g, cap, cur, e, hg, hh, r⟩
  · exact .inl h0
  · exact .inr ⟨g, cap, cur, e, hg, by rw [hb.block g (Array.getElem?_eq_some_iff.1 hh).1 (by omega)]; exact hh, r⟩
theorem own_block {w : World} {base n : Nat} {e : TypeId} {v : Value} {xs : List Value} (h : w.ownsRow base e 1 v n xs) : ∀ k, v.ownBlock = some k → base ≤ k := by
  intro k hk
  rcases h.2 with ⟨rfl, _⟩ | ⟨g, cap, cur, rfl, hg, _⟩
  · cases hk
  · cases hk; exact hg
theorem slice_high (a : Option Addr) (n cap k : Nat) (W : World) (h1 : k ≤ cap) : (Instr.sliceAt 81 (.slice a n cap) none (some (.int .i64 (k : Int))) none).run Tryz.prog W = .ok (.slice a k cap) W := by
  have e0 : Tryz.prog.elem 81 = 5 := by kernel_rfl
  have e2 := run_size1 (P := Tryz.prog) (e := 5) (by kernel_rfl)
  rw [run_sliceAt_slice _ _ _ _ _ _ Tryz.underlying81, run_slice_h W 81 a n cap Tryz.underlying81 .i64 (k : Int) (by omega) (by omega), e0, e2]
  show Result.ok (sliced _ _ _ _ 1) W = _
  unfold sliced
  simp only [Int.toNat_natCast, Nat.zero_mul, Nat.sub_zero]
  congr 2
  split
  · rfl
  · cases a with
    | none => rfl
    | some x => simp [Addr.add]

theorem slice_low' (a : Option Addr) (len cap n : Nat) (h1 : n ≤ len) (h2 : len ≤ cap) : ∃ a2, (∀ W, (Instr.sliceAt 81 (.slice a len cap) (some (.int .i64 (n : Int))) none none).run Tryz.prog W = .ok (.slice a2 (len - n) (cap - n)) W) ∧ (∀ g o, a = some ⟨g, o, none⟩ → n < len → a2 = some ⟨g, o + n, none⟩) := by
  have e0 : Tryz.prog.elem 81 = 5 := by kernel_rfl
  have e2 := run_size1 (P := Tryz.prog) (e := 5) (by kernel_rfl)
  refine ⟨if cap = n then a else a.map (·.add n), fun W => ?_, fun g o e hn => ?_⟩
  · rw [run_sliceAt_slice _ _ _ _ _ _ Tryz.underlying81, run_slice_l W 81 a len cap Tryz.underlying81 .i64 (n : Int) (by omega) (by omega), e0, e2]
    show Result.ok (sliced _ _ _ _ 1) W = _
    unfold sliced
    simp only [Int.toNat_natCast, Nat.mul_one]
  · rw [if_neg (by omega), e]
    simp [Addr.add_mid]

end Go.Proofs.YtdhfjhdlimmjhaaGreatDoor.Sha
namespace Go.Proofs.YtdhfjhdlimmjhaaGreatDoor.Sha
open Go.RowKit
set_option maxRecDepth 100000

def keyF (h : Int) (key : List UInt8) : List UInt8 := if blk h < key.length then sumF h key else key
def filF (h : Int) (key : List UInt8) : List UInt8 := (List.range (blk h)).map fun i => (keyF h key).getD i 0
def mskF (x : UInt8) (l : List UInt8) : List UInt8 := l.map fun c => c ^^^ x
def tagF (h : Int) (key data : List UInt8) : List UInt8 := sumF h (mskF 92 (filF h key) ++ sumF h (mskF 54 (filF h key) ++ data))
end Go.Proofs.YtdhfjhdlimmjhaaGreatDoor.Sha
namespace Go.Proofs.YtdhfjhdlimmjhaaGreatDoor.Sha
open Go.RowKit
set_option maxRecDepth 100000

theorem prOk.below {w w' : World} {p : Prt} {n : Nat} (h : prOk w p) (hb : Below n w w') (hn : w.heap.size ≤ n) : prOk w' p := ⟨h.1.below hb hn, h.2⟩
end Go.Proofs.YtdhfjhdlimmjhaaGreatDoor.Sha