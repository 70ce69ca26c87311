import Derived.Test.YtfpimcmhooiooaaGreatDoorVf
import Derived.Test.YtfpimcmhooiooaaGreatDoorUZ
namespace Go.Proofs.YtfpimcmhooiooaaGreatDoor
open Go.RowKit Go.Shelf

theorem GL.up {B B' : Nat} {w : World} (h : GL B w) (hb : B ≤ B') : GL B' w := ⟨Nat.le_trans h.hi hb, h.u8, h.er⟩

def aliveT : List UInt8 := [32, 123, 34, 97, 34, 58, 91, 49, 44, 34, 92, 117, 48, 48, 101, 57, 34, 93, 125, 32]
def aliveV : List Nd := [⟨7, [], [], false, 0, 1⟩, ⟨6, [97], [], false, 0, 2⟩, ⟨4, [], [49], true, 1, 0⟩, ⟨5, [], [195, 169], false, 0, 0⟩]
set_option maxRecDepth 100000 in
theorem alive_parse : parseF aliveT = (aliveV, 0, 0) := by decide +kernel
set_option maxRecDepth 100000 in
theorem alive_print : printF aliveV = ([123, 34, 97, 34, 58, 91, 49, 44, 34, 195, 169, 34, 93, 125], 0) := by decide +kernel
set_option maxRecDepth 100000 in
theorem alive_mem : memF aliveV 0 [97] = 1 := by decide +kernel

end Go.Proofs.YtfpimcmhooiooaaGreatDoor
