import Derived.Test.YtmngdaolgdhgmaaGreatDoorCH
import Derived.Laws.ResultCell
namespace Go.Proofs.YtmngdaolgdhgmaaGreatDoor
open Go.RowKit

set_option maxRecDepth 100000

theorem onB_lt {p b X Y : Nat} {inf : Bool} (hp : Pm p) (h : onB p b X Y inf = true) : X < pw 384 ∧ Y < pw 384 := by
  obtain ⟨h1, h2⟩ := (onB_iff hp).1 h
  cases inf with
  | true =>
    obtain ⟨rfl, rfl⟩ := h2 rfl
    exact ⟨by have := hp.1; have := hp.2; omega, by have := hp.1; have := hp.2; omega⟩
  | false => exact ⟨hp.lt h1.1, hp.lt h1.2.1⟩
end Go.Proofs.YtmngdaolgdhgmaaGreatDoor
