import Derived.Test.YthlfboaidhgnlaaGreatDoorLm
namespace Go.Proofs.YthlfboaidhgnlaaGreatDoor
open Go.RowKit

/-- ClaimsClock, of all claims and numbers. -/
theorem clockLaw_all (va : Option Addr) (vc : Nat) (aa : Option Addr) (ac : Nat) (c : Cm) (l more now : Int) (w : World) (he : I64 c.exp.at_) (hn : I64 c.nbf.at_) (hi : I64 c.iat.at_) (hm : I64 more) (hw : I64 now) (hG : GL w.heap.size w) :
    Calls Tryz.prog 3 #[clV (.slice va c.val.length vc) (.slice aa c.aud.length ac) c, .int .i64 l, .int .i64 more, .int .i64 now] w fun r w' => r = .returned (.bool true) ∧ Below w.heap.size w w' := by
  by_cases hl : 0 ≤ l ∧ l ≤ 600
  · rcases open_in (e := c.exp) (n := c.nbf) (i := c.iat) hl with ⟨hz1, hz2⟩ | ⟨T, hT, hle, hz1, hz2⟩
    · exact clockLaw_empty va _ vc _ _ _ _ aa _ ac _ _ _ c.exp c.nbf c.iat l more now w he hn hi hm hw hG hl hz1 hz2
    · exact clockLaw_win va _ vc _ _ _ _ aa _ ac _ _ _ c.exp c.nbf c.iat l more now w he hn hi hm hw hG hl T hT hle hz1 hz2
  · exact clockLaw_out va _ vc _ _ _ _ aa _ ac _ _ _ c.exp c.nbf c.iat l more now w he hn hi hm hw hG hl

end Go.Proofs.YthlfboaidhgnlaaGreatDoor
