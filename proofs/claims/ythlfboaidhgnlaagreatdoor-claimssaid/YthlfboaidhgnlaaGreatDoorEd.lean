import Derived.Test.YthlfboaidhgnlaaGreatDoorEc0
import Derived.Test.YthlfboaidhgnlaaGreatDoorEc1
import Derived.Test.YthlfboaidhgnlaaGreatDoorEc2
import Derived.Test.YthlfboaidhgnlaaGreatDoorEc3
namespace Go.Proofs.YthlfboaidhgnlaaGreatDoor
open Go.RowKit Go.Shelf

set_option maxRecDepth 100000 in
set_option maxHeartbeats 16000000 in
theorem csame_some (va1 : Option Addr) (vc1 : Nat) (aa1 : Option Addr) (ac1 : Nat) (va2 : Option Addr) (vc2 : Nat) (aa2 : Option Addr) (ac2 : Nat) (c1 c2 : Cm) (w : World)
    (hv1 : NR w (.slice va1 c1.val.length vc1) c1.val va1 vc1) (ha1 : TR w (.slice aa1 c1.aud.length ac1) c1.aud aa1 ac1) (hv2 : NR w (.slice va2 c2.val.length vc2) c2.val va2 vc2) (ha2 : TR w (.slice aa2 c2.aud.length ac2) c2.aud aa2 ac2) (hl1 : c1.val.length ≤ 1000000000) (hl2 : c1.aud.length ≤ 1000000000000000000) :
    Calls Tryz.prog 14 #[clV (.slice va1 c1.val.length vc1) (.slice aa1 c1.aud.length ac1) c1, clV (.slice va2 c2.val.length vc2) (.slice aa2 c2.aud.length ac2) c2] w fun e w' => (∃ b, e = .returned (.bool b)) ∧ Below w.heap.size w w' := by
  rcases (Decidable.em (c1.iss = c2.iss)).symm with hiss | hiss
  · exact (csame_d0 va1 vc1 aa1 ac1 va2 vc2 aa2 ac2 c1 c2 w hv1 ha1 hv2 ha2 hl1 hl2 hiss).mono (fun _ _ h => ⟨⟨_, h.1⟩, h.2⟩)
  rcases (Decidable.em (c1.hIss = c2.hIss)).symm with hhIss | hhIss
  · exact (csame_d1 va1 vc1 aa1 ac1 va2 vc2 aa2 ac2 c1 c2 w hv1 ha1 hv2 ha2 hl1 hl2 hiss hhIss).mono (fun _ _ h => ⟨⟨_, h.1⟩, h.2⟩)
  rcases (Decidable.em (c1.sub = c2.sub)).symm with hsub | hsub
  · exact (csame_d2 va1 vc1 aa1 ac1 va2 vc2 aa2 ac2 c1 c2 w hv1 ha1 hv2 ha2 hl1 hl2 hiss hhIss hsub).mono (fun _ _ h => ⟨⟨_, h.1⟩, h.2⟩)
  rcases (Decidable.em (c1.hSub = c2.hSub)).symm with hhSub | hhSub
  · exact (csame_d3 va1 vc1 aa1 ac1 va2 vc2 aa2 ac2 c1 c2 w hv1 ha1 hv2 ha2 hl1 hl2 hiss hhIss hsub hhSub).mono (fun _ _ h => ⟨⟨_, h.1⟩, h.2⟩)
  rcases (Decidable.em (c1.aud = c2.aud)).symm with haud | haud
  · exact (csame_d4 va1 vc1 aa1 ac1 va2 vc2 aa2 ac2 c1 c2 w hv1 ha1 hv2 ha2 hl1 hl2 hiss hhIss hsub hhSub haud).mono (fun _ _ h => ⟨⟨_, h.1⟩, h.2⟩)
  rcases (Decidable.em (c1.hAud = c2.hAud)).symm with hhAud | hhAud
  · exact (csame_d5 va1 vc1 aa1 ac1 va2 vc2 aa2 ac2 c1 c2 w hv1 ha1 hv2 ha2 hl1 hl2 hiss hhIss hsub hhSub haud hhAud).mono (fun _ _ h => ⟨⟨_, h.1⟩, h.2⟩)
  rcases (Decidable.em (c1.jti = c2.jti)).symm with hjti | hjti
  · exact (csame_d6 va1 vc1 aa1 ac1 va2 vc2 aa2 ac2 c1 c2 w hv1 ha1 hv2 ha2 hl1 hl2 hiss hhIss hsub hhSub haud hhAud hjti).mono (fun _ _ h => ⟨⟨_, h.1⟩, h.2⟩)
  rcases (Decidable.em (c1.hJti = c2.hJti)).symm with hhJti | hhJti
  · exact (csame_d7 va1 vc1 aa1 ac1 va2 vc2 aa2 ac2 c1 c2 w hv1 ha1 hv2 ha2 hl1 hl2 hiss hhIss hsub hhSub haud hhAud hjti hhJti).mono (fun _ _ h => ⟨⟨_, h.1⟩, h.2⟩)
  rcases (Decidable.em (c1.exp = c2.exp)).symm with hexp | hexp
  · exact (csame_d8 va1 vc1 aa1 ac1 va2 vc2 aa2 ac2 c1 c2 w hv1 ha1 hv2 ha2 hl1 hl2 hiss hhIss hsub hhSub haud hhAud hjti hhJti hexp).mono (fun _ _ h => ⟨⟨_, h.1⟩, h.2⟩)
  rcases (Decidable.em (c1.nbf = c2.nbf)).symm with hnbf | hnbf
  · exact (csame_d9 va1 vc1 aa1 ac1 va2 vc2 aa2 ac2 c1 c2 w hv1 ha1 hv2 ha2 hl1 hl2 hiss hhIss hsub hhSub haud hhAud hjti hhJti hexp hnbf).mono (fun _ _ h => ⟨⟨_, h.1⟩, h.2⟩)
  rcases (Decidable.em (c1.iat = c2.iat)).symm with hiat | hiat
  · exact (csame_d10 va1 vc1 aa1 ac1 va2 vc2 aa2 ac2 c1 c2 w hv1 ha1 hv2 ha2 hl1 hl2 hiss hhIss hsub hhSub haud hhAud hjti hhJti hexp hnbf hiat).mono (fun _ _ h => ⟨⟨_, h.1⟩, h.2⟩)
  rcases (Decidable.em (c1.val = c2.val)).symm with hval | hval
  · exact (csame_d11 va1 vc1 aa1 ac1 va2 vc2 aa2 ac2 c1 c2 w hv1 ha1 hv2 ha2 hl1 hl2 hiss hhIss hsub hhSub haud hhAud hjti hhJti hexp hnbf hiat hval).mono (fun _ _ h => ⟨⟨_, h.1⟩, h.2⟩)
  have e : c1 = c2 := by
    obtain ⟨val1, iss1, hIss1, sub1, hSub1, aud1, hAud1, jti1, hJti1, exp1, nbf1, iat1⟩ := c1
    obtain ⟨val2, iss2, hIss2, sub2, hSub2, aud2, hAud2, jti2, hJti2, exp2, nbf2, iat2⟩ := c2
    dsimp only at *
    subst hiss
    subst hhIss
    subst hsub
    subst hhSub
    subst haud
    subst hhAud
    subst hjti
    subst hhJti
    subst hexp
    subst hnbf
    subst hiat
    subst hval
    rfl
  subst e
  exact (csame_eq va1 vc1 aa1 ac1 va2 vc2 aa2 ac2 c1 w hv1 ha1 hv2 ha2 hl1 hl2).mono (fun _ _ h => ⟨⟨_, h.1⟩, h.2⟩)

end Go.Proofs.YthlfboaidhgnlaaGreatDoor
