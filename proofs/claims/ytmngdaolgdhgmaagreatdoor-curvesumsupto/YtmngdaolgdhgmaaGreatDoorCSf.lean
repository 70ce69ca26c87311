import Derived.Test.YtmngdaolgdhgmaaGreatDoorCSt
import Derived.Test.YtmngdaolgdhgmaaGreatDoorCSs
namespace Go.Proofs.YtmngdaolgdhgmaaGreatDoor
open Go.RowKit

theorem sumq {c s : Int} {p b n gx gy : Nat} (hk : Kv c p b n gx gy s) : SumOk c p b := by
  intro x y u v X Y U V inf jnf w β hβ hx hy hu hv o1 o2
  cases inf with
  | true => exact sum_l hk x y u v X Y U V w hβ hx hy hu hv jnf o2
  | false =>
    cases jnf with
    | true => exact sum_r hk x y u v X Y U V w hβ hx hy hu hv o1.1
    | false =>
      by_cases hX : X = U
      · by_cases hY : fA p Y V = 0
        · exact sum_opp hk x y u v X Y U V w hβ hx hy hu hv o1.1 o2.1 hX hY
        · exact sum_tan hk x y u v X Y U V w hβ hx hy hu hv o1.1 o2.1 hX hY
      · exact sum_chord hk x y u v X Y U V w hβ hx hy hu hv o1.1 o2.1 hX
theorem sums_any (c : Int) (x y u v : Value) (xs ys us vs : List Nat) (inf jnf : Bool) (w : World) (hx : Nm w x xs) (hy : Nm w y ys) (hu : Nm w u us) (hv : Nm w v vs) (l1 : xs.length ≤ 3000000) (l2 : ys.length ≤ 3000000) (l3 : us.length ≤ 3000000) (l4 : vs.length ≤ 3000000) :
    Calls Tryz.prog 4 #[.int .i64 c, .agg #[x, y, .bool inf], .agg #[u, v, .bool jnf]] w fun e w' => e = .returned (.bool true) ∧ Below w.heap.size w w' := by
  by_cases h1 : c = 1
  · subst h1; exact sums_core (Al.kv .k1) (As.kv .k1 (sumq .k1)) x y u v xs ys us vs inf jnf w hx hy hu hv l1 l2 l3 l4
  · by_cases h2 : c = 2
    · subst h2; exact sums_core (Al.kv .k2) (As.kv .k2 (sumq .k2)) x y u v xs ys us vs inf jnf w hx hy hu hv l1 l2 l3 l4
    · exact sums_core (Al.none c h1 h2) (As.none c h1 h2) x y u v xs ys us vs inf jnf w hx hy hu hv l1 l2 l3 l4
end Go.Proofs.YtmngdaolgdhgmaaGreatDoor
