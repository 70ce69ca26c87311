import Derived.Test.YtkkcmfkegbdgjaaOd1
import Derived.Test.YtkkcmfkegbdgjaaOd2
import Derived.Test.YtkkcmfkegbdgjaaOd3
namespace Go.Proofs.Ytkkcmfkegbdgjaa
open Go.RowKit

theorem order_core (a b c : Value) (A B C : Nat) (w : World) (ha : Vl w a A 1048576) (hb : Vl w b B 1048576) (hc : Vl w c C 1048576) :
    Calls Try.prog 5 #[a, b, c] w fun e w' => e = .returned (.bool true) ∧ Below w.heap.size w w' := by
  rcases Nat.lt_trichotomy A B with h1 | h1 | h1 <;> rcases Nat.lt_trichotomy B C with h2 | h2 | h2 <;> rcases Nat.eq_zero_or_pos C with h3 | h3
  · exact ord_000 a b c A B C w ha hb hc h1 h2 h3
  · exact ord_001 a b c A B C w ha hb hc h1 h2 h3
  · exact ord_010 a b c A B C w ha hb hc h1 h2 h3
  · exact ord_011 a b c A B C w ha hb hc h1 h2 h3
  · exact ord_020 a b c A B C w ha hb hc h1 h2 h3
  · exact ord_021 a b c A B C w ha hb hc h1 h2 h3
  · exact ord_100 a b c A B C w ha hb hc h1 h2 h3
  · exact ord_101 a b c A B C w ha hb hc h1 h2 h3
  · exact ord_110 a b c A B C w ha hb hc h1 h2 h3
  · exact ord_111 a b c A B C w ha hb hc h1 h2 h3
  · exact ord_120 a b c A B C w ha hb hc h1 h2 h3
  · exact ord_121 a b c A B C w ha hb hc h1 h2 h3
  · exact ord_200 a b c A B C w ha hb hc h1 h2 h3
  · exact ord_201 a b c A B C w ha hb hc h1 h2 h3
  · exact ord_210 a b c A B C w ha hb hc h1 h2 h3
  · exact ord_211 a b c A B C w ha hb hc h1 h2 h3
  · exact ord_220 a b c A B C w ha hb hc h1 h2 h3
  · exact ord_221 a b c A B C w ha hb hc h1 h2 h3

end Go.Proofs.Ytkkcmfkegbdgjaa
