import Derived.Test.YtcankapgjgonnaaDoorOe
import Derived.Test.YtcankapgjgonnaaDoorOfS
import Derived.Test.YtcankapgjgonnaaDoorJArg
import Derived.Shelf.Strconv.Itoa4
import Derived.Lib.ItoaLen
import Derived.Lib.AppendIntMem
namespace Go.Proofs.YtcankapgjgonnaaDoor
open Go.ChangeShapes Go.WideShapes Go.ChangeAt Go.RowKit Go.Shelf

theorem itoaF_any (n : Int) (h0 : -9223372036854775808 ≤ n) (h1 : n ≤ 9223372036854775807) (w : World) (htab : Lib.TabIs Tryd.prog w "internal/strconv.uint64pow10" .u64 Lib.pow10Tab) :
    Calls Tryd.prog 31 #[.int .i64 n] w fun e w' => e = .returned (.string ⟨(Lib.itoa n).toArray⟩) ∧ Below w.heap.size w w' := by
  refine (Any.strconv_Itoa Tryd.laysItoa n h0 h1 w htab).mono ?_
  rintro e w' ⟨he, k, os, rfl⟩
  exact ⟨he, Lib.below_grow _ w (Nat.le_refl _) k os⟩

theorem gPow : Tryd.prog.globalNamed "internal/strconv.uint64pow10" = some 2 := by kernel_rfl
theorem gPowType : (Tryd.prog.globals[2]?).map (·.type) = some 113 := by kernel_rfl
theorem powData : (Rows.laid_internal_strconv_uint64pow10 : DataW Unit) = Lib.tabData .u64 Lib.pow10Tab := by rfl
/-- What the row's list gives besides: the table of powers. -/
theorem laidTab {W : World} (h : laidMetH Tryd.prog [("math/bits.deBruijn32tab", Rows.laid_math_bits_deBruijn32tab), ("math/bits.deBruijn64tab", Rows.laid_math_bits_deBruijn64tab), ("internal/strconv.uint64pow10", Rows.laid_internal_strconv_uint64pow10)] W) : Lib.TabIs Tryd.prog W "internal/strconv.uint64pow10" .u64 Lib.pow10Tab := by
  rw [MakeChecks.laidMetH_plain _ _ _ (by kernel_rfl)] at h
  have h2 := h.tail.tail
  rw [powData] at h2
  exact Lib.tabIs_of_head gPow gPowType Tryd.underlying113 Tryd.underlying94 (by kernel_rfl) (by kernel_rfl) h2

/-- The law, at a list and a name of bounded size. -/
theorem finds_top (v : Value) (l : List Nd) (va : Option Addr) (vc : Nat) (a : Int) (key : List UInt8) (N : Nat) (w : World) (h : NR w v l va vc) (hvn : va = none → vc = 0) (hl : l.length ≤ N) (ht : ∀ x ∈ l, x.text.length ≤ N ∧ x.key.length ≤ N) (hN : N ≤ 1048576) (hkl : key.length ≤ 1048576) (htab : Lib.TabIs Tryd.prog w "internal/strconv.uint64pow10" .u64 Lib.pow10Tab) :
    Calls Tryd.prog 3 #[v, .int .i64 a, .string ⟨key.toArray⟩] w fun e w' => e = .returned (.bool true) ∧ Below w.heap.size w w' := by
  obtain ⟨rfl, _, _⟩ := id h
  have tb := Lib.tabBelow_of_tabIs htab
  refine finds_any l va vc a key (fun i => if i ≤ 100000000 then Lib.itoa (i : Int) else []) w h hvn (by omega) (fun x hx => by have := ht x hx; omega) hkl (fun i => ?_) (fun i wq hi hb => ?_)
  · split
    · have := Lib.itoa_length_le (i : Int) (by omega) (by omega)
      omega
    · simp
  · simp only [if_pos hi]
    exact itoaF_any (i : Int) (by omega) (by omega) wq (tb wq hb)

end Go.Proofs.YtcankapgjgonnaaDoor
