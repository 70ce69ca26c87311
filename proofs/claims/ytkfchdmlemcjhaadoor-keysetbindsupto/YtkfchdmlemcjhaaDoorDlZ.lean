import Derived.Test.YtkfchdmlemcjhaaDoorDZ
import Derived.Test.YtkfchdmlemcjhaaDoorDcRefWj
import Derived.Deep.CutRange
import Derived.Test.YtkfchdmlemcjhaaDoorFa
import Derived.Deep.Onto
import Derived.Deep.AppendLies
namespace Go.Proofs.YtkfchdmlemcjhaaDoor
open Go.RowKit Go.Shelf

/-- A number. -/
def nuG (t : List UInt8) (p : Nat) : Lx Unit → Lx (List Nd)
  | .ok _ q => .ok [numN (sgl t p q)] q
  | .bad c b => .bad c b
def nuF (t : List UInt8) (p : Nat) : Lx (List Nd) := nuG t p (numL t p)

end Go.Proofs.YtkfchdmlemcjhaaDoor

namespace Go.Proofs.YtkfchdmlemcjhaaDoor
open Go.RowKit Go.Shelf

/-- A string as a value. -/
def qsG : Lx (List UInt8) → Lx (List Nd)
  | .ok S q => .ok [{ nd0 5 with text := S }] q
  | .bad c b => .bad c b
/-- A value, given its row. -/
def valD (RW : Bool → Lx (List Nd)) (t : List UInt8) (op p : Nat) : Lx (List Nd) :=
  if bat t p = 91 then (if op = 32 then .bad 11 p else RW false) else
  if bat t p = 123 then (if op = 32 then .bad 11 p else RW true) else
  if bat t p = 34 then qsG (quoF t (t.length + 1) (p + 1) []) else
  if bat t p = 45 ∨ (48 ≤ bat t p ∧ bat t p ≤ 57) then nuF t p else
  if bat t p = 110 then ltF t [110, 117, 108, 108] 1 p else
  if bat t p = 102 then ltF t [102, 97, 108, 115, 101] 2 p else
  if bat t p = 116 then ltF t [116, 114, 117, 101] 3 p else .bad 31 p
end Go.Proofs.YtkfchdmlemcjhaaDoor

namespace Go.Proofs.YtkfchdmlemcjhaaDoor
open Go.RowKit Go.Shelf

/-- The first node's name. -/
def keyed (S : List UInt8) : List Nd → List Nd
  | [] => []
  | n :: r => { n with key := S } :: r
/-- What is told of an item: the names behind it, its nodes. -/
def GotI (ob : Bool) (ns : List (List UInt8)) (x : Lx (List (List UInt8) × List Nd)) (v : Value) (B : Nat) (w : World) : Prop := match x with
  | .ok y q => ∃ lv S, v = gotV (q : Int) lv S 0 0 ∧ NO B w lv y.2 ∧ (ob = true → y.1 = ns ++ [S]) ∧ (ob = false → y.1 = ns)
  | .bad c b => ∃ a S, v = gotV a nilV S (c : Int) (b : Int)
def itA (ns : List (List UInt8)) : Lx (List Nd) → Lx (List (List UInt8) × List Nd)
  | .ok L q => .ok (ns, L) q
  | .bad c b => .bad c b
def itO (ns : List (List UInt8)) (S : List UInt8) : Lx (List Nd) → Lx (List (List UInt8) × List Nd)
  | .ok L q => .ok (ns ++ [S], keyed S L) q
  | .bad c b => .bad c b
def itQ (V : Nat → Lx (List Nd)) (t : List UInt8) (ns : List (List UInt8)) (p : Nat) : Lx (List UInt8) → Lx (List (List UInt8) × List Nd)
  | .bad c b => .bad c b
  | .ok S q => if ns.contains S then .bad 34 p else if bat t (skp t blanksS q) ≠ 58 then .bad 31 (skp t blanksS q) else itO ns S (V (skp t blanksS (skp t blanksS q + 1)))
def itD (V : Nat → Lx (List Nd)) (t : List UInt8) (ob : Bool) (ns : List (List UInt8)) (p : Nat) : Lx (List (List UInt8) × List Nd) :=
  if ob = false then itA ns (V p) else if bat t p ≠ 34 then .bad 31 p else itQ V t ns p (quoF t (t.length + 1) (p + 1) [])
end Go.Proofs.YtkfchdmlemcjhaaDoor

namespace Go.Proofs.YtkfchdmlemcjhaaDoor
open Go.RowKit Go.Shelf

def sV (l : List UInt8) : Value := .string ⟨l.toArray⟩
/-- An own list of texts. -/
def OS (B : Nat) (w : World) (v : Value) (l : List (List UInt8)) : Prop := w.ownsRow B 9 1 v l.length (l.map sV)
theorem infoSt : (Tryd.prog.info? 9).map (fun i => (i.zero, i.size, i.bytes)) = some (some (.string ⟨#[]⟩), 1, 16) := by kernel_rfl
theorem os_sr {B : Nat} {w : World} {v : Value} {l : List (List UInt8)} (h : OS B w v l) : SR w v l := by
  by_cases h0 : l = []
  · subst h0
    rcases h.2 with ⟨hv, _⟩ | ⟨g, cap, cur, hv, _⟩
    · exact ⟨none, 0, hv, .inl rfl⟩
    · exact ⟨_, cap, hv, .inl rfl⟩
  · obtain ⟨g, cap, hv, _, _⟩ := World.ownsRow.form h (List.length_pos_iff.2 h0)
    refine ⟨_, cap, hv, .inr ⟨g, 0, rfl, fun j hj => ?_⟩⟩
    subst hv
    rw [Nat.zero_add]
    refine (own_cell h j _ ?_).1
    rw [List.getElem?_map, List.getElem?_eq_getElem hj]
    simp [List.getD_eq_getElem?_getD, hj, sV]
theorem append_s {wr : World} {ops : Array Oper} {rest : List Oper} {o : Oper} {a : Act} {Q : Exit → Act → World → Prop} (hgd : o.guard = none) (s x : Operand)
    (ho : o.op = .call { callee := .builtin .append, args := #[s, x], argTypes := #[24, 24] })
    (B : Nat) (v : Value) (l : List (List UInt8)) (y : List UInt8) (hs : a.eval s = v) (h : OS B wr v l) (bn : Nat) (hbn : bn = wr.heap.size) (hx : a.eval x = .slice (some ⟨bn, 0, none⟩) 1 1) (hl : l.length ≤ 1000000000) (hB : B ≤ wr.heap.size)
    (k : ∀ g cap w', OS B w' (.slice (some ⟨g, 0, none⟩) (l.length + 1) cap) (l ++ [y]) → (wr.alloc (.cells #[.string ⟨y.toArray⟩] 9)).grownBy w' v.ownBlock → (v.ownBlock = some g ∨ wr.heap.size ≤ g) → wpList Tryd.prog ops Q rest (a.put o.dst (.slice (some ⟨g, 0, none⟩) (l.length + 1) cap)) w') : wpList Tryd.prog ops Q (o :: rest) a (wr.alloc (.cells #[.string ⟨y.toArray⟩] 9)) := by
  subst hbn
  obtain ⟨i, hi, hz, hsize, hby⟩ := info_parts infoSt
  have hBl : Bl 9 (wr.alloc (.cells #[.string ⟨y.toArray⟩] 9)) wr.heap.size [sV y] := alloc_bl _ _ _
  have h1 : OS B (wr.alloc (.cells #[.string ⟨y.toArray⟩] 9)) v l := World.ownsRow.alloc h _
  have hsz := alloc_size wr (.cells #[.string ⟨y.toArray⟩] 9)
  refine wpList_append_lies _ hgd s x 24 ho B 9 i (.string ⟨#[]⟩) 1 16 Tryd.underlying24 hi hz hsize hby rfl (by decide) v l.length (l.map sV) hs h1 ⟨wr.heap.size, 0, none⟩ 1 1 [sV y] hx rfl ?_ (by intro u hu; simp at hu; subst hu; rfl) (by decide) (by unfold maxLen; omega) (by omega) (by omega) _ rfl ?_
  · intro j u hu
    obtain ⟨hlt, e⟩ := List.getElem?_eq_some_iff.1 hu
    rw [Addr.add_mid, Nat.zero_add, ← e]
    exact hBl.cell j hlt
  · intro g cap w' h2 h3 h4 _
    refine k g cap w' ?_ h3 ?_
    · unfold OS
      rw [List.length_append, List.map_append]
      exact h2
    · rcases h4 with h4 | h4
      · exact .inl h4
      · exact .inr (by omega)
/-- The rows' own node; their items, one after another. -/
def hdN (ob : Bool) (k : Nat) : Nd := ⟨if ob then 7 else 6, [], [], false, 0, k⟩
def clB (ob : Bool) : Int := if ob then 125 else 93
def rowN (t : List UInt8) (ob : Bool) (k : Nat) (rest : List Nd) (next : List (List UInt8) → Nat → List Nd → Nat → Lx (List Nd)) : Lx (List (List UInt8) × List Nd) → Lx (List Nd)
  | .bad c b => .bad c b
  | .ok y q =>
    if bat t (skp t blanksS q) = clB ob then .ok (hdN ob (k + 1) :: (rest ++ y.2)) (skp t blanksS q + 1) else
    if bat t (skp t blanksS q) = 44 then next y.1 (k + 1) (rest ++ y.2) (skp t blanksS (skp t blanksS q + 1)) else .bad 31 (skp t blanksS q)
def rowL (V : Nat → Lx (List Nd)) (t : List UInt8) (ob : Bool) : Nat → List (List UInt8) → Nat → List Nd → Nat → Lx (List Nd)
  | 0, _, _, _, _ => .bad 0 0
  | n + 1, ns, k, rest, p => rowN t ob k rest (rowL V t ob n) (itD V t ob ns p)
def rowD (V : Nat → Lx (List Nd)) (t : List UInt8) (ob : Bool) (p : Nat) : Lx (List Nd) :=
  if bat t (skp t blanksS (p + 1)) = clB ob then .ok [hdN ob 0] (skp t blanksS (p + 1) + 1) else rowL V t ob (t.length + 1) [] 0 [] (skp t blanksS (p + 1))
/-- What is told of the readings of values. -/
structure VOk (t : List UInt8) (V : Nat → Lx (List Nd)) : Prop where
  ok : ∀ q L q2, V q = .ok L q2 → q < q2 ∧ q2 ≤ t.length ∧ 0 < L.length ∧ L.length ≤ q2 - q
  bad : ∀ q c b, V q = .bad c b → c ≠ 0
end Go.Proofs.YtkfchdmlemcjhaaDoor
