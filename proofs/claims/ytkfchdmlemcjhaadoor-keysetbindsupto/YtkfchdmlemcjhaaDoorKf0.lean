import Derived.Test.YtkfchdmlemcjhaaDoorMaZ
import Derived.Test.YtkfchdmlemcjhaaDoorEZ
namespace Go.Proofs.YtkfchdmlemcjhaaDoor
open Go.RowKit Go.Shelf
set_option maxRecDepth 100000

/-- What an entry says. -/
structure En where
  val : List Nd
  kty : Int
  kid : List UInt8
  hKid : Bool
  use : List UInt8
  hUse : Bool
  alg : List UInt8
  hAlg : Bool
  ops : List (List UInt8)
  hOps : Bool
/-- An entry in memory: where its lists lie. -/
structure Ex where
  e : En
  va : Option Addr
  vc : Nat
  aa : Option Addr
  ac : Nat
def xC (x : Ex) : List Value := [.slice x.va x.e.val.length x.vc, .int .i64 x.e.kty, .string ⟨x.e.kid.toArray⟩, .bool x.e.hKid, .string ⟨x.e.use.toArray⟩, .bool x.e.hUse, .string ⟨x.e.alg.toArray⟩, .bool x.e.hAlg, .slice x.aa x.e.ops.length x.ac, .bool x.e.hOps]
def xCs (l : List Ex) : List Value := l.flatMap xC
theorem xC_length (x : Ex) : (xC x).length = 10 := rfl
theorem xCs_append (a b : List Ex) : xCs (a ++ b) = xCs a ++ xCs b := by simp [xCs]
theorem xCs_one (x : Ex) : xCs [x] = xC x := by simp [xCs]
theorem xCs_at (l : List Ex) (i j : Nat) (x : Ex) (hi : l[i]? = some x) (hj : j < 10) : (xCs l)[i * 10 + j]? = (xC x)[j]? := by
  induction l generalizing i with
  | nil => cases hi
  | cons a t ih =>
    show (xC a ++ xCs t)[_]? = _
    cases i with
    | zero =>
      cases hi
      rw [Nat.zero_mul, Nat.zero_add, List.getElem?_append_left (by rw [xC_length]; exact hj)]
    | succ i =>
      rw [List.getElem?_append_right (by rw [xC_length]; omega), xC_length, show (i + 1) * 10 + j - 10 = i * 10 + j by omega]
      exact ih i (by simpa using hi)
theorem xC_one : ∀ x : Ex, ∀ u ∈ xC x, u.oneCell' = true := fun x u hu => by
  simp only [xC, List.mem_cons, List.not_mem_nil, or_false] at hu
  rcases hu with rfl | rfl | rfl | rfl | rfl | rfl | rfl | rfl | rfl | rfl <;> rfl
/-- Its lists can be read. -/
structure XR (w : World) (x : Ex) : Prop where
  nr : NR w (.slice x.va x.e.val.length x.vc) x.e.val x.va x.vc
  tr : TR w (.slice x.aa x.e.ops.length x.ac) x.e.ops x.aa x.ac
  vn : x.va = none → x.vc = 0
  an : x.aa = none → x.ac = 0
theorem XR.below {w w' : World} {x : Ex} (h : XR w x) (hb : Below w.heap.size w w') : XR w' x := ⟨h.nr.below hb (Nat.le_refl _), h.tr.below hb (Nat.le_refl _), h.vn, h.an⟩
def zeroE : En := ⟨[], 0, [], false, [], false, [], false, [], false⟩
def zeroX : Ex := ⟨zeroE, none, 0, none, 0⟩
/-- An entry's cells at a place. -/
def EC (w : World) (g o : Nat) (x : Ex) : Prop := w.cell? ⟨g, o, none⟩ = some (.slice x.va x.e.val.length x.vc) ∧ w.cell? ⟨g, o + 1, none⟩ = some (.int .i64 x.e.kty) ∧ w.cell? ⟨g, o + 2, none⟩ = some (.string ⟨x.e.kid.toArray⟩) ∧ w.cell? ⟨g, o + 3, none⟩ = some (.bool x.e.hKid) ∧ w.cell? ⟨g, o + 4, none⟩ = some (.string ⟨x.e.use.toArray⟩) ∧ w.cell? ⟨g, o + 5, none⟩ = some (.bool x.e.hUse) ∧ w.cell? ⟨g, o + 6, none⟩ = some (.string ⟨x.e.alg.toArray⟩) ∧ w.cell? ⟨g, o + 7, none⟩ = some (.bool x.e.hAlg) ∧ w.cell? ⟨g, o + 8, none⟩ = some (.slice x.aa x.e.ops.length x.ac) ∧ w.cell? ⟨g, o + 9, none⟩ = some (.bool x.e.hOps)
/-- A list of entries that can be read. -/
structure LR (w : World) (ao : Option Addr) (cap : Nat) (l : List Ex) : Prop where
  cap : l.length ≤ cap
  cell : l = [] ∨ ∃ g off : Nat, ao = some ⟨g, off, none⟩ ∧ g < w.heap.size ∧ ∀ k x, l[k]? = some x → EC w g (off + k * 10) x
  rd : ∀ x ∈ l, XR w x
theorem EC.below {w w' : World} {n g o : Nat} {x : Ex} (h : EC w g o x) (hb : Below n w w') (hg : g < n) : EC w' g o x := by
  have hk : ∀ j v, w.cell? ⟨g, j, none⟩ = some v → w'.cell? ⟨g, j, none⟩ = some v := fun j v hv => cell_but hv fun _ => hb.block g hg
  exact ⟨hk _ _ h.1, hk _ _ h.2.1, hk _ _ h.2.2.1, hk _ _ h.2.2.2.1, hk _ _ h.2.2.2.2.1, hk _ _ h.2.2.2.2.2.1, hk _ _ h.2.2.2.2.2.2.1, hk _ _ h.2.2.2.2.2.2.2.1, hk _ _ h.2.2.2.2.2.2.2.2.1, hk _ _ h.2.2.2.2.2.2.2.2.2⟩
theorem LR.below {w w' : World} {ao : Option Addr} {cap : Nat} {l : List Ex} (h : LR w ao cap l) (hb : Below w.heap.size w w') : LR w' ao cap l := by
  refine ⟨h.cap, ?_, fun x hx => (h.rd x hx).below hb⟩
  rcases h.cell with h0 | ⟨g, off, e, hg, hc⟩
  · exact .inl h0
  · exact .inr ⟨g, off, e, Nat.lt_of_lt_of_le hg hb.size, fun k x hx => (hc k x hx).below hb hg⟩
theorem LR.at {w : World} {ao : Option Addr} {cap : Nat} {l : List Ex} (h : LR w ao cap l) {k : Nat} {x : Ex} (hx : l[k]? = some x) : ∃ g off : Nat, ao = some ⟨g, off, none⟩ ∧ EC w g (off + k * 10) x := by
  rcases h.cell with h0 | ⟨g, off, e, _, hc⟩
  · subst h0; cases hx
  · exact ⟨g, off, e, hc k x hx⟩
/-- A list of entries of one's own. -/
def LO (B : Nat) (w : World) (v : Value) (l : List Ex) : Prop := w.ownsRow B 26 10 v l.length (xCs l)
theorem LO.cells {B : Nat} {w : World} {g n cap : Nat} {l : List Ex} (h : LO B w (.slice (some ⟨g, 0, none⟩) n cap) l) (hn : l.length = n) {k : Nat} {x : Ex} (hx : l[k]? = some x) (o : Nat) (ho : o = k * 10) : EC w g o x := by
  unfold LO at h
  rw [hn] at h
  have hk : ∀ j v, j < 10 → (xC x)[j]? = some v → w.cell? ⟨g, k * 10 + j, none⟩ = some v := fun j v hj hv => (own_cell h (k * 10 + j) v (by rw [xCs_at l k j x hx hj]; exact hv)).1
  subst ho
  exact ⟨hk 0 _ (by decide) rfl, hk 1 _ (by decide) rfl, hk 2 _ (by decide) rfl, hk 3 _ (by decide) rfl, hk 4 _ (by decide) rfl, hk 5 _ (by decide) rfl, hk 6 _ (by decide) rfl, hk 7 _ (by decide) rfl, hk 8 _ (by decide) rfl, hk 9 _ (by decide) rfl⟩
theorem LO.lr {B : Nat} {w : World} {v : Value} {l : List Ex} (h : LO B w v l) (hr : ∀ x ∈ l, XR w x) : ∃ ao cap, v = .slice ao l.length cap ∧ LR w ao cap l ∧ (ao = none → cap = 0) := by
  obtain ⟨a, c, e, hc, hg⟩ := own_slice h
  subst e
  refine ⟨a, c, rfl, ⟨hc, ?_, hr⟩, fun ha => ?_⟩
  · by_cases h0 : l = []
    · exact .inl h0
    · obtain ⟨g, rfl⟩ := hg (by cases l; exact absurd rfl h0; simp)
      exact .inr ⟨g, 0, rfl, (h.lt g rfl).2, fun k x hx => h.cells rfl hx _ (by omega)⟩
  · subst ha
    rcases h.2 with ⟨hv, _⟩ | ⟨g, cap, cur, hv, _⟩
    · injection hv
    · cases hv
theorem infoEn : (Tryd.prog.info? 26).map (fun i => (i.zero, i.size, i.bytes)) = some (some (.agg #[.slice none 0 0, .int .i64 0, .string ⟨#[]⟩, .bool false, .string ⟨#[]⟩, .bool false, .string ⟨#[]⟩, .bool false, .slice none 0 0, .bool false]), 10, 136) := by kernel_rfl
/-- append of one entry. -/
theorem append_en16 {wr : World} {ops : Array Oper} {rest : List Oper} {o : Oper} {a : Act} {Q : Exit → Act → World → Prop} (hgd : o.guard = none) (s x : Operand)
    (ho : o.op = .call { callee := .builtin .append, args := #[s, x], argTypes := #[29, 29] })
    (B : Nat) (v : Value) (l : List Ex) (hs : a.eval s = v) (h : LO B wr v l) (ad : Addr) (cap : Nat) (y : Ex) (hx : a.eval x = .slice (some ad) 1 cap) (hR : ∀ j u, (xC y)[j]? = some u → wr.cell? (ad.add j) = some u) (hl : l.length ≤ 1000000000) (hB : B ≤ wr.heap.size)
    (k : ∀ v' w', LO B w' v' (l ++ [y]) → wr.grownBy w' v.ownBlock → wpList Tryd.prog ops Q rest (a.put o.dst v') w') : wpList Tryd.prog ops Q (o :: rest) a wr := by
  obtain ⟨i, hi, hz, hsize, hby⟩ := info_parts infoEn
  refine wpList_append_own_wide _ hgd s x 29 ho B 26 i (.agg #[.slice none 0 0, .int .i64 0, .string ⟨#[]⟩, .bool false, .string ⟨#[]⟩, .bool false, .string ⟨#[]⟩, .bool false, .slice none 0 0, .bool false]) 10 136 Tryd.underlying29 hi hz hsize hby rfl (by decide) v l.length (xCs l) hs h ad 1 cap (xC y) hx rfl ?_ (xC_one y) (by unfold maxLen; omega) (by omega) hB ?_
  · exact hR
  · intro v' w' h2 h3 _
    refine k v' w' ?_ h3
    unfold LO
    rw [List.length_append, xCs_append, xCs_one]
    exact h2

end Go.Proofs.YtkfchdmlemcjhaaDoor
