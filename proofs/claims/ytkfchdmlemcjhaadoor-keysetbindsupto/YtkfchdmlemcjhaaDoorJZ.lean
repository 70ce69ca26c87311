import Derived.Test.YtkfchdmlemcjhaaDoorDcA
import Derived.Lib.ValidU
import Derived.Lib.RuneBytes
import Derived.Lib.DecodeN
import Derived.Lib.MapLaws
namespace Go.Proofs.YtkfchdmlemcjhaaDoor
open Go.RowKit

/-- A node. -/
structure Nd where
  kind : Int
  key : List UInt8
  text : List UInt8
  whole : Bool
  int : Int
  kids : Int
deriving DecidableEq

/-- A node of that kind alone. -/
def nd0 (k : Int) : Nd := ⟨k, [], [], false, 0, 0⟩
/-- What decimal.Whole says of a text. -/
def whV (l : List UInt8) : Int × Bool := Dec.wholeV (Dec.pcut l)
/-- The node of a number's text, without its name. -/
def numN (l : List UInt8) : Nd := ⟨4, [], l, (whV l).2, (whV l).1, 0⟩

/-- What a reading of a piece answers: a value and the place behind it, or a fault and its place. -/
inductive Lx (α : Type) where
  | ok (v : α) (p : Nat)
  | bad (c p : Nat)

/-- Is there a byte at the place that is in the set? -/
def tk (t set : List UInt8) (p : Nat) : Bool := decide (p < t.length) && set.contains (t.getD p 0)

/-- How many bytes from here on are in the set. -/
def spn (set : List UInt8) : List UInt8 → Nat
  | [] => 0
  | c :: r => if set.contains c then spn set r + 1 else 0
/-- The place behind those bytes. -/
def skp (t set : List UInt8) (p : Nat) : Nat := p + spn set (t.drop p)

theorem drop_at {t : List UInt8} {p : Nat} (h : p < t.length) : t.drop p = t.getD p 0 :: t.drop (p + 1) := by
  rw [List.drop_eq_getElem_cons h]
  simp [List.getD_eq_getElem?_getD, h]
theorem skp_stop {t set : List UInt8} {p : Nat} (h : tk t set p = false) : skp t set p = p := by
  unfold skp
  rcases Nat.lt_or_ge p t.length with hl | hl
  · rw [drop_at hl]
    have hc : ¬ set.contains (t.getD p 0) = true := by
      unfold tk at h
      simp only [hl, decide_true, Bool.true_and] at h
      rw [h]
      exact Bool.false_ne_true
    show p + (if set.contains (t.getD p 0) then spn set (t.drop (p + 1)) + 1 else 0) = _
    rw [if_neg hc]
    rfl
  · rw [List.drop_eq_nil_of_le hl]
    rfl
def blanksS : List UInt8 := [32, 9, 10, 13]
def digitsS : List UInt8 := [48, 49, 50, 51, 52, 53, 54, 55, 56, 57]

/-- A word that must stand there. -/
def litF (t : List UInt8) : List UInt8 → Nat → Lx Unit
  | [], p => .ok () p
  | c :: r, p => if tk t [c] p then litF t r (p + 1) else .bad 31 p

/-- A piece of a text. -/
def sgl (l : List UInt8) (a b : Nat) : List UInt8 := (l.drop a).take (b - a)

/-- The digits of a number's last part; its fraction; its front. -/
def numE (t : List UInt8) (p : Nat) : Lx Unit :=
  if tk t [101, 69] p then
    (let q := if tk t [43, 45] (p + 1) then p + 2 else p + 1
     if tk t digitsS q then .ok () (skp t digitsS q) else .bad 31 q)
  else .ok () p
def numF (t : List UInt8) (p : Nat) : Lx Unit :=
  if tk t [46] p then (if tk t digitsS (p + 1) then numE t (skp t digitsS (p + 1)) else .bad 31 (p + 1)) else numE t p
def numI (t : List UInt8) (p : Nat) : Lx Unit :=
  if tk t [48] p then numF t (p + 1) else if tk t digitsS p then numF t (skp t digitsS p) else .bad 31 p
def numL (t : List UInt8) (p : Nat) : Lx Unit := numI t (if tk t [45] p then p + 1 else p)

/-- The digit that a sign is, -1: none. -/
def hexV (c : UInt8) : Int := max (Lib.indexByte [48, 49, 50, 51, 52, 53, 54, 55, 56, 57, 97, 98, 99, 100, 101, 102] c) (Lib.indexByte [48, 49, 50, 51, 52, 53, 54, 55, 56, 57, 65, 66, 67, 68, 69, 70] c)
/-- Can one of the code points from least to most stand there? -/
def awF (least most : Int) (second : Bool) : Bool :=
  if second then decide (most ≥ 56320) && decide (least < 57344) else decide (least < 56320) || decide (most ≥ 57344)

/-- Four hexadecimal digits, n of them still to come, the number so far. -/
def unitF (t : List UInt8) (place : Nat) (second : Bool) : Nat → Int → Nat → Lx Int
  | 0, u, p => .ok u p
  | n + 1, u, p =>
    if p < t.length then
      (let d := hexV (t.getD p 0)
       if d < 0 then .bad 33 place
       else (let v := u + d * 16 ^ n
             if awF v (v + (16 ^ n - 1)) second then unitF t place second n v (p + 1) else .bad 33 place))
    else .bad 31 t.length

/-- Two signs that must follow. -/
def slashU (t : List UInt8) (place p : Nat) : Lx Unit :=
  if p < t.length then (if t.getD p 0 = 92 then
      (if p + 1 < t.length then (if t.getD (p + 1) 0 = 117 then .ok () (p + 2) else .bad 33 place) else .bad 31 t.length)
    else .bad 33 place) else .bad 31 t.length

def pairF (t : List UInt8) (place : Nat) (high : Int) (p : Nat) : Lx Int :=
  match slashU t place p with
  | .bad c q => .bad c q
  | .ok _ q => match unitF t place true 4 0 q with
    | .bad c q => .bad c q
    | .ok low q => .ok (65536 + (high - 55296) * 1024 + (low - 56320)) q

def pointF (t : List UInt8) (place p : Nat) : Lx Int :=
  match unitF t place false 4 0 p with
  | .bad c q => .bad c q
  | .ok high q => if high < 55296 ∨ 56320 ≤ high then .ok high q else pairF t place high q

/-- What a letter behind a backslash says. -/
def escS : List UInt8 := [34, 92, 98, 102, 110, 114, 116]
def escB : List UInt8 := [34, 92, 8, 12, 10, 13, 9]
def escL (c : UInt8) : Option Int := if Lib.indexByte escS c < 0 then none else some ((escB.getD (Lib.indexByte escS c).toNat 0).toNat : Int)

def escF (t : List UInt8) (p : Nat) : Lx Int :=
  if p + 1 < t.length then
    (let b := t.getD (p + 1) 0
     if b = 117 then pointF t p (p + 2) else if b = 47 then .ok 47 (p + 2) else
       match escL b with
       | some r => .ok r (p + 2)
       | none => .bad 33 p)
  else .bad 31 t.length

/-- Does the text begin with a whole sequence, or with one that can't go on? -/
def fullN (n b0 b1 b2 : Nat) : Bool :=
  if n = 0 then false else
  if Lib.firstT b0 % 8 ≤ n then true else
  if 1 < n ∧ (b1 < Lib.accLo (Lib.firstT b0 / 16) ∨ Lib.accHi (Lib.firstT b0 / 16) < b1) then true else
  decide (2 < n ∧ (b2 < 128 ∨ 191 < b2))
def fullR (l : List UInt8) : Bool := fullN l.length (l.getD 0 0).toNat (l.getD 1 0).toNat (l.getD 2 0).toNat

def chrF (t : List UInt8) (p : Nat) : Lx Int :=
  let rest := t.drop p
  if fullR rest = false then .bad 31 t.length else
  if t.getD p 0 = 92 then escF t p else
  if t.getD p 0 < 32 then .bad 31 p else
  if (Lib.decodeL rest).1 = 65533 ∧ (Lib.decodeL rest).2 = 1 then .bad 32 p else
  .ok ((Lib.decodeL rest).1 : Int) (p + (Lib.decodeL rest).2)

/-- The chars of a string up to its closing quote. -/
def quoF (t : List UInt8) : Nat → Nat → List UInt8 → Lx (List UInt8)
  | 0, _, _ => .bad 0 0
  | n + 1, p, acc =>
    if tk t [34] p then .ok acc (p + 1) else
    match chrF t p with
    | .bad c q => .bad c q
    | .ok r q => quoF t n q (acc ++ Lib.encodeRune r)

/-- The reader. -/
structure JS where
  pos : Nat
  aw : Nat
  nodes : List Nd
  opn : List Nat
  key : List UInt8
  met : List (Nat × List UInt8)

/-- What a step of the reader answers. -/
inductive Rs where
  | go (s : JS)
  | bad (c p : Nat)

/-- The node at a place has one kid more. -/
def kidUp (l : List Nd) (i : Nat) : List Nd := l.modify i fun n => { n with kids := n.kids + 1 }

/-- The innermost open one. -/
def inm (s : JS) : Nat := s.opn.getLastD 0

/-- What is awaited behind a value. -/
def endF (s : JS) : JS :=
  if s.opn = [] then { s with aw := 7 } else
  if (s.nodes.getD (inm s) (nd0 0)).kind = 6 then { s with aw := 5 } else { s with aw := 6 }

def addF (n : Nd) (s : JS) : JS :=
  let l := s.nodes ++ [{ n with key := s.key }]
  endF { s with nodes := if s.opn = [] then l else kidUp l (inm s), key := [] }

def closeF (s : JS) : JS := endF { s with opn := s.opn.dropLast }

def beginF (k aw : Nat) (s : JS) : Rs :=
  if s.opn.length = 32 then .bad 11 s.pos else
  let s1 := addF (nd0 k) { s with pos := s.pos + 1 }
  .go { s1 with opn := s1.opn ++ [s1.nodes.length - 1], aw := aw }

def litS (t w : List UInt8) (k : Int) (s : JS) : Rs :=
  match litF t w s.pos with
  | .ok _ p => .go (addF (nd0 k) { s with pos := p })
  | .bad c p => .bad c p

def valueF (t : List UInt8) (s : JS) : Rs :=
  let c := t.getD s.pos 0
  if c = 123 then beginF 7 2 s else
  if c = 91 then beginF 6 0 s else
  if c = 34 then
    (match quoF t (t.length + 1) (s.pos + 1) [] with
     | .ok l p => .go (addF { nd0 5 with text := l } { s with pos := p })
     | .bad c p => .bad c p) else
  if c = 110 then litS t [110, 117, 108, 108] 1 s else
  if c = 102 then litS t [102, 97, 108, 115, 101] 2 s else
  if c = 116 then litS t [116, 114, 117, 101] 3 s else
  match numL t s.pos with
  | .ok _ p => .go (addF (numN (sgl t s.pos p)) { s with pos := p })
  | .bad c p => .bad c p

def nameF (t : List UInt8) (s : JS) : Rs :=
  if t.getD s.pos 0 ≠ 34 then .bad 31 s.pos else
  match quoF t (t.length + 1) (s.pos + 1) [] with
  | .bad c p => .bad c p
  | .ok l p =>
    if s.met.contains (inm s, l) then .bad 34 s.pos else
    .go { s with pos := p, key := l, aw := 4, met := s.met ++ [(inm s, l)] }

def markF (t : List UInt8) (c : UInt8) (aw : Nat) (s : JS) : Rs :=
  if tk t [c] s.pos then .go { s with pos := s.pos + 1, aw := aw } else .bad 31 s.pos

def clsF (s : JS) : JS := closeF { s with pos := s.pos + 1 }

/-- One word. -/
def wordF (t : List UInt8) (s : JS) : Rs :=
  if s.aw = 0 then (if tk t [93] s.pos then .go (clsF s) else valueF t s) else
  if s.aw = 1 then valueF t s else
  if s.aw = 2 then (if tk t [125] s.pos then .go (clsF s) else nameF t s) else
  if s.aw = 3 then nameF t s else
  if s.aw = 4 then markF t 58 1 s else
  if s.aw = 5 then (if tk t [93] s.pos then .go (clsF s) else markF t 44 1 s) else
  if s.aw = 6 then (if tk t [125] s.pos then .go (clsF s) else markF t 44 3 s) else
  .bad 31 s.pos

/-- The reading, from a state on. -/
def runF (t : List UInt8) : Nat → JS → Rs
  | 0, s => .go s
  | n + 1, s =>
    let p := skp t blanksS s.pos
    if p = t.length then (if s.aw = 7 then .go { s with pos := p } else .bad 31 p) else
    match wordF t { s with pos := p } with
    | .bad c q => .bad c q
    | .go s' => runF t n s'

def start : JS := ⟨0, 1, [], [], [], []⟩

/-- What Parse answers. -/
def parseF (t : List UInt8) : List Nd × Nat × Nat :=
  if 262144 < t.length then ([], 10, 0) else
  match runF t (t.length + 1) start with
  | .bad c p => ([], c, p)
  | .go s => (s.nodes, 0, 0)

end Go.Proofs.YtkfchdmlemcjhaaDoor

namespace Go.Proofs.YtkfchdmlemcjhaaDoor
open Go.RowKit

theorem unitF_ok {t : List UInt8} {place : Nat} {second : Bool} : ∀ (n : Nat) (u : Int) (p : Nat) (v : Int) (q : Nat), p ≤ t.length → unitF t place second n u p = .ok v q → q = p + n ∧ q ≤ t.length
  | 0, u, p, v, q, hp, h => by
    unfold unitF at h
    cases h
    exact ⟨rfl, hp⟩
  | n + 1, u, p, v, q, hp, h => by
    unfold unitF at h
    split at h
    · rename_i hl
      simp only at h
      split at h
      · cases h
      · split at h
        · have := unitF_ok n _ (p + 1) v q (by omega) h
          omega
        · cases h
    · cases h

theorem slashU_ok {t : List UInt8} {place p q : Nat} {u : Unit} (h : slashU t place p = .ok u q) : q = p + 2 ∧ q ≤ t.length := by
  unfold slashU at h
  split at h
  · split at h
    · split at h
      · split at h
        · cases h
          exact ⟨rfl, by omega⟩
        · cases h
      · cases h
    · cases h
  · cases h

theorem pairF_ok {t : List UInt8} {place p q : Nat} {hi r : Int} (h : pairF t place hi p = .ok r q) : p < q ∧ q ≤ t.length := by
  unfold pairF at h
  split at h
  · cases h
  · rename_i u q1 e1
    have a1 := slashU_ok e1
    split at h
    · cases h
    · rename_i lo q2 e2
      cases h
      have a2 := unitF_ok 4 0 q1 lo q (by omega) e2
      omega

theorem pointF_ok {t : List UInt8} {place p q : Nat} {r : Int} (hp : p ≤ t.length) (h : pointF t place p = .ok r q) : p < q ∧ q ≤ t.length := by
  unfold pointF at h
  split at h
  · cases h
  · rename_i hi q1 e1
    have a1 := unitF_ok 4 0 p hi q1 hp e1
    split at h
    · cases h
      omega
    · have := pairF_ok h
      omega

theorem escF_ok {t : List UInt8} {p q : Nat} {r : Int} (h : escF t p = .ok r q) : p < q ∧ q ≤ t.length := by
  unfold escF at h
  split at h
  · simp only at h
    split at h
    · have := pointF_ok (by omega) h
      omega
    · split at h
      · cases h
        omega
      · split at h
        · cases h
          omega
        · cases h
  · cases h

theorem chrF_ok {t : List UInt8} {p q : Nat} {r : Int} (h : chrF t p = .ok r q) : p < q ∧ q ≤ t.length := by
  unfold chrF at h
  simp only at h
  split at h
  · cases h
  · rename_i hf
    have hne : t.drop p ≠ [] := fun e => hf (by rw [e]; rfl)
    split at h
    · exact escF_ok h
    · split at h
      · cases h
      · split at h
        · cases h
        · cases h
          have a1 := Lib.decodeL_le _ hne
          have a2 := Lib.decodeL_width (t.drop p)
          rw [List.length_drop] at a1
          have a3 : p < t.length := by
            rcases Nat.lt_or_ge p t.length with h | h
            · exact h
            · exact absurd (List.drop_eq_nil_of_le h) hne
          omega

theorem endF_pos (s : JS) : (endF s).pos = s.pos := by
  unfold endF
  split
  · rfl
  · split <;> rfl
theorem addF_pos (n : Nd) (s : JS) : (addF n s).pos = s.pos := by unfold addF; exact endF_pos _

theorem clsF_pos (s : JS) : (clsF s).pos = s.pos + 1 := by unfold clsF closeF; rw [endF_pos]

end Go.Proofs.YtkfchdmlemcjhaaDoor

namespace Go.Proofs.YtkfchdmlemcjhaaDoor
open Go.RowKit

/-- What holds of every state of the reader. -/
structure OKs (s : JS) : Prop where
  op : ∀ i ∈ s.opn, i < s.nodes.length
  len : s.opn.length ≤ 32
  cnt : s.nodes.length ≤ s.pos
  kid : ∀ n ∈ s.nodes, 0 ≤ n.kids ∧ n.kids ≤ (s.nodes.length : Int)
  ne : s.aw ≠ 1 → s.aw ≠ 7 → s.opn ≠ []

theorem snoc_of {α : Type} {l : List α} (h : l ≠ []) : ∃ xs i, l = xs ++ [i] := ⟨l.dropLast, l.getLast h, (List.dropLast_concat_getLast h).symm⟩
theorem last_snoc (xs : List Nat) (i d : Nat) : (xs ++ [i]).getLastD d = i := by simp
theorem endF_nodes (s : JS) : (endF s).nodes = s.nodes := by
  unfold endF
  split
  · rfl
  · split <;> rfl
theorem endF_opn (s : JS) : (endF s).opn = s.opn := by
  unfold endF
  split
  · rfl
  · split <;> rfl

theorem kidUp_length (l : List Nd) (i : Nat) : (kidUp l i).length = l.length := by unfold kidUp; simp
theorem OKs.at {s : JS} (h : OKs s) {p : Nat} (hp : s.pos ≤ p) : OKs { s with pos := p } := ⟨h.op, h.len, Nat.le_trans h.cnt hp, h.kid, h.ne⟩

theorem addF_nodes (n : Nd) (s : JS) : (addF n s).nodes.length = s.nodes.length + 1 := by
  unfold addF
  simp only
  rw [endF_nodes]
  show (if s.opn = [] then _ else _ : List Nd).length = _
  split
  · simp
  · rw [kidUp_length]; simp
theorem addF_opn (n : Nd) (s : JS) : (addF n s).opn = s.opn := by
  unfold addF
  simp only
  rw [endF_opn]

end Go.Proofs.YtkfchdmlemcjhaaDoor

namespace Go.Proofs.YtkfchdmlemcjhaaDoor
open Go.RowKit

/-- How many nodes a value takes that begins here, so many awaited. -/
def bhF : List Nd → Int → Nat
  | [], _ => 0
  | n :: r, aw => if 0 < aw then bhF r (wrap64 (aw + wrap64 (n.kids - 1))) + 1 else 0
theorem bhF_le : ∀ (l : List Nd) (aw : Int), bhF l aw ≤ l.length
  | [], _ => Nat.le_refl _
  | n :: r, aw => by
    unfold bhF
    have := bhF_le r (wrap64 (aw + wrap64 (n.kids - 1)))
    simp only [List.length_cons]
    split <;> omega
/-- The place behind a value. -/
def bhN (v : List Nd) (at_ : Nat) : Nat := at_ + bhF (v.drop at_) 1
def behindF (v : List Nd) (at_ : Int) : Int := if 0 ≤ at_ ∧ at_ < v.length then (bhN v at_.toNat : Int) else -1
theorem bhN_le {v : List Nd} {i : Nat} (h : i ≤ v.length) : bhN v i ≤ v.length := by
  have := bhF_le (v.drop i) 1
  rw [List.length_drop] at this
  unfold bhN
  omega
theorem dropN {v : List Nd} {i : Nat} (h : i < v.length) : v.drop i = v.getD i (nd0 0) :: v.drop (i + 1) := by
  rw [List.drop_eq_getElem_cons h]
  simp [List.getD_eq_getElem?_getD, h]
theorem bhN_gt {v : List Nd} {i : Nat} (h : i < v.length) : i < bhN v i := by
  unfold bhN
  rw [dropN h]
  unfold bhF
  rw [if_pos (by decide)]
  omega

/-- The places of what stands in it: from a place on, so many at most. -/
def kidsL (v : List Nd) : Nat → Nat → Int → List Nat
  | 0, _, _ => []
  | f + 1, i, n => if 0 < n ∧ i < v.length then i :: kidsL v f (bhN v i) (n - 1) else []
def kidsF (v : List Nd) (at_ : Int) : List Nat := if 0 ≤ at_ ∧ at_ < v.length then kidsL v (v.length + 1) (at_.toNat + 1) (v.getD at_.toNat (nd0 0)).kids else []
theorem kidsL_fuel {v : List Nd} : ∀ (f g i : Nat) (n : Int), v.length < f + i → v.length < g + i → kidsL v f i n = kidsL v g i n
  | 0, 0, _, _, _, _ => rfl
  | 0, g + 1, i, n, h, _ => by
    unfold kidsL
    rw [if_neg (by omega)]
  | f + 1, 0, i, n, _, h => by
    unfold kidsL
    rw [if_neg (by omega)]
  | f + 1, g + 1, i, n, h1, h2 => by
    unfold kidsL
    split
    · rename_i h
      have := bhN_gt h.2
      rw [kidsL_fuel f g (bhN v i) (n - 1) (by omega) (by omega)]
    · rfl
theorem kidsL_lt {v : List Nd} : ∀ (f i : Nat) (n : Int), ∀ k ∈ kidsL v f i n, k < v.length
  | 0, _, _ => fun k hk => by simp [kidsL] at hk
  | f + 1, i, n => fun k hk => by
    unfold kidsL at hk
    split at hk
    · rename_i h
      rcases List.mem_cons.1 hk with rfl | hk
      · exact h.2
      · exact kidsL_lt f _ _ k hk
    · simp at hk
theorem kidsF_lt {v : List Nd} {a : Int} : ∀ k ∈ kidsF v a, k < v.length := by
  intro k hk
  unfold kidsF at hk
  split at hk
  · exact kidsL_lt _ _ _ k hk
  · simp at hk

/-- The member of that name. -/
def memL (v : List Nd) (key : List UInt8) (l : List Nat) : Int :=
  match l with
  | [] => -1
  | k :: r => if (v.getD k (nd0 0)).key = key then (k : Int) else memL v key r
def memF (v : List Nd) (at_ : Int) (key : List UInt8) : Int :=
  if 0 ≤ at_ ∧ at_ < v.length ∧ (v.getD at_.toNat (nd0 0)).kind = 7 then memL v key (kidsF v at_) else -1

/-- Has the node what its kind has? -/
def wmF (n : Nd) (d : Int) : Bool :=
  if n.kind = 1 ∨ n.kind = 2 ∨ n.kind = 3 then decide (n = { nd0 n.kind with key := n.key })
  else if n.kind = 4 then (Dec.pcut n.text).isSome && decide (n = { numN n.text with key := n.key })
  else if n.kind = 5 then Lib.validD n.text && decide (n = { nd0 5 with text := n.text, key := n.key })
  else if n.kind = 6 ∨ n.kind = 7 then (decide (0 ≤ n.kids) && decide (d < 32)) && decide (n = { nd0 n.kind with kids := n.kids, key := n.key })
  else false

/-- Has it a name of its own? The names met behind it. -/
def nmF (v : List Nd) (i : Nat) (around : Int) (met : List (Nat × List UInt8)) : Option (List (Nat × List UInt8)) :=
  if around = -1 ∨ (v.getD around.toNat (nd0 0)).kind = 6 then (if (v.getD i (nd0 0)).key = [] then some met else none)
  else if Lib.validD (v.getD i (nd0 0)).key = true ∧ (around.toNat, (v.getD i (nd0 0)).key) ∉ met then some (met ++ [(around.toNat, (v.getD i (nd0 0)).key)]) else none

/-- What stands in one, so many, from a place on. -/
def skF (sv : Nat → List (Nat × List UInt8) → Option (Nat × List (Nat × List UInt8))) : Nat → Int → Nat → List (Nat × List UInt8) → Option (Nat × List (Nat × List UInt8))
  | 0, n, i, met => if 0 < n then none else some (i, met)
  | f + 1, n, i, met => if 0 < n then (match sv i met with
      | none => none
      | some (j, met') => skF sv f (n - 1) j met') else some (i, met)
/-- The place behind a well shaped value. -/
def svF (v : List Nd) : Nat → Nat → Int → Int → List (Nat × List UInt8) → Option (Nat × List (Nat × List UInt8))
  | 0, _, _, _, _ => none
  | f + 1, i, around, d, met =>
    if i < v.length ∧ wmF (v.getD i (nd0 0)) d = true then
      match nmF v i around met with
      | none => none
      | some met' => skF (fun j m => svF v f j (i : Int) (d + 1) m) (v.length + 1) (v.getD i (nd0 0)).kids (i + 1) met'
    else none
def shapedF (v : List Nd) : Bool := match svF v 33 0 (-1) 0 [] with
  | some (j, _) => decide (j = v.length)
  | none => false

theorem skF_gt {v : List Nd} {sv : Nat → List (Nat × List UInt8) → Option (Nat × List (Nat × List UInt8))} (hs : ∀ i m j m', sv i m = some (j, m') → i < j ∧ j ≤ v.length) : ∀ (f : Nat) (n : Int) (i : Nat) (m : List (Nat × List UInt8)) (j : Nat) (m' : List (Nat × List UInt8)), i ≤ v.length → skF sv f n i m = some (j, m') → i ≤ j ∧ j ≤ v.length
  | 0, n, i, m, j, m', hi, h => by
    unfold skF at h
    split at h
    · cases h
    · cases h; omega
  | f + 1, n, i, m, j, m', hi, h => by
    unfold skF at h
    split at h
    · split at h
      · cases h
      · rename_i k m2 e
        have h1 := hs _ _ _ _ e
        have := skF_gt hs f (n - 1) k m2 j m' h1.2 h
        omega
    · cases h; omega
theorem svF_gt {v : List Nd} : ∀ (f i : Nat) (a d : Int) (m : List (Nat × List UInt8)) (j : Nat) (m' : List (Nat × List UInt8)), svF v f i a d m = some (j, m') → i < j ∧ j ≤ v.length
  | 0, i, a, d, m, j, m', h => by unfold svF at h; cases h
  | f + 1, i, a, d, m, j, m', h => by
    unfold svF at h
    split at h
    · rename_i hi
      split at h
      · cases h
      · rename_i m2 e
        have := skF_gt (v := v) (fun i2 m3 j2 m4 h2 => svF_gt f i2 _ _ m3 j2 m4 h2) _ _ (i + 1) m2 j m' (by omega) h
        omega
    · cases h
theorem skF_fuel {v : List Nd} {sv : Nat → List (Nat × List UInt8) → Option (Nat × List (Nat × List UInt8))} (hs : ∀ i m j m', sv i m = some (j, m') → i < j ∧ j ≤ v.length) (hz : ∀ i m, v.length ≤ i → sv i m = none) : ∀ (f g : Nat) (n : Int) (i : Nat) (m : List (Nat × List UInt8)), v.length ≤ f + i → v.length ≤ g + i → skF sv f n i m = skF sv g n i m
  | 0, 0, _, _, _, _, _ => rfl
  | 0, g + 1, n, i, m, h, _ => by
    unfold skF
    split
    · rw [hz i m (by omega)]
    · rfl
  | f + 1, 0, n, i, m, _, h => by
    unfold skF
    split
    · rw [hz i m (by omega)]
    · rfl
  | f + 1, g + 1, n, i, m, h1, h2 => by
    unfold skF
    split
    · split
      · rfl
      · rename_i j m' e
        have := hs _ _ _ _ e
        exact skF_fuel hs hz f g (n - 1) j m' (by omega) (by omega)
    · rfl
theorem svF_out {v : List Nd} (f i : Nat) (a d : Int) (m : List (Nat × List UInt8)) (h : v.length ≤ i) : svF v f i a d m = none := by
  cases f with
  | zero => rfl
  | succ f => unfold svF; rw [if_neg (by omega)]

end Go.Proofs.YtkfchdmlemcjhaaDoor

namespace Go.Proofs.YtkfchdmlemcjhaaDoor
open Go.RowKit

/-- How a byte is spelled that can't stand as it is; none: it can. -/
def escV (c : UInt8) : List UInt8 :=
  if 0 ≤ Lib.indexByte escB c then [92, escS.getD (Lib.indexByte escB c).toNat 0]
  else if c.toNat < 32 then [92, 117, 48, 48, ([48, 49, 50, 51, 52, 53, 54, 55, 56, 57, 97, 98, 99, 100, 101, 102] : List UInt8).getD (c.toNat / 16) 0, ([48, 49, 50, 51, 52, 53, 54, 55, 56, 57, 97, 98, 99, 100, 101, 102] : List UInt8).getD (c.toNat % 16) 0]
  else []
def escC (c : UInt8) : List UInt8 := if escV c = [] then [c] else escV c
def quoS (l : List UInt8) : List UInt8 := 34 :: (l.flatMap escC ++ [34])

/-- What stands in a list or object, written; a value. -/
def pkF (pv : Nat → List UInt8 × Nat) (v : List Nd) (obj : Bool) : Nat → Bool → Int → Nat → List UInt8 × Nat
  | 0, _, _, i => ([], i)
  | f + 1, first, n, i => if 0 < n then
      (((if first then [] else [44]) ++ (if obj then quoS (v.getD i (nd0 0)).key ++ [58] else []) ++ (pv i).1) ++ (pkF pv v obj f false (n - 1) (pv i).2).1, (pkF pv v obj f false (n - 1) (pv i).2).2) else ([], i)
def prF (v : List Nd) : Nat → Nat → List UInt8 × Nat
  | 0, i => ([], i + 1)
  | f + 1, i =>
    let n := v.getD i (nd0 0)
    if n.kind = 1 then ([110, 117, 108, 108], i + 1)
    else if n.kind = 2 then ([102, 97, 108, 115, 101], i + 1)
    else if n.kind = 3 then ([116, 114, 117, 101], i + 1)
    else if n.kind = 4 then (n.text, i + 1)
    else if n.kind = 5 then (quoS n.text, i + 1)
    else if n.kind = 6 then (91 :: ((pkF (prF v f) v false (v.length + 1) true n.kids (i + 1)).1 ++ [93]), (pkF (prF v f) v false (v.length + 1) true n.kids (i + 1)).2)
    else if n.kind = 7 then (123 :: ((pkF (prF v f) v true (v.length + 1) true n.kids (i + 1)).1 ++ [125]), (pkF (prF v f) v true (v.length + 1) true n.kids (i + 1)).2)
    else ([], i + 1)
/-- What Print answers. -/
def printF (v : List Nd) : List UInt8 × Nat :=
  if shapedF v = false then ([], 31) else if 262144 < (prF v 33 0).1.length then ([], 10) else ((prF v 33 0).1, 0)

end Go.Proofs.YtkfchdmlemcjhaaDoor

namespace Go.Proofs.YtkfchdmlemcjhaaDoor
open Go.RowKit

/-- Names that the kids of one of that kind may have. -/
def KeysOK (k : Int) (ks : List (List UInt8)) : Prop := (k = 6 → ∀ x ∈ ks, x = []) ∧ (k = 7 → (∀ x ∈ ks, Lib.validD x = true) ∧ ks.Nodup)

/-- A row of values of that depth, with these names. -/
inductive Sq : Int → List (List UInt8) → List Nd → Prop
  | nil (d : Int) : Sq d [] []
  | cons {d : Int} {n : Nd} {ks ks' : List (List UInt8)} {r r' : List Nd} (hw : wmF n d = true) (h1 : Sq (d + 1) ks r) (hn : n.kids = (ks.length : Int)) (hk : KeysOK n.kind ks) (h2 : Sq d ks' r') : Sq d (n.key :: ks') (n :: (r ++ r'))

theorem Sq.one {d : Int} {n : Nd} {ks : List (List UInt8)} {r : List Nd} (hw : wmF n d = true) (h1 : Sq (d + 1) ks r) (hn : n.kids = (ks.length : Int)) (hk : KeysOK n.kind ks) : Sq d [n.key] (n :: r) := by
  have := Sq.cons hw h1 hn hk (Sq.nil d)
  rwa [List.append_nil] at this

theorem Sq.append {d : Int} {a b : List (List UInt8)} {l m : List Nd} (h : Sq d a l) (h2 : Sq d b m) : Sq d (a ++ b) (l ++ m) := by
  induction h with
  | nil => exact h2
  | cons hw h1 hn hk h3 ih1 ih2 =>
    have := Sq.cons hw h1 hn hk (ih2 h2)
    simpa using this

theorem Sq.len {d : Int} {a : List (List UInt8)} {l : List Nd} (h : Sq d a l) : a.length ≤ l.length := by
  induction h with
  | nil => exact Nat.le_refl _
  | cons hw h1 hn hk h3 ih1 ih2 =>
    simp only [List.length_cons, List.length_append]
    omega

theorem wm_low {n : Nd} {d d' : Int} (h : wmF n d = true) (hd : d' ≤ d) : wmF n d' = true := by
  unfold wmF at h ⊢
  split
  · rename_i h1; rw [if_pos h1] at h; exact h
  · rename_i h1
    rw [if_neg h1] at h
    split
    · rename_i h2; rw [if_pos h2] at h; exact h
    · rename_i h2
      rw [if_neg h2] at h
      split
      · rename_i h3; rw [if_pos h3] at h; exact h
      · rename_i h3
        rw [if_neg h3] at h
        split
        · rename_i h4
          rw [if_pos h4] at h
          simp only [Bool.and_eq_true, decide_eq_true_eq] at h ⊢
          exact ⟨⟨h.1.1, by omega⟩, h.2⟩
        · rename_i h4
          rw [if_neg h4] at h
          exact h
theorem Sq.low {d d' : Int} {a : List (List UInt8)} {l : List Nd} (h : Sq d a l) (hd : d' ≤ d) : Sq d' a l := by
  induction h generalizing d' with
  | nil => exact .nil _
  | cons hw h1 hn hk h3 ih1 ih2 => exact .cons (wm_low hw hd) (ih1 (by omega)) hn hk (ih2 hd)

theorem wm_key {n : Nd} {d : Int} (k : List UInt8) (h : wmF n d = true) : wmF { n with key := k } d = true := by
  unfold wmF at h ⊢
  simp only
  split
  · rename_i h1; rw [if_pos h1] at h
    have h2 := of_decide_eq_true h
    refine decide_eq_true ?_
    (rw [h2]) <;> rfl
  · rename_i h1
    rw [if_neg h1] at h
    split
    · rename_i h2
      rw [if_pos h2] at h
      simp only [Bool.and_eq_true] at h ⊢
      refine ⟨h.1, ?_⟩
      have h2 := of_decide_eq_true h.2
      refine decide_eq_true ?_
      (rw [h2]) <;> rfl
    · rename_i h2
      rw [if_neg h2] at h
      split
      · rename_i h3; rw [if_pos h3] at h
        simp only [Bool.and_eq_true] at h ⊢
        refine ⟨h.1, ?_⟩
        have h2 := of_decide_eq_true h.2
        refine decide_eq_true ?_
        (rw [h2]) <;> rfl
      · rename_i h3
        rw [if_neg h3] at h
        split
        · rename_i h4
          rw [if_pos h4] at h
          simp only [Bool.and_eq_true] at h ⊢
          refine ⟨h.1, ?_⟩
          have h2 := of_decide_eq_true h.2
          refine decide_eq_true ?_
          (rw [h2]) <;> rfl
        · rename_i h4
          rw [if_neg h4] at h
          cases h

theorem wrap_small {x : Int} (h0 : -4611686018427387904 ≤ x) (h1 : x ≤ 4611686018427387904) : wrap64 x = x := by
  unfold wrap64
  omega

/-- How far a row of values reaches. -/
theorem Sq.far {d : Int} {a : List (List UInt8)} {l : List Nd} (h : Sq d a l) : ∀ (r : List Nd) (m : Int), 0 ≤ m → (l.length : Int) + m ≤ 4611686018427387904 → bhF (l ++ r) ((a.length : Int) + m) = l.length + bhF r m := by
  induction h with
  | nil => intro r m h0 h1; simp
  | cons hw h1 hn hk h3 ih1 ih2 =>
    rename_i d n ks ks' r1 r2
    intro r m h0 hl
    simp only [List.length_cons, List.length_append] at hl
    have l1 := h1.len
    have l2 := h3.len
    show bhF (n :: ((r1 ++ r2) ++ r)) _ = _
    conv => lhs; unfold bhF
    rw [if_pos (by simp only [List.length_cons]; omega), hn]
    simp only [List.length_cons]
    rw [wrap_small (x := (ks.length : Int) - 1) (by omega) (by omega), wrap_small (by omega) (by omega)]
    rw [show ((ks'.length + 1 : Nat) : Int) + m + ((ks.length : Int) - 1) = (ks.length : Int) + ((ks'.length : Int) + m) by omega]
    rw [List.append_assoc, ih1 (r2 ++ r) _ (by omega) (by omega), ih2 r m h0 (by omega)]
    simp only [List.length_append]
    omega

theorem bhF_zero (r : List Nd) : bhF r 0 = 0 := by cases r <;> (unfold bhF; first | rfl | rw [if_neg (by omega)])

theorem Sq.behind {d : Int} {k : List UInt8} {l pre post v : List Nd} (h : Sq d [k] l) (hv : v = pre ++ (l ++ post)) (hl : (l.length : Int) + 1 ≤ 4611686018427387904) : bhN v pre.length = pre.length + l.length := by
  unfold bhN
  rw [hv, List.drop_left]
  have := h.far post 0 (by omega) (by omega)
  simp only [List.length_cons, List.length_nil] at this
  rw [show (((0 + 1 : Nat) : Int) + 0) = 1 by omega] at this
  rw [this, bhF_zero]
  omega

/-- One place behind the other. -/
def Ch (v : List Nd) : Nat → List Nat → Nat → Prop
  | i, [], j => i = j
  | i, k :: r, j => k = i ∧ Ch v (bhN v i) r j

theorem Sq.kids {d : Int} {a : List (List UInt8)} {l : List Nd} (h : Sq d a l) : ∀ (pre post v : List Nd) (f : Nat), v = pre ++ (l ++ post) → (v.length : Int) ≤ 4611686018427387000 → v.length < f + pre.length → Ch v pre.length (kidsL v f pre.length (a.length : Int)) (pre.length + l.length) ∧ (kidsL v f pre.length (a.length : Int)).map (fun i => (v.getD i (nd0 0)).key) = a := by
  induction h with
  | nil =>
    intro pre post v f hv hl hf
    cases f with
    | zero => exact ⟨rfl, rfl⟩
    | succ f =>
      simp only [List.length_nil]
      unfold kidsL
      rw [if_neg (by omega)]
      exact ⟨rfl, rfl⟩
  | cons hw h1 hn hk h3 ih1 ih2 =>
    rename_i d n ks ks' r1 r2
    intro pre post v f hv hl hf
    have hlen : v.length = pre.length + (1 + r1.length + r2.length + post.length) := by rw [hv]; simp; omega
    cases f with
    | zero => omega
    | succ f =>
      have hb : bhN v pre.length = pre.length + (1 + r1.length) := by
        rw [Sq.behind (Sq.one hw h1 hn hk) (pre := pre) (post := r2 ++ post) (v := v) (by rw [hv]; simp) (by simp only [List.length_cons]; omega)]
        simp only [List.length_cons]
        omega
      have hk2 := ih2 (pre ++ (n :: r1)) post v f (by rw [hv]; simp) hl (by simp; omega)
      rw [show (pre ++ (n :: r1)).length = pre.length + (1 + r1.length) by simp; omega, ← hb] at hk2
      have hg : v.getD pre.length (nd0 0) = n := by rw [hv]; simp
      unfold kidsL
      simp only [List.length_cons]
      rw [if_pos ⟨by omega, by omega⟩, show ((ks'.length + 1 : Nat) : Int) - 1 = (ks'.length : Int) by omega]
      refine ⟨⟨rfl, ?_⟩, ?_⟩
      · have := hk2.1
        rw [hb] at this ⊢
        rw [show pre.length + (1 + r1.length) + r2.length = pre.length + ((r1 ++ r2).length + 1) by simp; omega] at this
        exact this
      · rw [List.map_cons, hg, hk2.2]

/-- What stands at a place. -/
theorem Sq.at {d : Int} {a : List (List UInt8)} {l : List Nd} (h : Sq d a l) : ∀ i, i < l.length → ∃ (d' : Int) (n : Nd) (ks : List (List UInt8)) (r pre post : List Nd), d ≤ d' ∧ l = pre ++ ((n :: r) ++ post) ∧ pre.length = i ∧ wmF n d' = true ∧ Sq (d' + 1) ks r ∧ n.kids = (ks.length : Int) ∧ KeysOK n.kind ks := by
  induction h with
  | nil => intro i hi; simp at hi
  | cons hw h1 hn hk h3 ih1 ih2 =>
    rename_i d n ks ks' r1 r2
    intro i hi
    simp only [List.length_cons, List.length_append] at hi
    rcases Nat.eq_zero_or_pos i with rfl | hi0
    · exact ⟨d, n, ks, r1, [], r2, Int.le_refl _, by simp, rfl, hw, h1, hn, hk⟩
    · rcases Nat.lt_or_ge (i - 1) r1.length with h | h
      · obtain ⟨d', n', ks2, r, pre, post, hd, hl, hp, hrest⟩ := ih1 (i - 1) h
        exact ⟨d', n', ks2, r, n :: pre, post ++ r2, by omega, by rw [hl]; simp, by simp; omega, hrest⟩
      · obtain ⟨d', n', ks2, r, pre, post, hd, hl, hp, hrest⟩ := ih2 (i - 1 - r1.length) (by omega)
        exact ⟨d', n', ks2, r, n :: (r1 ++ pre), post, by omega, by rw [hl]; simp, by simp; omega, hrest⟩

end Go.Proofs.YtkfchdmlemcjhaaDoor

namespace Go.Proofs.YtkfchdmlemcjhaaDoor
open Go.RowKit

theorem wm_kids2 {n : Nd} {d : Int} (h : wmF n d = true) : (1 ≤ n.kind ∧ n.kind ≤ 7) ∧ (n.kind < 6 → n.kids = 0) ∧ (0 < n.kids → d < 32) := by
  unfold wmF at h
  split at h
  · have h2 : n.kids = 0 := congrArg Nd.kids (of_decide_eq_true h)
    omega
  · split at h
    · simp only [Bool.and_eq_true] at h
      have h2 : n.kids = 0 := congrArg Nd.kids (of_decide_eq_true h.2)
      omega
    · split at h
      · simp only [Bool.and_eq_true] at h
        have h2 : n.kids = 0 := congrArg Nd.kids (of_decide_eq_true h.2)
        omega
      · split at h
        · simp only [Bool.and_eq_true, decide_eq_true_eq] at h
          omega
        · cases h

/-- The names that may stand there. -/
def NK (v : List Nd) (ar : Int) (a : List (List UInt8)) (met : List (Nat × List UInt8)) : Prop :=
  ((ar = -1 ∨ (v.getD ar.toNat (nd0 0)).kind = 6) ∧ ∀ x ∈ a, x = []) ∨
  (¬ (ar = -1 ∨ (v.getD ar.toNat (nd0 0)).kind = 6) ∧ (∀ x ∈ a, Lib.validD x = true) ∧ a.Nodup ∧ ∀ x ∈ a, (ar.toNat, x) ∉ met)

theorem nm_some {v : List Nd} {i : Nat} {ar : Int} {k : List UInt8} {a : List (List UInt8)} {met : List (Nat × List UInt8)} (h : NK v ar (k :: a) met) (hk : (v.getD i (nd0 0)).key = k) : ∃ met1, nmF v i ar met = some met1 ∧ (∀ e ∈ met1, e ∈ met ∨ (e = (ar.toNat, k) ∧ ar ≠ -1)) ∧ NK v ar a met1 := by
  unfold nmF
  rcases h with ⟨h1, h2⟩ | ⟨h1, h2, h3, h4⟩
  · rw [if_pos h1, hk, if_pos (h2 k (by simp))]
    exact ⟨met, rfl, fun e he => .inl he, .inl ⟨h1, fun x hx => h2 x (by simp [hx])⟩⟩
  · rw [if_neg h1, hk, if_pos ⟨h2 k (by simp), h4 k (by simp)⟩]
    refine ⟨_, rfl, fun e he => ?_, .inr ⟨h1, fun x hx => h2 x (by simp [hx]), (List.nodup_cons.1 h3).2, fun x hx hm => ?_⟩⟩
    · rcases List.mem_append.1 he with he | he
      · exact .inl he
      · exact .inr ⟨List.mem_singleton.1 he, fun e => h1 (.inl e)⟩
    · rcases List.mem_append.1 hm with hm | hm
      · exact h4 x (by simp [hx]) hm
      · have := List.mem_singleton.1 hm
        have hxk : x = k := congrArg Prod.snd this
        subst hxk
        exact (List.nodup_cons.1 h3).1 hx

theorem Sq.sv {d : Int} {a : List (List UInt8)} {l : List Nd} (h : Sq d a l) : ∀ (pre post v : List Nd) (f g : Nat) (ar : Int) (met : List (Nat × List UInt8)), v = pre ++ (l ++ post) → d + f = 33 → (a ≠ [] → d ≤ 32) → NK v ar a met → (∀ e ∈ met, e.1 < pre.length) → ar.toNat < pre.length ∨ ar = -1 → v.length ≤ g + pre.length →
    ∃ met', skF (fun j m => svF v f j ar d m) g (a.length : Int) pre.length met = some (pre.length + l.length, met') ∧ (∀ e ∈ met', e ∈ met ∨ (e.1 = ar.toNat ∧ e.2 ∈ a ∧ ar ≠ -1) ∨ pre.length ≤ e.1) ∧ (∀ e ∈ met', e.1 < pre.length + l.length) := by
  induction h with
  | nil =>
    intro pre post v f g ar met hv hd hd2 hnk hm har hg
    refine ⟨met, ?_, fun e he => .inl he, fun e he => by have := hm e he; simpa using this⟩
    cases g <;> (unfold skF; rw [if_neg (by simp)]; rfl)
  | cons hw h1 hn hk h3 ih1 ih2 =>
    rename_i d n ks ks' r1 r2
    intro pre post v f g ar met hv hd hd2 hnk hm har hg
    have hlen : v.length = pre.length + (1 + r1.length + r2.length + post.length) := by rw [hv]; simp; omega
    have hd3 : d ≤ 32 := hd2 (by simp)
    have hgn : v.getD pre.length (nd0 0) = n := by rw [hv]; simp
    obtain ⟨f, rfl⟩ : ∃ f', f = f' + 1 := ⟨f - 1, by omega⟩
    obtain ⟨g, rfl⟩ : ∃ g', g = g' + 1 := ⟨g - 1, by omega⟩
    have hwk := wm_kids2 hw
    obtain ⟨met1, hnm, hm1, hnk1⟩ := nm_some hnk (congrArg Nd.key hgn)
    have hnk2 : NK v (pre.length : Int) ks met1 := by
      unfold NK
      rw [Int.toNat_natCast, hgn]
      by_cases h6 : n.kind = 6
      · exact .inl ⟨.inr h6, hk.1 h6⟩
      · have hks : n.kind ≠ 7 → ks = [] := fun h7 => by
          have := hwk.2.1 (by omega)
          rw [hn] at this
          exact List.eq_nil_of_length_eq_zero (by omega)
        refine .inr ⟨fun h => ?_, ?_, ?_, fun x hx hmm => ?_⟩
        · rcases h with h | h
          · omega
          · exact h6 h
        · by_cases h7 : n.kind = 7
          · exact (hk.2 h7).1
          · rw [hks h7]; intro x hx; simp at hx
        · by_cases h7 : n.kind = 7
          · exact (hk.2 h7).2
          · rw [hks h7]; exact List.nodup_nil
        · rcases hm1 _ hmm with h | ⟨h, hne⟩
          · have := hm _ h
            simp at this
          · have := congrArg Prod.fst h
            simp only at this
            rcases har with har | har
            · omega
            · exact hne har
    have hm1b : ∀ e ∈ met1, e.1 < pre.length := fun e he => by
      rcases hm1 e he with h | ⟨h, hne⟩
      · exact hm e h
      · rw [h]
        rcases har with har | har
        · exact har
        · exact absurd har hne
    obtain ⟨met2, e2, hm2, hm2b⟩ := ih1 (pre ++ [n]) (r2 ++ post) v f (v.length + 1) (pre.length : Int) met1 (by rw [hv]; simp) (by omega) (fun hks => by
      have : 0 < n.kids := by
        rw [hn]
        have := List.length_pos_iff.2 hks
        omega
      have := hwk.2.2 this
      omega) hnk2 (fun e he => by have := hm1b e he; simp; omega) (.inl (by simp)) (by omega)
    have hpl : (pre ++ [n]).length = pre.length + 1 := by simp
    rw [hpl] at e2 hm2 hm2b
    have hsv : svF v (f + 1) pre.length ar d met = some (pre.length + 1 + r1.length, met2) := by
      unfold svF
      rw [if_pos ⟨by omega, by rw [hgn]; exact hw⟩, hnm]
      simp only
      rw [hgn, hn]
      exact e2
    have hpl2 : (pre ++ (n :: r1)).length = pre.length + 1 + r1.length := by simp; omega
    obtain ⟨met3, e3, hm3, hm3b⟩ := ih2 (pre ++ (n :: r1)) post v (f + 1) g ar met2 (by rw [hv]; simp) hd (fun _ => hd3) (by
      rcases hnk1 with h | ⟨h, ha, hb, hc⟩
      · exact .inl h
      · refine .inr ⟨h, ha, hb, fun x hx hmm => ?_⟩
        have har2 : ar.toNat < pre.length := by
          rcases har with har | har
          · exact har
          · exact absurd (.inl har) h
        rcases hm2 _ hmm with h5 | ⟨h5, _⟩ | h5
        · exact hc x hx h5
        · simp at h5; omega
        · simp at h5; omega) (fun e he => by rw [hpl2]; have := hm2b e he; omega) (by rw [hpl2]; omega) (by rw [hpl2]; omega)
    rw [hpl2] at e3 hm3 hm3b
    refine ⟨met3, ?_, ?_, ?_⟩
    · unfold skF
      simp only [List.length_cons]
      rw [if_pos (by omega), hsv]
      simp only
      rw [show ((ks'.length + 1 : Nat) : Int) - 1 = (ks'.length : Int) by omega, e3]
      simp only [List.length_append]
      rw [show pre.length + 1 + r1.length + r2.length = pre.length + (r1.length + r2.length + 1) by omega]
    · intro e he
      rcases hm3 e he with h | ⟨h, hx, hne⟩ | h
      · rcases hm2 e h with h | ⟨h, _⟩ | h
        · rcases hm1 e h with h | ⟨h, hne⟩
          · exact .inl h
          · exact .inr (.inl ⟨by rw [h], by rw [h]; simp, hne⟩)
        · exact .inr (.inr (by simp at h; omega))
        · exact .inr (.inr (by omega))
      · exact .inr (.inl ⟨h, by simp [hx], hne⟩)
      · exact .inr (.inr (by omega))
    · intro e he
      have := hm3b e he
      simp only [List.length_cons, List.length_append]
      omega

/-- A value by itself is well shaped. -/
theorem Sq.shaped {v : List Nd} (h : Sq 0 [[]] v) : shapedF v = true := by
  obtain ⟨met', e, _⟩ := h.sv [] [] v 33 (v.length + 1) (-1) [] (by simp) (by omega) (fun _ => by omega) (.inl ⟨.inl rfl, by simp⟩) (by simp) (.inr rfl) (by omega)
  unfold skF at e
  rw [if_pos (by simp)] at e
  split at e
  · cases e
  · rename_i j m2 e2
    have e3 : j = v.length := by
      have : skF (fun j m => svF v 33 j (-1) 0 m) v.length 0 j m2 = some (j, m2) := by cases v.length <;> (unfold skF; rw [if_neg (by omega)])
      simp only [List.length_cons, List.length_nil] at e
      rw [show (((0 + 1 : Nat) : Int) - 1) = 0 by omega, this] at e
      simp at e
      omega
    have e2' : svF v 33 0 (-1) 0 [] = some (j, m2) := e2
    unfold shapedF
    rw [e2', e3]
    simp

end Go.Proofs.YtkfchdmlemcjhaaDoor

namespace Go.Proofs.YtkfchdmlemcjhaaDoor
open Go.RowKit

/-- What is read between quotes is well formed; a number that is read is one. -/
def QV : Prop := ∀ (t : List UInt8) (n p : Nat) (l : List UInt8) (q : Nat), quoF t n p [] = .ok l q → Lib.validD l = true
def NC : Prop := ∀ (t : List UInt8) (p q : Nat) (u : Unit), numL t p = .ok u q → (Dec.pcut (sgl t p q)).isSome = true

def upK (xs : List Nat) (l : List Nd) : List Nd := if xs = [] then l else kidUp l (xs.getLastD 0)
theorem upK_length (xs : List Nat) (l : List Nd) : (upK xs l).length = l.length := by
  unfold upK
  split
  · rfl
  · exact kidUp_length _ _

/-- A name that the next kid may have. -/
def Pk (M : List (Nat × List UInt8)) (xs : List Nat) (l : List Nd) (ks : List (List UInt8)) (k : List UInt8) : Prop :=
  (xs = [] → k = [] ∧ ks = []) ∧ (xs ≠ [] → ((l.getD (xs.getLastD 0) (nd0 0)).kind = 6 → k = []) ∧ ((l.getD (xs.getLastD 0) (nd0 0)).kind = 7 → Lib.validD k = true ∧ k ∉ ks ∧ (xs.getLastD 0, k) ∈ M))

/-- What has been read so far: the open ones, the nodes, the names of the kids of the innermost. -/
inductive Zp (M : List (Nat × List UInt8)) : List Nat → List Nd → List (List UInt8) → Prop
  | none : Zp M [] [] []
  | done {l : List Nd} (h : Sq 0 [[]] l) : Zp M [] l [[]]
  | opn {xs : List Nat} {l : List Nd} {ks' : List (List UInt8)} {n : Nd} {ks : List (List UInt8)} {r : List Nd} (h : Zp M xs l ks') (hp : Pk M xs l ks' n.key) (hw : wmF n (xs.length : Int) = true) (hkd : n.kind = 6 ∨ n.kind = 7) (hr : Sq ((xs.length : Int) + 1) ks r) (hn : n.kids = (ks.length : Int)) (hk : KeysOK n.kind ks) (hm : n.kind = 7 → ∀ k ∈ ks, (l.length, k) ∈ M) : Zp M (xs ++ [l.length]) (upK xs l ++ n :: r) ks

theorem Pk.mono {M M' : List (Nat × List UInt8)} {xs : List Nat} {l : List Nd} {ks : List (List UInt8)} {k : List UInt8} (h : Pk M xs l ks k) (hs : ∀ e ∈ M, e ∈ M') : Pk M' xs l ks k :=
  ⟨h.1, fun hx => ⟨(h.2 hx).1, fun h7 => ⟨((h.2 hx).2 h7).1, ((h.2 hx).2 h7).2.1, hs _ ((h.2 hx).2 h7).2.2⟩⟩⟩
theorem Zp.mono {M M' : List (Nat × List UInt8)} {xs : List Nat} {l : List Nd} {ks : List (List UInt8)} (h : Zp M xs l ks) (hs : ∀ e ∈ M, e ∈ M') : Zp M' xs l ks := by
  induction h with
  | none => exact .none
  | done h => exact .done h
  | opn h hp hw hkd hr hn hk hm ih => exact .opn ih (hp.mono hs) hw hkd hr hn hk (fun h7 k hx => hs _ (hm h7 k hx))

theorem kidUp_mid (A : List Nd) (n : Nd) (r : List Nd) : kidUp (A ++ n :: r) A.length = A ++ { n with kids := n.kids + 1 } :: r := by
  induction A with
  | nil => rfl
  | cons a A ih =>
    show (a :: (A ++ n :: r)).modify (A.length + 1) _ = _
    rw [List.modify_succ_cons]
    exact congrArg (a :: ·) ih
theorem kidUp_left (l : List Nd) (n : Nd) : ∀ i, i < l.length → kidUp (l ++ [n]) i = kidUp l i ++ [n] := by
  induction l with
  | nil => intro i hi; simp at hi
  | cons a A ih =>
    intro i hi
    cases i with
    | zero => rfl
    | succ i =>
      show (a :: (A ++ [n])).modify (i + 1) _ = (a :: A).modify (i + 1) _ ++ [n]
      rw [List.modify_succ_cons, List.modify_succ_cons]
      exact congrArg (a :: ·) (ih i (by simpa using hi))
theorem upK_snoc (xs : List Nat) (i : Nat) (l : List Nd) : upK (xs ++ [i]) l = kidUp l i := by
  unfold upK
  rw [if_neg (by simp), last_snoc]
theorem getD_mid (A : List Nd) (n : Nd) (r : List Nd) : (A ++ n :: r).getD A.length (nd0 0) = n := by simp

theorem wm_up {n : Nd} {d : Int} (hk : n.kind = 6 ∨ n.kind = 7) (h : wmF n d = true) : wmF { n with kids := n.kids + 1 } d = true := by
  unfold wmF at h ⊢
  simp only
  rw [if_neg (by omega), if_neg (by omega), if_neg (by omega), if_pos hk] at h ⊢
  simp only [Bool.and_eq_true, decide_eq_true_eq] at h ⊢
  refine ⟨⟨by omega, h.1.2⟩, ?_⟩
  have := h.2
  rw [this]
  rfl

/-- A whole value is read. -/
theorem Zp.add {M : List (Nat × List UInt8)} {xs : List Nat} {l c : List Nd} {ks : List (List UInt8)} {k : List UInt8} (h : Zp M xs l ks) (hp : Pk M xs l ks k) (hc : Sq (xs.length : Int) [k] c) : Zp M xs (upK xs l ++ c) (ks ++ [k]) := by
  cases h with
  | none =>
    have := (hp.1 rfl).1
    subst this
    exact .done (by simpa [upK] using hc)
  | done h =>
    have := (hp.1 rfl).2
    cases this
  | opn h hp0 hw hkd hr hn hk hm =>
    rename_i ys l0 ks0 n r
    have hA : (upK ys l0).length = l0.length := upK_length _ _
    have hP := hp.2 (by simp)
    rw [last_snoc, ← hA, getD_mid] at hP
    have e1 : upK (ys ++ [l0.length]) (upK ys l0 ++ n :: r) ++ c = upK ys l0 ++ { n with kids := n.kids + 1 } :: (r ++ c) := by
      rw [upK_snoc, ← hA, kidUp_mid]
      simp
    rw [e1]
    have hl : ((ys ++ [l0.length]).length : Int) = (ys.length : Int) + 1 := by simp
    rw [hl] at hc
    refine .opn (n := { n with kids := n.kids + 1 }) h hp0 (wm_up hkd hw) hkd (hr.append hc) ?_ ?_ ?_
    · show n.kids + 1 = _
      rw [hn]; simp
    · refine ⟨fun h6 x hx => ?_, fun h7 => ⟨fun x hx => ?_, ?_⟩⟩
      · rcases List.mem_append.1 hx with hx | hx
        · exact hk.1 h6 x hx
        · rw [List.mem_singleton.1 hx]; exact hP.1 h6
      · rcases List.mem_append.1 hx with hx | hx
        · exact (hk.2 h7).1 x hx
        · rw [List.mem_singleton.1 hx]; exact (hP.2 h7).1
      · rw [List.nodup_append]
        refine ⟨(hk.2 h7).2, by simp, fun a ha b hb => ?_⟩
        rw [List.mem_singleton.1 hb]
        intro e
        exact (hP.2 h7).2.1 (e ▸ ha)
    · intro h7 x hx
      rcases List.mem_append.1 hx with hx | hx
      · exact hm h7 x hx
      · rw [List.mem_singleton.1 hx, ← hA]; exact (hP.2 h7).2.2

/-- What holds of every state of the reader. -/
structure IV (s : JS) (ks : List (List UInt8)) : Prop where
  zp : Zp s.met s.opn s.nodes ks
  pk : s.aw = 0 ∨ s.aw = 1 ∨ s.aw = 4 → Pk s.met s.opn s.nodes ks s.key
  ne : s.aw = 0 ∨ s.aw = 2 ∨ s.aw = 3 ∨ s.aw = 5 ∨ s.aw = 6 → s.opn ≠ []
  k7 : s.aw = 2 ∨ s.aw = 3 ∨ s.aw = 6 → (s.nodes.getD (s.opn.getLastD 0) (nd0 0)).kind = 7
  k6 : s.aw = 0 ∨ s.aw = 5 → (s.nodes.getD (s.opn.getLastD 0) (nd0 0)).kind = 6
  em : s.aw ≠ 1 → s.aw ≠ 4 → s.key = []
  en : s.aw = 7 → s.opn = [] ∧ ks = [[]]

theorem IV.at {s : JS} {ks : List (List UInt8)} (h : IV s ks) (p : Nat) : IV { s with pos := p } ks := ⟨h.zp, h.pk, h.ne, h.k7, h.k6, h.em, h.en⟩

theorem endF_met (s : JS) : (endF s).met = s.met := by
  unfold endF
  split
  · rfl
  · split <;> rfl
theorem endF_key (s : JS) : (endF s).key = s.key := by
  unfold endF
  split
  · rfl
  · split <;> rfl

end Go.Proofs.YtkfchdmlemcjhaaDoor

namespace Go.Proofs.YtkfchdmlemcjhaaDoor
open Go.RowKit

end Go.Proofs.YtkfchdmlemcjhaaDoor
