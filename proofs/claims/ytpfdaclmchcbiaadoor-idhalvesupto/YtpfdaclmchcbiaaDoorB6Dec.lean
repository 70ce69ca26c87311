import Derived.Test.YtpfdaclmchcbiaaDoorB6Read
namespace Go.Proofs.YtpfdaclmchcbiaaDoor.B64
open Go.RowKit
set_option maxRecDepth 100000

/-- What Decode answers: the bytes, the error, its place. -/
def decU (l : List UInt8) : Option (List UInt8) × Int × Int :=
  if firstNo urlRow l < l.length then (none, 20, firstNo urlRow l)
  else if l.length % 4 = 1 then (none, 21, l.length)
  else match dec urlRow l with
    | some bs => (some bs, 0, 0)
    | none => (none, 22, (l.length : Int) - 1)

/-- What DecodeStd answers at a text of n bytes whose signs are m. -/
def decM (n : Nat) (m : List UInt8) : Option (List UInt8) × Int × Int :=
  if firstNo stdRow m < m.length then (none, 20, firstNo stdRow m)
  else if n % 4 ≠ 0 then (none, 21, n)
  else match dec stdRow m with
    | some bs => (some bs, 0, 0)
    | none => (none, 22, (m.length : Int) - 1)

/-- What DecodeStd answers. -/
def decS (l : List UInt8) : Option (List UInt8) × Int × Int := decM l.length (cut1 (cut1 l))

/-- An answer of bytes: nil, or a row of its own from B0 on. -/
def Ans (w : World) (B0 : Nat) (v : Value) (o : Option (List UInt8)) : Prop :=
  match o with
  | none => v = .slice none 0 0
  | some bs => ∃ g cap, B0 ≤ g ∧ v = .slice (some ⟨g, 0, none⟩) bs.length cap ∧ w.ownsRow B0 5 1 v bs.length (bs.map B)

theorem all_of_first (row : ByteArray) (l : List UInt8) (h : ¬ firstNo row l < l.length) : ∀ c ∈ l, 0 ≤ ix row c := by
  intro c hc
  have e : firstNo row l = l.length := Nat.le_antisymm (firstNo_le row l) (by omega)
  have := (List.findIdx_eq_length).1 e c hc
  simpa using this

theorem cut1_ge (l : List UInt8) : l.length ≤ (cut1 l).length + 1 := by
  unfold cut1; split <;> simp <;> omega

end Go.Proofs.YtpfdaclmchcbiaaDoor.B64