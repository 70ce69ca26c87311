import Derived.Test.YtpfdaclmchcbiaaGreatDoorB6Read
namespace Go.Proofs.YtpfdaclmchcbiaaGreatDoor.B64
open Go.RowKit
set_option maxRecDepth 100000

/-- What Decode answers: the bytes, the error, its place. -/
def decU (l : List UInt8) : Option (List UInt8) × Int × Int :=
  if firstNo urlRow l < l.length then (none, 20, firstNo urlRow l)
  else if l.length % 4 = 1 then (none, 21, l.length)
  else match dec urlRow l with
    | some bs => (some bs, 0, 0)
    | none => (none, 22, (l.length : Int) - 1)

/-- What DecodeStd answers at a text of n bytes whose signs are m. -/
def decM (n : Nat) (m : List UInt8) : Option (List UInt8) × Int × Int :=
  if firstNo stdRow m < m.length then (none, 20, firstNo stdRow m)
  else if n % 4 ≠ 0 then (none, 21, n)
  else match dec stdRow m with
    | some bs => (some bs, 0, 0)
    | none => (none, 22, (m.length : Int) - 1)

/-- What DecodeStd answers. -/
def decS (l : List UInt8) : Option (List UInt8) × Int × Int := decM l.length (cut1 (cut1 l))

/-- An answer of bytes: nil, or a row of its own from B0 on. -/
def Ans (w : World) (B0 : Nat) (v : Value) (o : Option (List UInt8)) : Prop :=
  match o with
  | none => v = .slice none 0 0
  | some bs => ∃ g cap, B0 ≤ g ∧ v = .slice (some ⟨g, 0, none⟩) bs.length cap ∧ w.ownsRow B0 5 1 v bs.length (bs.map B)

theorem all_of_first (row : ByteArray) (l : List UInt8) (h : ¬ firstNo row l < l.length) : ∀ c ∈ l, 0 ≤ ix row c := by
  intro c hc
  have e : firstNo row l = l.length := Nat.le_antisymm (firstNo_le row l) (by omega)
  have := (List.findIdx_eq_length).1 e c hc
  simpa using this

set_option maxHeartbeats 400000 in
theorem decode_any (l : List UInt8) (w : World) (hlen : l.length ≤ 281474976710656) :
    Calls Tryz.prog 18 #[.string ⟨l.toArray⟩] w fun e w' =>
      ∃ v, e = .returned (.tuple #[v, .int .i64 (decU l).2.1, .int .i64 (decU l).2.2]) ∧ Ans w' w.heap.size v (decU l).1 ∧ Below w.heap.size w w' := by
  by_cases h1 : firstNo urlRow l < l.length
  · have He : Hid (decU l = (none, 20, (firstNo urlRow l : Int))) := if_pos h1
    go_enter Tryz.func18, Tryz.ntmps18
    go_wp2_with fail
    refine (first_any urlRow l w hlen).mono ?_
    rintro e w' ⟨rfl, rfl⟩
    generalize firstNo urlRow l = n at h1 He
    go_wp2
    go_ret3
    rw [He.out]
    exact ⟨_, rfl, rfl, Below.refl _ _⟩
  · have hall := all_of_first urlRow l h1
    have hle := firstNo_le urlRow l
    by_cases h2 : l.length % 4 = 1
    · have He : Hid (decU l = (none, 21, (l.length : Int))) := (if_neg h1).trans (if_pos h2)
      have h2' : (l.length : Int) % 4 = 1 := by omega
      clear hall
      go_enter Tryz.func18, Tryz.ntmps18
      go_wp2_with fail
      refine (first_any urlRow l w hlen).mono ?_
      rintro e w' ⟨rfl, rfl⟩
      generalize firstNo urlRow l = n at h1 hle
      clear h2
      go_wp2
      go_ret3
      rw [He.out]
      exact ⟨_, rfl, rfl, Below.refl _ _⟩
    · have h2' : ¬ (l.length : Int) % 4 = 1 := by omega
      have C : Hid (Calls Tryz.prog 34 #[.string ⟨l.toArray⟩, .string urlRow] w _) := read_any urlRow l w hlen rfl hall h2
      have He : Hid (decU l = match dec urlRow l with | some bs => (some bs, 0, 0) | none => (none, 22, (l.length : Int) - 1)) := (if_neg h1).trans (if_neg h2)
      clear hall
      go_enter Tryz.func18, Tryz.ntmps18
      go_wp2_with fail
      refine (first_any urlRow l w hlen).mono ?_
      rintro e w' ⟨rfl, rfl⟩
      generalize firstNo urlRow l = n at h1 hle
      clear h2
      go_wp2_with fail
      refine C.out.mono ?_
      rintro e w1 ⟨⟨bs, hd, rfl, hown⟩ | ⟨hd, rfl⟩, hbl⟩
      · have Hd : Hid (dec urlRow l = some bs) := hd
        clear hd
        go_wp2
        go_ret3
        rw [He.out, Hd.out]
        exact ⟨_, rfl, ⟨_, _, Nat.le_refl _, rfl, hown⟩, hbl⟩
      · have Hd : Hid (dec urlRow l = none) := hd
        clear hd
        go_wp2
        go_ret3
        rw [He.out, Hd.out]
        exact ⟨_, rfl, rfl, hbl⟩

end Go.Proofs.YtpfdaclmchcbiaaGreatDoor.B64