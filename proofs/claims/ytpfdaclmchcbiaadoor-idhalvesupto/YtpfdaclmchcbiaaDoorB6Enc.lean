import Derived.Test.YtpfdaclmchcbiaaDoorB6Spell
namespace Go.Proofs.YtpfdaclmchcbiaaDoor.B64
open Go.RowKit
set_option maxRecDepth 100000

/-- The rows of signs. -/
def urlRow : ByteArray := ⟨#[65, 66, 67, 68, 69, 70, 71, 72, 73, 74, 75, 76, 77, 78, 79, 80, 81, 82, 83, 84, 85, 86, 87, 88, 89, 90, 97, 98, 99, 100, 101, 102, 103, 104, 105, 106, 107, 108, 109, 110, 111, 112, 113, 114, 115, 116, 117, 118, 119, 120, 121, 122, 48, 49, 50, 51, 52, 53, 54, 55, 56, 57, 45, 95]⟩
def stdRow : ByteArray := ⟨#[65, 66, 67, 68, 69, 70, 71, 72, 73, 74, 75, 76, 77, 78, 79, 80, 81, 82, 83, 84, 85, 86, 87, 88, 89, 90, 97, 98, 99, 100, 101, 102, 103, 104, 105, 106, 107, 108, 109, 110, 111, 112, 113, 114, 115, 116, 117, 118, 119, 120, 121, 122, 48, 49, 50, 51, 52, 53, 54, 55, 56, 57, 43, 47]⟩

theorem enc_length (row : ByteArray) : ∀ l : List UInt8, (enc row l).length = (4 * l.length + 2) / 3
  | [] => rfl
  | [x] => by simp [enc, sg_length]
  | [x, y] => by simp [enc, sg_length]
  | x :: y :: z :: r => by
    rw [enc_cons3, List.length_append, sg_length, enc_length row r]
    simp only [List.length_cons]
    omega

/-- The filling behind the signs of n bytes. -/
def fill (n : Nat) : List UInt8 := List.replicate ((3 - n % 3) % 3) 61

theorem conv_own (w : World) (g cap base : Nat) (l : List UInt8) (h : w.ownsRow base 5 1 (.slice (some ⟨g, 0, none⟩) l.length cap) l.length (l.map B)) :
    (convert 29 9 (.slice (some ⟨g, 0, none⟩) l.length cap)).run Tryd.prog w = .ok (.string ⟨l.toArray⟩) w := by
  refine run_convert_bytes_back w 29 9 5 ⟨g, 0, none⟩ cap l Tryd.underlying29 Tryd.underlying5 Tryd.underlying9 fun j hj => ?_
  have := h.cells (g := g) rfl j (B l[j]) (by simp [hj])
  exact this

set_option maxHeartbeats 400000 in
theorem encode_any (ao : Option Addr) (c : Nat) (l : List UInt8) (w : World) (hrd : Rd w ao l) (hlc : l.length ≤ c) (hlen : l.length ≤ 140737488355328) :
    Calls Tryd.prog 8 #[.slice ao l.length c] w fun e w' => e = .returned (.string ⟨(enc urlRow l).toArray⟩) ∧ Below w.heap.size w w' := by
  go_enter Tryd.func8, Tryd.ntmps8
  go_wp2_with fail
  refine (spell_any ao c l _ w hrd hlc hlen (by rfl)).mono ?_
  rintro e w1 ⟨rfl, hown1, hbl1⟩
  have hcv := conv_own w1 _ _ _ _ hown1
  clear hown1
  go_wp2
  go_ret
  exact ⟨rfl, hbl1⟩

theorem conv_one (w : World) (g cap base : Nat) (E : List UInt8) (h : w.ownsRow base 5 1 (.slice (some ⟨g, 0, none⟩) (E.length + 1) cap) (E.length + 1) (List.map B E ++ [Value.int .u8 61])) :
    (convert 29 9 (.slice (some ⟨g, 0, none⟩) (E.length + 1) cap)).run Tryd.prog w = .ok (.string ⟨(E ++ [61]).toArray⟩) w := by
  have e2 : E.length + 1 = (E ++ [61]).length := by simp
  have e3 : List.map B E ++ [Value.int .u8 61] = (E ++ [61]).map B := by simp [B]
  rw [e3, e2] at h
  rw [e2]
  exact conv_own w g cap base _ h

theorem conv_two (w : World) (g cap base : Nat) (E : List UInt8) (h : w.ownsRow base 5 1 (.slice (some ⟨g, 0, none⟩) (E.length + 1 + 1) cap) (E.length + 1 + 1) (List.map B E ++ [Value.int .u8 61] ++ [Value.int .u8 61])) :
    (convert 29 9 (.slice (some ⟨g, 0, none⟩) (E.length + 1 + 1) cap)).run Tryd.prog w = .ok (.string ⟨(E ++ [61, 61]).toArray⟩) w := by
  have e2 : E.length + 1 + 1 = (E ++ [61, 61]).length := by simp
  have e3 : List.map B E ++ [Value.int .u8 61] ++ [Value.int .u8 61] = (E ++ [61, 61]).map B := by simp [B]
  rw [e3, e2] at h
  rw [e2]
  exact conv_own w g cap base _ h

theorem fill_length (row : ByteArray) (l : List UInt8) : (enc row l).length + (fill l.length).length = (l.length + 2) / 3 * 4 := by
  have h : l.length % 3 = 0 ∨ l.length % 3 = 1 ∨ l.length % 3 = 2 := by omega
  rw [enc_length]
  rcases h with h | h | h <;> simp [fill, h] <;> omega

end Go.Proofs.YtpfdaclmchcbiaaDoor.B64