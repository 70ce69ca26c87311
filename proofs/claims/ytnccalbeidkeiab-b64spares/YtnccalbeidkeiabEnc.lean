import Derived.Test.YtnccalbeidkeiabSpell
namespace Go.Proofs.Ytnccalbeidkeiab
open Go.RowKit

/-- The rows of signs. -/
def urlRow : ByteArray := ⟨#[65, 66, 67, 68, 69, 70, 71, 72, 73, 74, 75, 76, 77, 78, 79, 80, 81, 82, 83, 84, 85, 86, 87, 88, 89, 90, 97, 98, 99, 100, 101, 102, 103, 104, 105, 106, 107, 108, 109, 110, 111, 112, 113, 114, 115, 116, 117, 118, 119, 120, 121, 122, 48, 49, 50, 51, 52, 53, 54, 55, 56, 57, 45, 95]⟩
def stdRow : ByteArray := ⟨#[65, 66, 67, 68, 69, 70, 71, 72, 73, 74, 75, 76, 77, 78, 79, 80, 81, 82, 83, 84, 85, 86, 87, 88, 89, 90, 97, 98, 99, 100, 101, 102, 103, 104, 105, 106, 107, 108, 109, 110, 111, 112, 113, 114, 115, 116, 117, 118, 119, 120, 121, 122, 48, 49, 50, 51, 52, 53, 54, 55, 56, 57, 43, 47]⟩

theorem enc_length (row : ByteArray) : ∀ l : List UInt8, (enc row l).length = (4 * l.length + 2) / 3
  | [] => rfl
  | [x] => by simp [enc, sg_length]
  | [x, y] => by simp [enc, sg_length]
  | x :: y :: z :: r => by
    rw [enc_cons3, List.length_append, sg_length, enc_length row r]
    simp only [List.length_cons]
    omega

/-- The filling behind the signs of n bytes. -/
def fill (n : Nat) : List UInt8 := List.replicate ((3 - n % 3) % 3) 61

theorem conv_own (w : World) (g cap base : Nat) (l : List UInt8) (h : w.ownsRow base 5 1 (.slice (some ⟨g, 0, none⟩) l.length cap) l.length (l.map B)) :
    (convert 23 9 (.slice (some ⟨g, 0, none⟩) l.length cap)).run Try.prog w = .ok (.string ⟨l.toArray⟩) w := by
  refine run_convert_bytes_back w 23 9 5 ⟨g, 0, none⟩ cap l Try.underlying23 Try.underlying5 Try.underlying9 fun j hj => ?_
  have := h.cells (g := g) rfl j (B l[j]) (by simp [hj])
  exact this

set_option maxHeartbeats 400000 in
theorem encode_any (ao : Option Addr) (c : Nat) (l : List UInt8) (w : World) (hrd : Rd w ao l) (hlc : l.length ≤ c) (hlen : l.length ≤ 140737488355328) :
    Calls Try.prog 9 #[.slice ao l.length c] w fun e w' => e = .returned (.string ⟨(enc urlRow l).toArray⟩) ∧ Below w.heap.size w w' := by
  go_enter Try.func9, Try.ntmps9
  go_wp2_with fail
  refine (spell_any ao c l _ w hrd hlc hlen (by rfl)).mono ?_
  rintro e w1 ⟨rfl, hown1, hbl1⟩
  have hcv := conv_own w1 _ _ _ _ hown1
  clear hown1
  go_wp2
  go_ret
  exact ⟨rfl, hbl1⟩

theorem conv_one (w : World) (g cap base : Nat) (E : List UInt8) (h : w.ownsRow base 5 1 (.slice (some ⟨g, 0, none⟩) (E.length + 1) cap) (E.length + 1) (List.map B E ++ [Value.int .u8 61])) :
    (convert 23 9 (.slice (some ⟨g, 0, none⟩) (E.length + 1) cap)).run Try.prog w = .ok (.string ⟨(E ++ [61]).toArray⟩) w := by
  have e2 : E.length + 1 = (E ++ [61]).length := by simp
  have e3 : List.map B E ++ [Value.int .u8 61] = (E ++ [61]).map B := by simp [B]
  rw [e3, e2] at h
  rw [e2]
  exact conv_own w g cap base _ h

theorem conv_two (w : World) (g cap base : Nat) (E : List UInt8) (h : w.ownsRow base 5 1 (.slice (some ⟨g, 0, none⟩) (E.length + 1 + 1) cap) (E.length + 1 + 1) (List.map B E ++ [Value.int .u8 61] ++ [Value.int .u8 61])) :
    (convert 23 9 (.slice (some ⟨g, 0, none⟩) (E.length + 1 + 1) cap)).run Try.prog w = .ok (.string ⟨(E ++ [61, 61]).toArray⟩) w := by
  have e2 : E.length + 1 + 1 = (E ++ [61, 61]).length := by simp
  have e3 : List.map B E ++ [Value.int .u8 61] ++ [Value.int .u8 61] = (E ++ [61, 61]).map B := by simp [B]
  rw [e3, e2] at h
  rw [e2]
  exact conv_own w g cap base _ h

theorem fill_length (row : ByteArray) (l : List UInt8) : (enc row l).length + (fill l.length).length = (l.length + 2) / 3 * 4 := by
  have h : l.length % 3 = 0 ∨ l.length % 3 = 1 ∨ l.length % 3 = 2 := by omega
  rw [enc_length]
  rcases h with h | h | h <;> simp [fill, h] <;> omega

set_option maxHeartbeats 1000000 in
theorem encodeStd_any (ao : Option Addr) (c : Nat) (l : List UInt8) (w : World) (hrd : Rd w ao l) (hlc : l.length ≤ c) (hlen : l.length ≤ 140737488355328) :
    Calls Try.prog 10 #[.slice ao l.length c] w fun e w' => e = .returned (.string ⟨(enc stdRow l ++ fill l.length).toArray⟩) ∧ Below w.heap.size w w' := by
  obtain ⟨i0, hi, hz0, hz1, hz2⟩ := info_parts Try.infoB
  have hfl := fill_length stdRow l
  go_enter Try.func10, Try.ntmps10
  go_wp2_with fail
  refine (spell_any ao c l stdRow w hrd hlc hlen (by rfl)).mono ?_
  rintro e w1 ⟨rfl, hown1, hbl1⟩
  generalize hE : enc stdRow l = E at hown1 hfl
  have HE : Hid (enc stdRow l = E) := hE
  clear hE
  have hr : l.length % 3 = 0 ∨ l.length % 3 = 1 ∨ l.length % 3 = 2 := by omega
  rcases hr with hr | hr | hr
  · have hf : fill l.length = [] := by simp [fill, hr]
    have Hf : Hid (fill l.length = []) := hf
    have hr' : (l.length : Int) % 3 = 0 := by omega
    have hcv := conv_own w1 _ _ _ _ hown1
    clear hown1 hfl hf hr
    go_wp2
    go_ret
    rw [HE.out, Hf.out, List.append_nil]
    exact ⟨rfl, hbl1⟩
  · have hf : fill l.length = [61, 61] := by simp [fill, hr]
    have Hf : Hid (fill l.length = [61, 61]) := hf
    rw [hf] at hfl
    simp only [List.length_cons, List.length_nil] at hfl
    have hr' : (l.length : Int) % 3 = 1 := by omega
    have hfi : E.length + 2 ≤ (l.length + 2) / 3 * 4 := by omega
    clear hf hr hfl
    go_wp2_with (first
      | (at_builtin; refine wpList_append_fits _ rfl (.tmp 13) (.tmp 14) 23 rfl w.heap.size 5 i0 1 Try.underlying23 hi hz1 w.heap.size E.length _ _ rfl (hown1.alloc _) ⟨w1.heap.size, 0, none⟩ 1 1 [.int .u8 61] rfl rfl (by intro t u ht; match t, ht with | 0, ht => simp at ht; subst ht; simp [Addr.add]) (by intro u hu; simp at hu; subst hu; rfl) (by omega) ?_; intro w2 hown2 hgrow2)
      | (at_builtin; refine wpList_append_fits _ rfl (.tmp 16) (.tmp 17) 23 rfl w.heap.size 5 i0 1 Try.underlying23 hi hz1 w.heap.size (E.length + 1) _ _ rfl (hown2.alloc _) ⟨w2.heap.size, 0, none⟩ 1 1 [.int .u8 61] rfl rfl (by intro t u ht; match t, ht with | 0, ht => simp at ht; subst ht; simp [Addr.add]) (by intro u hu; simp at hu; subst hu; rfl) (by omega) ?_; intro w3 hown3 hgrow3; have hcv := conv_two w3 _ _ _ E hown3; clear hown3))
    go_ret
    rw [HE.out, Hf.out]
    exact ⟨rfl, ((hbl1.alloc hbl1.size _).grown hgrow2 (by have := hbl1.size; simp; omega) (fun k hk => by cases hk; exact Nat.le_refl _)).trans
      (((Below.refl _ _).alloc (by have := hgrow2.size; have := hbl1.size; simp at *; omega) _).grown hgrow3 (by have := hgrow2.size; have := hbl1.size; simp at *; omega) (fun k hk => by cases hk; exact Nat.le_refl _))⟩
  · have hf : fill l.length = [61] := by simp [fill, hr]
    have Hf : Hid (fill l.length = [61]) := hf
    rw [hf] at hfl
    simp only [List.length_cons, List.length_nil] at hfl
    have hr' : (l.length : Int) % 3 = 2 := by omega
    have hfi : E.length + 1 ≤ (l.length + 2) / 3 * 4 := by omega
    clear hf hr hfl
    go_wp2_with (at_builtin; refine wpList_append_fits _ rfl (.tmp 16) (.tmp 17) 23 rfl w.heap.size 5 i0 1 Try.underlying23 hi hz1 w.heap.size E.length _ _ rfl (hown1.alloc _) ⟨w1.heap.size, 0, none⟩ 1 1 [.int .u8 61] rfl rfl (by intro t u ht; match t, ht with | 0, ht => simp at ht; subst ht; simp [Addr.add]) (by intro u hu; simp at hu; subst hu; rfl) (by omega) ?_; intro w3 hown3 hgrow3; have hcv := conv_one w3 _ _ _ E hown3; clear hown3)
    go_ret
    rw [HE.out, Hf.out]
    exact ⟨rfl, (hbl1.alloc hbl1.size _).grown hgrow3 (by have := hbl1.size; simp; omega) (fun k hk => by cases hk; exact Nat.le_refl _)⟩

end Go.Proofs.Ytnccalbeidkeiab
