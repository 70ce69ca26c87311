import Derived.Test.YtccfcplhifbjlaaGreatDoorLt
import Derived.Test.YtccfcplhifbjlaaGreatDoorShZb
import Derived.Lib.ConvBytes
namespace Go.Proofs.YtccfcplhifbjlaaGreatDoor
open Go.RowKit
set_option maxRecDepth 100000

/-- An algorithm's family and hash: that of HMAC. -/
theorem family_hs (a : Int) (w : World) (h : a = 1 ∨ a = 2 ∨ a = 3) : Calls Tryz.prog 34 #[.int .i64 a] w fun e w' => e = .returned (.tuple #[.int .i64 1, .int .i64 a]) ∧ w' = w := by
  rcases h with rfl | rfl | rfl <;>
  · go_enter Tryz.func34, Tryz.ntmps34
    go_wp2
    go_ret2
    exact ⟨rfl, rfl⟩

/-- Any other algorithm's family is another. -/
theorem family_no (a : Int) (w : World) (h1 : a ≠ 1) (h2 : a ≠ 2) (h3 : a ≠ 3) : Calls Tryz.prog 34 #[.int .i64 a] w fun e w' => (∃ f g : Int, f ≠ 1 ∧ e = .returned (.tuple #[.int .i64 f, .int .i64 g])) ∧ w' = w := by
  have d1 : (a == 1) = false := beq_eq_false_iff_ne.2 h1
  have d2 : (a == 2) = false := beq_eq_false_iff_ne.2 h2
  have d3 : (a == 3) = false := beq_eq_false_iff_ne.2 h3
  by_cases h4 : a = 4 ∨ a = 5 ∨ a = 6 ∨ a = 7 ∨ a = 8 ∨ a = 9 ∨ a = 10 ∨ a = 11 ∨ a = 12
  · clear d1 d2 d3 h1 h2 h3
    rcases h4 with rfl | rfl | rfl | rfl | rfl | rfl | rfl | rfl | rfl <;>
    · go_enter Tryz.func34, Tryz.ntmps34
      go_wp2
      go_ret2
      exact ⟨⟨_, _, by decide, rfl⟩, rfl⟩
  · have d4 : (a == 4) = false := beq_eq_false_iff_ne.2 (by omega)
    have d5 : (a == 5) = false := beq_eq_false_iff_ne.2 (by omega)
    have d6 : (a == 6) = false := beq_eq_false_iff_ne.2 (by omega)
    have d7 : (a == 7) = false := beq_eq_false_iff_ne.2 (by omega)
    have d8 : (a == 8) = false := beq_eq_false_iff_ne.2 (by omega)
    have d9 : (a == 9) = false := beq_eq_false_iff_ne.2 (by omega)
    have da : (a == 10) = false := beq_eq_false_iff_ne.2 (by omega)
    have db : (a == 11) = false := beq_eq_false_iff_ne.2 (by omega)
    have dc : (a == 12) = false := beq_eq_false_iff_ne.2 (by omega)
    clear h1 h2 h3 h4
    go_enter Tryz.func34, Tryz.ntmps34
    go_wp2
    go_ret2
    exact ⟨⟨0, 0, by decide, rfl⟩, rfl⟩

/-- What Tag answers. -/
def tgF (a : Int) (key data : List UInt8) : List UInt8 × Nat :=
  if a = 1 ∨ a = 2 ∨ a = 3 then (if key.length < Sha.siz a ∨ 4096 < key.length then ([], 90) else (Sha.tagF a key data, 0)) else ([], 111)

theorem bytesWorld_bel (w : World) (e : TypeId) (s : ByteArray) : Below w.heap.size w (Lib.bytesWorld w e s) :=
  ⟨rfl, rfl, rfl, by rw [Lib.bytesWorld_size]; omega, fun k hk => Lib.bytesWorld_at_old w e s k hk⟩

/-- A text as bytes. -/
theorem conv_bytes (l : List UInt8) (w : World) (hl : l.length ≤ 1000000000) : ∃ c W1, (convert 9 30 (.string ⟨l.toArray⟩)).run Tryz.prog w = .ok (.slice (some ⟨w.heap.size, 0, none⟩) l.length c) W1 ∧ Rd W1 (some ⟨w.heap.size, 0, none⟩) l ∧ l.length ≤ c ∧ c ≤ 9223372036854775807 ∧ Below w.heap.size w W1 := by
  have h1 := Lib.run_convert_string_bytes (P := Tryz.prog) w 9 30 5 ⟨l.toArray⟩ (u := .string) Tryz.underlying9 Tryz.underlying30 Tryz.underlying5
  have hs : (⟨l.toArray⟩ : ByteArray).size = l.length := by show l.toArray.size = _; simp
  rw [hs] at h1
  refine ⟨_, _, h1, .inr ⟨w.heap.size, 0, rfl, by rw [Lib.bytesWorld_size]; omega, fun j hj => ?_⟩, grownCap_ge _ _ _ _, Nat.le_trans (grownCap_le_maxLen _ _ _ _ (by unfold maxLen; omega)) (by unfold maxLen; omega), bytesWorld_bel _ _ _⟩
  rw [Nat.zero_add, Lib.bytesWorld_cell _ _ _ j (by rw [hs]; exact hj)]
  rfl

theorem sha_rd {w : World} {ao : Option Addr} {l : List UInt8} (h : Rd w ao l) : Sha.Rd w ao l := h

theorem sha_own {w : World} {B0 n : Nat} {a : Option Addr} {l : List UInt8} (h : Sha.Own w B0 a l) (hn : l.length = n) (h2 : n ≤ 64) : Owb w B0 (.slice a n n) l := by
  subst hn
  rcases h with ⟨rfl, rfl⟩ | ⟨g, rfl, hg, hb⟩
  · exact Owb.nil _ _
  · exact Bl.owb (show Bl 5 w g (l.map B) from hb) hg (by omega)

set_option maxHeartbeats 1000000 in
theorem tag_any (a : Int) (ak : Option Addr) (ck : Nat) (key data : List UInt8) (w : World) (T : Sha.Tb w) (hk : Rd w ak key) (hck : key.length ≤ ck) (hck2 : ck ≤ 9223372036854775807) (hd : data.length ≤ 1000000000) :
    Calls Tryz.prog 24 #[.int .i64 a, .slice ak key.length ck, .string ⟨data.toArray⟩] w fun e w' => ∃ v, e = .returned (.tuple #[v, .int .i64 ((tgF a key data).2 : Nat)]) ∧ Owb w' w.heap.size v (tgF a key data).1 ∧ Below w.heap.size w w' := by
  by_cases h1 : a = 1 ∨ a = 2 ∨ a = 3
  · have C1 := family_hs a w h1
    have C2 := Sha.size_any a w
    by_cases h2 : key.length < Sha.siz a ∨ 4096 < key.length
    · have HF : tgF a key data = ([], 90) := (if_pos h1).trans (if_pos h2)
      rw [HF]
      clear HF
      generalize Sha.siz a = n at *
      by_cases h3 : key.length < n
      · have d1 : decide ((key.length : Int) < (n : Int)) = true := decide_eq_true (by omega)
        go_enter Tryz.func24, Tryz.ntmps24
        go_wp2_with fail
        refine C1.mono ?_
        rintro e w1 ⟨rfl, rfl⟩
        go_wp2_with fail
        refine C2.mono ?_
        rintro e w2 ⟨rfl, rfl⟩
        go_wp2
        go_ret2
        exact ⟨_, rfl, Owb.nil _ _, Below.refl _ _⟩
      · have d1 : decide ((key.length : Int) < (n : Int)) = false := decide_eq_false (by omega)
        have d2 : decide ((key.length : Int) > 4096) = true := decide_eq_true (by omega)
        go_enter Tryz.func24, Tryz.ntmps24
        go_wp2_with fail
        refine C1.mono ?_
        rintro e w1 ⟨rfl, rfl⟩
        go_wp2_with fail
        refine C2.mono ?_
        rintro e w2 ⟨rfl, rfl⟩
        go_wp2
        go_ret2
        exact ⟨_, rfl, Owb.nil _ _, Below.refl _ _⟩
    · have HF : tgF a key data = (Sha.tagF a key data, 0) := (if_pos h1).trans (if_neg h2)
      rw [HF]
      clear HF
      have d1 : decide ((key.length : Int) < (Sha.siz a : Int)) = false := decide_eq_false (by omega)
      have d2 : decide ((key.length : Int) > 4096) = false := decide_eq_false (by omega)
      go_enter Tryz.func24, Tryz.ntmps24
      go_wp2_with fail
      refine C1.mono ?_
      rintro e w1 ⟨rfl, rfl⟩
      go_wp2_with fail
      refine C2.mono ?_
      rintro e w2 ⟨rfl, rfl⟩
      obtain ⟨cd, W1, hcv, hrd, hcd, hcd2, hB1⟩ := conv_bytes data w2 (by omega)
      have C3 := Sha.hsum_any a ak (some ⟨w2.heap.size, 0, none⟩) ck cd key data W1 (T.below hB1) (sha_rd (hk.below hB1 (Nat.le_refl _))) (sha_rd hrd) hck hck2 (by omega) hcd hcd2 (by omega)
      go_wp2_with fail
      refine C3.mono ?_
      rintro e W2 ⟨av, rfl, ho, hB2⟩
      go_wp2
      go_ret2
      exact ⟨_, rfl, (sha_own ho (Sha.tagF_length a key data) (Sha.siz_le a)).base hB1.size, hB1.trans (hB2.mono hB1.size)⟩
  · have HF : tgF a key data = ([], 111) := if_neg h1
    rw [HF]
    have C1 := family_no a w (fun e => h1 (.inl e)) (fun e => h1 (.inr (.inl e))) (fun e => h1 (.inr (.inr e)))
    clear HF h1
    go_enter Tryz.func24, Tryz.ntmps24
    go_wp2_with fail
    refine C1.mono ?_
    rintro e w1 ⟨⟨f, g, hf, rfl⟩, rfl⟩
    have d1 : (f != 1) = true := by simpa using hf
    go_wp2
    go_ret2
    exact ⟨_, rfl, Owb.nil _ _, Below.refl _ _⟩

end Go.Proofs.YtccfcplhifbjlaaGreatDoor
