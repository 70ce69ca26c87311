import Derived.Test.YthlfboaidhgnlaaGreatDoorCr
import Derived.WalkMore
namespace Go.Proofs.YthlfboaidhgnlaaGreatDoor
open Go.RowKit

set_option maxRecDepth 100000 in
set_option maxHeartbeats 8000000 in
theorem fits_any (l : List Nd) (ao : Option Addr) (cap k : Nat) (w : World) (h : NR w (.slice ao l.length cap) l ao cap) (hl : l.length ≤ 1000000000) (hk : k < l.length) :
    Calls Tryz.prog 33 #[.slice ao l.length cap, .int .i64 k] w fun e w' => e = .returned (.bool (fitF l k)) ∧ Below w.heap.size w w' := by
  have CT := allTexts_any l ao cap (k : Int) w h hl
  obtain ⟨g, off, rfl, hc2⟩ := h.at hk
  have HFF : Hid (fitF l k = if (l.getD k (nd0 0)).key = kAud then (if (l.getD k (nd0 0)).kind = 6 then allT l (kidsF l (k : Int)) else decide ((l.getD k (nd0 0)).kind = 5))
    else if (l.getD k (nd0 0)).key = kIss ∨ (l.getD k (nd0 0)).key = kSub ∨ (l.getD k (nd0 0)).key = kJti then decide ((l.getD k (nd0 0)).kind = 5)
    else if (l.getD k (nd0 0)).key = kExp ∨ (l.getD k (nd0 0)).key = kNbf ∨ (l.getD k (nd0 0)).key = kIat then (l.getD k (nd0 0)).whole
    else true) := rfl
  obtain ⟨n, hn⟩ : ∃ n, l.getD k (nd0 0) = n := ⟨_, rfl⟩
  rw [hn] at hc2 HFF
  obtain ⟨nk, nky, nt, nw, ni, nq⟩ := n
  dsimp only at HFF
  have ck0 := hc2 0 (.int .i64 nk) (by omega) rfl
  have ck1 := hc2 1 (.string ⟨nky.toArray⟩) (by omega) rfl
  have ck3 := hc2 3 (.bool nw) (by omega) rfl
  rw [Nat.add_zero] at ck0
  generalize allT l (kidsF l (k : Int)) = B at *
  clear h hc2 hn
  by_cases hAud : nky = kAud
  · subst hAud
    rw [if_pos rfl] at HFF
    have q0 : (([97, 117, 100] : List UInt8) == [97, 117, 100]) = true := by decide
    by_cases h6 : nk = 6
    · subst h6
      have HF : Hid (fitF l k = B) := by show _ = _; rw [HFF.out]; exact if_pos rfl
      clear HFF
      go_enter Tryz.func33, Tryz.ntmps33
      go_wp2_with fail
      refine CT.mono ?_
      clear CT
      rintro e w1 ⟨rfl, hB⟩
      have HB : Hid (Below w.heap.size w w1) := hB
      clear hB
      go_wp2
      (try rw [Exit.noGoto_ret])
      go_ret
      rw [HF.out]
      exact ⟨rfl, HB.out⟩
    · have q6 : (nk == 6) = false := by simpa using h6
      rw [if_neg h6] at HFF
      have HF : Hid (fitF l k = (nk == 5)) := by show _ = _; rw [HFF.out]; by_cases hx : nk = 5 <;> simp [hx]
      clear HFF CT
      go_enter Tryz.func33, Tryz.ntmps33
      go_wp2
      (try rw [Exit.noGoto_ret])
      go_ret
      rw [HF.out]
      exact ⟨rfl, Below.refl _ _⟩
  by_cases hIss : nky = kIss
  · subst hIss
    have q0 : (([105, 115, 115] : List UInt8) == [97, 117, 100]) = false := by decide
    have q1 : (([105, 115, 115] : List UInt8) == [105, 115, 115]) = true := by decide
    have HF : Hid (fitF l k = (nk == 5)) := by show _ = _; rw [HFF.out]; rw [if_neg (by decide), if_pos (by simp)]; by_cases hx : nk = 5 <;> simp [hx]
    clear HFF CT
    go_enter Tryz.func33, Tryz.ntmps33
    go_wp2
    (try rw [Exit.noGoto_ret])
    go_ret
    rw [HF.out]
    exact ⟨rfl, Below.refl _ _⟩
  by_cases hSub : nky = kSub
  · subst hSub
    have q0 : (([115, 117, 98] : List UInt8) == [97, 117, 100]) = false := by decide
    have q1 : (([115, 117, 98] : List UInt8) == [105, 115, 115]) = false := by decide
    have q2 : (([115, 117, 98] : List UInt8) == [115, 117, 98]) = true := by decide
    have HF : Hid (fitF l k = (nk == 5)) := by show _ = _; rw [HFF.out]; rw [if_neg (by decide), if_pos (by simp)]; by_cases hx : nk = 5 <;> simp [hx]
    clear HFF CT
    go_enter Tryz.func33, Tryz.ntmps33
    go_wp2
    (try rw [Exit.noGoto_ret])
    go_ret
    rw [HF.out]
    exact ⟨rfl, Below.refl _ _⟩
  by_cases hJti : nky = kJti
  · subst hJti
    have q0 : (([106, 116, 105] : List UInt8) == [97, 117, 100]) = false := by decide
    have q1 : (([106, 116, 105] : List UInt8) == [105, 115, 115]) = false := by decide
    have q2 : (([106, 116, 105] : List UInt8) == [115, 117, 98]) = false := by decide
    have q3 : (([106, 116, 105] : List UInt8) == [106, 116, 105]) = true := by decide
    have HF : Hid (fitF l k = (nk == 5)) := by show _ = _; rw [HFF.out]; rw [if_neg (by decide), if_pos (by simp)]; by_cases hx : nk = 5 <;> simp [hx]
    clear HFF CT
    go_enter Tryz.func33, Tryz.ntmps33
    go_wp2
    (try rw [Exit.noGoto_ret])
    go_ret
    rw [HF.out]
    exact ⟨rfl, Below.refl _ _⟩
  by_cases hExp : nky = kExp
  · subst hExp
    have q0 : (([101, 120, 112] : List UInt8) == [97, 117, 100]) = false := by decide
    have q1 : (([101, 120, 112] : List UInt8) == [105, 115, 115]) = false := by decide
    have q2 : (([101, 120, 112] : List UInt8) == [115, 117, 98]) = false := by decide
    have q3 : (([101, 120, 112] : List UInt8) == [106, 116, 105]) = false := by decide
    have q4 : (([101, 120, 112] : List UInt8) == [101, 120, 112]) = true := by decide
    have HF : Hid (fitF l k = nw) := by show _ = _; rw [HFF.out]; rw [if_neg (by decide), if_neg (by decide), if_pos (by simp)]
    clear HFF CT
    go_enter Tryz.func33, Tryz.ntmps33
    go_wp2
    (try rw [Exit.noGoto_ret])
    go_ret
    rw [HF.out]
    exact ⟨rfl, Below.refl _ _⟩
  by_cases hNbf : nky = kNbf
  · subst hNbf
    have q0 : (([110, 98, 102] : List UInt8) == [97, 117, 100]) = false := by decide
    have q1 : (([110, 98, 102] : List UInt8) == [105, 115, 115]) = false := by decide
    have q2 : (([110, 98, 102] : List UInt8) == [115, 117, 98]) = false := by decide
    have q3 : (([110, 98, 102] : List UInt8) == [106, 116, 105]) = false := by decide
    have q4 : (([110, 98, 102] : List UInt8) == [101, 120, 112]) = false := by decide
    have q5 : (([110, 98, 102] : List UInt8) == [110, 98, 102]) = true := by decide
    have HF : Hid (fitF l k = nw) := by show _ = _; rw [HFF.out]; rw [if_neg (by decide), if_neg (by decide), if_pos (by simp)]
    clear HFF CT
    go_enter Tryz.func33, Tryz.ntmps33
    go_wp2
    (try rw [Exit.noGoto_ret])
    go_ret
    rw [HF.out]
    exact ⟨rfl, Below.refl _ _⟩
  by_cases hIat : nky = kIat
  · subst hIat
    have q0 : (([105, 97, 116] : List UInt8) == [97, 117, 100]) = false := by decide
    have q1 : (([105, 97, 116] : List UInt8) == [105, 115, 115]) = false := by decide
    have q2 : (([105, 97, 116] : List UInt8) == [115, 117, 98]) = false := by decide
    have q3 : (([105, 97, 116] : List UInt8) == [106, 116, 105]) = false := by decide
    have q4 : (([105, 97, 116] : List UInt8) == [101, 120, 112]) = false := by decide
    have q5 : (([105, 97, 116] : List UInt8) == [110, 98, 102]) = false := by decide
    have q6 : (([105, 97, 116] : List UInt8) == [105, 97, 116]) = true := by decide
    have HF : Hid (fitF l k = nw) := by show _ = _; rw [HFF.out]; rw [if_neg (by decide), if_neg (by decide), if_pos (by simp)]
    clear HFF CT
    go_enter Tryz.func33, Tryz.ntmps33
    go_wp2
    (try rw [Exit.noGoto_ret])
    go_ret
    rw [HF.out]
    exact ⟨rfl, Below.refl _ _⟩
  have q0 : (nky == [97, 117, 100]) = false := by simpa using hAud
  have q1 : (nky == [105, 115, 115]) = false := by simpa using hIss
  have q2 : (nky == [115, 117, 98]) = false := by simpa using hSub
  have q3 : (nky == [106, 116, 105]) = false := by simpa using hJti
  have q4 : (nky == [101, 120, 112]) = false := by simpa using hExp
  have q5 : (nky == [110, 98, 102]) = false := by simpa using hNbf
  have q6 : (nky == [105, 97, 116]) = false := by simpa using hIat
  have HF : Hid (fitF l k = true) := by
    show _ = _
    rw [HFF.out, if_neg hAud, if_neg (by rintro (h | h | h) <;> contradiction), if_neg (by rintro (h | h | h) <;> contradiction)]
  clear HFF CT hAud hIss hSub hJti hExp hNbf hIat
  go_enter Tryz.func33, Tryz.ntmps33
  go_wp2
  (try rw [Exit.noGoto_ret])
  go_ret
  rw [HF.out]
  exact ⟨rfl, Below.refl _ _⟩

end Go.Proofs.YthlfboaidhgnlaaGreatDoor
