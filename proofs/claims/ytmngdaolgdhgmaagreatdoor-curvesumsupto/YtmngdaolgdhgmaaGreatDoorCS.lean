import Derived.Test.YtmngdaolgdhgmaaGreatDoorCG
namespace Go.Proofs.YtmngdaolgdhgmaaGreatDoor
section
variable {p b : Nat} (C : Cv p b)
include C
omit C in
theorem on_O : onP p b .O := trivial
end
/-- The sum, as a function. -/
noncomputable def sm (p : Nat) (P Q : Pt) : Pt := open Classical in if h : ∃ R, SmP p P Q R then Classical.choose h else .O
section
variable {p b : Nat} (C : Cv p b)
include C
theorem Cv.sm_is {P Q R : Pt} (h1 : onP p b P) (h2 : onP p b Q) (h : SmP p P Q R) : sm p P Q = R := by
  have hx : ∃ R, SmP p P Q R := ⟨R, h⟩
  unfold sm
  rw [dif_pos hx]
  exact C.one h1 h2 (Classical.choose_spec hx) h
theorem Cv.sm_sm {P Q : Pt} (h1 : onP p b P) (h2 : onP p b Q) : SmP p P Q (sm p P Q) := by
  obtain ⟨R, h⟩ := C.ex h1 h2
  rw [C.sm_is h1 h2 h]
  exact h
theorem Cv.son {P Q : Pt} (h1 : onP p b P) (h2 : onP p b Q) : onP p b (sm p P Q) := sm_on h1 h2 (C.sm_sm h1 h2)
theorem Cv.comm {P Q : Pt} (h1 : onP p b P) (h2 : onP p b Q) : sm p P Q = sm p Q P := (C.sm_is h1 h2 (sm_symm (C.sm_sm h2 h1)))
theorem Cv.zl {P : Pt} (h : onP p b P) : sm p .O P = P := C.sm_is trivial h rfl
theorem Cv.zr {P : Pt} (h : onP p b P) : sm p P .O = P := by rw [C.comm h (on_O (b := b)), C.zl h]
end
/-- A point k times. -/
noncomputable def ml (p : Nat) : Nat → Pt → Pt
  | 0, _ => .O
  | k + 1, P => sm p (ml p k P) P
section
variable {p b : Nat} (C : Cv p b)
include C
end
end Go.Proofs.YtmngdaolgdhgmaaGreatDoor
