import Derived.Test.YthnogdkkdekgpaaGreatDoorNtY2
import Derived.Deep.LoopGhost
import Derived.WalkMore
import Derived.ScopeJumps
import Derived.Test.YthnogdkkdekgpaaGreatDoorNtZ7
namespace Go.Proofs.YthnogdkkdekgpaaGreatDoor
open Go.RowKit

end Go.Proofs.YthnogdkkdekgpaaGreatDoor

namespace Go.Proofs.YthnogdkkdekgpaaGreatDoor
open Go.RowKit

theorem Rw.old {w w' : World} {v : Value} {V : Nat} (h : Re w w' v V) (o : Obj) : Rw (w'.alloc o) w.heap.size w'.heap.size v V := by
  refine ⟨h.1.below (alloc_below _ _) (Nat.le_refl _), h.2.1, fun g n c e => ?_⟩
  rcases h.1.2 with ⟨h1, _⟩ | ⟨g', cap, cur, e', hg, hh, _⟩
  · rw [h1] at e; cases e
  · rw [e'] at e
    cases e
    exact Nat.ne_of_lt (Array.getElem?_eq_some_iff.1 hh).1

/-- What Inv answers. -/
def AnsI (w w' : World) (e : Ending) (A M : Nat) : Prop :=
  (rcode M (Lg A) ≠ 0 ∧ e = .returned (.tuple #[.slice none 0 0, .int .i64 ((rcode M (Lg A) : Nat) : Int)]) ∧ Below w.heap.size w w') ∨
  (rcode M (Lg A) = 0 ∧ Nat.gcd A M ≠ 1 ∧ e = .returned (.tuple #[.slice none 0 0, .int .i64 61]) ∧ Below w.heap.size w w') ∨
  (rcode M (Lg A) = 0 ∧ ∃ Y r, Inz A M Y ∧ e = .returned (.tuple #[r, .int .i64 0]) ∧ Re w w' r Y)

theorem bl_one (D : Nat) (h : 0 < D) : decide (((bl D : Nat) : Int) > 1) = decide (D ≠ 1) := by
  by_cases h1 : D = 1
  · subst h1; decide
  · have h2 := bl_mono (show 2 ≤ D by omega)
    rw [show bl 2 = 2 by decide] at h2
    rw [decide_eq_true (show D ≠ 1 from h1), decide_eq_true (by omega)]

end Go.Proofs.YthnogdkkdekgpaaGreatDoor

namespace Go.Proofs.YthnogdkkdekgpaaGreatDoor
open Go.RowKit

theorem dg_small {v : Nat} (h0 : v ≠ 0) (h : v < 4294967296) : dg Bs v = [v] := by
  rw [dg_pos Bs_two h0, Bs_eq, Nat.mod_eq_of_lt h, Nat.div_eq_of_lt h, dg_zero]
/-- A literal of one limb. -/
theorem lit_nm (w : World) (x : Nat) (h : x < 4294967296) : Nm (w.alloc (.cells #[.int .u32 (x : Int)] 46)) (.slice (some ⟨w.heap.size, 0, none⟩) 1 1) [x] :=
  ⟨_, 1, rfl, Nat.le_refl _, (alloc_bl w ([x].map U) 46).rn, fun y hy => by rw [List.mem_singleton.1 hy]; exact h⟩
theorem lit_nu (w : World) (x : Nat) (h : x < 4294967296) : Nu (w.alloc (.cells #[.int .u32 (x : Int)] 46)) (.slice (some ⟨w.heap.size, 0, none⟩) 1 1) x :=
  ⟨[x], lit_nm w x h, by simp [nv], by simp⟩

/-- A number of the call's own. -/
def Om (w : World) (v : Value) (V : Nat) : Prop := Ow w 0 v (dg Bs V) ∧ (dg Bs V).length ≤ 3000000
theorem Om.nu {w : World} {v : Value} {V : Nat} (h : Om w v V) : Nu w v V := h.1.vl h.2
theorem Om.nm {w : World} {v : Value} {V : Nat} (h : Om w v V) : Nm w v (dg Bs V) := h.1.nm (dg_sm Bs_two V)
theorem Om.below {w w' : World} {v : Value} {V n : Nat} (h : Om w v V) (hb : Below n w w') (hn : w.heap.size ≤ n) : Om w' v V := ⟨h.1.below hb hn, h.2⟩
theorem Om.drewN {w : World} {v : Value} {V : Nat} (h : Om w v V) (q : Nat) : Om (w.drewN q) v V := h
theorem Re.om {w w' : World} {v : Value} {V : Nat} (h : Re w w' v V) : Om w' v V := ⟨h.1.base (Nat.zero_le _), h.2.1⟩

end Go.Proofs.YthnogdkkdekgpaaGreatDoor

namespace Go.Proofs.YthnogdkkdekgpaaGreatDoor
open Go.RowKit

theorem Lg_small {v : Nat} (h : v < 4294967296) : Lg v = false := Lg_of (Nat.le_trans (dg_len Bs_two 1 v (by rw [Nat.pow_one]; exact h)) (by decide))
theorem rcode_ok {M : Nat} {b : Bool} (h1 : Lg M = false) (h2 : b = false) (h3 : 2 ≤ M) : rcode M b = 0 := by
  unfold rcode
  rw [h1, h2, if_neg (by simp), if_neg (by omega)]
theorem Ans.ok {w w' : World} {e : Ending} {c V : Nat} (h : Ans w w' e c V) (hc : c = 0) : ∃ r, e = .returned (.tuple #[r, .int .i64 0]) ∧ Re w w' r V := by
  rcases h with ⟨h, _⟩ | ⟨_, h⟩
  · exact absurd hc h
  · exact h
theorem Ans.bad {w w' : World} {e : Ending} {c V : Nat} (h : Ans w w' e c V) (hc : c ≠ 0) : e = .returned (.tuple #[.slice none 0 0, .int .i64 (c : Int)]) ∧ Below w.heap.size w w' := by
  rcases h with ⟨_, h⟩ | ⟨h, _⟩
  · exact h
  · exact absurd h hc

theorem lit2 (w : World) (x y : Nat) (hx : x < 4294967296) (hy : y < 4294967296) :
    Nu ((w.alloc (.cells #[.int .u32 (x : Int)] 46)).alloc (.cells #[.int .u32 (y : Int)] 46)) (.slice (some ⟨w.heap.size, 0, none⟩) 1 1) x ∧
    Nu ((w.alloc (.cells #[.int .u32 (x : Int)] 46)).alloc (.cells #[.int .u32 (y : Int)] 46)) (.slice (some ⟨w.heap.size + 1, 0, none⟩) 1 1) y ∧
    Below w.heap.size w ((w.alloc (.cells #[.int .u32 (x : Int)] 46)).alloc (.cells #[.int .u32 (y : Int)] 46)) := by
  have h1 := lit_nu w x hx
  have h2 := lit_nu (w.alloc (.cells #[.int .u32 (x : Int)] 46)) y hy
  rw [World.size_alloc] at h2
  exact ⟨h1.below (alloc_below _ _) (Nat.le_refl _), h2, (alloc_below w _).trans ((alloc_below _ _).mono (by rw [World.size_alloc]; omega))⟩
theorem lit3 (w : World) (x y z : Nat) (hx : x < 4294967296) (hy : y < 4294967296) (hz : z < 4294967296) :
    Nu (((w.alloc (.cells #[.int .u32 (x : Int)] 46)).alloc (.cells #[.int .u32 (y : Int)] 46)).alloc (.cells #[.int .u32 (z : Int)] 46)) (.slice (some ⟨w.heap.size, 0, none⟩) 1 1) x ∧
    Nu (((w.alloc (.cells #[.int .u32 (x : Int)] 46)).alloc (.cells #[.int .u32 (y : Int)] 46)).alloc (.cells #[.int .u32 (z : Int)] 46)) (.slice (some ⟨w.heap.size + 1, 0, none⟩) 1 1) y ∧
    Nu (((w.alloc (.cells #[.int .u32 (x : Int)] 46)).alloc (.cells #[.int .u32 (y : Int)] 46)).alloc (.cells #[.int .u32 (z : Int)] 46)) (.slice (some ⟨w.heap.size + 1 + 1, 0, none⟩) 1 1) z ∧
    Below w.heap.size w (((w.alloc (.cells #[.int .u32 (x : Int)] 46)).alloc (.cells #[.int .u32 (y : Int)] 46)).alloc (.cells #[.int .u32 (z : Int)] 46)) := by
  obtain ⟨h1, h2, h3⟩ := lit2 w x y hx hy
  have h4 := lit_nu ((w.alloc (.cells #[.int .u32 (x : Int)] 46)).alloc (.cells #[.int .u32 (y : Int)] 46)) z hz
  rw [World.size_alloc, World.size_alloc] at h4
  exact ⟨h1.below (alloc_below _ _) (Nat.le_refl _), h2.below (alloc_below _ _) (Nat.le_refl _), h4, h3.trans ((alloc_below _ _).mono (by rw [World.size_alloc, World.size_alloc]; omega))⟩
end Go.Proofs.YthnogdkkdekgpaaGreatDoor

namespace Go.Proofs.YthnogdkkdekgpaaGreatDoor
open Go.RowKit

theorem rc0 {M A B : Nat} (hM : 2 ≤ M) (lM : Lg M = false) (lA : Lg A = false) (lB : Lg B = false) : rcode M (Lg A || Lg B) = 0 := rcode_ok lM (by rw [lA, lB]; rfl) hM
theorem s7_Lg_lt {V M : Nat} (lM : Lg M = false) (h : V < M) : Lg V = false := Lg_of (dgl_le _ _ _ (Nat.le_of_lt h) (Lg_le lM))
theorem Lg_mod {A M : Nat} (lM : Lg M = false) (h : 2 ≤ M) : Lg (A % M) = false := s7_Lg_lt lM (Nat.mod_lt _ (by omega))
theorem Lg_less {A B M : Nat} (lM : Lg M = false) (h : 2 ≤ M) : Lg (lessV M (A % M) (B % M)) = false := s7_Lg_lt lM (lessV_lt (Nat.mod_lt _ (by omega)) (Nat.mod_lt _ (by omega)))
/-- What a number above the others is not longer than. -/
theorem Om.small {w : World} {v : Value} {V k : Nat} (h : Om w v V) (hk : (dg Bs V).length ≤ k) : Vl w v V k := h.1.vl hk
theorem exp_sum (A E F M : Nat) : A ^ (E + F) % M = A ^ E % M * (A ^ F % M) % M := by rw [Nat.pow_add, Nat.mul_mod]
theorem exp_prod (A B E M : Nat) : (A * B % M) ^ E % M = A ^ E % M * (B ^ E % M) % M := by rw [← Nat.pow_mod, Nat.mul_pow, Nat.mul_mod]

end Go.Proofs.YthnogdkkdekgpaaGreatDoor

namespace Go.Proofs.YthnogdkkdekgpaaGreatDoor
open Go.RowKit

theorem less_back (A B M : Nat) (hM : 2 ≤ M) : (lessV M (A % M) (B % M) + B) % M = A % M := by
  apply Cg.mod
  obtain ⟨k, hk⟩ := lessV_cg (a := A % M) (Nat.mod_lt B (show 0 < M by omega))
  have hA : ((M * (A / M) + A % M : Nat) : Int) = (A : Int) := by rw [Nat.div_add_mod A M]
  have hB : ((M * (B / M) + B % M : Nat) : Int) = (B : Int) := by rw [Nat.div_add_mod B M]
  rw [Int.natCast_add, Int.natCast_mul] at hA hB
  refine ⟨k + (B / M : Nat) - (A / M : Nat), ?_⟩
  rw [Int.natCast_add]
  generalize A / M = p at *
  generalize B / M = q at *
  generalize A % M = r at *
  generalize B % M = s at *
  grind
theorem less_sum (A B M : Nat) (hM : 2 ≤ M) : lessV M ((A + B) % M % M) (B % M) = A % M := by
  have h1 : lessV M ((A + B) % M % M) (B % M) < M := lessV_lt (Nat.mod_lt _ (by omega)) (Nat.mod_lt _ (by omega))
  have h2 := less_back ((A + B) % M) B M hM
  have h3 : (lessV M ((A + B) % M % M) (B % M)) % M = A % M := by
    apply Cg.mod
    have h4 : Cg M ((lessV M ((A + B) % M % M) (B % M) + B : Nat) : Int) ((A + B : Nat) : Int) := Cg.of_mod (by rw [h2, Nat.mod_mod])
    obtain ⟨k, hk⟩ := h4
    exact ⟨k, by omega⟩
  rwa [Nat.mod_eq_of_lt h1] at h3
theorem ring_add (A B C M : Nat) : ((A + B) % M + C) % M = (A + (B + C) % M) % M := by
  rw [Nat.mod_add_mod, Nat.add_mod_mod, Nat.add_assoc]
theorem ring_mul (A B C M : Nat) : (A * B % M) * C % M = A * (B * C % M) % M := by
  rw [Nat.mod_mul_mod, Nat.mul_mod_mod, Nat.mul_assoc]
theorem ring_dist (A B C M : Nat) : (A * B % M + A * C % M) % M = A * ((B + C) % M) % M := by
  rw [Nat.mul_mod_mod, Nat.mul_add, Nat.add_mod (A * B)]
theorem ring_more (A B M : Nat) : (A % M + M) * B % M = A * B % M := by
  rw [Nat.mul_mod, Nat.add_mod_right, Nat.mod_mod, ← Nat.mul_mod]

theorem Inz.back {A M Y : Nat} (hM : 2 ≤ M) (h : Inz A M Y) : Inz Y M (A % M) := ⟨Nat.mod_lt _ (by omega), by rw [Nat.mul_mod_mod, Nat.mul_comm]; exact h.2⟩
theorem Inz.prod {A B M Y Z : Nat} (h : Inz A M Y) (h2 : Inz B M Z) : Inz (A * B % M) M (Y * Z % M) := by
  have hM : 0 < M := by have := h.1; omega
  have hM1 : M ≠ 1 := fun e => by have := h.2; rw [e, Nat.mod_one] at this; cases this
  refine ⟨Nat.mod_lt _ hM, ?_⟩
  rw [← Nat.mul_mod, show A * B * (Y * Z) = A * Y * (B * Z) by rw [Nat.mul_assoc, Nat.mul_left_comm B, ← Nat.mul_assoc], Nat.mul_mod, h.2, h2.2, Nat.mod_eq_of_lt (by omega)]
/-- What Inv answers where there is an inverse. -/
theorem AnsI.ok {w w' : World} {e : Ending} {A M Y : Nat} (h : AnsI w w' e A M) (hc : rcode M (Lg A) = 0) (hy : Inz A M Y) : ∃ r, e = .returned (.tuple #[r, .int .i64 0]) ∧ Re w w' r Y := by
  rcases h with ⟨h, _⟩ | ⟨_, h, _⟩ | ⟨_, Z, r, h1, h2, h3⟩
  · exact absurd hc h
  · exact absurd hy.gcd h
  · rw [hy.one h1]; exact ⟨r, h2, h3⟩
theorem AnsI.nope {w w' : World} {e : Ending} {A M : Nat} (h : AnsI w w' e A M) (hc : rcode M (Lg A) = 0) (hy : Nat.gcd A M ≠ 1) : e = .returned (.tuple #[.slice none 0 0, .int .i64 61]) ∧ Below w.heap.size w w' := by
  rcases h with ⟨h, _⟩ | ⟨_, _, h⟩ | ⟨_, Z, r, h1, _⟩
  · exact absurd hc h
  · exact h
  · exact absurd h1.gcd hy
theorem AnsI.bad {w w' : World} {e : Ending} {A M : Nat} (h : AnsI w w' e A M) (hc : rcode M (Lg A) ≠ 0) : e = .returned (.tuple #[.slice none 0 0, .int .i64 ((rcode M (Lg A) : Nat) : Int)]) ∧ Below w.heap.size w w' := by
  rcases h with ⟨_, h⟩ | ⟨h, _⟩ | ⟨h, _⟩
  · exact h
  · exact absurd h hc
  · exact absurd h hc
/-- There is one, if nothing above 1 divides both. -/
theorem inz_exists (A M : Nat) (hM : 2 ≤ M) (h : Nat.gcd A M = 1) : ∃ Y, Inz A M Y := by
  have key : ∀ (n : Nat) (L x D y : Nat), L ≤ n → Inq A M L x D y → ∃ Y, Inz A M Y := by
    intro n
    induction n with
    | zero =>
      intro L x D y hl hi
      obtain rfl : L = 0 := by omega
      have hd := hi.done
      rw [h] at hd
      subst hd
      exact ⟨y, hi.inz hM⟩
    | succ n ih =>
      intro L x D y hl hi
      by_cases h0 : L = 0
      · subst h0
        have hd := hi.done
        rw [h] at hd
        subst hd
        exact ⟨y, hi.inz hM⟩
      · exact ih _ _ _ _ (by have := Nat.mod_lt D (Nat.pos_of_ne_zero h0); omega) (hi.divide (Nat.pos_of_ne_zero h0))
  exact key _ _ _ _ _ (Nat.le_refl _) (Inq.start hM)
theorem vnil0 (w : World) : Nu w (.slice none 0 0) 0 := ⟨[], ⟨none, 0, rfl, Nat.le_refl _, .inl rfl, Sm.nil _⟩, rfl, Nat.zero_le _⟩
/-- A number's order to 1. -/
theorem cmp_lit (w : World) (v : Value) (V : Nat) (o : Int) (ho : cmp3 (V : Int) 1 = o) (hv : Nu w v V) :
    Calls Tryz.prog 12 #[v, .slice (some ⟨w.heap.size, 0, none⟩) 1 1] (w.alloc (.cells #[.int .u32 1] 46)) fun e w' => e = .returned (.int .i64 o) ∧ Below w.heap.size w w' := by
  have hb := alloc_below w (.cells #[.int .u32 1] 46)
  have C := vcmp v _ V 1 3000000 3000000 _ (hv.below hb (Nat.le_refl _)) (lit_nu w 1 (by decide)) (by decide) (by decide)
  rw [show ((1 : Nat) : Int) = 1 from rfl, ho] at C
  refine C.mono ?_
  rintro e w' ⟨rfl, q, rfl⟩
  exact ⟨rfl, below_drewN hb q⟩

end Go.Proofs.YthnogdkkdekgpaaGreatDoor
