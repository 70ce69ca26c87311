import Derived.Test.YtbgooffhikchmaaDoorUg
import Derived.Test.YtbgooffhikchmaaDoorUf
import Derived.Deep.Cut
namespace Go.Proofs.YtbgooffhikchmaaDoor
open Go.RowKit
set_option maxRecDepth 100000

theorem Ln.grown {w w' : World} {B0 g cap : Nat} {l : List UInt8} {r : Option Nat} (h : Ln w B0 g cap l) (hg : w.grownBy w' r) (hne : r ≠ some g) : Ln w' B0 g cap l :=
  Owb.grown h hg fun g' e => by cases e; exact hne
theorem Apt.of {w w' : World} {B0 : Nat} {v u : Value} {l m : List UInt8} (h : Owb w B0 v l) (h2 : Owb w' w.heap.size u m) : ∀ g, u.ownBlock = some g → v.ownBlock ≠ some g := fun g hu hv => by
  have a := (World.ownsRow.lt h g hv).2
  have b := (World.ownsRow.lt h2 g hu).1
  omega

set_option maxHeartbeats 4000000 in
/-- Marks of one kind, and seventy of another behind? -/
theorem marked_any (v : Value) (n : Nat) (x y : UInt8) (w : World) (h : Owb w 0 v (List.replicate n x ++ List.replicate 70 y)) (hn : n ≤ 1000000) :
    Calls Tryd.prog 9 #[v, .int .i64 (n : Int), .int .u8 (x.toNat : Int), .int .u8 (y.toNat : Int)] w fun e w' => e = .returned (.bool true) ∧ ∃ q, w' = w.drewN q := by
  obtain ⟨a, c, rfl, _, hr⟩ := h.nb
  have hlen : (List.replicate n x ++ List.replicate 70 y).length = n + 70 := by simp
  rw [hlen]
  have HR : Hid (Rd w a (List.replicate n x ++ List.replicate 70 y)) := hr
  obtain ⟨g, off, e0, hlt0, hc0⟩ := hr.resolve_left (fun e => by have := congrArg List.length e; rw [hlen] at this; simp at this)
  subst e0
  clear hc0 hlt0 hr
  have HX : Hid (∀ k, k < n → w.cell? ⟨g, off + k, none⟩ = some (.int .u8 (x.toNat : Int))) := fun k hk => by
    obtain ⟨g', off', e, _, hc⟩ := HR.out.resolve_left (fun e => by have := congrArg List.length e; rw [hlen] at this; simp at this)
    cases e
    rw [hc k (by rw [hlen]; omega), List.getD_eq_getElem?_getD, List.getElem?_append_left (by simp; omega), List.getElem?_replicate, if_pos hk]
    rfl
  have HY : Hid (∀ k, n ≤ k → k < n + 70 → w.cell? ⟨g, off + k, none⟩ = some (.int .u8 (y.toNat : Int))) := fun k h1 h2 => by
    obtain ⟨g', off', e, _, hc⟩ := HR.out.resolve_left (fun e => by have := congrArg List.length e; rw [hlen] at this; simp at this)
    cases e
    rw [hc k (by rw [hlen]; omega), List.getD_eq_getElem?_getD, List.getElem?_append_right (by simp; omega), List.getElem?_replicate, if_pos (by simp; omega)]
    rfl
  have hcap : n + 70 ≤ c := by
    rcases h.2 with ⟨_, h0⟩ | ⟨_, cap, _, e, _, _, hn2, _⟩
    · simp at h0
    · injection e with e1 e2 e3
      rw [e3, ← hlen]
      exact hn2
  clear h HR hlen
  have q1 : ((x.toNat : Int) != (x.toNat : Int)) = false := by simp
  have q2 : ((y.toNat : Int) != (y.toNat : Int)) = false := by simp
  go_enter Tryd.func9, Tryd.ntmps9
  go_wp2
  go_loopw [9] (fun s wr => ∃ k q : Nat, s = .int .i64 (k : Int) ∧ k ≤ n + 70 ∧ wr = w.drewN q) (fun s _ => n + 70 - (intOf s).toNat)
  case atStart => exact ⟨0, 0, rfl, by omega, rfl⟩
  case round =>
    obtain ⟨k, q, rfl, hk, rfl⟩ := hrel
    by_cases hlt : k < n + 70
    · by_cases hkl : k < n
      · have g1 := HX.out k hkl
        have d2 : decide ((k : Int) ≥ (n : Int)) = false := decide_eq_false (by omega)
        have d3 : decide ((k : Int) < (n : Int)) = true := decide_eq_true (by omega)
        have d4 : decide ((n : Int) ≤ (k : Int)) = false := decide_eq_false (by omega)
        have d5 : decide (k < n) = true := decide_eq_true hkl
        have d6 : decide (n ≤ k) = false := decide_eq_false (by omega)
        go_wp2
        go_roundw
        case rel => exact ⟨k + 1, _, by go_num, by omega, rfl⟩
        case measure => simp [intOf]; omega
      · have g1 := HY.out k (by omega) hlt
        have d1 : decide ((k : Int) < (n : Int)) = false := decide_eq_false (by omega)
        have d2 : decide ((k : Int) ≥ (n : Int)) = true := decide_eq_true (by omega)
        have d4 : decide ((n : Int) ≤ (k : Int)) = true := decide_eq_true (by omega)
        have d5 : decide (k < n) = false := decide_eq_false hkl
        have d6 : decide (n ≤ k) = true := decide_eq_true (by omega)
        go_wp2
        go_roundw
        case rel => exact ⟨k + 1, _, by go_num, by omega, rfl⟩
        case measure => simp [intOf]; omega
    · go_wp2
      go_ret
      exact ⟨rfl, _, rfl⟩

end Go.Proofs.YtbgooffhikchmaaDoor
