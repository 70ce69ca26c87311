import Derived.Test.YtjpjepfmphlneaaGreatDoorDV
import Derived.Test.YtjpjepfmphlneaaGreatDoorShZ7
import Derived.Laws.IdiomStrings
namespace Go.Proofs.YtjpjepfmphlneaaGreatDoor
open Go.RowKit

set_option maxRecDepth 100000

theorem conv_any (w : World) (a : Option Addr) (c : Nat) (l : List UInt8) (h : Rd w a l) : (convert 22 9 (.slice a l.length c)).run Tryz.prog w = .ok (.string ⟨l.toArray⟩) w := by
  rcases h with h | ⟨g, off, rfl, hg, hc⟩
  · subst h
    rw [run_convert_bytes_string w 22 9 5 a ([] : List UInt8).length c Tryz.underlying22 Tryz.underlying5 Tryz.underlying9]
    cases a <;> simp [Conv.bytesToString, loadCells] <;> rfl
  · refine run_convert_bytes_back w 22 9 5 ⟨g, off, none⟩ c l Tryz.underlying22 Tryz.underlying5 Tryz.underlying9 ?_
    intro j hj
    rw [Addr.add_mid, hc j hj, List.getD_eq_getElem?_getD, List.getElem?_eq_getElem hj]
    rfl
theorem equal_any (a1 a2 : Option Addr) (c1 c2 : Nat) (l1 l2 : List UInt8) (w : World) (h1 : Rd w a1 l1) (h2 : Rd w a2 l2) :
    Calls Tryz.prog 47 #[.slice a1 l1.length c1, .slice a2 l2.length c2] w fun e w' => e = .returned (.bool (decide (l1 = l2))) ∧ w' = w := by
  have k1 := conv_any w a1 c1 l1 h1
  have k2 := conv_any w a2 c2 l2 h2
  have E : Hid ((l1 == l2) = decide (l1 = l2)) := by show _ = _; rw [Bool.eq_iff_iff, decide_eq_true_iff, beq_iff_eq]
  clear h1 h2
  go_enter Tryz.func47, Tryz.ntmps47
  go_wp2
  go_ret
  rw [← E.out]
  exact ⟨rfl, rfl⟩

theorem rd_take {w : World} {ao : Option Addr} {l : List UInt8} (h : Rd w ao l) (k : Nat) : Rd w ao (l.take k) := by
  rcases h with h | ⟨g, off, e, hg, hc⟩
  · subst h; exact .inl (by simp)
  · refine .inr ⟨g, off, e, hg, fun j hj => ?_⟩
    have h1 : j < k ∧ j < l.length := by rw [List.length_take] at hj; omega
    rw [hc j h1.2, List.getD_eq_getElem?_getD, List.getD_eq_getElem?_getD, List.getElem?_take, if_pos h1.1]
theorem rd_drop {w : World} {g off : Nat} {l : List UInt8} (h : Rd w (some ⟨g, off, none⟩) l) (k : Nat) : Rd w (some ⟨g, off + k, none⟩) (l.drop k) := by
  rcases h with h | ⟨g', off', e, hg, hc⟩
  · subst h; exact .inl (by simp)
  · cases e
    refine .inr ⟨g, off + k, rfl, hg, fun j hj => ?_⟩
    have h1 : k + j < l.length := by simp at hj; omega
    rw [Nat.add_assoc, hc (k + j) h1, List.getD_eq_getElem?_getD, List.getD_eq_getElem?_getD, List.getElem?_drop]

theorem parts3 (w : World) (p q r : Sha.Prt) (hp : Sha.prOk w p) (hq : Sha.prOk w q) (hr : Sha.prOk w r) : Sha.Pts (w.alloc (.cells #[Sha.prV p, Sha.prV q, Sha.prV r] 22)) (some ⟨w.heap.size, 0, none⟩) [p, q, r] := by
  have hb := alloc_bl w [Sha.prV p, Sha.prV q, Sha.prV r] 22
  have hB := alloc_below w (.cells #[Sha.prV p, Sha.prV q, Sha.prV r] 22)
  refine ⟨.inr ⟨w.heap.size, 0, rfl, fun j hj => ?_⟩, fun x hx => ?_⟩
  · have h3 : j < 3 := hj
    rw [Nat.zero_add, hb.cell j hj]
    congr 1
    rcases (show j = 0 ∨ j = 1 ∨ j = 2 by omega) with rfl | rfl | rfl <;> rfl
  · have key : ∀ y, Sha.prOk w y → Sha.prOk (w.alloc (.cells #[Sha.prV p, Sha.prV q, Sha.prV r] 22)) y := fun y hy => ⟨Rd.below (show Rd w y.a y.l from hy.1) hB (Nat.le_refl _), hy.2⟩
    rcases List.mem_cons.1 hx with rfl | hx
    · exact key _ hp
    · rcases List.mem_cons.1 hx with rfl | hx
      · exact key _ hq
      · rcases List.mem_cons.1 hx with rfl | hx
        · exact key _ hr
        · cases hx
/-- k of a first half, a key's bytes and a message. -/
def kV (first pub msg : List UInt8) : Nat := leN (Sha.sumF 3 (first ++ pub ++ msg)) % eL
/-- S B less k A. -/
noncomputable def rV (P : Nat × Nat) (pub msg sig : List UInt8) : Nat × Nat := se eP eD (me eP eD (leN (sig.drop 32)) eB) (me eP eD (kV (sig.take 32) pub msg) (ne eP P))
/-- Is the signature taken, under a key that is a point? -/
def Holds13 (P : Nat × Nat) (pub msg sig : List UInt8) : Prop := sig.length = 64 ∧ leN (sig.drop 32) < eL ∧ encL (rV P pub msg sig) = sig.take 32
theorem eL_pw : eL < pw 256 := by show eL < 2 ^ 256; decide +kernel
theorem rV_on {P : Nat × Nat} (h : onE eP eD P) (pub msg sig : List UInt8) : onE eP eD (rV P pub msg sig) := ew.son (ew.mon onB _) (ew.mon (ew.non h) _)
theorem ediv_v (v u : Value) (U k : Nat) (w : World) (hv : Nk w v U k) (hu : Nk w u eL 256) : Calls Tryz.prog 41 #[v, u] w fun e w' => ∃ q r, e = .returned (.tuple #[q, r, .int .i64 0]) ∧ Sl3 q ∧ Rk w w' r (U % eL) 256 := by
  refine (vdiv v u U eL _ _ w hv.1 hu.1 (by decide) (by decide) (by decide +kernel)).mono ?_
  rintro e w' ⟨q, r, rfl, h1, h2⟩
  have hlt : U % eL < pw 256 := Nat.lt_trans (Nat.mod_lt _ (by decide +kernel)) eL_pw
  exact ⟨q, r, rfl, h1.vl.shape, ⟨h2.1, Nat.le_trans (dgl_pw hlt (by decide)) (by decide), h2.2.2⟩, hlt⟩
end Go.Proofs.YtjpjepfmphlneaaGreatDoor
