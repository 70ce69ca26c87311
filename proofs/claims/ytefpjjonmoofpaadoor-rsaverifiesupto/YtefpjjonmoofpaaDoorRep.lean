import Derived.Test.YtefpjjonmoofpaaDoorMul
import Derived.Test.YtefpjjonmoofpaaDoorShZ6
import Derived.Lib.MakeNoZero
import Derived.Lib.SlBuf
namespace Go.Proofs.YtefpjjonmoofpaaDoor
open Go.RowKit

theorem Cl.rep {w : World} {h k : Nat} {x : UInt8} {r : List Value} (hc : Cl w h (List.replicate k (B x) ++ r)) (j : Nat) (hj : j < k) : w.cell? ⟨h, j, none⟩ = some (B x) := by
  rw [hc.cell j (by simp; omega), List.getElem_append_left (by simp; omega), List.getElem_replicate]
theorem below_cells {B0 b : Nat} (hb : B0 ≤ b) : ∀ (xs : List Value) (o : Nat) (w w' : World), Below B0 w w' → Below B0 w (w'.setCells b o xs)
  | [], _, _, _, h => h
  | v :: r, o, w, w', h => below_cells hb r (o + 1) w (w'.setCell ⟨b, o, none⟩ v) (h.setCell (by exact hb) v)
/-- More of the buffer is filled out of itself. -/
theorem rep_copy (w : World) (h N k m d : Nat) (x : UInt8) (r : List Value) (hc : Cl w h (List.replicate k (B x) ++ r)) (hm : Nat.min k d = m) (hd : m ≤ r.length) :
    (∀ q, (Builtin.copy_ #[23, 23] 3 #[.slice (some ⟨h, k, none⟩) d d, .slice (some ⟨h, 0, none⟩) k N]).run Tryd.prog (w.drewN q) = .ok (goInt m) ((w.setCells h k (List.replicate m (B x))).drewN q)) ∧
      Cl (w.setCells h k (List.replicate m (B x))) h (List.replicate (k + m) (B x) ++ r.drop m) := by
  have hmk : m ≤ k := by rw [← hm]; exact Nat.min_le_left _ _
  constructor
  · intro q
    have h1 := run_copy_cells (P := Tryd.prog) (w.drewN q) 23 23 3 5 h k d d ⟨h, 0, none⟩ k N (List.replicate m (B x)) Tryd.underlying23 (by kernel_rfl) (by rw [List.length_replicate]; exact hm.symm) (fun j v hj => by
          obtain ⟨hj1, hj2⟩ := List.getElem?_eq_some_iff.1 hj
          have hj3 : j < m := by simpa using hj1
          rw [Addr.add_mid, Nat.zero_add]
          show w.cell? _ = _
          rw [hc.rep j (by omega), ← hj2, List.getElem_replicate]) (fun j hj => by
          rw [List.length_replicate] at hj
          show (w.cell? _).isSome = true
          rw [hc.cell (k + j) (by simp; omega)]
          rfl) (fun j _ => hc.frozen _) (fun v hv => by rw [List.eq_of_mem_replicate hv]; rfl)
    rw [List.length_replicate, Sha.setCells_drewN] at h1
    exact h1
  · have h1 := Sha.Cl.cells (List.replicate m (B x)) k w _ hc (by simp; omega)
    unfold Sha.spl at h1
    rw [List.length_replicate, List.take_append_of_le_length (by simp), List.take_of_length_le (by simp), ← List.drop_drop, List.drop_left' (List.length_replicate (n := k)), List.replicate_append_replicate] at h1
    exact h1

set_option maxHeartbeats 2000000 in
theorem repeat_any (b : Nat) (x : UInt8) (c : Nat) (w : World) (hx : w.cell? ⟨b, 0, none⟩ = some (B x)) (h1 : 1 ≤ c) (h2 : c ≤ 8192) :
    Calls Tryd.prog 31 #[.slice (some ⟨b, 0, none⟩) 1 1, .int .i64 (c : Int)] w fun e w' => e = .returned (.slice (some ⟨w.heap.size, 0, none⟩) c c) ∧ Rd w' (some ⟨w.heap.size, 0, none⟩) (List.replicate c x) ∧ Below w.heap.size w w' := by
  have C := mul_one c w h2
  obtain ⟨cs, hrunM, hle, _⟩ := Lib.run_makeNoZero (P := Tryd.prog) w #[3] 23 5 Tryd.underlying23 c (by omega)
  have hcall : (callFunc 58 #[.int .i64 (c : Int)]).run Tryd.prog w = .ok (.value (.slice (some ⟨w.heap.size, 0, none⟩) c cs.size)) ((w.alloc (.cells cs 5)).drewN 2) := by
    rw [run_callFunc_extern Tryd.func58 (by kernel_rfl) (by kernel_rfl) (by kernel_rfl) (e := Extern.BytealgMakeNoZero.makeNoZero #[3] #[23]) (by kernel_rfl), hrunM]
    rfl
  clear hrunM
  -- the first byte
  have hcl : Cl ((w.alloc (.cells cs 5)).drewN 2) w.heap.size (cs.toList) := ⟨5, by unfold World.alloc; simp [World.drewN]⟩
  have hbel : Below w.heap.size w ((w.alloc (.cells cs 5)).drewN 2) := below_drewN (alloc_below w _) 2
  have hxb := hx
  generalize hwm : (w.alloc (.cells cs 5)).drewN 2 = wm at hcall hcl hbel
  have hcsl : cs.toList.length = cs.size := Array.length_toList
  have hx2 : wm.cell? ⟨b, 0, none⟩ = some (B x) := cell_but hx fun hb => hbel.block b hb
  have hcp : (Builtin.copy_ #[23, 23] 3 #[.slice (some ⟨w.heap.size, 0, none⟩) c c, .slice (some ⟨b, 0, none⟩) 1 1]).run Tryd.prog wm = .ok (goInt 1) (wm.setCells w.heap.size 0 [B x]) := by
    have h1 := run_copy_cells (P := Tryd.prog) wm 23 23 3 5 w.heap.size 0 c c ⟨b, 0, none⟩ 1 1 [B x] Tryd.underlying23 (by kernel_rfl) (by rw [List.length_singleton]; exact (Nat.min_eq_left h1).symm) (fun j v hj => by
        have hj3 : j = 0 := by have := (List.getElem?_eq_some_iff.1 hj).1; simp at this; exact this
        subst hj3
        simp at hj
        subst hj
        rw [Addr.add_mid]
        exact hx2) (fun j hj => by
        have hj3 : j = 0 := by simp at hj; exact hj
        subst hj3
        show (wm.cell? _).isSome = true
        rw [hcl.cell (0 + 0) (by omega)]
        rfl) (fun j _ => hcl.frozen _) (fun v hv => by simp at hv; subst hv; rfl)
    exact h1
  have hcl1 : Cl (wm.setCells w.heap.size 0 [B x]) w.heap.size (List.replicate 1 (B x) ++ cs.toList.drop 1) := by
    have h1 := Sha.Cl.cells [B x] 0 wm _ hcl (by simp; omega)
    unfold Sha.spl at h1
    exact h1
  have HC1 : Hid (∃ r : List Value, Cl (wm.setCells w.heap.size 0 [B x]) w.heap.size (List.replicate 1 (B x) ++ r) ∧ c ≤ 1 + r.length) := ⟨_, hcl1, by rw [List.length_drop]; omega⟩
  have HB1 : Hid (Below w.heap.size w (wm.setCells w.heap.size 0 [B x])) := below_cells (Nat.le_refl _) _ _ _ _ hbel
  have i1 : (c : Int) ≤ (cs.size : Int) := by omega
  clear hcl hbel hxb hx hx2 hcl1 hwm hcsl
  have c0 : ((c : Int) == 0) = false := beq_eq_false_iff_ne.2 (by omega)
  have c1 : decide ((c : Int) < 0) = false := decide_eq_false (by omega)
  have c2 : decide ((c : Int) > 8192) = false := decide_eq_false (by omega)
  have c3 : decide ((c : Int) > 9223372036854775807) = false := decide_eq_false (by omega)
  go_enter Tryd.func31, Tryd.ntmps31
  go_wp2_with fail
  refine C.mono ?_
  rintro e w' ⟨rfl, rfl⟩
  clear C
  go_wp2_with (at_builtin; refine Lib.wpList_copy_run _ rfl _ _ 23 23 rfl _ _ rfl rfl hcp ?_)
  clear hcall hcp c0 c1 c2 c3
  go_loopw [10] (fun s wr => ∃ (k q : Nat) (w0 : World), s = .int .i64 (k : Int) ∧ 1 ≤ k ∧ k ≤ c ∧ wr = w0.drewN q ∧ Hid (∃ r : List Value, Cl w0 w'.heap.size (List.replicate k (B x) ++ r) ∧ c ≤ k + r.length) ∧ Hid (Below w'.heap.size w' w0)) (fun s _ => c - (intOf s).toNat)
  case atStart => exact ⟨1, 0, _, rfl, Nat.le_refl _, h1, rfl, HC1, HB1⟩
  case round =>
    clear HC1 HB1
    obtain ⟨k, q, w0, rfl, hk1, hk, rfl, HC, HB⟩ := hrel
    by_cases hlt : k < c
    · obtain ⟨m, hm⟩ : ∃ m, Nat.min k (c - k) = m := ⟨_, rfl⟩
      have hm1 : 1 ≤ m ∧ k + m ≤ c := by have h3 : min k (c - k) = m := hm; omega
      obtain ⟨r, hcl, hrl⟩ := HC.out
      obtain ⟨hcp0, hcl2⟩ := rep_copy w0 w'.heap.size c k m (c - k) x r hcl hm (by omega)
      have hcp := fun z => hcp0 (q + z)
      have HC2 : Hid (∃ r : List Value, Cl (w0.setCells w'.heap.size k (List.replicate m (B x))) w'.heap.size (List.replicate (k + m) (B x) ++ r) ∧ c ≤ k + m + r.length) := ⟨_, hcl2, by rw [List.length_drop]; omega⟩
      have HB2 : Hid (Below w'.heap.size w' (w0.setCells w'.heap.size k (List.replicate m (B x)))) := below_cells (Nat.le_refl _) _ _ _ _ HB.out
      have hmin : min (k : Int) (c : Int) = (k : Int) := by omega
      have Hm : Hid (Nat.min k (c - k) = m) := hm
      clear hcl hrl hcp0 hcl2 HC HB hm
      generalize w0.setCells w'.heap.size k (List.replicate m (B x)) = w9 at *
      have hcp1 : (Builtin.copy_ #[23, 23] 3 #[.slice (some ⟨w'.heap.size, k, none⟩) (c - k) (c - k), .slice (some ⟨w'.heap.size, 0, none⟩) k c]).run Tryd.prog (w0.drewN q).drew = .ok (.int .i64 (m : Int)) (w9.drewN q).drew := hcp 1
      have hcp2 : (Builtin.copy_ #[23, 23] 3 #[.slice (some ⟨w'.heap.size, k, none⟩) (c - k) (c - k), .slice (some ⟨w'.heap.size, 0, none⟩) k c]).run Tryd.prog (w0.drewN (q + 1)) = .ok (.int .i64 (m : Int)) (w9.drewN (q + 1)) := hcp 1
      have hck : ¬ c = k := by omega
      have hkc : ¬ k = c := by omega
      clear hcp
      go_wp2
      go_region
      go_wp2
      go_roundw
      case rel => exact ⟨k + m, q + 1, w9, by go_num, by omega, by omega, rfl, HC2, HB2⟩
      case measure => simp [intOf]; omega
    · obtain rfl : k = c := by omega
      go_wp2
      go_ret
      obtain ⟨r, hcl, _⟩ := HC.out
      refine ⟨rfl, .inr ⟨_, 0, rfl, hcl.lt, fun j hj => ?_⟩, below_drewN HB.out q⟩
      rw [List.length_replicate] at hj
      rw [Nat.zero_add, List.getD_eq_getElem?_getD, List.getElem?_replicate, if_pos hj]
      exact hcl.rep j hj

end Go.Proofs.YtefpjjonmoofpaaDoor
