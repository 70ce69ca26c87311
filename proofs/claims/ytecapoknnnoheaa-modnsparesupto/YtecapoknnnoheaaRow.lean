import Derived.Test.YtecapoknnnoheaaLow
namespace Go.Proofs.Ytecapoknnnoheaa
open Go.RowKit

/-- The base of the limbs. -/
def Bs : Nat := 4294967296
theorem Bs_eq : Bs = 4294967296 := rfl
theorem Bs_two : 2 ≤ Bs := by decide
theorem Bs_pos : 0 < Bs := by decide

theorem mid_set (lo ds r hi : List Nat) (x v : Nat) : (lo ++ ds ++ (x :: r) ++ hi).set (lo.length + ds.length) v = lo ++ (ds ++ [v]) ++ r ++ hi := by
  rw [List.append_assoc (lo ++ ds), List.set_append_right _ _ (by simp)]
  simp
theorem mid_get (lo ds r hi : List Nat) (x : Nat) (h : lo.length + ds.length < (lo ++ ds ++ (x :: r) ++ hi).length) : (lo ++ ds ++ (x :: r) ++ hi)[lo.length + ds.length] = x := by
  simp [List.getElem_append_right]
theorem mid_cell {t : TypeId} {w : World} {g o : Nat} {lo ds r hi : List Nat} {x : Nat} (h : Bl t w g ((lo ++ ds ++ (x :: r) ++ hi).map U)) (ho : o = lo.length + ds.length) : w.cell? ⟨g, o, none⟩ = some (.int .u32 (x : Int)) := by
  subst ho
  rw [h.cell _ (by simp), List.getElem_map, mid_get]
  rfl
theorem mid_bl {t : TypeId} {w : World} {g o : Nat} {lo ds r hi : List Nat} {x : Nat} (h : Bl t w g ((lo ++ ds ++ (x :: r) ++ hi).map U)) (ho : o = lo.length + ds.length) (v : Nat) : Bl t (w.setCell ⟨g, o, none⟩ (.int .u32 (v : Int))) g ((lo ++ (ds ++ [v]) ++ r ++ hi).map U) := by
  subst ho
  have := h.set (lo.length + ds.length) (U v)
  rw [← List.map_set, mid_set] at this
  exact this

theorem add_step (B p A c X Y x y v c' : Nat) (h : A + p * c = X + Y) (hs : v + B * c' = x + y + c) : (A + p * v) + (p * B) * c' = (X + p * x) + (Y + p * y) := by
  have h1 := congrArg (p * ·) hs
  simp only [Nat.mul_add, ← Nat.mul_assoc] at h1
  omega

set_option maxHeartbeats 1000000 in
theorem putTo_any (g off n c m bc : Nat) (ao : Option Addr) (lo W hi ys : List Nat) (w : World) (hW : Bl 29 w g ((lo ++ W ++ hi).map U)) (hoff : off = lo.length) (hn : n = W.length) (hm : m = ys.length) (hy : Rn w ao ys) (ho : Off ao ys g) (sW : Sm Bs W) (sy : Sm Bs ys) (hl : n ≤ 1000000000) :
    Calls Try.prog 53 #[.slice (some ⟨g, off, none⟩) n c, .slice ao m bc] w fun e w' => e = .returned (.tuple #[]) ∧ ∃ (W' : List Nat) (cy : Nat), Bl 29 w' g ((lo ++ W' ++ hi).map U) ∧ W'.length = n ∧ Sm Bs W' ∧ nv Bs W' + Bs ^ n * cy = nv Bs W + nv Bs (ys.take n) ∧ cy ≤ 1 ∧ But w w' g ∧ w'.heap.size = w.heap.size := by
  have HW : Hid (Bl 29 w g ((lo ++ W ++ hi).map U)) := hW
  have Hoff : Hid (off = lo.length) := hoff
  have Hn : Hid (n = W.length) := hn
  have Hm : Hid (m = ys.length) := hm
  have Hy : Hid (Rn w ao ys) := hy
  have Ho : Hid (Off ao ys g) := ho
  have HsW : Hid (Sm Bs W) := sW
  have Hsy : Hid (Sm Bs ys) := sy
  clear hW hoff hn hm hy ho sW sy
  go_enter Try.func53, Try.ntmps53
  go_wp2
  go_loopw [4, 5, 6, 9] (fun s4 _ _ s9 wr => ∃ (k cy : Nat) (ds : List Nat), s4 = .int .u64 (cy : Int) ∧ s9 = .int .i64 (k : Int) ∧ k ≤ n ∧ cy ≤ 1 ∧ Hid (ds.length = k ∧ Sm Bs ds ∧ Bl 29 wr g ((lo ++ ds ++ W.drop k ++ hi).map U) ∧ nv Bs ds + Bs ^ k * cy = nv Bs (W.take k) + nv Bs (ys.take k) ∧ But w wr g ∧ wr.heap.size = w.heap.size)) (fun _ _ _ s _ => n - (intOf s).toNat)
  case atStart => exact ⟨0, 0, [], rfl, rfl, Nat.zero_le _, by omega, (rfl : ([] : List Nat).length = 0), Sm.nil _, by simpa using HW.out, by simp [nv], But.refl _ _, rfl⟩
  case round =>
    obtain ⟨k, cy, ds, rfl, rfl, hk, hcy, HI⟩ := hrel
    by_cases hlt : k < n
    · have hkW : k < W.length := by have := Hn.out; omega
      obtain ⟨x, Hx⟩ : ∃ x, Hid (W[k] = x) := ⟨W[k], (rfl : W[k] = W[k])⟩
      obtain ⟨y, Hyk⟩ : ∃ y, Hid (ys.getD k 0 = y) := ⟨_, rfl⟩
      have hx : x < 4294967296 := by rw [← Hx.out, ← Bs_eq]; exact HsW.out.get k hkW
      have hy : y < 4294967296 := by rw [← Hyk.out, ← Bs_eq]; exact Hsy.out.getD Bs_pos k
      have HB : Hid (Bl 29 wr g ((lo ++ ds ++ (x :: W.drop (k + 1)) ++ hi).map U)) := by
        have := HI.out.2.2.1
        rw [List.drop_eq_getElem_cons hkW, Hx.out] at this
        exact this
      have gc := mid_cell HB.out (o := off + k) (by rw [Hoff.out, HI.out.1])
      have gf := HB.out.frozen (off + k)
      have C := at_nat ao m bc k ys wr (Hy.out.but HI.out.2.2.2.2.1 Ho.out) Hm.out
      rw [Hyk.out] at C
      go_wp2_with fail
      refine C.mono ?_
      clear C
      rintro e w1 ⟨rfl, rfl⟩
      obtain ⟨s, Hs⟩ : ∃ s, Hid (cy + (x + y) = s) := ⟨_, rfl⟩
      have hs : s < 8589934592 := by rw [← Hs.out]; omega
      have e0 : IntKind.u64.wrap ((x : Int) + (y : Int)) = ((x + y : Nat) : Int) := by rw [IntKind.wrap_u64]; omega
      have e1 : IntKind.u64.wrap ((cy : Int) + ((x + y : Nat) : Int)) = (s : Int) := by have := Hs.out; rw [IntKind.wrap_u64]; omega
      have e2 : IntKind.u32.wrap (s : Int) = ((s % 4294967296 : Nat) : Int) := by rw [IntKind.wrap_u32]; omega
      have e3 : (cy : Int) + ((x : Int) + (y : Int)) = (s : Int) := by have := Hs.out; omega
      go_wp2
      go_roundw
      case rel =>
        have e4 : (s : Int) / 4294967296 = ((s / 4294967296 : Nat) : Int) := by omega
        have e5 : (s : Int) % 4294967296 = ((s % 4294967296 : Nat) : Int) := by omega
        rw [e4, e5]
        refine ⟨k + 1, s / 4294967296, ds ++ [s % 4294967296], rfl, by go_num, by omega, by omega, ?_, HI.out.2.1.snoc (by rw [Bs_eq]; omega), mid_bl HB.out (by rw [Hoff.out, HI.out.1]) _, ?_, HI.out.2.2.2.2.1.set _ _, ?_⟩
        · rw [List.length_append, HI.out.1]; rfl
        · rw [nv_snoc, nv_take_succ, nv_take_succ, HI.out.1, getD_eq W k hkW, Hx.out, Hyk.out, Nat.pow_succ]
          exact add_step _ _ _ _ _ _ _ _ _ _ HI.out.2.2.2.1 (by have := Hs.out; rw [Bs_eq]; omega)
        · rw [World.size_setCell]; exact HI.out.2.2.2.2.2
      case measure => simp [intOf]; omega
    · obtain rfl : k = n := by omega
      go_wp2
      go_end0
      refine ⟨rfl, ds, cy, ?_, HI.out.1, HI.out.2.1, ?_, hcy, HI.out.2.2.2.2⟩
      · have := HI.out.2.2.1
        rw [List.drop_of_length_le (by have := Hn.out; omega), List.append_nil] at this
        exact this
      · have := HI.out.2.2.2.1
        rw [List.take_of_length_le (l := W) (by have := Hn.out; omega)] at this
        exact this

end Go.Proofs.Ytecapoknnnoheaa
