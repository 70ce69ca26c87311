import Derived.Test.YtjpjepfmphlneaaGreatDoorGC
namespace Go.Proofs.YtjpjepfmphlneaaGreatDoor
open Go.RowKit
set_option maxRecDepth 100000
/-- The law's trim: without noughts on top. -/
theorem ltrim_any (ao : Option Addr) (n c : Nat) (xs : List Nat) (w : World) (hx : Rn w ao xs) (sx : Sm Bs xs) (hn : n = xs.length) (hcap : n ≤ c) (hl : n ≤ 1000000000) :
    Calls Tryz.prog 26 #[.slice ao n c] w fun e w' => ∃ r, e = .returned r ∧ Nm w' r (dg Bs (nv Bs xs)) ∧ Below w.heap.size w w' := by
  have Hx : Hid (Rn w ao xs) := hx
  have Hn : Hid (n = xs.length) := hn
  have Hs : Hid (Sm Bs xs) := sx
  clear hx hn sx
  go_enter Tryz.func26, Tryz.ntmps26
  go_wp2
  go_loop [3] (fun s => ∃ k : Nat, s = .int .i64 (k : Int) ∧ k ≤ n ∧ Hid (∀ j, k ≤ j → xs.getD j 0 = 0)) (fun s => (intOf s).toNat)
  case atStart => exact ⟨n, rfl, Nat.le_refl _, fun j hj => getD_none _ _ (by have := Hn.out; omega)⟩
  case round =>
    obtain ⟨k, rfl, hk, Hz⟩ := hrel
    by_cases hz : 0 < k ∧ xs.getD (k - 1) 0 = 0
    · obtain ⟨k, rfl⟩ : ∃ j, k = j + 1 := ⟨k - 1, by omega⟩
      obtain ⟨g, off, rfl, _, hcell⟩ := Hx.out.cell (by have := Hn.out; omega)
      have gc := hcell k (by have := Hn.out; omega)
      rw [Nat.add_sub_cancel] at hz
      rw [hz.2] at gc
      have Hz1 : Hid (∀ j, k ≤ j → xs.getD j 0 = 0) := fun j hj => by
        rcases Nat.lt_or_ge k j with h | h
        · exact Hz.out j h
        · obtain rfl : j = k := by omega
          exact hz.2
      have e1 : ((k + 1 : Nat) : Int) - 1 = (k : Int) := by omega
      rw [show ((0 : Nat) : Int) = 0 from rfl] at gc
      clear hcell hz
      go_wp2
      go_round
      case rel => exact ⟨k, rfl, by omega, Hz1⟩
      case measure => simp [intOf]
    · have Ht : Hid (tl xs = k) := tl_of xs k (by have := Hn.out; omega) Hz.out (by omega)
      have HX : Hid (xs.take k = dg Bs (nv Bs xs)) := by show _ = _; rw [← Ht.out]; exact trim_dg Bs_two Hs.out
      have HZ : Hid (True → k = 0 ∨ xs.getD (k - 1) 0 ≠ 0) := fun _ => by omega
      have HR : Hid (Rn w ao (xs.take k)) := Hx.out.take k
      have HL : Hid ((xs.take k).length = k) := by show _ = _; rw [List.length_take]; have := Hn.out; omega
      have HNm : Hid (Nm w (.slice ao k c) (dg Bs (nv Bs xs))) := (by
        rw [← HX.out]
        exact ⟨ao, c, by rw [HL.out], by rw [HL.out]; omega, HR.out, fun y hy => Hs.out y (List.mem_of_mem_take hy)⟩ : Nm _ _ _)
      clear hz Hz Ht HX HL
      have KEY : k = 0 ∨ ∃ (j g off x : Nat), k = j + 1 ∧ ao = some ⟨g, off, none⟩ ∧ w.cell? ⟨g, off + j, none⟩ = some (.int .u32 (x : Int)) ∧ (((x : Int) == 0) = false) := by
        rcases Nat.eq_zero_or_pos k with h | h
        · exact .inl h
        · obtain ⟨g, off, e, _, hcell⟩ := Hx.out.cell (by have := Hn.out; omega)
          refine .inr ⟨k - 1, g, off, xs.getD (k - 1) 0, by omega, e, hcell (k - 1) (by have := Hn.out; omega), ?_⟩
          have := HZ.out trivial
          simp only [beq_eq_false_iff_ne]
          omega
      clear HZ HR
      rcases KEY with rfl | ⟨j, g, off, x, rfl, rfl, gc, hxb⟩
      · have h0 : (0 : Nat) ≤ c := Nat.zero_le _
        go_wp2
        go_ret
        exact ⟨_, rfl, HNm.out, Below.refl _ _⟩
      · have e1 : ((j + 1 : Nat) : Int) - 1 = (j : Int) := by omega
        have hjc : j + 1 ≤ c := by omega
        go_wp2
        go_ret
        exact ⟨_, rfl, HNm.out, Below.refl _ _⟩
theorem ltrim_v {v : Value} {V : Nat} {w : World} (h : Vl w v V 1048576) : Calls Tryz.prog 26 #[v] w fun e w' => ∃ r, e = .returned r ∧ Nm w' r (dg Bs V) ∧ Below w.heap.size w w' := by
  obtain ⟨xs, ⟨ao, c, rfl, h1, h2, h3⟩, rfl, h5⟩ := h
  exact ltrim_any ao _ c xs w h2 h3 rfl h1 (by omega)
end Go.Proofs.YtjpjepfmphlneaaGreatDoor
