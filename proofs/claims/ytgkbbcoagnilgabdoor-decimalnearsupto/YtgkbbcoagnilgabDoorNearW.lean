import Derived.Test.YtgkbbcoagnilgabDoorNearT
namespace Go.Proofs.YtgkbbcoagnilgabDoor
open Go.RowKit

/-- The bits of a float32, its sign with it. -/
def sbits (m : Bool) (b : Nat) : Nat := if m then b + 2147483648 else b

set_option maxRecDepth 10000 in
set_option maxHeartbeats 1000000 in
theorem nearest_none (l : List UInt8) (w : World) (mx px : Bool) (zx dx : List UInt8) (ox : Int)
    (Ha : Hid (∀ w : World, Calls Tryd.prog 19 #[.string ⟨l.toArray⟩] w fun e w' => e = .returned (.tuple #[.agg #[.bool mx, .string ⟨zx.toArray⟩, .int .i64 ox, .bool px, .string ⟨dx.toArray⟩], .bool false]) ∧ Below w.heap.size w w')) :
    Calls Tryd.prog 8 #[.string ⟨l.toArray⟩] w fun e w' => e = .returned (.tuple #[.int .u32 0, .int .i64 30]) ∧ Below w.heap.size w w' := by
  go_enter Tryd.func8, Tryd.ntmps8
  go_wp2_with fail
  refine (Ha.out _).mono ?_
  rintro e w2 ⟨rfl, hB2⟩
  have h1 : w.heap.size ≤ w2.heap.size := hB2.size
  go_wp2
  go_ret2
  refine ⟨rfl, ?_⟩
  (repeat' (first | with_reducible assumption | with_reducible exact Below.refl _ _ | with_reducible exact Nat.le_refl _ | with_reducible refine Below.setCell ?_ ?_ _ | with_reducible refine Below.alloc ?_ ?_ _ | with_reducible apply Below.drew | with_reducible apply below_drewN | omega | (simp; done) | (simp; omega)))

set_option maxRecDepth 10000 in
set_option maxHeartbeats 1000000 in
theorem nearest_some (l : List UInt8) (w : World) (m p : Bool) (z d : List UInt8) (o : Int) (S : Nat → Prop) (HS : Hid (∀ b, S b → b ≤ 2139095040))
    (Ha : Hid (∀ w : World, Calls Tryd.prog 19 #[.string ⟨l.toArray⟩] w fun e w' => e = .returned (.tuple #[.agg #[.bool m, .string ⟨z.toArray⟩, .int .i64 o, .bool p, .string ⟨d.toArray⟩], .bool true]) ∧ Below w.heap.size w w'))
    (Hn : Hid (∀ w : World, Calls Tryd.prog 20 #[.agg #[.bool m, .string ⟨z.toArray⟩, .int .i64 o, .bool p, .string ⟨d.toArray⟩]] w fun e w' => ∃ b : Nat, e = .returned (.int .u32 (b : Int)) ∧ S b ∧ Below w.heap.size w w')) :
    Calls Tryd.prog 8 #[.string ⟨l.toArray⟩] w fun e w' => ∃ b : Nat, e = .returned (.tuple #[.int .u32 (sbits m b : Int), .int .i64 0]) ∧ S b ∧ Below w.heap.size w w' := by
  go_enter Tryd.func8, Tryd.ntmps8
  go_wp2_with fail
  refine (Ha.out _).mono ?_
  rintro e w2 ⟨rfl, hB2⟩
  have h1 : w.heap.size ≤ w2.heap.size := hB2.size
  go_wp2_with fail
  refine (Hn.out _).mono ?_
  rintro e w3 ⟨b, rfl, hb, hB3⟩
  have hb31 := HS.out b hb
  have HSb : Hid (S b) := hb
  clear hb
  have hc0 : w3.cell? ⟨w2.heap.size, 0, none⟩ = some (.bool m) := by
    rw [hB3.cell (by simp)]
    go_simp
  have hL : Below w.heap.size w w3 := by
    refine Below.trans hB2 (Below.trans ?_ (Below.mono hB3 (by simp; omega)))
    (repeat' (first | with_reducible assumption | with_reducible exact Below.refl _ _ | with_reducible exact Nat.le_refl _ | with_reducible refine Below.setCell ?_ ?_ _ | with_reducible refine Below.alloc ?_ ?_ _ | with_reducible apply Below.drew | with_reducible apply below_drewN | omega | (simp; done) | (simp; omega)))
  clear hB2 hB3
  cases m
  · go_wp2
    go_ret2
    refine ⟨b, rfl, HSb.out, ?_⟩
    (repeat' (first | with_reducible assumption | with_reducible exact Below.refl _ _ | with_reducible exact Nat.le_refl _ | with_reducible refine Below.setCell ?_ ?_ _ | with_reducible refine Below.alloc ?_ ?_ _ | with_reducible apply Below.drew | with_reducible apply below_drewN | omega | (simp; done) | (simp; omega)))
  · have hor : bits .or .u32 (b : Int) 2147483648 = ((b + 2147483648 : Nat) : Int) := by
      have e : (2147483648 : Int) = ((2147483648 : Nat) : Int) := rfl
      rw [e, u32_or_nat b 2147483648 (by omega) (by decide)]
      have := nat_join 31 2147483648 b (by decide) (by omega)
      rw [Nat.or_comm, this, Nat.add_comm]
    go_wp2
    go_ret2
    refine ⟨b, rfl, HSb.out, ?_⟩
    (repeat' (first | with_reducible assumption | with_reducible exact Below.refl _ _ | with_reducible exact Nat.le_refl _ | with_reducible refine Below.setCell ?_ ?_ _ | with_reducible refine Below.alloc ?_ ?_ _ | with_reducible apply Below.drew | with_reducible apply below_drewN | omega | (simp; done) | (simp; omega)))

theorem nearest_some_any (l : List UInt8) (w : World) (x : PartsM) (hx : pcut l = some x) (hlen : l.length ≤ 1073741824) :
    Calls Tryd.prog 8 #[.string ⟨l.toArray⟩] w fun e w' => ∃ b : Nat, e = .returned (.tuple #[.int .u32 (sbits x.1 b : Int), .int .i64 0]) ∧ NearS x b ∧ Below w.heap.size w w' := by
  obtain ⟨m, g, f, p, d⟩ := x
  have hl := pcut_len hx
  obtain ⟨dg, df, dd⟩ := pcut_digs hx
  have hgf : allD (g ++ f) := fun c hc => by
    rcases List.mem_append.1 hc with h | h
    · exact dg c h
    · exact df c h
  have ho := oof_bd (m, g, f, p, d) l.length (by show g.length + f.length ≤ _; omega)
  have ra := fun w => read_any l w (by omega)
  rw [hx] at ra
  have hzl : (tr (tl (g ++ f))).length ≤ l.length := by
    have e1 := tl_len (g ++ f)
    have e2 := tl_len (tl (g ++ f)).reverse
    unfold tr
    rw [List.length_reverse] at e2 ⊢
    rw [List.length_append] at e1
    omega
  refine nearest_some l w m p (tr (tl (g ++ f))) d (oof (m, g, f, p, d)) (NearS (m, g, f, p, d)) (fun b h => h.1) ra (fun w => ?_)
  refine (nearestSize_any m p (tr (tl (g ++ f))) d (oof (m, g, f, p, d)) w (allD_tr (allD_tl hgf)) dd (fun h => tr_head _ h hgf) (by omega) (by omega) (by omega) (by omega)).mono ?_
  rintro e w' ⟨b, he, hb, hB⟩
  exact ⟨b, he, rnd_true _ d p _ b (allD_tr (allD_tl hgf)) dd (fun h => tr_head _ h hgf) (by omega) (by omega) hb, hB⟩

theorem nearest_none_any (l : List UInt8) (w : World) (hx : pcut l = none) (hlen : l.length ≤ 1073741824) :
    Calls Tryd.prog 8 #[.string ⟨l.toArray⟩] w fun e w' => e = .returned (.tuple #[.int .u32 0, .int .i64 30]) ∧ Below w.heap.size w w' := by
  have ra := fun w => read_any l w (by omega)
  rw [hx] at ra
  exact nearest_none l w false false [] [] 0 ra

end Go.Proofs.YtgkbbcoagnilgabDoor
