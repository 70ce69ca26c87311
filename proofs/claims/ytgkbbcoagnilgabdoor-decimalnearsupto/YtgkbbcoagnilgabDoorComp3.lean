import Derived.Test.YtgkbbcoagnilgabDoorComp2
namespace Go.Proofs.YtgkbbcoagnilgabDoor
open Go.RowKit

theorem digs_all (l : List UInt8) : allD (digs l) := by
  intro c hc
  obtain ⟨i, hi, e⟩ := List.getElem_of_mem hc
  have hi' : i < nd l := by rw [← digs_length]; exact hi
  have hl := nd_le l
  have hil : i < l.length := by omega
  have e1 : (digs l)[i] = l[i] := by
    have e2 : (digs l)[i]? = l[i]? := by unfold digs; rw [List.getElem?_take_of_lt hi']
    rw [List.getElem?_eq_getElem hi, List.getElem?_eq_getElem hil] at e2
    exact Option.some.inj e2
  rw [← e, e1]
  exact (nd_lt l i (by omega) hil).1 hi'

theorem allD_nil : allD [] := fun c h => by simp at h

theorem pcut_digs {l : List UInt8} {m p : Bool} {g f d : List UInt8} (h : pcut l = some (m, g, f, p, d)) : allD g ∧ allD f ∧ allD d := by
  unfold pcut pcut1 pcut2 pcut3 pcut4 at h
  generalize cutL l = l1 at h
  split at h
  · cases h
  split at h
  · cases h
  split at h
  · cases h
  split at h
  · cases h
    refine ⟨digs_all _, ?_, ?_⟩
    · unfold cutF; split
      · exact digs_all _
      · exact allD_nil
    · generalize (cutF (rst l1)).2.1 = r
      unfold cutP; split
      · exact digs_all _
      · exact allD_nil
  · cases h

/-- The number that a text's parts say: its digits, and how many of them stand ahead of the dot. -/
def zof (x : PartsM) : List UInt8 := tr (tl (x.2.1 ++ x.2.2.1))
def oof (x : PartsM) : Int := (x.2.1.length : Int) - (((x.2.1 ++ x.2.2.1).length : Int) - ((tl (x.2.1 ++ x.2.2.1)).length : Int))

def cmpP (x y : PartsM) : Int :=
  if sgn x.1 (zof x) = sgn y.1 (zof y) then sgn x.1 (zof x) * csz (zof x) (oof x) x.2.2.2.1 x.2.2.2.2 (zof y) (oof y) y.2.2.2.1 y.2.2.2.2 else cmp3 (sgn x.1 (zof x)) (sgn y.1 (zof y))

/-- What Compare answers of two texts: the order, and the error. -/
def cmpV : Option PartsM → Option PartsM → Int × Int
  | some x, some y => (cmpP x y, 0)
  | _, _ => (0, 30)

theorem sgn_bd (m : Bool) (z : List UInt8) : -1 ≤ sgn m z ∧ sgn m z ≤ 1 := by
  unfold sgn; split
  · omega
  · split <;> omega

theorem cmp3_bd (a b : Int) : -1 ≤ cmp3 a b ∧ cmp3 a b ≤ 1 := by
  unfold cmp3; split
  · omega
  · split <;> omega

theorem compareBytes_bd : ∀ a b : List UInt8, -1 ≤ Lib.compareBytes a b ∧ Lib.compareBytes a b ≤ 1
  | [], [] => by simp [Lib.compareBytes]
  | [], _ :: _ => by simp [Lib.compareBytes]
  | _ :: _, [] => by simp [Lib.compareBytes]
  | a :: u, b :: v => by
    unfold Lib.compareBytes
    split
    · omega
    · split
      · omega
      · exact compareBytes_bd u v

theorem csz_bd (zx : List UInt8) (ox : Int) (px : Bool) (dx : List UInt8) (zy : List UInt8) (oy : Int) (py : Bool) (dy : List UInt8) : -1 ≤ csz zx ox px dx zy oy py dy ∧ csz zx ox px dx zy oy py dy ≤ 1 := by
  unfold csz; split
  · exact cmp3_bd _ _
  · exact compareBytes_bd _ _

theorem NBox.c0' {W : World} {b : Nat} {m p : Bool} {z d : List UInt8} {o : Int} (h : NBox W b m z o p d) (x : Obj) : (W.alloc x).cell? ⟨b, 0, none⟩ = some (.bool m) := (h.alloc x).c0

set_option maxHeartbeats 4000000 in
theorem compare_some (a b : List UInt8) (mx px my py : Bool) (zx dx zy dy : List UInt8) (ox oy : Int) (w : World)
    (Ha : Hid (∀ w : World, Calls Tryd.prog 19 #[.string ⟨a.toArray⟩] w fun e w' => e = .returned (.tuple #[.agg #[.bool mx, .string ⟨zx.toArray⟩, .int .i64 ox, .bool px, .string ⟨dx.toArray⟩], .bool true]) ∧ Below w.heap.size w w'))
    (Hb : Hid (∀ w : World, Calls Tryd.prog 19 #[.string ⟨b.toArray⟩] w fun e w' => e = .returned (.tuple #[.agg #[.bool my, .string ⟨zy.toArray⟩, .int .i64 oy, .bool py, .string ⟨dy.toArray⟩], .bool true]) ∧ Below w.heap.size w w'))
    (Hs : Hid (∀ w : World, Calls Tryd.prog 30 #[.agg #[.bool mx, .string ⟨zx.toArray⟩, .int .i64 ox, .bool px, .string ⟨dx.toArray⟩], .agg #[.bool my, .string ⟨zy.toArray⟩, .int .i64 oy, .bool py, .string ⟨dy.toArray⟩]] w fun e w' => e = .returned (.int .i64 (csz zx ox px dx zy oy py dy)) ∧ Below w.heap.size w w')) :
    Calls Tryd.prog 16 #[.string ⟨a.toArray⟩, .string ⟨b.toArray⟩] w fun e w' => e = .returned (.tuple #[.int .i64 (if sgn mx zx = sgn my zy then sgn mx zx * csz zx ox px dx zy oy py dy else cmp3 (sgn mx zx) (sgn my zy)), .int .i64 0]) ∧ Below w.heap.size w w' := by
  have Hx : Hid (∀ w : World, Calls Tryd.prog 28 #[.agg #[.bool mx, .string ⟨zx.toArray⟩, .int .i64 ox, .bool px, .string ⟨dx.toArray⟩]] w fun e w' => e = .returned (.int .i64 (sgn mx zx)) ∧ w' = w.alloc (boxN mx zx ox px dx)) := fun w => sign_ex mx px zx dx ox w
  have Hy : Hid (∀ w : World, Calls Tryd.prog 28 #[.agg #[.bool my, .string ⟨zy.toArray⟩, .int .i64 oy, .bool py, .string ⟨dy.toArray⟩]] w fun e w' => e = .returned (.int .i64 (sgn my zy)) ∧ w' = w.alloc (boxN my zy oy py dy)) := fun w => sign_ex my py zy dy oy w
  have hsx := sgn_bd mx zx
  have hsy := sgn_bd my zy
  have hcz := csz_bd zx ox px dx zy oy py dy
  obtain ⟨R, hR⟩ : ∃ R, R = if sgn mx zx = sgn my zy then sgn mx zx * csz zx ox px dx zy oy py dy else cmp3 (sgn mx zx) (sgn my zy) := ⟨_, rfl⟩
  rw [← hR]
  generalize csz zx ox px dx zy oy py dy = C at Hs hcz hR
  generalize sgn mx zx = sx at Hx hsx hR
  generalize sgn my zy = sy at Hy hsy hR
  have HR : Hid (R = if sx = sy then sx * C else cmp3 sx sy) := hR
  clear hR
  obtain ⟨hsx1, hsx2⟩ := hsx
  obtain ⟨hsy1, hsy2⟩ := hsy
  obtain ⟨hcz1, hcz2⟩ := hcz
  go_enter Tryd.func16, Tryd.ntmps16
  go_wp2_with fail
  refine (Ha.out _).mono ?_
  rintro e w2 ⟨rfl, hB2⟩
  go_wp2_with fail
  refine (Hb.out _).mono ?_
  rintro e w3 ⟨rfl, hB3⟩
  have hX : NBox (w3.alloc (boxN my zy oy py dy)) w2.heap.size mx zx ox px dx := by
    refine NBox.alloc (NBox.below ?_ hB3) _
    constructor <;> first | (go_simp; done) | (simp; done)
  have hY : NBox (w3.alloc (boxN my zy oy py dy)) w3.heap.size my zy oy py dy := by
    constructor <;> first | (go_simp; done) | (simp; done)
  have hL : Below w.heap.size w (w3.alloc (boxN my zy oy py dy)) := by
    have h1 : w.heap.size ≤ w2.heap.size := hB2.size
    have h2 : w2.heap.size + 1 ≤ w3.heap.size := by have := hB3.size; simpa using this
    refine Below.alloc (Below.trans hB2 (Below.trans ?_ (Below.mono hB3 (by simp; omega)))) (by omega) _
    (repeat' (first | with_reducible assumption | with_reducible exact Below.refl _ _ | with_reducible exact Nat.le_refl _ | with_reducible refine Below.setCell ?_ ?_ _ | with_reducible refine Below.alloc ?_ ?_ _ | with_reducible apply Below.drew | with_reducible apply below_drewN | omega | (simp; done) | (simp; omega)))
  clear hB2 hB3
  go_upto_region 5 with fail
  generalize w3.alloc (boxN my zy oy py dy) = W at hX hY hL ⊢
  generalize w2.heap.size = bx at hX ⊢
  generalize w3.heap.size = yb at hY ⊢
  obtain ⟨bq, hbq⟩ : ∃ bq, (sx != sy) = bq := ⟨_, rfl⟩
  go_cut [27] from 28 to 32 (fun s wx => s = .bool bq ∧ Hid (NBox wx bx mx zx ox px dx) ∧ Hid (NBox wx yb my zy oy py dy) ∧ Below w.heap.size w wx)
  case first =>
    have x0 := hX.c0
    have x0' := fun o => (hX.alloc o).c0
    have x0'' := fun o o2 => ((hX.alloc o).alloc o2).c0
    have x1 := hX.c1
    have x1' := fun o => (hX.alloc o).c1
    have x1'' := fun o o2 => ((hX.alloc o).alloc o2).c1
    have x2 := hX.c2
    have x2' := fun o => (hX.alloc o).c2
    have x2'' := fun o o2 => ((hX.alloc o).alloc o2).c2
    have x3 := hX.c3
    have x3' := fun o => (hX.alloc o).c3
    have x3'' := fun o o2 => ((hX.alloc o).alloc o2).c3
    have x4 := hX.c4
    have x4' := fun o => (hX.alloc o).c4
    have x4'' := fun o o2 => ((hX.alloc o).alloc o2).c4
    have y0 := hY.c0
    have y0' := fun o => (hY.alloc o).c0
    have y0'' := fun o o2 => ((hY.alloc o).alloc o2).c0
    have y1 := hY.c1
    have y1' := fun o => (hY.alloc o).c1
    have y1'' := fun o o2 => ((hY.alloc o).alloc o2).c1
    have y2 := hY.c2
    have y2' := fun o => (hY.alloc o).c2
    have y2'' := fun o o2 => ((hY.alloc o).alloc o2).c2
    have y3 := hY.c3
    have y3' := fun o => (hY.alloc o).c3
    have y3'' := fun o o2 => ((hY.alloc o).alloc o2).c3
    have y4 := hY.c4
    have y4' := fun o => (hY.alloc o).c4
    have y4'' := fun o o2 => ((hY.alloc o).alloc o2).c4
    have HX : Hid (NBox W bx mx zx ox px dx) := hX
    have HY : Hid (NBox W yb my zy oy py dy) := hY
    clear hX hY
    go_region_with (go_at_call 28; first
      | (with_reducible refine (Hx.out _).mono ?_; rintro e w4 ⟨rfl, rfl⟩)
      | (with_reducible refine (Hy.out _).mono ?_; rintro e w4 ⟨rfl, rfl⟩))
    all_goals go_wp2_with fail
    all_goals go_meet
    all_goals refine ⟨rfl, ?_, ?_, ?_⟩
    all_goals (try show NBox _ _ _ _ _ _ _)
    all_goals (repeat' (first | with_reducible exact HX.out | with_reducible exact HY.out | with_reducible exact hL | with_reducible apply NBox.drew | with_reducible apply NBox.alloc | with_reducible apply Below.drew | with_reducible refine Below.alloc ?_ ?_ _ | (have := hL.size; simp; omega)))
  case rest =>
  obtain ⟨rfl, HX, HY, hL⟩ := hcut
  clear hX hY
  have hX := HX.out
  have hY := HY.out
  cases bq
  case true =>
    have x0 := hX.c0
    have x0' := fun o => (hX.alloc o).c0
    have x0'' := fun o o2 => ((hX.alloc o).alloc o2).c0
    have x1 := hX.c1
    have x1' := fun o => (hX.alloc o).c1
    have x1'' := fun o o2 => ((hX.alloc o).alloc o2).c1
    have x2 := hX.c2
    have x2' := fun o => (hX.alloc o).c2
    have x2'' := fun o o2 => ((hX.alloc o).alloc o2).c2
    have x3 := hX.c3
    have x3' := fun o => (hX.alloc o).c3
    have x3'' := fun o o2 => ((hX.alloc o).alloc o2).c3
    have x4 := hX.c4
    have x4' := fun o => (hX.alloc o).c4
    have x4'' := fun o o2 => ((hX.alloc o).alloc o2).c4
    have y0 := hY.c0
    have y0' := fun o => (hY.alloc o).c0
    have y0'' := fun o o2 => ((hY.alloc o).alloc o2).c0
    have y1 := hY.c1
    have y1' := fun o => (hY.alloc o).c1
    have y1'' := fun o o2 => ((hY.alloc o).alloc o2).c1
    have y2 := hY.c2
    have y2' := fun o => (hY.alloc o).c2
    have y2'' := fun o o2 => ((hY.alloc o).alloc o2).c2
    have y3 := hY.c3
    have y3' := fun o => (hY.alloc o).c3
    have y3'' := fun o o2 => ((hY.alloc o).alloc o2).c3
    have y4 := hY.c4
    have y4' := fun o => (hY.alloc o).c4
    have y4'' := fun o o2 => ((hY.alloc o).alloc o2).c4
    have Hr : Hid (R = cmp3 sx sy) := by show _ = _; rw [HR.out, if_neg (by simpa using hbq)]
    clear hX hY
    go_wp2_with fail
    go_region_with (first
      | (go_at_call 28; first
      | (with_reducible refine (Hx.out _).mono ?_; rintro e w4 ⟨rfl, rfl⟩)
      | (with_reducible refine (Hy.out _).mono ?_; rintro e w4 ⟨rfl, rfl⟩))
      | (go_at_call 29; refine (cmpInt_any sx sy _).mono ?_; rintro e w4 ⟨rfl, rfl⟩))
    all_goals go_wp2
    all_goals go_ret2
    all_goals rw [Hr.out]
    all_goals refine ⟨rfl, ?_⟩
    all_goals (repeat' (first | with_reducible exact HX.out | with_reducible exact HY.out | with_reducible exact hL | with_reducible apply NBox.drew | with_reducible apply NBox.alloc | with_reducible apply Below.drew | with_reducible refine Below.alloc ?_ ?_ _ | (have := hL.size; simp; omega)))
  case false =>
    have x0 := hX.c0
    have x0' := fun o => (hX.alloc o).c0
    have x0'' := fun o o2 => ((hX.alloc o).alloc o2).c0
    have x1 := hX.c1
    have x1' := fun o => (hX.alloc o).c1
    have x1'' := fun o o2 => ((hX.alloc o).alloc o2).c1
    have x2 := hX.c2
    have x2' := fun o => (hX.alloc o).c2
    have x2'' := fun o o2 => ((hX.alloc o).alloc o2).c2
    have x3 := hX.c3
    have x3' := fun o => (hX.alloc o).c3
    have x3'' := fun o o2 => ((hX.alloc o).alloc o2).c3
    have x4 := hX.c4
    have x4' := fun o => (hX.alloc o).c4
    have x4'' := fun o o2 => ((hX.alloc o).alloc o2).c4
    have y0 := hY.c0
    have y0' := fun o => (hY.alloc o).c0
    have y0'' := fun o o2 => ((hY.alloc o).alloc o2).c0
    have y1 := hY.c1
    have y1' := fun o => (hY.alloc o).c1
    have y1'' := fun o o2 => ((hY.alloc o).alloc o2).c1
    have y2 := hY.c2
    have y2' := fun o => (hY.alloc o).c2
    have y2'' := fun o o2 => ((hY.alloc o).alloc o2).c2
    have y3 := hY.c3
    have y3' := fun o => (hY.alloc o).c3
    have y3'' := fun o o2 => ((hY.alloc o).alloc o2).c3
    have y4 := hY.c4
    have y4' := fun o => (hY.alloc o).c4
    have y4'' := fun o o2 => ((hY.alloc o).alloc o2).c4
    have Hr : Hid (R = sx * C) := by show _ = _; rw [HR.out, if_pos (by simpa using hbq)]
    have hw : IntKind.i64.wrap (sx * C) = sx * C := by
      have h1 : sx = -1 ∨ sx = 0 ∨ sx = 1 := by omega
      rw [IntKind.wrap_i64]
      rcases h1 with h | h | h <;> rw [h] <;> omega
    clear hX hY hbq
    go_wp2_with fail
    go_region_with (first
      | (go_at_call 28; with_reducible refine (Hx.out _).mono ?_; rintro e w4 ⟨rfl, rfl⟩)
      | (go_at_call 30
         refine (Hs.out _).mono ?_
         rintro e w4 ⟨rfl, hB4⟩
         have hx4 : Hid (NBox w4 bx mx zx ox px dx) := by
           refine NBox.below ?_ hB4
           repeat' (first | with_reducible exact HX.out | with_reducible apply NBox.drew | with_reducible apply NBox.alloc)
         have hl4 : Hid (Below w.heap.size w w4) := by
           refine Below.trans ?_ (Below.mono hB4 (by have := hL.size; simp; omega))
           repeat' (first | with_reducible exact hL | with_reducible apply Below.drew | with_reducible refine Below.alloc ?_ ?_ _ | (have := hL.size; simp; omega))
         have hs4 : w.heap.size ≤ w4.heap.size := hl4.out.size
         have v0 := hx4.out.c0
         have v1 := hx4.out.c1
         have v2 := hx4.out.c2
         have v3 := hx4.out.c3
         have v4 := hx4.out.c4
         clear hB4))
    all_goals go_wp2
    all_goals go_ret2
    all_goals rw [Hr.out]
    all_goals refine ⟨rfl, ?_⟩
    all_goals (repeat' (first | with_reducible exact HX.out | with_reducible exact HY.out | with_reducible exact hL | with_reducible apply NBox.drew | with_reducible apply NBox.alloc | with_reducible apply Below.drew | with_reducible refine Below.alloc ?_ ?_ _ | exact Hid.out (by assumption) | omega | (have := hL.size; simp; omega)))

end Go.Proofs.YtgkbbcoagnilgabDoor
