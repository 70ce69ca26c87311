import Derived.Test.YtjpjepfmphlneaaGreatDoorCuCF
import Derived.Test.YtjpjepfmphlneaaGreatDoorGA
import Derived.Test.YtjpjepfmphlneaaGreatDoorCuCFr
namespace Go.Proofs.YtjpjepfmphlneaaGreatDoor
open Go.RowKit
theorem fA_cg (p a b : Nat) : (p : Int) ∣ (fA p a b : Int) - ((a : Int) + b) := by
  have h := dvd_mod p (a + b)
  rwa [Int.natCast_add] at h
theorem fM_cg (p a b : Nat) : (p : Int) ∣ (fM p a b : Int) - ((a : Int) * b) := by
  have h := dvd_mod p (a * b)
  rwa [Int.natCast_mul] at h
theorem fS_cg {p : Nat} (hp : Pm p) (a b : Nat) : (p : Int) ∣ (fS p a b : Int) - ((a : Int) - b) := by
  have h1 := dvd_mod p a
  have h2 := dvd_mod p b
  have h3 := Nat.mod_lt b (show 0 < p by have := hp.1; omega)
  have h4 : (p : Int) ∣ (fS p a b : Int) - (((a % p : Nat) : Int) - ((b % p : Nat) : Int)) := by
    unfold fS lessV
    split
    · exact ⟨1, by omega⟩
    · exact ⟨0, by omega⟩
  exact lc3 1 1 (-1) h4 h1 h2 (by omega)
theorem cg_nat {p : Int} {a : Nat} : p ∣ (a : Int) - (a : Int) := ⟨0, by omega⟩
theorem cg_fA {p a b : Nat} {x y : Int} (h1 : (p : Int) ∣ (a : Int) - x) (h2 : (p : Int) ∣ (b : Int) - y) : (p : Int) ∣ (fA p a b : Int) - (x + y) := cg_tr (fA_cg p a b) (cg_add h1 h2)
theorem cg_fM {p a b : Nat} {x y : Int} (h1 : (p : Int) ∣ (a : Int) - x) (h2 : (p : Int) ∣ (b : Int) - y) : (p : Int) ∣ (fM p a b : Int) - x * y := cg_tr (fM_cg p a b) (cg_mul h1 h2)
theorem cg_fS {p a b : Nat} {x y : Int} (hp : Pm p) (h1 : (p : Int) ∣ (a : Int) - x) (h2 : (p : Int) ∣ (b : Int) - y) : (p : Int) ∣ (fS p a b : Int) - (x - y) := cg_tr (fS_cg hp a b) (cg_sub h1 h2)
end Go.Proofs.YtjpjepfmphlneaaGreatDoor

namespace Go.Proofs.YtjpjepfmphlneaaGreatDoor
open Go.RowKit

set_option maxRecDepth 100000

theorem okb {a b : Nat} (h : Nat.ble a b = true) : a ≤ b := Nat.le_of_ble_eq_true h
theorem fS_sS {p : Nat} (hp : 0 < p) (a b : Nat) : fS p a b = sS p a b := by
  have h1 := Nat.mod_lt a hp
  have h2 := Nat.mod_lt b hp
  unfold fS sS lessV
  generalize a % p = x at *
  generalize b % p = y at *
  split
  · rw [Nat.mod_eq_of_lt (by omega)]; omega
  · rw [show x + (p - y) = (x - y) + p by omega, Nat.add_mod_right, Nat.mod_eq_of_lt (by omega)]
/-- The limbs of the curve's numbers. -/
def lP : List Nat := [4294967277, 4294967295, 4294967295, 4294967295, 4294967295, 4294967295, 4294967295, 2147483647]
def lL : List Nat := [1559614445, 1477600026, 2734136534, 350157278, 0, 0, 0, 268435456]
def lD : List Nat := [324630691, 1978355146, 1094834347, 7342669, 2004478104, 2361868409, 728759923, 1375956206]
def lI : List Nat := [1242472624, 3303938855, 2905597048, 792926214, 1039914919, 726466713, 1338105611, 730014848]
def lX : List Nat := [2401621274, 3377868128, 2502272946, 1764542304, 4258716764, 3232031281, 3446559742, 560543443]
def lY : List Nat := [1717986904, 1717986918, 1717986918, 1717986918, 1717986918, 1717986918, 1717986918, 1717986918]
theorem nvP : nv Bs lP = eP := by decide +kernel
theorem nvL : nv Bs lL = eL := by decide +kernel
theorem nvD : nv Bs lD = eD := by decide +kernel
theorem nvI : nv Bs lI = eI := by decide +kernel
theorem nvX : nv Bs lX = eX := by decide +kernel
theorem nvY : nv Bs lY = eY := by decide +kernel
/-- A table stands in a block. -/
def T8 (w : World) (g : Nat) (xs : List Nat) : Prop := ∀ i, i < 8 → w.cell? ⟨g, i, none⟩ = some (U (xs.getD i 0))
/-- The six tables stand in the world. -/
structure Te (w : World) : Prop where
  p : T8 w 4 lP
  l : T8 w 0 lL
  d : T8 w 3 lD
  i : T8 w 8 lI
  x : T8 w 1 lX
  y : T8 w 2 lY
theorem cell_old {w w' : World} {g i n : Nat} {v : Value} (h : w.cell? ⟨g, i, none⟩ = some v) (hb : Below n w w') (hn : w.heap.size ≤ n) : w'.cell? ⟨g, i, none⟩ = some v := by
  have hg : g < w.heap.size := by
    rcases Nat.lt_or_ge g w.heap.size with h1 | h1
    · exact h1
    · exfalso
      unfold World.cell? at h
      simp [Array.getElem?_eq_none h1] at h
  have e2 := hb.block g (by omega)
  unfold World.cell? at h ⊢
  simp only at h ⊢
  rw [e2]
  exact h
theorem T8.below {w w' : World} {g n : Nat} {xs : List Nat} (h : T8 w g xs) (hb : Below n w w') (hn : w.heap.size ≤ n) : T8 w' g xs := fun i hi => cell_old (h i hi) hb hn
theorem Te.below {w w' : World} {n : Nat} (h : Te w) (hb : Below n w w') (hn : w.heap.size ≤ n) : Te w' := ⟨h.p.below hb hn, h.l.below hb hn, h.d.below hb hn, h.i.below hb hn, h.x.below hb hn, h.y.below hb hn⟩
theorem Te.drewN {w : World} (h : Te w) (q : Nat) : Te (w.drewN q) := ⟨h.p, h.l, h.d, h.i, h.x, h.y⟩
theorem Te.drew {w : World} (h : Te w) : Te w.drew := ⟨h.p, h.l, h.d, h.i, h.x, h.y⟩
/-- An array of eight limbs, as a value. -/
def A8 (xs : List Nat) : Value := .agg #[U (xs.getD 0 0), U (xs.getD 1 0), U (xs.getD 2 0), U (xs.getD 3 0), U (xs.getD 4 0), U (xs.getD 5 0), U (xs.getD 6 0), U (xs.getD 7 0)]
theorem copyU8 (w : World) (g m n : Nat) (c : Nat) (ao : Option Addr) (xs : List Nat) (hb : Bl 43 w g ((List.replicate n 0).map U)) (hx : Rn w ao xs) (hm : m = xs.length) (hn : n = m) :
    ∃ w1, (Builtin.copy_ #[29, 28] 3 #[.slice (some ⟨g, 0, none⟩) n n, .slice ao m c]).run Tryz.prog w = .ok (goInt m) w1 ∧ Bl 43 w1 g (xs.map U) ∧ But w w1 g ∧ w1.heap.size = w.heap.size := by
  subst hm hn
  have hmin : Nat.min xs.length xs.length = xs.length := Nat.min_self _
  by_cases h0 : xs = []
  · subst h0
    exact ⟨w, run_copy_none w 29 28 3 43 _ _ _ _ _ _ Tryz.underlying29 (by kernel_rfl) hmin, hb, But.refl _ _, rfl⟩
  · rcases hx with h1 | ⟨b, off, rfl, hlt, hc⟩
    · exact absurd h1 h0
    · refine ⟨w.setCells g 0 (xs.map U), ?_, ?_, But.cells _ _ _ _ (But.refl _ _), size_cells _ _ _⟩
      · have h1 := run_copy_cells (P := Tryz.prog) w 29 28 3 43 g 0 xs.length xs.length ⟨b, off, none⟩ xs.length c (xs.map U) Tryz.underlying29 (by kernel_rfl) (by rw [List.length_map]; exact hmin.symm) (fun j v hj => by
            obtain ⟨hj1, hj2⟩ := List.getElem?_eq_some_iff.1 hj
            have hj3 : j < xs.length := by simpa using hj1
            rw [Addr.add_mid, hc j hj3, ← hj2, List.getElem_map, getD_eq _ _ hj3]) (fun j hj => by
            rw [List.length_map] at hj
            rw [hb.cell (0 + j) (by simp; omega)]
            rfl) (fun j _ => hb.frozen _) (oneU xs)
        rw [List.length_map] at h1
        exact h1
      · have h1 := Bl.cells (xs.map U) 0 w _ hb (by simp)
        unfold spl at h1
        rw [List.length_map, ← List.map_take, ← List.map_drop, ← List.map_append, ← List.map_append, List.take_replicate, List.drop_replicate] at h1
        simpa using h1
set_option maxHeartbeats 1000000 in
theorem number_v (xs : List Nat) (V : Nat) (w : World) (hl : xs.length = 8) (hs : Sm Bs xs) (ht : tl xs = 8) (hv : nv Bs xs = V) :
    Calls Tryz.prog 57 #[A8 xs] w fun e w' => ∃ r, e = .returned r ∧ Rk w w' r V 256 := by
  obtain ⟨x0, x1, x2, x3, x4, x5, x6, x7, rfl⟩ : ∃ a b c d e f g h, xs = [a, b, c, d, e, f, g, h] := by
    match xs, hl with
    | [a, b, c, d, e, f, g, h], _ => exact ⟨a, b, c, d, e, f, g, h, rfl⟩
  have hA : A8 [x0, x1, x2, x3, x4, x5, x6, x7] = .agg #[U x0, U x1, U x2, U x3, U x4, U x5, U x6, U x7] := rfl
  rw [hA]
  obtain ⟨w0, hw0⟩ : ∃ w0, w0 = w.alloc (.cells #[U x0, U x1, U x2, U x3, U x4, U x5, U x6, U x7] 75) := ⟨_, rfl⟩
  have hb0 : Bl 75 w0 w.heap.size ([x0, x1, x2, x3, x4, x5, x6, x7].map U) := hw0 ▸ alloc_bl _ _ _
  have hbel0 : Below w.heap.size w w0 := hw0 ▸ alloc_below _ _
  have hsz0 : w0.heap.size = w.heap.size + 1 := hw0 ▸ World.size_alloc _ _
  obtain ⟨wm, hmk, hb, hbel, hsz⟩ := madeU w0 8 (by omega)
  have hx : Rn wm (some ⟨w.heap.size, 0, none⟩) [x0, x1, x2, x3, x4, x5, x6, x7] := .inr ⟨w.heap.size, 0, rfl, by omega, fun j hj => by
    have := (hb0.below hbel (by omega)).cell j (by simpa using hj)
    rw [Nat.zero_add, this, List.getElem_map, getD_eq _ _ hj]⟩
  obtain ⟨w1, hcp, hb1, hbut, hsz1⟩ := copyU8 wm w0.heap.size 8 8 8 _ _ hb hx rfl rfl
  have HN : Hid (Rk w w1 (.slice (some ⟨w.heap.size + 1, 0, none⟩) 8 8) V 256) := by
    rw [← hsz0]
    have h1 := hb1.proper (base := w.heap.size) hs (by omega) (by simp)
    rw [ht, hv] at h1
    have hlt : V < pw 256 := by
      have h2 := nv_lt (show 0 < Bs by decide) hs
      rw [hv] at h2
      have : Bs ^ 8 = pw 256 := by rw [Bs_pw]
      rw [← this]
      exact h2
    refine ⟨⟨h1, Nat.le_trans (dgl_pw hlt (by decide)) (by decide), ?_⟩, hlt⟩
    exact (hbel0.trans (hbel.mono (by omega))).trans (hbut.below (by omega) (by omega))
  replace hmk : (Instr.makeSlice 29 (.int .i64 8) (.int .i64 8)).run Tryz.prog w0 = .ok (.slice (some ⟨w0.heap.size, 0, none⟩) 8 8) wm := hmk
  rw [hsz0] at hmk hcp
  clear hsz0 hb0 hbel0 hsz hsz1 hb hbel hx hb1 hbut hs ht hv hA hl
  subst hw0
  go_enter Tryz.func57, Tryz.ntmps57
  go_wp2
  go_ret
  exact ⟨_, rfl, HN.out⟩
end Go.Proofs.YtjpjepfmphlneaaGreatDoor

namespace Go.Proofs.YtjpjepfmphlneaaGreatDoor
open Go.RowKit

set_option maxRecDepth 100000

theorem Rk.later' {w w0 w' : World} {r : Value} {V k : Nat} (hb : Below w.heap.size w w0) (h : Rk w0 w' r V k) : Rk w w' r V k := ⟨Re.later hb h.1, h.2⟩
theorem Rk.le {w w' : World} {r : Value} {V k m : Nat} (h : Rk w w' r V k) (hk : k ≤ m) : Rk w w' r V m := ⟨h.1, Nat.lt_of_lt_of_le h.2 (pw_mono hk)⟩
theorem eP_pw : eP < pw 256 := by show eP < 2 ^ 256; decide +kernel
theorem pmP : Pm eP := ⟨by decide +kernel, Nat.lt_of_lt_of_le eP_pw (pw_mono (by decide))⟩
theorem lt_pw {V : Nat} (h : V < eP) : V < pw 256 := Nat.lt_trans h eP_pw
theorem tb8P {w : World} {g : Nat} (h : T8 w g lP) : w.cell? ⟨g, 0, none⟩ = some (U 4294967277) ∧ w.cell? ⟨g, 1, none⟩ = some (U 4294967295) ∧ w.cell? ⟨g, 2, none⟩ = some (U 4294967295) ∧ w.cell? ⟨g, 3, none⟩ = some (U 4294967295) ∧ w.cell? ⟨g, 4, none⟩ = some (U 4294967295) ∧ w.cell? ⟨g, 5, none⟩ = some (U 4294967295) ∧ w.cell? ⟨g, 6, none⟩ = some (U 4294967295) ∧ w.cell? ⟨g, 7, none⟩ = some (U 2147483647) := ⟨h 0 (by decide), h 1 (by decide), h 2 (by decide), h 3 (by decide), h 4 (by decide), h 5 (by decide), h 6 (by decide), h 7 (by decide)⟩
theorem tb8L {w : World} {g : Nat} (h : T8 w g lL) : w.cell? ⟨g, 0, none⟩ = some (U 1559614445) ∧ w.cell? ⟨g, 1, none⟩ = some (U 1477600026) ∧ w.cell? ⟨g, 2, none⟩ = some (U 2734136534) ∧ w.cell? ⟨g, 3, none⟩ = some (U 350157278) ∧ w.cell? ⟨g, 4, none⟩ = some (U 0) ∧ w.cell? ⟨g, 5, none⟩ = some (U 0) ∧ w.cell? ⟨g, 6, none⟩ = some (U 0) ∧ w.cell? ⟨g, 7, none⟩ = some (U 268435456) := ⟨h 0 (by decide), h 1 (by decide), h 2 (by decide), h 3 (by decide), h 4 (by decide), h 5 (by decide), h 6 (by decide), h 7 (by decide)⟩
theorem tb8D {w : World} {g : Nat} (h : T8 w g lD) : w.cell? ⟨g, 0, none⟩ = some (U 324630691) ∧ w.cell? ⟨g, 1, none⟩ = some (U 1978355146) ∧ w.cell? ⟨g, 2, none⟩ = some (U 1094834347) ∧ w.cell? ⟨g, 3, none⟩ = some (U 7342669) ∧ w.cell? ⟨g, 4, none⟩ = some (U 2004478104) ∧ w.cell? ⟨g, 5, none⟩ = some (U 2361868409) ∧ w.cell? ⟨g, 6, none⟩ = some (U 728759923) ∧ w.cell? ⟨g, 7, none⟩ = some (U 1375956206) := ⟨h 0 (by decide), h 1 (by decide), h 2 (by decide), h 3 (by decide), h 4 (by decide), h 5 (by decide), h 6 (by decide), h 7 (by decide)⟩
theorem tb8I {w : World} {g : Nat} (h : T8 w g lI) : w.cell? ⟨g, 0, none⟩ = some (U 1242472624) ∧ w.cell? ⟨g, 1, none⟩ = some (U 3303938855) ∧ w.cell? ⟨g, 2, none⟩ = some (U 2905597048) ∧ w.cell? ⟨g, 3, none⟩ = some (U 792926214) ∧ w.cell? ⟨g, 4, none⟩ = some (U 1039914919) ∧ w.cell? ⟨g, 5, none⟩ = some (U 726466713) ∧ w.cell? ⟨g, 6, none⟩ = some (U 1338105611) ∧ w.cell? ⟨g, 7, none⟩ = some (U 730014848) := ⟨h 0 (by decide), h 1 (by decide), h 2 (by decide), h 3 (by decide), h 4 (by decide), h 5 (by decide), h 6 (by decide), h 7 (by decide)⟩
theorem tb8X {w : World} {g : Nat} (h : T8 w g lX) : w.cell? ⟨g, 0, none⟩ = some (U 2401621274) ∧ w.cell? ⟨g, 1, none⟩ = some (U 3377868128) ∧ w.cell? ⟨g, 2, none⟩ = some (U 2502272946) ∧ w.cell? ⟨g, 3, none⟩ = some (U 1764542304) ∧ w.cell? ⟨g, 4, none⟩ = some (U 4258716764) ∧ w.cell? ⟨g, 5, none⟩ = some (U 3232031281) ∧ w.cell? ⟨g, 6, none⟩ = some (U 3446559742) ∧ w.cell? ⟨g, 7, none⟩ = some (U 560543443) := ⟨h 0 (by decide), h 1 (by decide), h 2 (by decide), h 3 (by decide), h 4 (by decide), h 5 (by decide), h 6 (by decide), h 7 (by decide)⟩
theorem tb8Y {w : World} {g : Nat} (h : T8 w g lY) : w.cell? ⟨g, 0, none⟩ = some (U 1717986904) ∧ w.cell? ⟨g, 1, none⟩ = some (U 1717986918) ∧ w.cell? ⟨g, 2, none⟩ = some (U 1717986918) ∧ w.cell? ⟨g, 3, none⟩ = some (U 1717986918) ∧ w.cell? ⟨g, 4, none⟩ = some (U 1717986918) ∧ w.cell? ⟨g, 5, none⟩ = some (U 1717986918) ∧ w.cell? ⟨g, 6, none⟩ = some (U 1717986918) ∧ w.cell? ⟨g, 7, none⟩ = some (U 1717986918) := ⟨h 0 (by decide), h 1 (by decide), h 2 (by decide), h 3 (by decide), h 4 (by decide), h 5 (by decide), h 6 (by decide), h 7 (by decide)⟩
theorem numP (w : World) : Calls Tryz.prog 57 #[.agg #[U 4294967277, U 4294967295, U 4294967295, U 4294967295, U 4294967295, U 4294967295, U 4294967295, U 2147483647]] w fun e w' => ∃ r, e = .returned r ∧ Rk w w' r eP 256 := number_v lP eP w rfl (by unfold Sm; decide) (by decide) nvP
theorem numL (w : World) : Calls Tryz.prog 57 #[.agg #[U 1559614445, U 1477600026, U 2734136534, U 350157278, U 0, U 0, U 0, U 268435456]] w fun e w' => ∃ r, e = .returned r ∧ Rk w w' r eL 256 := number_v lL eL w rfl (by unfold Sm; decide) (by decide) nvL
theorem numD (w : World) : Calls Tryz.prog 57 #[.agg #[U 324630691, U 1978355146, U 1094834347, U 7342669, U 2004478104, U 2361868409, U 728759923, U 1375956206]] w fun e w' => ∃ r, e = .returned r ∧ Rk w w' r eD 256 := number_v lD eD w rfl (by unfold Sm; decide) (by decide) nvD
theorem numI (w : World) : Calls Tryz.prog 57 #[.agg #[U 1242472624, U 3303938855, U 2905597048, U 792926214, U 1039914919, U 726466713, U 1338105611, U 730014848]] w fun e w' => ∃ r, e = .returned r ∧ Rk w w' r eI 256 := number_v lI eI w rfl (by unfold Sm; decide) (by decide) nvI
theorem numX (w : World) : Calls Tryz.prog 57 #[.agg #[U 2401621274, U 3377868128, U 2502272946, U 1764542304, U 4258716764, U 3232031281, U 3446559742, U 560543443]] w fun e w' => ∃ r, e = .returned r ∧ Rk w w' r eX 256 := number_v lX eX w rfl (by unfold Sm; decide) (by decide) nvX
theorem numY (w : World) : Calls Tryz.prog 57 #[.agg #[U 1717986904, U 1717986918, U 1717986918, U 1717986918, U 1717986918, U 1717986918, U 1717986918, U 1717986918]] w fun e w' => ∃ r, e = .returned r ∧ Rk w w' r eY 256 := number_v lY eY w rfl (by unfold Sm; decide) (by decide) nvY
set_option maxHeartbeats 1000000 in
theorem eadd_v (a b : Value) (A B k m : Nat) (w : World) (T : Te w) (ha : Nk w a A k) (hb : Nk w b B m) (hk : k ≤ 4096) (hm : m ≤ 4096) :
    Calls Tryz.prog 95 #[a, b] w fun e w' => ∃ r, e = .returned r ∧ Rk w w' r (fA eP A B) 256 := by
  obtain ⟨a0, a1, a2, rfl⟩ := ha.1.shape
  obtain ⟨c0, c1, c2, rfl⟩ := hb.1.shape
  have C := numP w
  obtain ⟨cp0, cp1, cp2, cp3, cp4, cp5, cp6, cp7⟩ := tb8P T.p
  have HA : Hid (Nk w (.slice a0 a1 a2) A k ∧ Nk w (.slice c0 c1 c2) B m) := ⟨ha, hb⟩
  have HL : Hid (fA eP A B < pw 256) := lt_pw (fA_lt pmP A B)
  clear ha hb T
  go_enter Tryz.func95, Tryz.ntmps95
  go_wp2_with fail
  refine C.mono ?_
  clear C cp0 cp1 cp2 cp3 cp4 cp5 cp6 cp7
  rintro e w1 ⟨n, rfl, h⟩
  have D := madd_v (.slice a0 a1 a2) (.slice c0 c1 c2) n A B eP w1 (HA.out.1.1.below h.bel (Nat.le_refl _)) (HA.out.2.1.below h.bel (Nat.le_refl _)) h.nb.1
  rw [rcode_fine pmP.1 pmP.lt4 HA.out.1.2 HA.out.2.2 hk hm] at D
  have HB : Hid (Below w.heap.size w w1) := h.bel
  obtain ⟨n0, n1, n2, rfl⟩ := h.nb.1.shape
  clear h
  go_wp2_with fail
  refine D.mono ?_
  clear D
  rintro e w2 h
  rcases h with ⟨h, _⟩ | ⟨_, r, rfl, h⟩
  · exact absurd rfl h
  have H : Hid (Rk w w2 r (fA eP A B) 256) := ⟨Re.later HB.out h, HL.out⟩
  obtain ⟨r0, r1, r2, rfl⟩ := h.nu.shape
  clear h
  go_wp2
  go_ret
  exact ⟨_, rfl, H.out⟩
set_option maxHeartbeats 1000000 in
theorem esub_v (a b : Value) (A B k m : Nat) (w : World) (T : Te w) (ha : Nk w a A k) (hb : Nk w b B m) (hk : k ≤ 4096) (hm : m ≤ 4096) :
    Calls Tryz.prog 51 #[a, b] w fun e w' => ∃ r, e = .returned r ∧ Rk w w' r (fS eP A B) 256 := by
  obtain ⟨a0, a1, a2, rfl⟩ := ha.1.shape
  obtain ⟨c0, c1, c2, rfl⟩ := hb.1.shape
  have C := numP w
  obtain ⟨cp0, cp1, cp2, cp3, cp4, cp5, cp6, cp7⟩ := tb8P T.p
  have HA : Hid (Nk w (.slice a0 a1 a2) A k ∧ Nk w (.slice c0 c1 c2) B m) := ⟨ha, hb⟩
  have HL : Hid (fS eP A B < pw 256) := lt_pw (fS_lt pmP A B)
  clear ha hb T
  go_enter Tryz.func51, Tryz.ntmps51
  go_wp2_with fail
  refine C.mono ?_
  clear C cp0 cp1 cp2 cp3 cp4 cp5 cp6 cp7
  rintro e w1 ⟨n, rfl, h⟩
  have D := msub_v (.slice a0 a1 a2) (.slice c0 c1 c2) n A B eP w1 (HA.out.1.1.below h.bel (Nat.le_refl _)) (HA.out.2.1.below h.bel (Nat.le_refl _)) h.nb.1
  rw [rcode_fine pmP.1 pmP.lt4 HA.out.1.2 HA.out.2.2 hk hm] at D
  have HB : Hid (Below w.heap.size w w1) := h.bel
  obtain ⟨n0, n1, n2, rfl⟩ := h.nb.1.shape
  clear h
  go_wp2_with fail
  refine D.mono ?_
  clear D
  rintro e w2 h
  rcases h with ⟨h, _⟩ | ⟨_, r, rfl, h⟩
  · exact absurd rfl h
  have H : Hid (Rk w w2 r (fS eP A B) 256) := ⟨Re.later HB.out h, HL.out⟩
  obtain ⟨r0, r1, r2, rfl⟩ := h.nu.shape
  clear h
  go_wp2
  go_ret
  exact ⟨_, rfl, H.out⟩
set_option maxHeartbeats 1000000 in
theorem emul_v (a b : Value) (A B k m : Nat) (w : World) (T : Te w) (ha : Nk w a A k) (hb : Nk w b B m) (hk : k ≤ 4096) (hm : m ≤ 4096) :
    Calls Tryz.prog 93 #[a, b] w fun e w' => ∃ r, e = .returned r ∧ Rk w w' r (fM eP A B) 256 := by
  obtain ⟨a0, a1, a2, rfl⟩ := ha.1.shape
  obtain ⟨c0, c1, c2, rfl⟩ := hb.1.shape
  have C := numP w
  obtain ⟨cp0, cp1, cp2, cp3, cp4, cp5, cp6, cp7⟩ := tb8P T.p
  have HA : Hid (Nk w (.slice a0 a1 a2) A k ∧ Nk w (.slice c0 c1 c2) B m) := ⟨ha, hb⟩
  have HL : Hid (fM eP A B < pw 256) := lt_pw (fM_lt pmP A B)
  clear ha hb T
  go_enter Tryz.func93, Tryz.ntmps93
  go_wp2_with fail
  refine C.mono ?_
  clear C cp0 cp1 cp2 cp3 cp4 cp5 cp6 cp7
  rintro e w1 ⟨n, rfl, h⟩
  have D := mmul_v (.slice a0 a1 a2) (.slice c0 c1 c2) n A B eP w1 (HA.out.1.1.below h.bel (Nat.le_refl _)) (HA.out.2.1.below h.bel (Nat.le_refl _)) h.nb.1
  rw [rcode_fine pmP.1 pmP.lt4 HA.out.1.2 HA.out.2.2 hk hm] at D
  have HB : Hid (Below w.heap.size w w1) := h.bel
  obtain ⟨n0, n1, n2, rfl⟩ := h.nb.1.shape
  clear h
  go_wp2_with fail
  refine D.mono ?_
  clear D
  rintro e w2 h
  rcases h with ⟨h, _⟩ | ⟨_, r, rfl, h⟩
  · exact absurd rfl h
  have H : Hid (Rk w w2 r (fM eP A B) 256) := ⟨Re.later HB.out h, HL.out⟩
  obtain ⟨r0, r1, r2, rfl⟩ := h.nu.shape
  clear h
  go_wp2
  go_ret
  exact ⟨_, rfl, H.out⟩
set_option maxHeartbeats 1000000 in
theorem einv_v (a : Value) (A : Nat) (w : World) (T : Te w) (ha : Nk w a A 384) (h0 : 0 < A) (hA : A < eP) :
    Calls Tryz.prog 94 #[a] w fun e w' => ∃ r J, Inz A eP J ∧ e = .returned r ∧ Rk w w' r J 256 := by
  obtain ⟨a0, a1, a2, rfl⟩ := ha.1.shape
  have C := numP w
  obtain ⟨cp0, cp1, cp2, cp3, cp4, cp5, cp6, cp7⟩ := tb8P T.p
  have HA : Hid (Nk w (.slice a0 a1 a2) A 384) := ha
  have Hrc : Hid (rcode eP (Lg A) = 0) := (by
    have := rcode_fine (B := 0) pmP.1 pmP.lt4 ha.2 (show 0 < pw 1 from Nat.pow_pos (by decide)) (by decide) (by decide)
    rwa [show Lg 0 = false from Lg_pow (show 0 < pw 1 from Nat.pow_pos (by decide)) (by decide), Bool.or_false] at this : rcode eP (Lg A) = 0)
  have Hgc : Hid (Nat.gcd A eP = 1) := (by rw [Nat.gcd_comm]; exact prP.cop (fun h => absurd (Nat.le_of_dvd h0 h) (by omega)) : Nat.gcd A eP = 1)
  clear ha T h0 hA
  go_enter Tryz.func94, Tryz.ntmps94
  go_wp2_with fail
  refine C.mono ?_
  clear C cp0 cp1 cp2 cp3 cp4 cp5 cp6 cp7
  rintro e w1 ⟨n, rfl, h⟩
  have D := minv_v (.slice a0 a1 a2) n A eP w1 (HA.out.1.below h.bel (Nat.le_refl _)) h.nb.1
  have HB : Hid (Below w.heap.size w w1) := h.bel
  obtain ⟨n0, n1, n2, rfl⟩ := h.nb.1.shape
  clear h
  go_wp2_with fail
  refine D.mono ?_
  clear D
  rintro e w2 hAns
  obtain ⟨J, r, hJ, rfl, h⟩ : ∃ J r, Inz A eP J ∧ e = .returned (.tuple #[r, .int .i64 0]) ∧ Re w1 w2 r J := by
    rcases hAns with ⟨h, _⟩ | ⟨_, h, _⟩ | ⟨_, J, r, h1, h2, h3⟩
    · exact absurd Hrc.out h
    · exact absurd Hgc.out h
    · exact ⟨J, r, h1, h2, h3⟩
  clear hAns
  have H : Hid (Rk w w2 r J 256) := ⟨Re.later HB.out h, lt_pw hJ.1⟩
  have HJ : Hid (Inz A eP J) := hJ
  obtain ⟨r0, r1, r2, rfl⟩ := h.nu.shape
  clear h hJ
  go_wp2
  go_ret
  exact ⟨_, J, HJ.out, rfl, H.out⟩
theorem eone_v (w : World) : Calls Tryz.prog 92 #[] w fun e w' => ∃ r, e = .returned r ∧ Rk w w' r 1 1 := by
  have C := small_v 1 1 (by decide) (by decide) w
  go_enter Tryz.func92, Tryz.ntmps92
  go_wp2_with fail
  refine C.mono ?_
  rintro e w1 ⟨r, rfl, h⟩
  have H : Hid (Rk w w1 r 1 1) := h
  obtain ⟨r0, r1, r2, rfl⟩ := h.sl
  clear C h
  go_wp2
  go_ret
  exact ⟨_, rfl, H.out⟩
theorem eproper_v (v : Value) (V k : Nat) (w : World) (hv : Nk w v V k) : Calls Tryz.prog 91 #[v] w fun e w' => ∃ r, e = .returned r ∧ Rk w w' r V k := by
  have C := shr0_v v V w hv.1
  have HL : Hid (V < pw k) := hv.2
  clear hv
  go_enter Tryz.func91, Tryz.ntmps91
  go_wp2_with fail
  refine C.mono ?_
  rintro e w1 ⟨r, rfl, h⟩
  have H : Hid (Re w w1 r V) := h
  clear C h
  go_wp2
  go_ret
  exact ⟨r, rfl, H.out, HL.out⟩
end Go.Proofs.YtjpjepfmphlneaaGreatDoor
