import Derived.Test.YtpfdaclmchcbiaaDoorB6Grp
namespace Go.Proofs.YtpfdaclmchcbiaaDoor.B64
open Go.RowKit
set_option maxRecDepth 100000

/-- The signs of bytes, without filling. -/
def enc (row : ByteArray) : List UInt8 → List UInt8
  | [] => []
  | [x] => sg row (x.toNat * 65536) 2
  | [x, y] => sg row (x.toNat * 65536 + y.toNat * 256) 3
  | x :: y :: z :: r => sg row (x.toNat * 65536 + y.toNat * 256 + z.toNat) 4 ++ enc row r

theorem enc_cons3 (row : ByteArray) (x y z : UInt8) (r : List UInt8) : enc row (x :: y :: z :: r) = sg row (x.toNat * 65536 + y.toNat * 256 + z.toNat) 4 ++ enc row r := by rw [enc]

/-- The bytes of a slice's value can be read in a world. -/
def Rd (w : World) (ao : Option Addr) (l : List UInt8) : Prop :=
  l = [] ∨ ∃ b off, ao = some ⟨b, off, none⟩ ∧ b < w.heap.size ∧ ∀ j, j < l.length → w.cell? ⟨b, off + j, none⟩ = some (B (l.getD j 0))

theorem Rd.below {B' : Nat} {w w' : World} {ao : Option Addr} {l : List UInt8} (h : Rd w ao l) (hb : Below B' w w') (hB : w.heap.size ≤ B') : Rd w' ao l := by
  rcases h with h | ⟨b, off, e, hlt, hc⟩
  · exact .inl h
  · exact .inr ⟨b, off, e, Nat.lt_of_lt_of_le hlt hb.size, fun j hj => by rw [hb.cell (p := ⟨b, off + j, none⟩) (by show b < B'; omega)]; exact hc j hj⟩

/-- A slice's length. -/
def sliceN : Value → Nat
  | .slice _ n _ => n
  | _ => 0

theorem one {l : List UInt8} (h : l.length = 1) : ∃ x, l = [x] := by
  match l, h with
  | [x], _ => exact ⟨x, rfl⟩

theorem two {l : List UInt8} (h : l.length = 2) : ∃ x y, l = [x, y] := by
  match l, h with
  | [x, y], _ => exact ⟨x, y, rfl⟩

theorem three {l : List UInt8} (h : 3 ≤ l.length) : ∃ x y z r, l = x :: y :: z :: r := by
  match l, h with
  | x :: y :: z :: r, _ => exact ⟨x, y, z, r, rfl⟩

set_option maxHeartbeats 1000000 in
theorem spell_any (ao : Option Addr) (c : Nat) (l : List UInt8) (row : ByteArray) (w : World) (hrd : Rd w ao l) (hlc : l.length ≤ c) (hlen : l.length ≤ 140737488355328) (hrow : row.size = 64) :
    Calls Tryd.prog 15 #[.slice ao l.length c, .string row] w fun e w' =>
      e = .returned (.slice (some ⟨w.heap.size, 0, none⟩) (enc row l).length ((l.length + 2) / 3 * 4)) ∧ w'.ownsRow w.heap.size 5 1 (.slice (some ⟨w.heap.size, 0, none⟩) (enc row l).length ((l.length + 2) / 3 * 4)) (enc row l).length ((enc row l).map B) ∧ Below w.heap.size w w' := by
  obtain ⟨i0, hi, hz0, hz1, hz2⟩ := info_parts infoB
  go_enter Tryd.func15, Tryd.ntmps15
  go_wp2_with (at_make; refine wpList_make_own _ rfl _ _ 29 rfl w.heap.size 5 i0 (.int .u8 0) 1 Tryd.underlying29 hi hz0 hz1 _ _ _ ((l.length + 2) / 3 * 4) rfl rfl (by omega) ?b2 ?b3 (Nat.le_refl _) ?_)
  case b2 => rw [hz2]; omega
  case b3 => unfold maxLen; omega
  intro w0 hown0 hgrow0
  go_wp2
  go_loopw [0, 5] (fun s t wr => ∃ (a' : Option Addr) (c' : Nat) (r xs : List UInt8), s = .slice a' r.length c' ∧ r.length ≤ c' ∧ r.length ≤ l.length ∧ Rd w a' r ∧ t = .slice (some ⟨w.heap.size, 0, none⟩) xs.length ((l.length + 2) / 3 * 4) ∧
      wr.ownsRow w.heap.size 5 1 (.slice (some ⟨w.heap.size, 0, none⟩) xs.length ((l.length + 2) / 3 * 4)) xs.length (xs.map B) ∧ Hid (enc row l = xs ++ enc row r) ∧ xs.length + (r.length + 2) / 3 * 4 ≤ (l.length + 2) / 3 * 4 ∧ Below w.heap.size w wr)
    (fun s _ _ => sliceN s)
  case atStart => exact ⟨ao, c, l, [], rfl, hlc, Nat.le_refl _, hrd, rfl, hown0, by simp [Hid], by simp, (Below.refl _ _).grown hgrow0 (Nat.le_refl _) (fun k h => by cases h)⟩
  case round =>
    obtain ⟨a', c', r, xs, rfl, hrc, hrl, hrd', rfl, hwr, He, hfit, hbl⟩ := hrel
    by_cases h3 : 3 ≤ r.length
    · obtain ⟨x, y, z, r', rfl⟩ := three h3
      rcases hrd' with hrd' | ⟨b, off, rfl, hb, hcr⟩
      · cases hrd'
      have h0 : wr.cell? ⟨b, off, none⟩ = some (.int .u8 x.toNat) := (hbl.cell (p := ⟨b, off, none⟩) hb).trans (hcr 0 (by simp))
      have h1 : wr.cell? ⟨b, off + 1, none⟩ = some (.int .u8 y.toNat) := (hbl.cell (p := ⟨b, off + 1, none⟩) hb).trans (hcr 1 (by simp))
      have h2 : wr.cell? ⟨b, off + 2, none⟩ = some (.int .u8 z.toNat) := (hbl.cell (p := ⟨b, off + 2, none⟩) hb).trans (hcr 2 (by simp))
      have Hc : Hid (∀ j, j < r'.length → w.cell? ⟨b, off + 3 + j, none⟩ = some (B (r'.getD j 0))) := fun j hj => by
        have := hcr (3 + j) (by simp; omega)
        rw [Nat.add_assoc, this]
        congr 2
        rw [Nat.add_comm 3 j]; rfl
      clear hcr
      simp only [List.length_cons] at hrc hrl hfit h3
      go_wp2_with fail
      refine (grp3 w.heap.size w.heap.size xs.length _ b off _ xs x y z row wr hwr (by omega) hrow (Nat.le_trans (Nat.le_refl _) hbl.size) (Nat.le_refl _) h0 h1 h2).mono ?_
      rintro e w1 ⟨rfl, hown1, hbl1⟩
      go_wp2
      go_roundw
      case rel =>
        have el : (xs ++ sg row (x.toNat * 65536 + y.toNat * 256 + z.toNat) 4).length = xs.length + 4 := by simp [sg_length]
        refine ⟨_, c' - 3, r', xs ++ sg row (x.toNat * 65536 + y.toNat * 256 + z.toNat) 4, rfl, by omega, by omega, ?_, by rw [el], by rw [el]; exact hown1, ?_, by rw [el]; omega, hbl.trans hbl1⟩
        · by_cases hn : r' = []
          · exact .inl hn
          · have hp : 0 < r'.length := List.length_pos_iff.2 hn
            exact .inr ⟨b, off + 3, by rw [if_neg (by omega)], hb, Hc.out⟩
        · show enc row l = _
          rw [List.append_assoc, ← enc_cons3]
          exact He.out
      case measure => simp [sliceN]; omega
    · have hlt : r.length = 0 ∨ r.length = 1 ∨ r.length = 2 := by omega
      rcases hlt with hlt | hlt | hlt
      · obtain rfl := List.eq_nil_of_length_eq_zero hlt
        simp only [List.length_nil] at hrc hrl hfit h3
        go_wp2_with fail
        refine (grp0 _ _ _ row wr).mono ?_
        rintro e w1 ⟨rfl, rfl⟩
        go_wp2
        go_ret
        have e1 : enc row l = xs := by have := He.out; simpa [enc] using this
        rw [e1]
        exact ⟨rfl, hwr, hbl⟩
      · obtain ⟨x, rfl⟩ := one hlt
        rcases hrd' with hrd' | ⟨b, off, rfl, hb, hcr⟩
        · cases hrd'
        have h0 : wr.cell? ⟨b, off, none⟩ = some (.int .u8 x.toNat) := (hbl.cell (p := ⟨b, off, none⟩) hb).trans (hcr 0 (by simp))
        clear hcr
        simp only [List.length_cons, List.length_nil] at hrc hrl hfit h3
        go_wp2_with fail
        refine (grp1 w.heap.size w.heap.size xs.length _ b off _ xs x row wr hwr (by omega) hrow (Nat.le_trans (Nat.le_refl _) hbl.size) (Nat.le_refl _) h0).mono ?_
        rintro e w1 ⟨rfl, hown1, hbl1⟩
        go_wp2
        go_ret
        have e1 : enc row l = xs ++ sg row (x.toNat * 65536) 2 := He.out
        have e2 : (xs ++ sg row (x.toNat * 65536) 2).length = xs.length + 2 := by simp [sg_length]
        rw [e1, e2]
        exact ⟨rfl, hown1, hbl.trans hbl1⟩
      · obtain ⟨x, y, rfl⟩ := two hlt
        rcases hrd' with hrd' | ⟨b, off, rfl, hb, hcr⟩
        · cases hrd'
        have h0 : wr.cell? ⟨b, off, none⟩ = some (.int .u8 x.toNat) := (hbl.cell (p := ⟨b, off, none⟩) hb).trans (hcr 0 (by simp))
        have h1 : wr.cell? ⟨b, off + 1, none⟩ = some (.int .u8 y.toNat) := (hbl.cell (p := ⟨b, off + 1, none⟩) hb).trans (hcr 1 (by simp))
        clear hcr
        simp only [List.length_cons, List.length_nil] at hrc hrl hfit h3
        go_wp2_with fail
        refine (grp2 w.heap.size w.heap.size xs.length _ b off _ xs x y row wr hwr (by omega) hrow (Nat.le_trans (Nat.le_refl _) hbl.size) (Nat.le_refl _) h0 h1).mono ?_
        rintro e w1 ⟨rfl, hown1, hbl1⟩
        go_wp2
        go_ret
        have e1 : enc row l = xs ++ sg row (x.toNat * 65536 + y.toNat * 256) 3 := He.out
        have e2 : (xs ++ sg row (x.toNat * 65536 + y.toNat * 256) 3).length = xs.length + 3 := by simp [sg_length]
        rw [e1, e2]
        exact ⟨rfl, hown1, hbl.trans hbl1⟩

end Go.Proofs.YtpfdaclmchcbiaaDoor.B64