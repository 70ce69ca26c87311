import Derived.Test.YtpfdaclmchcbiaaDoorShMixN
import Derived.Test.YtpfdaclmchcbiaaDoorShMixW
namespace Go.Proofs.YtpfdaclmchcbiaaDoor.Sha
open Go.RowKit
set_option maxRecDepth 100000

/-- A block taken in. -/
def mixF (h : Int) (ch : List Int) (tl : List UInt8) : List Int := if h = 1 then mixN ch (tl.take 64) else mixW ch tl

def Z128 : List UInt8 := List.replicate 128 0

theorem l8_length (r : R8) : (l8 r).length = 8 := rfl
theorem mixF_length (h : Int) (ch : List Int) (tl : List UInt8) (h8 : ch.length = 8) : (mixF h ch tl).length = 8 := by
  unfold mixF
  split
  · unfold mixN; rw [List.length_zipWith, l8_length]; simp [h8]
  · unfold mixW; rw [List.length_zipWith, l8_length]; simp [h8]

theorem zero128 : ∃ Z : List Value, Z = Z128.map B ∧ ∀ w, (zeroValue 44).run Tryd.prog w = .ok (.agg Z.toArray) w :=
  ⟨_, rfl, zero_run (by kernel_rfl)⟩

theorem oneB (l : List UInt8) : ∀ v ∈ l.map B, v.oneCell' = true := by
  intro v hv
  obtain ⟨c, _, rfl⟩ := List.mem_map.1 hv
  rfl

theorem spl_spl (vs : List Value) (o : Nat) (xs ys : List Value) (h : o + xs.length ≤ vs.length) : spl (spl vs o xs) (o + xs.length) ys = spl vs o (xs ++ ys) := by
  have e : (vs.take o ++ xs).length = o + xs.length := by simp; omega
  unfold spl
  rw [List.take_append_of_le_length (by omega), List.take_of_length_le (by omega), List.drop_append, e, show o + xs.length + ys.length - (o + xs.length) = ys.length by omega, List.drop_of_length_le (by omega), List.drop_drop, List.length_append]
  simp [Nat.add_assoc]

theorem spl_one (vs : List Value) (o : Nat) (v : Value) (h : o < vs.length) : vs.set o v = spl vs o [v] := by
  have := spl_set vs o [] v (by simpa using h)
  rw [spl_nil] at this
  simpa using this

theorem Cl.cells {b : Nat} : ∀ (xs : List Value) (o : Nat) (w : World) (vs : List Value), Cl w b vs → o + xs.length ≤ vs.length → Cl (w.setCells b o xs) b (spl vs o xs)
  | [], o, w, vs, h, _ => by rw [spl_nil]; exact h
  | v :: r, o, w, vs, h, hl => by
    have hl2 : o + (r.length + 1) ≤ vs.length := hl
    have h1 := Cl.cells r (o + 1) (w.setCell ⟨b, o, none⟩ v) (vs.set o v) (h.set o v) (by rw [List.length_set]; omega)
    rw [spl_one vs o v (by omega)] at h1
    have h2 := spl_spl vs o [v] r (by simp; omega)
    rw [List.length_singleton] at h2
    rw [h2] at h1
    exact h1

theorem But.cells {b : Nat} : ∀ (xs : List Value) (o : Nat) (w w' : World), But w w' b → But w (w'.setCells b o xs) b
  | [], _, _, _, h => h
  | v :: r, o, w, w', h => But.cells r (o + 1) w (w'.setCell ⟨b, o, none⟩ v) (h.set o v)

theorem size_cells {b : Nat} : ∀ (xs : List Value) (o : Nat) (w : World), (w.setCells b o xs).heap.size = w.heap.size
  | [], _, _ => rfl
  | v :: r, o, w => by
    have := size_cells (b := b) r (o + 1) (w.setCell ⟨b, o, none⟩ v)
    rw [World.setCells, this]
    simp

theorem Cl.there {w : World} {b : Nat} {vs : List Value} (h : Cl w b vs) (o n : Nat) (hn : o + n ≤ vs.length) : w.there b o n := fun j hj =>
  ⟨by rw [h.cell (o + j) (by omega)]; rfl, h.frozen _⟩

theorem spl_tail (h : Int) (ch : List Int) (ct : Nat) (tl : List UInt8) (h8 : ch.length = 8) (o : Nat) (xs : List UInt8) : spl (stV h ch ct tl) (10 + o) (xs.map B) = stV h ch ct (tl.take o ++ xs ++ tl.drop (o + xs.length)) := by
  unfold spl stV
  have e1 : (ch.map V ++ [Value.int .u64 (ct : Int)]).length = 9 := by simp [h8]
  have e2 : ch.map V ++ Value.int .u64 (ct : Int) :: tl.map B = (ch.map V ++ [Value.int .u64 (ct : Int)]) ++ tl.map B := by simp
  rw [e2, show 10 + o = (9 + o) + 1 by omega, List.take_succ_cons, show 9 + o + 1 + (xs.map B).length = (9 + (o + xs.length)) + 1 by rw [List.length_map]; omega, List.drop_succ_cons, List.take_append, List.drop_append, e1, List.take_of_length_le (by omega), List.drop_of_length_le (by omega), show 9 + o - 9 = o by omega, show 9 + (o + xs.length) - 9 = o + xs.length by omega]
  simp [List.map_take, List.map_drop]

set_option maxRecDepth 100000 in
set_option maxHeartbeats 1000000 in
theorem mix_any (b : Nat) (h : Int) (ch : List Int) (ct : Nat) (tl : List UInt8) (w : World) (H : Cl w b (stV h ch ct tl)) (h8 : ch.length = 8) (ht : tl.length = 128) (T : Tb w) (hb7 : 7 ≤ b) :
    Calls Tryd.prog 21 #[.pointer (some ⟨b, 0, none⟩)] w fun e w' => e = .returned (.tuple #[]) ∧ Cl w' b (stV h (mixF h ch tl) ct Z128) ∧ But w w' b := by
  have g0 := stV_hash H
  have HH : Hid (Cl w b (stV h ch ct tl)) := H
  have HT : Hid (Tb w) := T
  obtain ⟨Z, hZ, hz⟩ := zero128
  have HZ : Hid (True → Z = Z128.map B) := fun _ => hZ
  clear H T hZ
  by_cases h1 : h = 1
  · have HM : Hid (True → mixF h ch tl = mixN ch (tl.take 64)) := fun _ => if_pos h1
    have hl8 : (mixN ch (tl.take 64)).length = 8 := by have := mixF_length h ch tl h8; rw [HM.out trivial] at this; exact this
    subst h1
    go_enter Tryd.func21, Tryd.ntmps21
    go_wp2_with fail
    refine (mixN_any b 1 ch ct tl w HH.out h8 ht HT.out hb7).mono ?_
    rintro e w1 ⟨rfl, hcl, hbut⟩
    have HC : Hid (Cl w1 b (stV 1 (mixN ch (tl.take 64)) ct tl)) := hcl
    have HB : Hid (But w w1 b) := hbut
    clear hcl hbut
    have ht10 : Hid (w1.there b 10 Z.toArray.size) := by
      rw [HZ.out trivial]
      exact HC.out.there 10 _ (by rw [stV_length, hl8]; simp [Z128]; omega)
    have hi10 : Hid ((Tryd.prog.info? 44).map (·.size) = some Z.toArray.size) := by
      show _ = _
      rw [HZ.out trivial]
      kernel_rfl
    have ho10 : Hid (Z.toArray.all (·.oneCell') = true) := by
      show _ = _
      rw [HZ.out trivial]
      exact all_oneCell_toArray (oneB _)
    go_wp2_with (refine wpList_store_mid rfl 44 _ _ rfl b 10 Z.toArray rfl rfl ht10.out hi10.out ho10.out ?_)
    go_end0
    have hc2 := Cl.cells Z 10 w1 _ HC.out (by rw [stV_length, HZ.out trivial, hl8]; simp [Z128]; omega)
    refine ⟨rfl, ?_, But.cells _ _ _ _ HB.out⟩
    rw [HM.out trivial]
    have e := spl_tail 1 (mixN ch (tl.take 64)) ct tl hl8 0 Z128
    rw [← HZ.out trivial] at e
    rw [show 10 + 0 = 10 from rfl] at e
    rw [e, List.drop_of_length_le (by simp [Z128]; omega)] at hc2
    simpa using hc2
  · have HM : Hid (True → mixF h ch tl = mixW ch tl) := fun _ => if_neg h1
    have hl8 : (mixW ch tl).length = 8 := by have := mixF_length h ch tl h8; rw [HM.out trivial] at this; exact this
    go_enter Tryd.func21, Tryd.ntmps21
    go_wp2_with fail
    refine (mixW_any b h ch ct tl w HH.out h8 ht HT.out hb7).mono ?_
    rintro e w1 ⟨rfl, hcl, hbut⟩
    have HC : Hid (Cl w1 b (stV h (mixW ch tl) ct tl)) := hcl
    have HB : Hid (But w w1 b) := hbut
    clear hcl hbut
    have ht10 : Hid (w1.there b 10 Z.toArray.size) := by
      rw [HZ.out trivial]
      exact HC.out.there 10 _ (by rw [stV_length, hl8]; simp [Z128]; omega)
    have hi10 : Hid ((Tryd.prog.info? 44).map (·.size) = some Z.toArray.size) := by
      show _ = _
      rw [HZ.out trivial]
      kernel_rfl
    have ho10 : Hid (Z.toArray.all (·.oneCell') = true) := by
      show _ = _
      rw [HZ.out trivial]
      exact all_oneCell_toArray (oneB _)
    go_wp2_with (refine wpList_store_mid rfl 44 _ _ rfl b 10 Z.toArray rfl rfl ht10.out hi10.out ho10.out ?_)
    go_end0
    have hc2 := Cl.cells Z 10 w1 _ HC.out (by rw [stV_length, HZ.out trivial, hl8]; simp [Z128]; omega)
    refine ⟨rfl, ?_, But.cells _ _ _ _ HB.out⟩
    rw [HM.out trivial]
    have e := spl_tail h (mixW ch tl) ct tl hl8 0 Z128
    rw [← HZ.out trivial] at e
    rw [show 10 + 0 = 10 from rfl] at e
    rw [e, List.drop_of_length_le (by simp [Z128]; omega)] at hc2
    simpa using hc2
end Go.Proofs.YtpfdaclmchcbiaaDoor.Sha