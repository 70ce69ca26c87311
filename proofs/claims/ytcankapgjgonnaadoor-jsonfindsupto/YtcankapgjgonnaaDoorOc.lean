import Derived.Test.YtcankapgjgonnaaDoorOa
import Derived.Test.YtcankapgjgonnaaDoorFa
namespace Go.Proofs.YtcankapgjgonnaaDoor
open Go.RowKit Go.Shelf

/-- A node of an own list is written over. -/
theorem no_set {B : Nat} {w : World} {g n cap : Nat} {Y : List Nd} (h : NO B w (.slice (some ⟨g, 0, none⟩) n cap) Y) (hn : Y.length = n) (k : Nat) (y : Nd) (hk : k < n) :
    NO B (w.setCells g (k * 6) (nC y)) (.slice (some ⟨g, 0, none⟩) n cap) (Y.set k y) ∧ w.grownBy (w.setCells g (k * 6) (nC y)) (some g) ∧ w.there g (k * 6) 6 := by
  have hN2 := h
  unfold NO at hN2
  rw [hn] at hN2
  have hYk : Y = Y.take k ++ (Y.getD k (nd0 0) :: Y.drop (k + 1)) := by rw [← dropN (by omega), List.take_append_drop]
  have hs := own_setCells (nC y) _ (k * 6) w hN2
  have hsn := setL_node (Y.take k) (Y.getD k (nd0 0)) y (Y.drop (k + 1))
  rw [List.length_take_of_le (by omega), ← hYk] at hsn
  rw [hsn] at hs
  refine ⟨?_, hs.2, own_there hN2 (by rw [nCs_length, hn]; omega)⟩
  unfold NO
  rw [List.length_set, hn, List.set_eq_take_append_cons_drop, if_pos (by omega)]
  exact hs.1
/-- The second node's name is written over. -/
theorem no_key {B : Nat} {w : World} {g n cap : Nat} {a b : Nd} {R : List Nd} (h : NO B w (.slice (some ⟨g, 0, none⟩) n cap) (a :: b :: R)) (hn : (a :: b :: R).length = n) (y : List UInt8) :
    NO B (w.setCell ⟨g, 7, none⟩ (.string ⟨y.toArray⟩)) (.slice (some ⟨g, 0, none⟩) n cap) (a :: { b with key := y } :: R) ∧ w.grownBy (w.setCell ⟨g, 7, none⟩ (.string ⟨y.toArray⟩)) (some g) := by
  have hN2 := h
  unfold NO at hN2
  rw [hn] at hN2
  have hs := World.ownsRow.stored hN2 7 (.string ⟨y.toArray⟩)
  refine ⟨?_, hs.2⟩
  unfold NO
  rw [show (a :: { b with key := y } :: R).length = n from hn]
  exact hs.1

/-- The flat list's nodes, as the law's loop writes them. -/
def flN (key : List UInt8) (D : Nat → List UInt8) (i : Nat) : Nd := ⟨1, (key ++ [113]) ++ D i, [], false, 0, 0⟩
def flL (key : List UInt8) (D : Nat → List UInt8) (n : Nat) : List Nd := (List.range n).map (flN key D)
/-- The second node has the name. -/
def keyd2 (key : List UInt8) : List Nd → List Nd
  | a :: b :: r => a :: { b with key := key } :: r
  | l => l
theorem keyd2_length (key : List UInt8) : ∀ l : List Nd, (keyd2 key l).length = l.length
  | [] => rfl
  | [_] => rfl
  | _ :: _ :: _ => rfl
/-- The flat list. -/
def flatF (key : List UInt8) (D : Nat → List UInt8) (n : Nat) : List Nd := keyd2 key ((flL key D n).set 0 ⟨7, [], [], false, 0, (n : Int) - 1⟩)
theorem flL_length (key : List UInt8) (D : Nat → List UInt8) (n : Nat) : (flL key D n).length = n := by simp [flL]
theorem flatF_length (key : List UInt8) (D : Nat → List UInt8) (n : Nat) : (flatF key D n).length = n := by
  unfold flatF
  rw [keyd2_length, List.length_set, flL_length]
theorem fl_step {key : List UInt8} {D : Nat → List UInt8} {k : Nat} {X : List Nd} (hk : k < X.length) : (flL key D k ++ X.drop k).set k (flN key D k) = flL key D (k + 1) ++ X.drop (k + 1) := by
  rw [List.set_append_right _ _ (by rw [flL_length]; omega), flL_length, Nat.sub_self, List.drop_eq_getElem_cons hk, List.set_cons_zero]
  unfold flL
  rw [List.range_succ, List.map_append, List.map_singleton, List.append_assoc]
  rfl

theorem of_below {w w' : World} (h : Below w.heap.size w w') (row : Option Nat) : w.grownBy w' row := ⟨h.os, h.tape, h.output, h.size, fun k hk _ => h.block k hk⟩

set_option maxRecDepth 100000 in
set_option maxHeartbeats 16000000 in
/-- The law's flat, on an own list with whatever stands behind it; D: what Itoa answers. -/
theorem flat_any (l M : List Nd) (g c B : Nat) (key : List UInt8) (D : Nat → List UInt8) (w : World) (hk : NO B w (.slice (some ⟨g, 0, none⟩) (l.length + M.length) c) (l ++ M)) (h0 : 0 < l.length) (hl : l.length ≤ 100000000) (hkl : key.length ≤ 1000000000) (hD : ∀ i, (D i).length ≤ 100)
    (HI : ∀ (i : Nat) (wq : World), i ≤ 100000000 → w.grownBy wq (some g) → Calls Tryd.prog 31 #[.int .i64 (i : Int)] wq fun e w' => e = .returned (.string ⟨(D i).toArray⟩) ∧ Below wq.heap.size wq w') :
    Calls Tryd.prog 24 #[.slice (some ⟨g, 0, none⟩) l.length c, .string ⟨key.toArray⟩] w fun e w' => e = .returned (.tuple #[]) ∧ NO B w' (.slice (some ⟨g, 0, none⟩) (l.length + M.length) c) (flatF key D l.length ++ M) ∧ w.grownBy w' (some g) := by
  have HIq : Hid (∀ (i : Nat) (wq : World), i ≤ 100000000 → w.grownBy wq (some g) → Calls Tryd.prog 31 #[.int .i64 (i : Int)] wq fun e w' => e = .returned (.string ⟨(D i).toArray⟩) ∧ Below wq.heap.size wq w') := HI
  have HD : Hid (∀ i, (D i).length ≤ 100) := hD
  have HN : Hid (NO B w (.slice (some ⟨g, 0, none⟩) (l.length + M.length) c) (l ++ M)) := hk
  have hinf : (Tryd.prog.info? 33).map (·.size) = some 6 := by kernel_rfl
  clear HI hD hk
  go_enter Tryd.func24, Tryd.ntmps24
  go_wp2
  go_loopw [4] (fun s wx => ∃ k : Nat, s = .int .i64 k ∧ k ≤ l.length ∧ NO B wx (.slice (some ⟨g, 0, none⟩) (l.length + M.length) c) (flL key D k ++ (l ++ M).drop k) ∧ w.grownBy wx (some g)) (fun s _ => l.length - (intOf s).toNat)
  case atStart => exact ⟨0, rfl, Nat.zero_le _, by simpa [flL] using HN.out, World.grownBy.refl _ _⟩
  case round =>
    obtain ⟨k, rfl, hk, hN, hg⟩ := hrel
    have HNr : Hid (NO B wr (.slice (some ⟨g, 0, none⟩) (l.length + M.length) c) (flL key D k ++ (l ++ M).drop k)) := hN
    have HG : Hid (w.grownBy wr (some g)) := hg
    clear hN hg HN
    by_cases hlt : k < l.length
    · have q0 : decide ((k : Int) < (l.length : Int)) = true := decide_eq_true (by omega)
      have q1 : (k : Int) < (l.length : Int) := by omega
      have CI := HIq.out k wr (by omega) HG.out
      have hdk := HD.out k
      obtain ⟨dk, hdke⟩ : ∃ d, D k = d := ⟨_, rfl⟩
      rw [hdke] at CI hdk
      have HDK : Hid (D k = dk) := hdke
      have s1 : key.length + 1 ≤ 9223372036854775807 := by omega
      have s2 : ¬ (9223372036854775807 < key.length + 1) := by omega
      clear hdke
      go_wp2_with fail
      refine CI.mono ?_
      clear CI
      rintro e w1 ⟨rfl, hb⟩
      have hg1 : w.grownBy w1 (some g) := HG.out.trans (of_below hb _)
      have hlen : (flL key D k ++ (l ++ M).drop k).length = l.length + M.length := by simp [flL_length]; omega
      have hs := no_set (own_below HNr.out hb (Nat.le_refl _)) hlen k (flN key D k) (by omega)
      rw [fl_step (by simp; omega)] at hs
      obtain ⟨w2, hw2⟩ : ∃ x, w1.setCells g (k * 6) (nC (flN key D k)) = x := ⟨_, rfl⟩
      rw [hw2] at hs
      have HS : Hid (NO B w2 (.slice (some ⟨g, 0, none⟩) (l.length + M.length) c) (flL key D (k + 1) ++ (l ++ M).drop (k + 1))) := hs.1
      have HG2 : Hid (w.grownBy w2 (some g)) := hg1.trans hs.2.1
      have HTh : Hid (w1.there g (k * 6) 6) := hs.2.2
      have HW2 : Hid (w1.setCells g (k * 6) (#[.int .i64 1, .string ⟨((key ++ [113]) ++ dk).toArray⟩, .string ⟨#[]⟩, .bool false, .int .i64 0, .int .i64 0] : Array Value).toList = w2) := by rw [← hw2, ← HDK.out]; rfl
      have s3 : (key ++ [113]).length + dk.length ≤ 9223372036854775807 := by simp; omega
      have s4 : key.length + 1 + dk.length ≤ 9223372036854775807 := by omega
      clear hw2 hs hg1 hb HNr HDK hlen
      go_wp2_with (refine wpList_store_mid rfl 33 (.tmp 19) (.tmp 18) rfl g (k * 6) #[.int .i64 1, .string ⟨((key ++ [113]) ++ dk).toArray⟩, .string ⟨#[]⟩, .bool false, .int .i64 0, .int .i64 0] rfl (by first | rfl | simp) HTh.out hinf (by simp [Value.oneCell']) ?_; rw [HW2.out]; clear HW2 HTh)
      go_roundw
      case rel => exact ⟨k + 1, by go_num, by omega, HS.out, HG2.out⟩
      case measure => simp [intOf]; omega
    · have q0 : decide ((k : Int) < (l.length : Int)) = false := decide_eq_false (by omega)
      obtain rfl : k = l.length := by omega
      have hN1 := HNr.out
      rw [List.drop_left' rfl] at hN1
      have hlen : (flL key D l.length ++ M).length = l.length + M.length := by simp [flL_length]
      have hs := no_set hN1 hlen 0 ⟨7, [], [], false, 0, (l.length : Int) - 1⟩ (by omega)
      rw [List.set_append_left _ _ (by rw [flL_length]; omega)] at hs
      obtain ⟨L, hL⟩ : ∃ L, (flL key D l.length).set 0 ⟨7, [], [], false, 0, (l.length : Int) - 1⟩ = L := ⟨_, rfl⟩
      rw [hL] at hs
      have hLl : L.length = l.length := by rw [← hL, List.length_set, flL_length]
      have HF : Hid (flatF key D l.length = keyd2 key L) := by
        show _ = _
        unfold flatF
        rw [hL]
      obtain ⟨w2, hw2⟩ : ∃ x, wr.setCells g (0 * 6) (nC ⟨7, [], [], false, 0, (l.length : Int) - 1⟩) = x := ⟨_, rfl⟩
      rw [hw2] at hs
      have HS : Hid (NO B w2 (.slice (some ⟨g, 0, none⟩) (l.length + M.length) c) (L ++ M)) := hs.1
      have HG2 : Hid (w.grownBy w2 (some g)) := HG.out.trans hs.2.1
      have HTh : Hid (wr.there g 0 6) := hs.2.2
      have HW2 : Hid (wr.setCells g 0 (#[.int .i64 7, .string ⟨#[]⟩, .string ⟨#[]⟩, .bool false, .int .i64 0, .int .i64 ((l.length : Int) - 1)] : Array Value).toList = w2) := hw2
      have z0 : (0 : Int) < (l.length : Int) := by omega
      clear hw2 hs hN1 hlen hL HNr HG HIq HD hk
      by_cases h1 : 1 < l.length
      · have q2 : decide ((l.length : Int) > 1) = true := decide_eq_true (by omega)
        have q3 : decide ((1 : Int) < (l.length : Int)) = true := decide_eq_true (by omega)
        have z1 : (1 : Int) < (l.length : Int) := by omega
        obtain ⟨a, b, r, rfl⟩ : ∃ a b r, L = a :: b :: r := by
          match L, hLl with
          | [], h => simp at h; omega
          | [_], h => simp at h; omega
          | a :: b :: r, _ => exact ⟨a, b, r, rfl⟩
        have hl2 : (a :: b :: (r ++ M)).length = l.length + M.length := by rw [← hLl]; simp; omega
        have hky := no_key (R := r ++ M) HS.out hl2 key
        have hc7 : w2.cell? ⟨g, 7, none⟩ = some (.string ⟨b.key.toArray⟩) ∧ w2.frozen? ⟨g, 7, none⟩ = false := by
          have h := HS.out
          unfold NO at h
          rw [show ((a :: b :: r) ++ M).length = l.length + M.length from hl2] at h
          exact own_cell h 7 _ rfl
        obtain ⟨k7, f7⟩ := hc7
        have HK : Hid (NO B (w2.setCell ⟨g, 7, none⟩ (.string ⟨key.toArray⟩)) (.slice (some ⟨g, 0, none⟩) (l.length + M.length) c) (flatF key D l.length ++ M)) := by rw [HF.out]; exact hky.1
        have HG3 : Hid (w.grownBy (w2.setCell ⟨g, 7, none⟩ (.string ⟨key.toArray⟩)) (some g)) := HG2.out.trans hky.2
        clear hky hl2 hLl HF HS HG2
        go_wp2_with (refine wpList_store_mid rfl 33 (.tmp 25) (.tmp 24) rfl g 0 #[.int .i64 7, .string ⟨#[]⟩, .string ⟨#[]⟩, .bool false, .int .i64 0, .int .i64 ((l.length : Int) - 1)] rfl rfl HTh.out hinf (by simp [Value.oneCell']) ?_; rw [HW2.out]; clear HW2 HTh)
        go_end0
        exact ⟨rfl, HK.out, HG3.out⟩
      · have q2 : decide ((l.length : Int) > 1) = false := decide_eq_false (by omega)
        have q3 : decide ((1 : Int) < (l.length : Int)) = false := decide_eq_false (by omega)
        have HK : Hid (NO B w2 (.slice (some ⟨g, 0, none⟩) (l.length + M.length) c) (flatF key D l.length ++ M)) := by
          have h := HS.out
          have e := HF.out
          match L, hLl, h, e with
          | [], hh, _, _ => simp at hh; omega
          | [a], _, h, e => rw [e]; exact h
          | _ :: _ :: _, hh, _, _ => simp at hh; omega
        clear hLl HF HS
        go_wp2_with (refine wpList_store_mid rfl 33 (.tmp 25) (.tmp 24) rfl g 0 #[.int .i64 7, .string ⟨#[]⟩, .string ⟨#[]⟩, .bool false, .int .i64 0, .int .i64 ((l.length : Int) - 1)] rfl rfl HTh.out hinf (by simp [Value.oneCell']) ?_; rw [HW2.out]; clear HW2 HTh)
        go_end0
        exact ⟨rfl, HK.out, HG2.out⟩

end Go.Proofs.YtcankapgjgonnaaDoor
