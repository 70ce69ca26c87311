import Derived.Test.YtghfoppojdkhkaaGreatDoorShZ3
import Derived.Test.YtghfoppojdkhkaaGreatDoorShZ4
namespace Go.Proofs.YtghfoppojdkhkaaGreatDoor.Sha
open Go.RowKit
set_option maxRecDepth 100000

/-- A block taken in. -/
def mixF (h : Int) (ch : List Int) (tl : List UInt8) : List Int := if h = 1 then mixN ch (tl.take 64) else mixW ch tl

def Z128 : List UInt8 := List.replicate 128 0

theorem l8_length (r : R8) : (l8 r).length = 8 := rfl
theorem mixF_length (h : Int) (ch : List Int) (tl : List UInt8) (h8 : ch.length = 8) : (mixF h ch tl).length = 8 := by
  unfold mixF
  split
  · unfold mixN; rw [List.length_zipWith, l8_length]; simp [h8]
  · unfold mixW; rw [List.length_zipWith, l8_length]; simp [h8]

theorem zero128 : ∃ Z : List Value, Z = Z128.map B ∧ ∀ w, (zeroValue 123).run Tryz.prog w = .ok (.agg Z.toArray) w :=
  ⟨_, rfl, zero_run (by kernel_rfl)⟩

theorem oneB (l : List UInt8) : ∀ v ∈ l.map B, v.oneCell' = true := by
  intro v hv
  obtain ⟨c, _, rfl⟩ := List.mem_map.1 hv
  rfl

theorem spl_spl (vs : List Value) (o : Nat) (xs ys : List Value) (h : o + xs.length ≤ vs.length) : spl (spl vs o xs) (o + xs.length) ys = spl vs o (xs ++ ys) := by
  have e : (vs.take o ++ xs).length = o + xs.length := by simp; omega
  unfold spl
  rw [List.take_append_of_le_length (by omega), List.take_of_length_le (by omega), List.drop_append, e, show o + xs.length + ys.length - (o + xs.length) = ys.length by omega, List.drop_of_length_le (by omega), List.drop_drop, List.length_append]
  simp [Nat.add_assoc]

theorem spl_one (vs : List Value) (o : Nat) (v : Value) (h : o < vs.length) : vs.set o v = spl vs o [v] := by
  have := spl_set vs o [] v (by simpa using h)
  rw [spl_nil] at this
  simpa using this

theorem Cl.cells {b : Nat} : ∀ (xs : List Value) (o : Nat) (w : World) (vs : List Value), Cl w b vs → o + xs.length ≤ vs.length → Cl (w.setCells b o xs) b (spl vs o xs)
  | [], o, w, vs, h, _ => by rw [spl_nil]; exact h
  | v :: r, o, w, vs, h, hl => by
    have hl2 : o + (r.length + 1) ≤ vs.length := hl
    have h1 := Cl.cells r (o + 1) (w.setCell ⟨b, o, none⟩ v) (vs.set o v) (h.set o v) (by rw [List.length_set]; omega)
    rw [spl_one vs o v (by omega)] at h1
    have h2 := spl_spl vs o [v] r (by simp; omega)
    rw [List.length_singleton] at h2
    rw [h2] at h1
    exact h1

theorem But.cells {b : Nat} : ∀ (xs : List Value) (o : Nat) (w w' : World), But w w' b → But w (w'.setCells b o xs) b
  | [], _, _, _, h => h
  | v :: r, o, w, w', h => But.cells r (o + 1) w (w'.setCell ⟨b, o, none⟩ v) (h.set o v)

theorem size_cells {b : Nat} : ∀ (xs : List Value) (o : Nat) (w : World), (w.setCells b o xs).heap.size = w.heap.size
  | [], _, _ => rfl
  | v :: r, o, w => by
    have := size_cells (b := b) r (o + 1) (w.setCell ⟨b, o, none⟩ v)
    rw [World.setCells, this]
    simp

theorem Cl.there {w : World} {b : Nat} {vs : List Value} (h : Cl w b vs) (o n : Nat) (hn : o + n ≤ vs.length) : w.there b o n := fun j hj =>
  ⟨by rw [h.cell (o + j) (by omega)]; rfl, h.frozen _⟩

theorem spl_tail (h : Int) (ch : List Int) (ct : Nat) (tl : List UInt8) (h8 : ch.length = 8) (o : Nat) (xs : List UInt8) : spl (stV h ch ct tl) (10 + o) (xs.map B) = stV h ch ct (tl.take o ++ xs ++ tl.drop (o + xs.length)) := by
  unfold spl stV
  have e1 : (ch.map V ++ [Value.int .u64 (ct : Int)]).length = 9 := by simp [h8]
  have e2 : ch.map V ++ Value.int .u64 (ct : Int) :: tl.map B = (ch.map V ++ [Value.int .u64 (ct : Int)]) ++ tl.map B := by simp
  rw [e2, show 10 + o = (9 + o) + 1 by omega, List.take_succ_cons, show 9 + o + 1 + (xs.map B).length = (9 + (o + xs.length)) + 1 by rw [List.length_map]; omega, List.drop_succ_cons, List.take_append, List.drop_append, e1, List.take_of_length_le (by omega), List.drop_of_length_le (by omega), show 9 + o - 9 = o by omega, show 9 + (o + xs.length) - 9 = o + xs.length by omega]
  simp [List.map_take, List.map_drop]

set_option maxRecDepth 100000 in
set_option maxHeartbeats 1000000 in
theorem mix_any (b : Nat) (h : Int) (ch : List Int) (ct : Nat) (tl : List UInt8) (w : World) (H : Cl w b (stV h ch ct tl)) (h8 : ch.length = 8) (ht : tl.length = 128) (T : Tb w) (hb7 : 2 ≤ b) :
    Calls Tryz.prog 97 #[.pointer (some ⟨b, 0, none⟩)] w fun e w' => e = .returned (.tuple #[]) ∧ Cl w' b (stV h (mixF h ch tl) ct Z128) ∧ But w w' b := by
  have g0 := stV_hash H
  have HH : Hid (Cl w b (stV h ch ct tl)) := H
  have HT : Hid (Tb w) := T
  obtain ⟨Z, hZ, hz⟩ := zero128
  have HZ : Hid (True → Z = Z128.map B) := fun _ => hZ
  clear H T hZ
  by_cases h1 : h = 1
  · have HM : Hid (True → mixF h ch tl = mixN ch (tl.take 64)) := fun _ => if_pos h1
    have hl8 : (mixN ch (tl.take 64)).length = 8 := by have := mixF_length h ch tl h8; rw [HM.out trivial] at this; exact this
    subst h1
    go_enter Tryz.func97, Tryz.ntmps97
    go_wp2_with fail
    refine (mixN_any b 1 ch ct tl w HH.out h8 ht HT.out hb7).mono ?_
    rintro e w1 ⟨rfl, hcl, hbut⟩
    have HC : Hid (Cl w1 b (stV 1 (mixN ch (tl.take 64)) ct tl)) := hcl
    have HB : Hid (But w w1 b) := hbut
    clear hcl hbut
    have ht10 : Hid (w1.there b 10 Z.toArray.size) := by
      rw [HZ.out trivial]
      exact HC.out.there 10 _ (by rw [stV_length, hl8]; simp [Z128]; omega)
    have hi10 : Hid ((Tryz.prog.info? 123).map (·.size) = some Z.toArray.size) := by
      show _ = _
      rw [HZ.out trivial]
      kernel_rfl
    have ho10 : Hid (Z.toArray.all (·.oneCell') = true) := by
      show _ = _
      rw [HZ.out trivial]
      exact all_oneCell_toArray (oneB _)
    go_wp2_with (refine wpList_store_mid rfl 123 _ _ rfl b 10 Z.toArray rfl rfl ht10.out hi10.out ho10.out ?_)
    go_end0
    have hc2 := Cl.cells Z 10 w1 _ HC.out (by rw [stV_length, HZ.out trivial, hl8]; simp [Z128]; omega)
    refine ⟨rfl, ?_, But.cells _ _ _ _ HB.out⟩
    rw [HM.out trivial]
    have e := spl_tail 1 (mixN ch (tl.take 64)) ct tl hl8 0 Z128
    rw [← HZ.out trivial] at e
    rw [show 10 + 0 = 10 from rfl] at e
    rw [e, List.drop_of_length_le (by simp [Z128]; omega)] at hc2
    simpa using hc2
  · have HM : Hid (True → mixF h ch tl = mixW ch tl) := fun _ => if_neg h1
    have hl8 : (mixW ch tl).length = 8 := by have := mixF_length h ch tl h8; rw [HM.out trivial] at this; exact this
    go_enter Tryz.func97, Tryz.ntmps97
    go_wp2_with fail
    refine (mixW_any b h ch ct tl w HH.out h8 ht HT.out hb7).mono ?_
    rintro e w1 ⟨rfl, hcl, hbut⟩
    have HC : Hid (Cl w1 b (stV h (mixW ch tl) ct tl)) := hcl
    have HB : Hid (But w w1 b) := hbut
    clear hcl hbut
    have ht10 : Hid (w1.there b 10 Z.toArray.size) := by
      rw [HZ.out trivial]
      exact HC.out.there 10 _ (by rw [stV_length, hl8]; simp [Z128]; omega)
    have hi10 : Hid ((Tryz.prog.info? 123).map (·.size) = some Z.toArray.size) := by
      show _ = _
      rw [HZ.out trivial]
      kernel_rfl
    have ho10 : Hid (Z.toArray.all (·.oneCell') = true) := by
      show _ = _
      rw [HZ.out trivial]
      exact all_oneCell_toArray (oneB _)
    go_wp2_with (refine wpList_store_mid rfl 123 _ _ rfl b 10 Z.toArray rfl rfl ht10.out hi10.out ho10.out ?_)
    go_end0
    have hc2 := Cl.cells Z 10 w1 _ HC.out (by rw [stV_length, HZ.out trivial, hl8]; simp [Z128]; omega)
    refine ⟨rfl, ?_, But.cells _ _ _ _ HB.out⟩
    rw [HM.out trivial]
    have e := spl_tail h (mixW ch tl) ct tl hl8 0 Z128
    rw [← HZ.out trivial] at e
    rw [show 10 + 0 = 10 from rfl] at e
    rw [e, List.drop_of_length_le (by simp [Z128]; omega)] at hc2
    simpa using hc2
end Go.Proofs.YtghfoppojdkhkaaGreatDoor.Sha
namespace Go.Proofs.YtghfoppojdkhkaaGreatDoor.Sha
open Go.RowKit
set_option maxRecDepth 100000

/-- Where the sums begin. -/
def st0 (h : Int) : List Int :=
  if h = 1 then (List.range 8).map fun i => SQ.getD i 0 / 4294967296
  else if h = 2 then (List.range 8).map fun i => SQ.getD (i + 8) 0
  else (List.range 8).map fun i => SQ.getD i 0

/-- A block of a text, with noughts behind it up to 128 bytes. -/
def bkF (h : Int) (m : List UInt8) (i : Nat) : List UInt8 := (m.drop (i * blk h)).take (blk h) ++ List.replicate (128 - ((m.drop (i * blk h)).take (blk h)).length) 0
/-- The chain behind n blocks. -/
def chF (h : Int) (m : List UInt8) : Nat → List Int
  | 0 => st0 h
  | n + 1 => mixF h (chF h m n) (bkF h m n)
/-- The chain of a text's whole blocks; what fills none. -/
def cF (h : Int) (m : List UInt8) : List Int := chF h m (m.length / blk h)
def tF (h : Int) (m : List UInt8) : List UInt8 := bkF h m (m.length / blk h)
/-- A state of these bytes. -/
def Sta (w : World) (b : Nat) (h : Int) (m : List UInt8) : Prop := Cl w b (stV h (cF h m) m.length (tF h m))

/-- It is a hash. -/
def isH (h : Int) : Prop := h = 1 ∨ h = 2 ∨ h = 3
theorem blk_pos {h : Int} (hh : isH h) : 0 < blk h ∧ blk h ≤ 128 := by rcases hh with rfl | rfl | rfl <;> decide

theorem st0_length (h : Int) : (st0 h).length = 8 := by unfold st0; (repeat' split) <;> simp
theorem chF_length (h : Int) (m : List UInt8) (n : Nat) : (chF h m n).length = 8 := by
  induction n with
  | zero => exact st0_length h
  | succ n ih => exact mixF_length h _ _ ih
theorem bkF_length (h : Int) (m : List UInt8) (i : Nat) (hb : blk h ≤ 128) : (bkF h m i).length = 128 := by
  unfold bkF
  rw [List.length_append, List.length_replicate, List.length_take]
  omega
theorem cF_length (h : Int) (m : List UInt8) : (cF h m).length = 8 := chF_length _ _ _
theorem tF_length {h : Int} (hh : isH h) (m : List UInt8) : (tF h m).length = 128 := bkF_length _ _ _ (blk_pos hh).2

theorem bkF_app (h : Int) (m y : List UInt8) (i : Nat) (hi : (i + 1) * blk h ≤ m.length) : bkF h (m ++ y) i = bkF h m i := by
  unfold bkF
  have e : (i + 1) * blk h = i * blk h + blk h := Nat.succ_mul _ _
  rw [List.drop_append_of_le_length (by omega), List.take_append_of_le_length (by rw [List.length_drop]; omega)]
theorem chF_app (h : Int) (m y : List UInt8) (n : Nat) (hn : n * blk h ≤ m.length) : chF h (m ++ y) n = chF h m n := by
  induction n with
  | zero => rfl
  | succ n ih =>
    have e : (n + 1) * blk h = n * blk h + blk h := Nat.succ_mul _ _
    rw [chF, chF, ih (by omega), bkF_app h m y n hn]

/-- What fills no block yet. -/
def rF (h : Int) (m : List UInt8) : List UInt8 := m.drop (m.length / blk h * blk h)
theorem rF_length (h : Int) (m : List UInt8) : (rF h m).length = m.length % blk h := by
  unfold rF
  rw [List.length_drop]
  have := Nat.div_add_mod m.length (blk h)
  rw [Nat.mul_comm] at this
  omega
theorem tF_eq (h : Int) (m : List UInt8) (hb : 0 < blk h) : tF h m = rF h m ++ List.replicate (128 - m.length % blk h) 0 := by
  unfold tF bkF
  have e : ((m.drop (m.length / blk h * blk h)).take (blk h)) = rF h m := List.take_of_length_le (by
    show (rF h m).length ≤ _
    rw [rF_length]
    exact Nat.le_of_lt (Nat.mod_lt _ hb))
  rw [e, rF_length]
theorem bk_app (h : Int) (m y : List UInt8) (hy : m.length % blk h + y.length ≤ blk h) :
    bkF h (m ++ y) (m.length / blk h) = rF h m ++ y ++ List.replicate (128 - (m.length % blk h + y.length)) 0 := by
  have hq : m.length / blk h * blk h ≤ m.length := Nat.div_mul_le_self _ _
  unfold bkF
  have e : ((m ++ y).drop (m.length / blk h * blk h)).take (blk h) = rF h m ++ y := by
    rw [List.drop_append_of_le_length hq]
    exact List.take_of_length_le (by
      show (rF h m ++ y).length ≤ _
      rw [List.length_append, rF_length]; exact hy)
  rw [e, List.length_append, rF_length]

/-- Bytes put behind a text, no more than its last block has room for: what stands in the tail. -/
theorem tail_app (h : Int) (m y : List UInt8) (hb : 0 < blk h ∧ blk h ≤ 128) (hy : m.length % blk h + y.length ≤ blk h) :
    (tF h m).take (m.length % blk h) ++ y ++ (tF h m).drop (m.length % blk h + y.length) = bkF h (m ++ y) (m.length / blk h) := by
  rw [bk_app h m y hy, tF_eq h m hb.1]
  have e : (rF h m).length = m.length % blk h := rF_length h m
  rw [List.take_append_of_le_length (by omega), List.take_of_length_le (by omega), List.drop_append, List.drop_of_length_le (by omega), e, show m.length % blk h + y.length - m.length % blk h = y.length by omega, List.drop_replicate, List.nil_append]
  congr 2
  omega

theorem div_less (a n k : Nat) (hk : 0 < k) (h : a % k + n < k) : (a + n) / k = a / k ∧ (a + n) % k = a % k + n := by
  have h1 := Nat.div_add_mod a k
  have e : a + n = a % k + n + k * (a / k) := by omega
  constructor
  · rw [e, Nat.add_mul_div_left _ _ hk, Nat.div_eq_of_lt h, Nat.zero_add]
  · rw [e, Nat.add_mul_mod_self_left, Nat.mod_eq_of_lt h]
theorem div_full (a n k : Nat) (hk : 0 < k) (h : a % k + n = k) : (a + n) / k = a / k + 1 ∧ (a + n) % k = 0 := by
  have h1 := Nat.div_add_mod a k
  have e : a + n = k * (a / k + 1) := by rw [Nat.mul_add]; omega
  constructor
  · rw [e, Nat.mul_div_cancel_left _ hk]
  · rw [e, Nat.mul_mod_right]

theorem app_less (h : Int) (m y : List UInt8) (hb : 0 < blk h ∧ blk h ≤ 128) (hy : m.length % blk h + y.length < blk h) :
    cF h (m ++ y) = cF h m ∧ tF h (m ++ y) = (tF h m).take (m.length % blk h) ++ y ++ (tF h m).drop (m.length % blk h + y.length) := by
  have h1 := div_less m.length y.length (blk h) hb.1 hy
  rw [tail_app h m y hb (by omega)]
  unfold cF tF
  rw [List.length_append, h1.1]
  exact ⟨chF_app h m y _ (Nat.div_mul_le_self _ _), rfl⟩
theorem app_full (h : Int) (m y : List UInt8) (hb : 0 < blk h ∧ blk h ≤ 128) (hy : m.length % blk h + y.length = blk h) :
    cF h (m ++ y) = mixF h (cF h m) ((tF h m).take (m.length % blk h) ++ y ++ (tF h m).drop (m.length % blk h + y.length)) ∧ tF h (m ++ y) = Z128 := by
  have h1 := div_full m.length y.length (blk h) hb.1 hy
  rw [tail_app h m y hb (by omega)]
  constructor
  · unfold cF
    rw [List.length_append, h1.1, chF, chF_app h m y _ (Nat.div_mul_le_self _ _)]
  · rw [tF_eq h _ hb.1]
    have e : rF h (m ++ y) = [] := List.eq_nil_of_length_eq_zero (by rw [rF_length, List.length_append, h1.2])
    rw [e, List.length_append, h1.2]
    rfl

end Go.Proofs.YtghfoppojdkhkaaGreatDoor.Sha
namespace Go.Proofs.YtghfoppojdkhkaaGreatDoor.Sha
open Go.RowKit
set_option maxRecDepth 100000

/-- A state's cells behind its hash. -/
def stR (ch : List Int) (ct : Nat) (tl : List UInt8) : List Value := ch.map V ++ (.int .u64 (ct : Int) :: tl.map B)

theorem zero138 : ∃ Z : List Value, Z = stR (List.replicate 8 0) 0 Z128 ∧ ∀ w, (zeroValue 125).run Tryz.prog w = .ok (.agg (.int .i64 0 :: Z).toArray) w :=
  ⟨_, rfl, zero_run (by kernel_rfl)⟩

theorem descState : ∃ d, Tryz.prog.underlying 125 = some d ∧ d.isRow = true := ⟨_, Tryz.underlying125, rfl⟩

theorem oneS (h : Int) (ch : List Int) (ct : Nat) (tl : List UInt8) : ∀ v ∈ stV h ch ct tl, v.oneCell' = true := by
  intro v hv
  unfold stV at hv
  rcases List.mem_cons.1 hv with rfl | hv
  · rfl
  rcases List.mem_append.1 hv with hv | hv
  · obtain ⟨c, _, rfl⟩ := List.mem_map.1 hv
    rfl
  rcases List.mem_cons.1 hv with rfl | hv
  · rfl
  · exact oneB _ v hv

set_option maxRecDepth 100000 in
set_option maxHeartbeats 1000000 in
theorem new_1 (w : World) (T : Tb w) :
    Calls Tryz.prog 76 #[.int .i64 1] w fun e w' => e = .returned (.pointer (some ⟨w.heap.size, 0, none⟩)) ∧ Sta w' w.heap.size 1 [] ∧ Below w.heap.size w w' := by
  have HT : Hid (Tb w) := T
  obtain ⟨Z, hZ, hz⟩ := zero138
  have hA : Hid (Cl (w.alloc (.cells (.int .i64 1 :: Z : List Value).toArray 125)) w.heap.size (stV 1 ((st0 1).take 0 ++ (List.replicate 8 (0 : Int)).drop 0) 0 Z128)) := by rw [hZ]; exact alloc_cl _ _ _
  have hB : Hid (Below w.heap.size w (w.alloc (.cells (.int .i64 1 :: Z : List Value).toArray 125))) := alloc_below _ _
  have hg : 2 ≤ w.heap.size := by
    rcases Nat.lt_or_ge 1 w.heap.size with h1 | h1
    · exact h1
    · exfalso
      have := T.k 0 (by omega)
      unfold World.cell? at this
      simp [Array.getElem?_eq_none h1] at this
  clear T hZ
  go_enter Tryz.func76, Tryz.ntmps76
  go_wp2
  generalize w.alloc (.cells (.int .i64 1 :: Z : List Value).toArray 125) = w0 at hA hB ⊢
  generalize hg0 : w.heap.size = g at *
  clear hz
  go_loopw [8] (fun s ws => ∃ k : Nat, s = .int .i64 (k : Int) ∧ k ≤ 8 ∧ Hid (Cl ws g (stV 1 ((st0 1).take k ++ (List.replicate 8 (0 : Int)).drop k) 0 Z128)) ∧ Hid (Below g w ws)) (fun s _ => 8 - (intOf s).toNat)
  case atStart => exact ⟨0, rfl, by omega, hA, hB⟩
  case round =>
    obtain ⟨k, rfl, hk, hcl, hbel⟩ := hrel
    by_cases hlt : k < 8
    · have gS := (HT.out.below (hg0 ▸ hbel.out)).s k (by omega)
      unfold V at gS
      have hll : ((st0 1).take k ++ (List.replicate 8 (0 : Int)).drop k).length = 8 := by simp [st0_length]; omega
      have gf := hcl.out.frozen (1 + k)
      have gc := stV_chain hcl.out k (by omega)
      generalize ((st0 1).take k ++ (List.replicate 8 (0 : Int)).drop k)[k] = old at gc
      unfold V at gc
      have Hy : Hid (True → (st0 1).getD k 0 = SQ.getD k 0 / 4294967296) := fun _ => by simp [st0, hlt]
      generalize SQ.getD (k) 0 = x at *
      clear hA hB
      go_wp2
      refine wp_region_tail 9 (by kernel_rfl) (by kernel_rfl) ?_
      simp only [List.take_succ_cons, List.take_zero, List.drop_succ_cons, List.drop_zero]
      repeat (first | go_big_quiet_skip | (go_big_quiet_want; go_big_quiet_op; go_big_quiet_on))
      refine wpQuiet_nil ?_
      go_wp2
      refine ⟨⟨k + 1, by go_num, by omega, ?_, below_drewN (hbel.out.setCell (Nat.le_refl _) _) _⟩, by simp [intOf]; omega⟩
      have h1 := hcl.out.set (1 + k) (V (x / 4294967296))
      rw [stV_setchain _ _ _ _ _ _ (by omega), ← Hy.out trivial, mix_set _ _ _ (by rw [st0_length]; exact hlt) (by simp; omega), Hy.out trivial] at h1
      exact h1
    · obtain rfl : k = 8 := by omega
      go_wp2
      subst hg0
      go_ret
      refine ⟨rfl, ?_, hbel.out⟩
      have h1 := hcl.out
      rw [List.take_of_length_le (by rw [st0_length]; omega), List.drop_of_length_le (by simp), List.append_nil] at h1
      exact h1

set_option maxRecDepth 100000 in
set_option maxHeartbeats 1000000 in
theorem new_2 (w : World) (T : Tb w) :
    Calls Tryz.prog 76 #[.int .i64 2] w fun e w' => e = .returned (.pointer (some ⟨w.heap.size, 0, none⟩)) ∧ Sta w' w.heap.size 2 [] ∧ Below w.heap.size w w' := by
  have HT : Hid (Tb w) := T
  obtain ⟨Z, hZ, hz⟩ := zero138
  have hA : Hid (Cl (w.alloc (.cells (.int .i64 2 :: Z : List Value).toArray 125)) w.heap.size (stV 2 ((st0 2).take 0 ++ (List.replicate 8 (0 : Int)).drop 0) 0 Z128)) := by rw [hZ]; exact alloc_cl _ _ _
  have hB : Hid (Below w.heap.size w (w.alloc (.cells (.int .i64 2 :: Z : List Value).toArray 125))) := alloc_below _ _
  have hg : 2 ≤ w.heap.size := by
    rcases Nat.lt_or_ge 1 w.heap.size with h1 | h1
    · exact h1
    · exfalso
      have := T.k 0 (by omega)
      unfold World.cell? at this
      simp [Array.getElem?_eq_none h1] at this
  clear T hZ
  go_enter Tryz.func76, Tryz.ntmps76
  go_wp2
  generalize w.alloc (.cells (.int .i64 2 :: Z : List Value).toArray 125) = w0 at hA hB ⊢
  generalize hg0 : w.heap.size = g at *
  clear hz
  go_loopw [8] (fun s ws => ∃ k : Nat, s = .int .i64 (k : Int) ∧ k ≤ 8 ∧ Hid (Cl ws g (stV 2 ((st0 2).take k ++ (List.replicate 8 (0 : Int)).drop k) 0 Z128)) ∧ Hid (Below g w ws)) (fun s _ => 8 - (intOf s).toNat)
  case atStart => exact ⟨0, rfl, by omega, hA, hB⟩
  case round =>
    obtain ⟨k, rfl, hk, hcl, hbel⟩ := hrel
    by_cases hlt : k < 8
    · have gS := (HT.out.below (hg0 ▸ hbel.out)).s (k + 8) (by omega)
      unfold V at gS
      have hll : ((st0 2).take k ++ (List.replicate 8 (0 : Int)).drop k).length = 8 := by simp [st0_length]; omega
      have gf := hcl.out.frozen (1 + k)
      have gc := stV_chain hcl.out k (by omega)
      generalize ((st0 2).take k ++ (List.replicate 8 (0 : Int)).drop k)[k] = old at gc
      unfold V at gc
      have Hy : Hid (True → (st0 2).getD k 0 = SQ.getD (k + 8) 0) := fun _ => by simp [st0, hlt]
      generalize SQ.getD (k + 8) 0 = x at *
      clear hA hB
      go_wp2
      refine wp_region_tail 9 (by kernel_rfl) (by kernel_rfl) ?_
      simp only [List.take_succ_cons, List.take_zero, List.drop_succ_cons, List.drop_zero]
      repeat (first | go_big_quiet_skip | (go_big_quiet_want; go_big_quiet_op; go_big_quiet_on))
      refine wpQuiet_nil ?_
      go_wp2
      refine ⟨⟨k + 1, by go_num, by omega, ?_, below_drewN (hbel.out.setCell (Nat.le_refl _) _) _⟩, by simp [intOf]; omega⟩
      have h1 := hcl.out.set (1 + k) (V (x))
      rw [stV_setchain _ _ _ _ _ _ (by omega), ← Hy.out trivial, mix_set _ _ _ (by rw [st0_length]; exact hlt) (by simp; omega), Hy.out trivial] at h1
      exact h1
    · obtain rfl : k = 8 := by omega
      go_wp2
      subst hg0
      go_ret
      refine ⟨rfl, ?_, hbel.out⟩
      have h1 := hcl.out
      rw [List.take_of_length_le (by rw [st0_length]; omega), List.drop_of_length_le (by simp), List.append_nil] at h1
      exact h1

set_option maxRecDepth 100000 in
set_option maxHeartbeats 1000000 in
theorem new_3 (w : World) (T : Tb w) :
    Calls Tryz.prog 76 #[.int .i64 3] w fun e w' => e = .returned (.pointer (some ⟨w.heap.size, 0, none⟩)) ∧ Sta w' w.heap.size 3 [] ∧ Below w.heap.size w w' := by
  have HT : Hid (Tb w) := T
  obtain ⟨Z, hZ, hz⟩ := zero138
  have hA : Hid (Cl (w.alloc (.cells (.int .i64 3 :: Z : List Value).toArray 125)) w.heap.size (stV 3 ((st0 3).take 0 ++ (List.replicate 8 (0 : Int)).drop 0) 0 Z128)) := by rw [hZ]; exact alloc_cl _ _ _
  have hB : Hid (Below w.heap.size w (w.alloc (.cells (.int .i64 3 :: Z : List Value).toArray 125))) := alloc_below _ _
  have hg : 2 ≤ w.heap.size := by
    rcases Nat.lt_or_ge 1 w.heap.size with h1 | h1
    · exact h1
    · exfalso
      have := T.k 0 (by omega)
      unfold World.cell? at this
      simp [Array.getElem?_eq_none h1] at this
  clear T hZ
  go_enter Tryz.func76, Tryz.ntmps76
  go_wp2
  generalize w.alloc (.cells (.int .i64 3 :: Z : List Value).toArray 125) = w0 at hA hB ⊢
  generalize hg0 : w.heap.size = g at *
  clear hz
  go_loopw [8] (fun s ws => ∃ k : Nat, s = .int .i64 (k : Int) ∧ k ≤ 8 ∧ Hid (Cl ws g (stV 3 ((st0 3).take k ++ (List.replicate 8 (0 : Int)).drop k) 0 Z128)) ∧ Hid (Below g w ws)) (fun s _ => 8 - (intOf s).toNat)
  case atStart => exact ⟨0, rfl, by omega, hA, hB⟩
  case round =>
    obtain ⟨k, rfl, hk, hcl, hbel⟩ := hrel
    by_cases hlt : k < 8
    · have gS := (HT.out.below (hg0 ▸ hbel.out)).s k (by omega)
      unfold V at gS
      have hll : ((st0 3).take k ++ (List.replicate 8 (0 : Int)).drop k).length = 8 := by simp [st0_length]; omega
      have gf := hcl.out.frozen (1 + k)
      have gc := stV_chain hcl.out k (by omega)
      generalize ((st0 3).take k ++ (List.replicate 8 (0 : Int)).drop k)[k] = old at gc
      unfold V at gc
      have Hy : Hid (True → (st0 3).getD k 0 = SQ.getD k 0) := fun _ => by simp [st0, hlt]
      generalize SQ.getD (k) 0 = x at *
      clear hA hB
      go_wp2
      refine wp_region_tail 8 (by kernel_rfl) (by kernel_rfl) ?_
      simp only [List.take_succ_cons, List.take_zero, List.drop_succ_cons, List.drop_zero]
      repeat (first | go_big_quiet_skip | (go_big_quiet_want; go_big_quiet_op; go_big_quiet_on))
      refine wpQuiet_nil ?_
      go_wp2
      refine ⟨⟨k + 1, by go_num, by omega, ?_, below_drewN (hbel.out.setCell (Nat.le_refl _) _) _⟩, by simp [intOf]; omega⟩
      have h1 := hcl.out.set (1 + k) (V (x))
      rw [stV_setchain _ _ _ _ _ _ (by omega), ← Hy.out trivial, mix_set _ _ _ (by rw [st0_length]; exact hlt) (by simp; omega), Hy.out trivial] at h1
      exact h1
    · obtain rfl : k = 8 := by omega
      go_wp2
      subst hg0
      go_ret
      refine ⟨rfl, ?_, hbel.out⟩
      have h1 := hcl.out
      rw [List.take_of_length_le (by rw [st0_length]; omega), List.drop_of_length_le (by simp), List.append_nil] at h1
      exact h1

theorem new_any (h : Int) (w : World) (hh : isH h) (T : Tb w) :
    Calls Tryz.prog 76 #[.int .i64 h] w fun e w' => e = .returned (.pointer (some ⟨w.heap.size, 0, none⟩)) ∧ Sta w' w.heap.size h [] ∧ Below w.heap.size w w' := by
  rcases hh with rfl | rfl | rfl
  · exact new_1 w T
  · exact new_2 w T
  · exact new_3 w T

set_option maxRecDepth 100000 in
set_option maxHeartbeats 1000000 in
theorem new_none (h : Int) (w : World) (hh : ¬ isH h) :
    Calls Tryz.prog 76 #[.int .i64 h] w fun e w' => e = .returned (.pointer none) ∧ Below w.heap.size w w' := by
  obtain ⟨Z, hZ, hz⟩ := zero138
  have h1 : h ≠ 1 := fun e => hh (.inl e)
  have h2 : h ≠ 2 := fun e => hh (.inr (.inl e))
  have h3 : h ≠ 3 := fun e => hh (.inr (.inr e))
  have hB : Hid (Below w.heap.size w (w.alloc (.cells (.int .i64 h :: Z : List Value).toArray 125))) := alloc_below _ _
  clear hh hZ
  go_enter Tryz.func76, Tryz.ntmps76
  go_wp2
  generalize w.alloc (.cells (.int .i64 h :: Z : List Value).toArray 125) = w0 at hB ⊢
  generalize hg0 : w.heap.size = g at *
  clear hz
  go_loopw [8] (fun s ws => s = .int .i64 0 ∧ Hid (Below g w ws)) (fun s _ => 8 - (intOf s).toNat)
  case atStart => exact ⟨rfl, hB⟩
  case round =>
    obtain ⟨rfl, hbel⟩ := hrel
    go_wp2
    subst hg0
    go_ret
    exact ⟨rfl, hbel.out⟩

end Go.Proofs.YtghfoppojdkhkaaGreatDoor.Sha