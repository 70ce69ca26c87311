import Derived.Test.YtdhfjhdlimmjhaaGreatDoorShMixN
import Derived.Test.YtdhfjhdlimmjhaaGreatDoorShMixW
namespace Go.Proofs.YtdhfjhdlimmjhaaGreatDoor.Sha
open Go.RowKit
set_option maxRecDepth 100000

def mixF (h : Int) (ch : List Int) (tl : List UInt8) : List Int := if h = 1 then mixN ch (tl.take 64) else mixW ch tl

def Z128 : List UInt8 := List.replicate 128 0

theorem l8_length (r : R8) : (l8 r).length = 8 := rfl
theorem mixF_length (h : Int) (ch : List Int) (tl : List UInt8) (h8 : ch.length = 8) : (mixF h ch tl).length = 8 := by
  unfold mixF
  split
  · unfold mixN; rw [List.length_zipWith, l8_length]; simp [h8]
  · unfold mixW; rw [List.length_zipWith, l8_length]; simp [h8]

theorem zero128 : ∃ Z : List Value, Z = Z128.map B ∧ ∀ w, (zeroValue 145).run Tryz.prog w = .ok (.agg Z.toArray) w :=
  ⟨_, rfl, zero_run (by kernel_rfl)⟩

theorem oneB (l : List UInt8) : ∀ v ∈ l.map B, v.oneCell' = true := by
  intro v hv
  obtain ⟨c, _, rfl⟩ := List.mem_map.1 hv
  rfl

theorem spl_spl (vs : List Value) (o : Nat) (xs ys : List Value) (h : o + xs.length ≤ vs.length) : spl (spl vs o xs) (o + xs.length) ys = spl vs o (xs ++ ys) := by
  have e : (vs.take o ++ xs).length = o + xs.length := by simp; omega
  unfold spl
  rw [List.take_append_of_le_length (by omega), List.take_of_length_le (by omega), List.drop_append, e, show o + xs.length + ys.length - (o + xs.length) = ys.length by omega, List.drop_of_length_le (by omega), List.drop_drop, List.length_append]
  simp [Nat.add_assoc]

theorem spl_one (vs : List Value) (o : Nat) (v : Value) (h : o < vs.length) : vs.set o v = spl vs o [v] := by
  have := spl_set vs o [] v (by simpa using h)
  rw [spl_nil] at this
  simpa using this

theorem Cl.cells {b : Nat} : ∀ (xs : List Value) (o : Nat) (w : World) (vs : List Value), Cl w b vs → o + xs.length ≤ vs.length → Cl (w.setCells b o xs) b (spl vs o xs)
  | [], o, w, vs, h, _ => by rw [spl_nil]; exact h
  | v :: r, o, w, vs, h, hl => by
    have hl2 : o + (r.length + 1) ≤ vs.length := hl
    have h1 := Cl.cells r (o + 1) (w.setCell ⟨b, o, none⟩ v) (vs.set o v) (h.set o v) (by rw [List.length_set]; omega)
    rw [spl_one vs o v (by omega)] at h1
    have h2 := spl_spl vs o [v] r (by simp; omega)
    rw [List.length_singleton] at h2
    rw [h2] at h1
    exact h1

theorem But.cells {b : Nat} : ∀ (xs : List Value) (o : Nat) (w w' : World), But w w' b → But w (w'.setCells b o xs) b
  | [], _, _, _, h => h
  | v :: r, o, w, w', h => But.cells r (o + 1) w (w'.setCell ⟨b, o, none⟩ v) (h.set o v)

theorem Cl.there {w : World} {b : Nat} {vs : List Value} (h : Cl w b vs) (o n : Nat) (hn : o + n ≤ vs.length) : w.there b o n := fun j hj =>
  ⟨by rw [h.cell (o + j) (by omega)]; rfl, h.frozen _⟩

theorem spl_tail (h : Int) (ch : List Int) (ct : Nat) (tl : List UInt8) (h8 : ch.length = 8) (o : Nat) (xs : List UInt8) : spl (stV h ch ct tl) (10 + o) (xs.map B) = stV h ch ct (tl.take o ++ xs ++ tl.drop (o + xs.length)) := by
  unfold spl stV
  have e1 : (ch.map V ++ [Value.int .u64 (ct : Int)]).length = 9 := by simp [h8]
  have e2 : ch.map V ++ Value.int .u64 (ct : Int) :: tl.map B = (ch.map V ++ [Value.int .u64 (ct : Int)]) ++ tl.map B := by simp
  rw [e2, show 10 + o = (9 + o) + 1 by omega, List.take_succ_cons, show 9 + o + 1 + (xs.map B).length = (9 + (o + xs.length)) + 1 by rw [List.length_map]; omega, List.drop_succ_cons, List.take_append, List.drop_append, e1, List.take_of_length_le (by omega), List.drop_of_length_le (by omega), show 9 + o - 9 = o by omega, show 9 + (o + xs.length) - 9 = o + xs.length by omega]
  simp [List.map_take, List.map_drop]

set_option maxRecDepth 100000 in
set_option maxHeartbeats 1000000 in
theorem mix_any (b : Nat) (h : Int) (ch : List Int) (ct : Nat) (tl : List UInt8) (w : World) (H : Cl w b (stV h ch ct tl)) (h8 : ch.length = 8) (ht : tl.length = 128) (T : Tb w) (hb7 : 11 ≤ b) :
    Calls Tryz.prog 93 #[.pointer (some ⟨b, 0, none⟩)] w fun e w' => e = .returned (.tuple #[]) ∧ Cl w' b (stV h (mixF h ch tl) ct Z128) ∧ But w w' b := by
  have g0 := stV_hash H
  have HH : Hid (Cl w b (stV h ch ct tl)) := H
  have HT : Hid (Tb w) := T
  obtain ⟨Z, hZ, hz⟩ := zero128
  have HZ : Hid (True → Z = Z128.map B) := fun _ => hZ
  clear H T hZ
  by_cases h1 : h = 1
  · have HM : Hid (True → mixF h ch tl = mixN ch (tl.take 64)) := fun _ => if_pos h1
    have hl8 : (mixN ch (tl.take 64)).length = 8 := by have := mixF_length h ch tl h8; rw [HM.out trivial] at this; exact this
    subst h1
    go_enter Tryz.func93, Tryz.ntmps93
    go_wp2_with fail
    refine (mixN_any b 1 ch ct tl w HH.out h8 ht HT.out hb7).mono ?_
    rintro e w1 ⟨rfl, hcl, hbut⟩
    have HC : Hid (Cl w1 b (stV 1 (mixN ch (tl.take 64)) ct tl)) := hcl
    have HB : Hid (But w w1 b) := hbut
    clear hcl hbut
    have ht10 : Hid (w1.there b 10 Z.toArray.size) := by
      rw [HZ.out trivial]
      exact HC.out.there 10 _ (by rw [stV_length, hl8]; simp [Z128]; omega)
    have hi10 : Hid ((Tryz.prog.info? 145).map (·.size) = some Z.toArray.size) := by
      show _ = _
      rw [HZ.out trivial]
      kernel_rfl
    have ho10 : Hid (Z.toArray.all (·.oneCell') = true) := by
      show _ = _
      rw [HZ.out trivial]
      exact all_oneCell_toArray (oneB _)
    go_wp2_with (refine wpList_store_mid rfl 145 _ _ rfl b 10 Z.toArray rfl rfl ht10.out hi10.out ho10.out ?_)
    go_end0
    have hc2 := Cl.cells Z 10 w1 _ HC.out (by rw [stV_length, HZ.out trivial, hl8]; simp [Z128]; omega)
    refine ⟨rfl, ?_, But.cells _ _ _ _ HB.out⟩
    rw [HM.out trivial]
    have e := spl_tail 1 (mixN ch (tl.take 64)) ct tl hl8 0 Z128
    rw [← HZ.out trivial] at e
    rw [show 10 + 0 = 10 from rfl] at e
    rw [e, List.drop_of_length_le (by simp [Z128]; omega)] at hc2
    simpa using hc2
  · have HM : Hid (True → mixF h ch tl = mixW ch tl) := fun _ => if_neg h1
    have hl8 : (mixW ch tl).length = 8 := by have := mixF_length h ch tl h8; rw [HM.out trivial] at this; exact this
    go_enter Tryz.func93, Tryz.ntmps93
    go_wp2_with fail
    refine (mixW_any b h ch ct tl w HH.out h8 ht HT.out hb7).mono ?_
    rintro e w1 ⟨rfl, hcl, hbut⟩
    have HC : Hid (Cl w1 b (stV h (mixW ch tl) ct tl)) := hcl
    have HB : Hid (But w w1 b) := hbut
    clear hcl hbut
    have ht10 : Hid (w1.there b 10 Z.toArray.size) := by
      rw [HZ.out trivial]
      exact HC.out.there 10 _ (by rw [stV_length, hl8]; simp [Z128]; omega)
    have hi10 : Hid ((Tryz.prog.info? 145).map (·.size) = some Z.toArray.size) := by
      show _ = _
      rw [HZ.out trivial]
      kernel_rfl
    have ho10 : Hid (Z.toArray.all (·.oneCell') = true) := by
      show _ = _
      rw [HZ.out trivial]
      exact all_oneCell_toArray (oneB _)
    go_wp2_with (refine wpList_store_mid rfl 145 _ _ rfl b 10 Z.toArray rfl rfl ht10.out hi10.out ho10.out ?_)
    go_end0
    have hc2 := Cl.cells Z 10 w1 _ HC.out (by rw [stV_length, HZ.out trivial, hl8]; simp [Z128]; omega)
    refine ⟨rfl, ?_, But.cells _ _ _ _ HB.out⟩
    rw [HM.out trivial]
    have e := spl_tail h (mixW ch tl) ct tl hl8 0 Z128
    rw [← HZ.out trivial] at e
    rw [show 10 + 0 = 10 from rfl] at e
    rw [e, List.drop_of_length_le (by simp [Z128]; omega)] at hc2
    simpa using hc2
end Go.Proofs.YtdhfjhdlimmjhaaGreatDoor.Sha
namespace Go.Proofs.YtdhfjhdlimmjhaaGreatDoor.Sha
open Go.RowKit
set_option maxRecDepth 100000

def st0 (h : Int) : List Int :=
  if h = 1 then (List.range 8).map fun i => SQ.getD i 0 / 4294967296
  else if h = 2 then (List.range 8).map fun i => SQ.getD (i + 8) 0
  else (List.range 8).map fun i => SQ.getD i 0

def bkF (h : Int) (m : List UInt8) (i : Nat) : List UInt8 := (m.drop (i * blk h)).take (blk h) ++ List.replicate (128 - ((m.drop (i * blk h)).take (blk h)).length) 0
def chF (h : Int) (m : List UInt8) : Nat → List Int
  | 0 => st0 h
  | n + 1 => mixF h (chF h m n) (bkF h m n)
def cF (h : Int) (m : List UInt8) : List Int := chF h m (m.length / blk h)
def tF (h : Int) (m : List UInt8) : List UInt8 := bkF h m (m.length / blk h)
def Sta (w : World) (b : Nat) (h : Int) (m : List UInt8) : Prop := Cl w b (stV h (cF h m) m.length (tF h m))

def isH (h : Int) : Prop := h = 1 ∨ h = 2 ∨ h = 3
theorem blk_pos {h : Int} (hh : isH h) : 0 < blk h ∧ blk h ≤ 128 := by rcases hh with rfl | rfl | rfl <;> decide

theorem st0_length (h : Int) : (st0 h).length = 8 := by unfold st0; (repeat' split) <;> simp
theorem chF_length (h : Int) (m : List UInt8) (n : Nat) : (chF h m n).length = 8 := by
  induction n with
  | zero => exact st0_length h
  | succ n ih => exact mixF_length h _ _ ih
theorem bkF_length (h : Int) (m : List UInt8) (i : Nat) (hb : blk h ≤ 128) : (bkF h m i).length = 128 := by
  unfold bkF
  rw [List.length_append, List.length_replicate, List.length_take]
  omega
theorem cF_length (h : Int) (m : List UInt8) : (cF h m).length = 8 := chF_length _ _ _
theorem tF_length {h : Int} (hh : isH h) (m : List UInt8) : (tF h m).length = 128 := bkF_length _ _ _ (blk_pos hh).2

theorem bkF_app (h : Int) (m y : List UInt8) (i : Nat) (hi : (i + 1) * blk h ≤ m.length) : bkF h (m ++ y) i = bkF h m i := by
  unfold bkF
  have e : (i + 1) * blk h = i * blk h + blk h := Nat.succ_mul _ _
  rw [List.drop_append_of_le_length (by omega), List.take_append_of_le_length (by rw [List.length_drop]; omega)]
theorem chF_app (h : Int) (m y : List UInt8) (n : Nat) (hn : n * blk h ≤ m.length) : chF h (m ++ y) n = chF h m n := by
  induction n with
  | zero => rfl
  | succ n ih =>
    have e : (n + 1) * blk h = n * blk h + blk h := Nat.succ_mul _ _
    rw [chF, chF, ih (by omega), bkF_app h m y n hn]

def rF (h : Int) (m : List UInt8) : List UInt8 := m.drop (m.length / blk h * blk h)
theorem rF_length (h : Int) (m : List UInt8) : (rF h m).length = m.length % blk h := by
  unfold rF
  rw [List.length_drop]
  have := Nat.div_add_mod m.length (blk h)
  rw [Nat.mul_comm] at this
  omega
theorem tF_eq (h : Int) (m : List UInt8) (hb : 0 < blk h) : tF h m = rF h m ++ List.replicate (128 - m.length % blk h) 0 := by
  unfold tF bkF
  have e : ((m.drop (m.length / blk h * blk h)).take (blk h)) = rF h m := List.take_of_length_le (by
    show (rF h m).length ≤ _
    rw [rF_length]
    exact Nat.le_of_lt (Nat.mod_lt _ hb))
  rw [e, rF_length]
theorem bk_app (h : Int) (m y : List UInt8) (hy : m.length % blk h + y.length ≤ blk h) :
    bkF h (m ++ y) (m.length / blk h) = rF h m ++ y ++ List.replicate (128 - (m.length % blk h + y.length)) 0 := by
  have hq : m.length / blk h * blk h ≤ m.length := Nat.div_mul_le_self _ _
  unfold bkF
  have e : ((m ++ y).drop (m.length / blk h * blk h)).take (blk h) = rF h m ++ y := by
    rw [List.drop_append_of_le_length hq]
    exact List.take_of_length_le (by
      show (rF h m ++ y).length ≤ _
      rw [List.length_append, rF_length]; exact hy)
  rw [e, List.length_append, rF_length]

theorem tail_app (h : Int) (m y : List UInt8) (hb : 0 < blk h ∧ blk h ≤ 128) (hy : m.length % blk h + y.length ≤ blk h) :
    (tF h m).take (m.length % blk h) ++ y ++ (tF h m).drop (m.length % blk h + y.length) = bkF h (m ++ y) (m.length / blk h) := by
  rw [bk_app h m y hy, tF_eq h m hb.1]
  have e : (rF h m).length = m.length % blk h := rF_length h m
  rw [List.take_append_of_le_length (by omega), List.take_of_length_le (by omega), List.drop_append, List.drop_of_length_le (by omega), e, show m.length % blk h + y.length - m.length % blk h = y.length by omega, List.drop_replicate, List.nil_append]
  congr 2
  omega

theorem div_less (a n k : Nat) (hk : 0 < k) (h : a % k + n < k) : (a + n) / k = a / k ∧ (a + n) % k = a % k + n := by
  have h1 := Nat.div_add_mod a k
  have e : a + n = a % k + n + k * (a / k) := by omega
  constructor
  · rw [e, Nat.add_mul_div_left _ _ hk, Nat.div_eq_of_lt h, Nat.zero_add]
  · rw [e, Nat.add_mul_mod_self_left, Nat.mod_eq_of_lt h]
theorem div_full (a n k : Nat) (hk : 0 < k) (h : a % k + n = k) : (a + n) / k = a / k + 1 ∧ (a + n) % k = 0 := by
  have h1 := Nat.div_add_mod a k
  have e : a + n = k * (a / k + 1) := by rw [Nat.mul_add]; omega
  constructor
  · rw [e, Nat.mul_div_cancel_left _ hk]
  · rw [e, Nat.mul_mod_right]

theorem app_less (h : Int) (m y : List UInt8) (hb : 0 < blk h ∧ blk h ≤ 128) (hy : m.length % blk h + y.length < blk h) :
    cF h (m ++ y) = cF h m ∧ tF h (m ++ y) = (tF h m).take (m.length % blk h) ++ y ++ (tF h m).drop (m.length % blk h + y.length) := by
  have h1 := div_less m.length y.length (blk h) hb.1 hy
  rw [tail_app h m y hb (by omega)]
  unfold cF tF
  rw [List.length_append, h1.1]
  exact ⟨chF_app h m y _ (Nat.div_mul_le_self _ _), rfl⟩
theorem app_full (h : Int) (m y : List UInt8) (hb : 0 < blk h ∧ blk h ≤ 128) (hy : m.length % blk h + y.length = blk h) :
    cF h (m ++ y) = mixF h (cF h m) ((tF h m).take (m.length % blk h) ++ y ++ (tF h m).drop (m.length % blk h + y.length)) ∧ tF h (m ++ y) = Z128 := by
  have h1 := div_full m.length y.length (blk h) hb.1 hy
  rw [tail_app h m y hb (by omega)]
  constructor
  · unfold cF
    rw [List.length_append, h1.1, chF, chF_app h m y _ (Nat.div_mul_le_self _ _)]
  · rw [tF_eq h _ hb.1]
    have e : rF h (m ++ y) = [] := List.eq_nil_of_length_eq_zero (by rw [rF_length, List.length_append, h1.2])
    rw [e, List.length_append, h1.2]
    rfl

end Go.Proofs.YtdhfjhdlimmjhaaGreatDoor.Sha
namespace Go.Proofs.YtdhfjhdlimmjhaaGreatDoor.Sha
open Go.RowKit
set_option maxRecDepth 100000

def stR (ch : List Int) (ct : Nat) (tl : List UInt8) : List Value := ch.map V ++ (.int .u64 (ct : Int) :: tl.map B)

theorem zero138 : ∃ Z : List Value, Z = stR (List.replicate 8 0) 0 Z128 ∧ ∀ w, (zeroValue 147).run Tryz.prog w = .ok (.agg (.int .i64 0 :: Z).toArray) w :=
  ⟨_, rfl, zero_run (by kernel_rfl)⟩

theorem descState : ∃ d, Tryz.prog.underlying 147 = some d ∧ d.isRow = true := ⟨_, Tryz.underlying147, rfl⟩

theorem oneS (h : Int) (ch : List Int) (ct : Nat) (tl : List UInt8) : ∀ v ∈ stV h ch ct tl, v.oneCell' = true := by
  intro v hv
  unfold stV at hv
  rcases List.mem_cons.1 hv with rfl | hv
  · rfl
  rcases List.mem_append.1 hv with hv | hv
  · obtain ⟨c, _, rfl⟩ := List.mem_map.1 hv
    rfl
  rcases List.mem_cons.1 hv with rfl | hv
  · rfl
  · exact oneB _ v hv

set_option maxRecDepth 100000 in
set_option maxHeartbeats 1000000 in
theorem new_1 (w : World) (T : Tb w) :
    Calls Tryz.prog 83 #[.int .i64 1] w fun e w' => e = .returned (.pointer (some ⟨w.heap.size, 0, none⟩)) ∧ Sta w' w.heap.size 1 [] ∧ Below w.heap.size w w' := by
  have HT : Hid (Tb w) := T
  obtain ⟨Z, hZ, hz⟩ := zero138
  have hA : Hid (Cl (w.alloc (.cells (.int .i64 1 :: Z : List Value).toArray 147)) w.heap.size (stV 1 ((st0 1).take 0 ++ (List.replicate 8 (0 : Int)).drop 0) 0 Z128)) := by rw [hZ]; exact alloc_cl _ _ _
  have hB : Hid (Below w.heap.size w (w.alloc (.cells (.int .i64 1 :: Z : List Value).toArray 147))) := alloc_below _ _
  have hg : 11 ≤ w.heap.size := by
    rcases Nat.lt_or_ge 10 w.heap.size with h1 | h1
    · exact h1
    · exfalso
      have := T.k 0 (by omega)
      unfold World.cell? at this
      simp [Array.getElem?_eq_none h1] at this
  clear T hZ
  go_enter Tryz.func83, Tryz.ntmps83
  go_wp2
  generalize w.alloc (.cells (.int .i64 1 :: Z : List Value).toArray 147) = w0 at hA hB ⊢
  generalize hg0 : w.heap.size = g at *
  clear hz
  go_loopw [8] (fun s ws => ∃ k : Nat, s = .int .i64 (k : Int) ∧ k ≤ 8 ∧ Hid (Cl ws g (stV 1 ((st0 1).take k ++ (List.replicate 8 (0 : Int)).drop k) 0 Z128)) ∧ Hid (Below g w ws)) (fun s _ => 8 - (intOf s).toNat)
  case atStart => exact ⟨0, rfl, by omega, hA, hB⟩
  case round =>
    obtain ⟨k, rfl, hk, hcl, hbel⟩ := hrel
    by_cases hlt : k < 8
    · have gS := (HT.out.below (hg0 ▸ hbel.out)).s k (by omega)
      unfold V at gS
      have hll : ((st0 1).take k ++ (List.replicate 8 (0 : Int)).drop k).length = 8 := by simp [st0_length]; omega
      have gf := hcl.out.frozen (1 + k)
      have gc := stV_chain hcl.out k (by omega)
      generalize ((st0 1).take k ++ (List.replicate 8 (0 : Int)).drop k)[k] = old at gc
      unfold V at gc
      have Hy : Hid (True → (st0 1).getD k 0 = SQ.getD k 0 / 4294967296) := fun _ => by simp [st0, hlt]
      generalize SQ.getD (k) 0 = x at *
      clear hA hB
      go_wp2
      refine wp_region_tail 9 (by kernel_rfl) (by kernel_rfl) ?_
      simp only [List.take_succ_cons, List.take_zero, List.drop_succ_cons, List.drop_zero]
      repeat (first | go_big_quiet_skip | (go_big_quiet_want; go_big_quiet_op; go_big_quiet_on))
      refine wpQuiet_nil ?_
      go_wp2
      refine ⟨⟨k + 1, by go_num, by omega, ?_, below_drewN (hbel.out.setCell (Nat.le_refl _) _) _⟩, by simp [intOf]; omega⟩
      have h1 := hcl.out.set (1 + k) (V (x / 4294967296))
      rw [stV_setchain _ _ _ _ _ _ (by omega), ← Hy.out trivial, mix_set _ _ _ (by rw [st0_length]; exact hlt) (by simp; omega), Hy.out trivial] at h1
      exact h1
    · obtain rfl : k = 8 := by omega
      go_wp2
      subst hg0
      go_ret
      refine ⟨rfl, ?_, hbel.out⟩
      have h1 := hcl.out
      rw [List.take_of_length_le (by rw [st0_length]; omega), List.drop_of_length_le (by simp), List.append_nil] at h1
      exact h1

set_option maxRecDepth 100000 in
set_option maxHeartbeats 1000000 in
theorem new_2 (w : World) (T : Tb w) :
    Calls Tryz.prog 83 #[.int .i64 2] w fun e w' => e = .returned (.pointer (some ⟨w.heap.size, 0, none⟩)) ∧ Sta w' w.heap.size 2 [] ∧ Below w.heap.size w w' := by
  have HT : Hid (Tb w) := T
  obtain ⟨Z, hZ, hz⟩ := zero138
  have hA : Hid (Cl (w.alloc (.cells (.int .i64 2 :: Z : List Value).toArray 147)) w.heap.size (stV 2 ((st0 2).take 0 ++ (List.replicate 8 (0 : Int)).drop 0) 0 Z128)) := by rw [hZ]; exact alloc_cl _ _ _
  have hB : Hid (Below w.heap.size w (w.alloc (.cells (.int .i64 2 :: Z : List Value).toArray 147))) := alloc_below _ _
  have hg : 11 ≤ w.heap.size := by
    rcases Nat.lt_or_ge 10 w.heap.size with h1 | h1
    · exact h1
    · exfalso
      have := T.k 0 (by omega)
      unfold World.cell? at this
      simp [Array.getElem?_eq_none h1] at this
  clear T hZ
  go_enter Tryz.func83, Tryz.ntmps83
  go_wp2
  generalize w.alloc (.cells (.int .i64 2 :: Z : List Value).toArray 147) = w0 at hA hB ⊢
  generalize hg0 : w.heap.size = g at *
  clear hz
  go_loopw [8] (fun s ws => ∃ k : Nat, s = .int .i64 (k : Int) ∧ k ≤ 8 ∧ Hid (Cl ws g (stV 2 ((st0 2).take k ++ (List.replicate 8 (0 : Int)).drop k) 0 Z128)) ∧ Hid (Below g w ws)) (fun s _ => 8 - (intOf s).toNat)
  case atStart => exact ⟨0, rfl, by omega, hA, hB⟩
  case round =>
    obtain ⟨k, rfl, hk, hcl, hbel⟩ := hrel
    by_cases hlt : k < 8
    · have gS := (HT.out.below (hg0 ▸ hbel.out)).s (k + 8) (by omega)
      unfold V at gS
      have hll : ((st0 2).take k ++ (List.replicate 8 (0 : Int)).drop k).length = 8 := by simp [st0_length]; omega
      have gf := hcl.out.frozen (1 + k)
      have gc := stV_chain hcl.out k (by omega)
      generalize ((st0 2).take k ++ (List.replicate 8 (0 : Int)).drop k)[k] = old at gc
      unfold V at gc
      have Hy : Hid (True → (st0 2).getD k 0 = SQ.getD (k + 8) 0) := fun _ => by simp [st0, hlt]
      generalize SQ.getD (k + 8) 0 = x at *
      clear hA hB
      go_wp2
      refine wp_region_tail 9 (by kernel_rfl) (by kernel_rfl) ?_
      simp only [List.take_succ_cons, List.take_zero, List.drop_succ_cons, List.drop_zero]
      repeat (first | go_big_quiet_skip | (go_big_quiet_want; go_big_quiet_op; go_big_quiet_on))
      refine wpQuiet_nil ?_
      go_wp2
      refine ⟨⟨k + 1, by go_num, by omega, ?_, below_drewN (hbel.out.setCell (Nat.le_refl _) _) _⟩, by simp [intOf]; omega⟩
      have h1 := hcl.out.set (1 + k) (V (x))
      rw [stV_setchain _ _ _ _ _ _ (by omega), ← Hy.out trivial, mix_set _ _ _ (by rw [st0_length]; exact hlt) (by simp; omega), Hy.out trivial] at h1
      exact h1
    · obtain rfl : k = 8 := by omega
      go_wp2
      subst hg0
      go_ret
      refine ⟨rfl, ?_, hbel.out⟩
      have h1 := hcl.out
      rw [List.take_of_length_le (by rw [st0_length]; omega), List.drop_of_length_le (by simp), List.append_nil] at h1
      exact h1

set_option maxRecDepth 100000 in
set_option maxHeartbeats 1000000 in
theorem new_3 (w : World) (T : Tb w) :
    Calls Tryz.prog 83 #[.int .i64 3] w fun e w' => e = .returned (.pointer (some ⟨w.heap.size, 0, none⟩)) ∧ Sta w' w.heap.size 3 [] ∧ Below w.heap.size w w' := by
  have HT : Hid (Tb w) := T
  obtain ⟨Z, hZ, hz⟩ := zero138
  have hA : Hid (Cl (w.alloc (.cells (.int .i64 3 :: Z : List Value).toArray 147)) w.heap.size (stV 3 ((st0 3).take 0 ++ (List.replicate 8 (0 : Int)).drop 0) 0 Z128)) := by rw [hZ]; exact alloc_cl _ _ _
  have hB : Hid (Below w.heap.size w (w.alloc (.cells (.int .i64 3 :: Z : List Value).toArray 147))) := alloc_below _ _
  have hg : 11 ≤ w.heap.size := by
    rcases Nat.lt_or_ge 10 w.heap.size with h1 | h1
    · exact h1
    · exfalso
      have := T.k 0 (by omega)
      unfold World.cell? at this
      simp [Array.getElem?_eq_none h1] at this
  clear T hZ
  go_enter Tryz.func83, Tryz.ntmps83
  go_wp2
  generalize w.alloc (.cells (.int .i64 3 :: Z : List Value).toArray 147) = w0 at hA hB ⊢
  generalize hg0 : w.heap.size = g at *
  clear hz
  go_loopw [8] (fun s ws => ∃ k : Nat, s = .int .i64 (k : Int) ∧ k ≤ 8 ∧ Hid (Cl ws g (stV 3 ((st0 3).take k ++ (List.replicate 8 (0 : Int)).drop k) 0 Z128)) ∧ Hid (Below g w ws)) (fun s _ => 8 - (intOf s).toNat)
  case atStart => exact ⟨0, rfl, by omega, hA, hB⟩
  case round =>
    obtain ⟨k, rfl, hk, hcl, hbel⟩ := hrel
    by_cases hlt : k < 8
    · have gS := (HT.out.below (hg0 ▸ hbel.out)).s k (by omega)
      unfold V at gS
      have hll : ((st0 3).take k ++ (List.replicate 8 (0 : Int)).drop k).length = 8 := by simp [st0_length]; omega
      have gf := hcl.out.frozen (1 + k)
      have gc := stV_chain hcl.out k (by omega)
      generalize ((st0 3).take k ++ (List.replicate 8 (0 : Int)).drop k)[k] = old at gc
      unfold V at gc
      have Hy : Hid (True → (st0 3).getD k 0 = SQ.getD k 0) := fun _ => by simp [st0, hlt]
      generalize SQ.getD (k) 0 = x at *
      clear hA hB
      go_wp2
      refine wp_region_tail 8 (by kernel_rfl) (by kernel_rfl) ?_
      simp only [List.take_succ_cons, List.take_zero, List.drop_succ_cons, List.drop_zero]
      repeat (first | go_big_quiet_skip | (go_big_quiet_want; go_big_quiet_op; go_big_quiet_on))
      refine wpQuiet_nil ?_
      go_wp2
      refine ⟨⟨k + 1, by go_num, by omega, ?_, below_drewN (hbel.out.setCell (Nat.le_refl _) _) _⟩, by simp [intOf]; omega⟩
      have h1 := hcl.out.set (1 + k) (V (x))
      rw [stV_setchain _ _ _ _ _ _ (by omega), ← Hy.out trivial, mix_set _ _ _ (by rw [st0_length]; exact hlt) (by simp; omega), Hy.out trivial] at h1
      exact h1
    · obtain rfl : k = 8 := by omega
      go_wp2
      subst hg0
      go_ret
      refine ⟨rfl, ?_, hbel.out⟩
      have h1 := hcl.out
      rw [List.take_of_length_le (by rw [st0_length]; omega), List.drop_of_length_le (by simp), List.append_nil] at h1
      exact h1

theorem new_any (h : Int) (w : World) (hh : isH h) (T : Tb w) :
    Calls Tryz.prog 83 #[.int .i64 h] w fun e w' => e = .returned (.pointer (some ⟨w.heap.size, 0, none⟩)) ∧ Sta w' w.heap.size h [] ∧ Below w.heap.size w w' := by
  rcases hh with rfl | rfl | rfl
  · exact new_1 w T
  · exact new_2 w T
  · exact new_3 w T

set_option maxRecDepth 100000 in
set_option maxHeartbeats 1000000 in
theorem new_none (h : Int) (w : World) (hh : ¬ isH h) :
    Calls Tryz.prog 83 #[.int .i64 h] w fun e w' => e = .returned (.pointer none) ∧ Below w.heap.size w w' := by
  obtain ⟨Z, hZ, hz⟩ := zero138
  have h1 : h ≠ 1 := fun e => hh (.inl e)
  have h2 : h ≠ 2 := fun e => hh (.inr (.inl e))
  have h3 : h ≠ 3 := fun e => hh (.inr (.inr e))
  have hB : Hid (Below w.heap.size w (w.alloc (.cells (.int .i64 h :: Z : List Value).toArray 147))) := alloc_below _ _
  clear hh hZ
  go_enter Tryz.func83, Tryz.ntmps83
  go_wp2
  generalize w.alloc (.cells (.int .i64 h :: Z : List Value).toArray 147) = w0 at hB ⊢
  generalize hg0 : w.heap.size = g at *
  clear hz
  go_loopw [8] (fun s ws => s = .int .i64 0 ∧ Hid (Below g w ws)) (fun s _ => 8 - (intOf s).toNat)
  case atStart => exact ⟨rfl, hB⟩
  case round =>
    obtain ⟨rfl, hbel⟩ := hrel
    go_wp2
    subst hg0
    go_ret
    exact ⟨rfl, hbel.out⟩

end Go.Proofs.YtdhfjhdlimmjhaaGreatDoor.Sha
namespace Go.Proofs.YtdhfjhdlimmjhaaGreatDoor.Sha
open Go.RowKit
set_option maxRecDepth 100000

def Rd (w : World) (ao : Option Addr) (l : List UInt8) : Prop :=
  l = [] ∨ ∃ g off : Nat, ao = some ⟨g, off, none⟩ ∧ g < w.heap.size ∧ ∀ j, j < l.length → w.cell? ⟨g, off + j, none⟩ = some (B (l.getD j 0))
def Off (ao : Option Addr) (l : List UInt8) (b : Nat) : Prop := ∀ a, l ≠ [] → ao = some a → a.block ≠ b

theorem setCells_drewN {b : Nat} (q : Nat) : ∀ (xs : List Value) (o : Nat) (w : World), (w.drewN q).setCells b o xs = (w.setCells b o xs).drewN q
  | [], _, _ => rfl
  | v :: r, o, w => setCells_drewN q r (o + 1) (w.setCell ⟨b, o, none⟩ v)

theorem Cl.drewN {w : World} {b : Nat} {vs : List Value} (h : Cl w b vs) (q : Nat) : Cl (w.drewN q) b vs := h

theorem stV_setcount (h : Int) (ch : List Int) (ct ct' : Nat) (tl : List UInt8) (h8 : ch.length = 8) : (stV h ch ct tl).set 9 (.int .u64 (ct' : Int)) = stV h ch ct' tl := by
  unfold stV
  rw [List.set_cons_succ, List.set_append_right _ _ (by simp [h8])]
  simp [h8]

set_option maxRecDepth 100000 in
theorem slice_low (g o len cap n : Nat) (h1 : n ≤ len) (h2 : len ≤ cap) : ∃ a2, (∀ W, (Instr.sliceAt 81 (.slice (some ⟨g, o, none⟩) len cap) (some (.int .i64 (n : Int))) none none).run Tryz.prog W = .ok (.slice a2 (len - n) (cap - n)) W) ∧ (n < len → a2 = some ⟨g, o + n, none⟩) := by
  have e0 : Tryz.prog.elem 81 = 5 := by kernel_rfl
  have e2 := run_size1 (P := Tryz.prog) (e := 5) (by kernel_rfl)
  refine ⟨if cap = n then some ⟨g, o, none⟩ else some ⟨g, o + n, none⟩, fun W => ?_, fun hn => ?_⟩
  · rw [run_sliceAt_slice _ _ _ _ _ _ Tryz.underlying81, run_slice_l W 81 (some ⟨g, o, none⟩) len cap Tryz.underlying81 .i64 (n : Int) (by omega) (by omega), e0, e2]
    show Result.ok (sliced _ _ _ _ 1) W = _
    unfold sliced
    simp only [Int.toNat_natCast, Nat.mul_one]
    congr 2
    split
    · rfl
    · simp [Addr.add_mid]
  · rw [if_neg (by omega)]

set_option maxRecDepth 100000 in
set_option maxHeartbeats 2000000 in
theorem write_any (b : Nat) (h : Int) (m x : List UInt8) (ao : Option Addr) (cap : Nat) (w : World) (H : Sta w b h m) (hh : isH h) (T : Tb w) (hb7 : 11 ≤ b) (hrd : Rd w ao x) (hoff : Off ao x b) (hcap : x.length ≤ cap) (hm : m.length ≤ 2305843009213693952) (hx : x.length ≤ 2305843009213693952) (_hcm : cap ≤ 9223372036854775807) :
    Calls Tryz.prog 84 #[.pointer (some ⟨b, 0, none⟩), .slice ao x.length cap] w fun e w' => e = .returned (.tuple #[]) ∧ Sta w' b h (m ++ x) ∧ But w w' b := by
  have g0 := stV_hash H
  have HH : Hid (Sta w b h m) := H
  have HT : Hid (Tb w) := T
  have hbp := blk_pos hh
  have CB := block_any h w
  obtain ⟨K, hK⟩ : ∃ K, blk h = K := ⟨_, rfl⟩
  rw [hK] at CB hbp
  have HK : Hid (True → blk h = K) := fun _ => hK
  have HR : Hid (∃ g off : Nat, (x ≠ [] → ao = some ⟨g, off, none⟩ ∧ g ≠ b ∧ g < w.heap.size) ∧ ∀ j, j < x.length → w.cell? ⟨g, off + j, none⟩ = some (B (x.getD j 0))) := by
    rcases hrd with rfl | ⟨g, off, e, hg, hc⟩
    · exact ⟨0, 0, fun hne => absurd rfl hne, fun j hj => by simp at hj⟩
    · exact ⟨g, off, fun hne => ⟨e, hoff _ hne e, hg⟩, hc⟩
  clear H T hK hrd hoff
  go_enter Tryz.func84, Tryz.ntmps84
  go_wp2_with fail
  refine CB.mono ?_
  rintro e w1 ⟨rfl, rfl⟩
  clear CB g0
  obtain ⟨g, off, hx1, hx2⟩ := HR.out
  have Hx1 : Hid (x ≠ [] → ao = some ⟨g, off, none⟩ ∧ g ≠ b ∧ g < w1.heap.size) := hx1
  have Hx2 : Hid (∀ j, j < x.length → w1.cell? ⟨g, off + j, none⟩ = some (B (x.getD j 0))) := hx2
  clear HR hx1 hx2
  rename World => w
  go_wp2
  go_loopw [1] (fun s ws => ∃ (k : Nat) (a : Option Addr), s = .slice a (x.length - k) (cap - k) ∧ k ≤ x.length ∧ (k < x.length → a = some ⟨g, off + k, none⟩) ∧ Hid (Sta ws b h (m ++ x.take k)) ∧ Hid (But w ws b)) (fun s _ => match s with | .slice _ n _ => n | _ => 0)
  case atStart => exact ⟨0, ao, rfl, by omega, fun h0 => (Hx1.out (fun e => by subst e; simp at h0)).1, by simpa using HH, But.refl _ _⟩
  case round =>
    obtain ⟨k, a, rfl, hk, ha, hst, hbut⟩ := hrel
    by_cases hlt : k < x.length
    · obtain rfl := ha hlt
      have hne : x ≠ [] := fun e => by subst e; simp at hlt
      obtain ⟨_, hgb, hgs⟩ := Hx1.out hne
      clear ha
      obtain ⟨mm, hmm⟩ : ∃ mm, mm = m ++ x.take k := ⟨_, rfl⟩
      have hml : mm.length = m.length + k := by rw [hmm]; simp; omega
      rw [← hmm] at hst
      obtain ⟨f, hf⟩ : ∃ f, mm.length % K = f := ⟨_, rfl⟩
      have hfK : f < K := by rw [← hf]; exact Nat.mod_lt _ hbp.1
      obtain ⟨n, hn⟩ : ∃ n, n = min (x.length - k) (K - f) := ⟨_, rfl⟩
      have hn1 : 1 ≤ n ∧ n ≤ x.length - k ∧ n ≤ K - f := by omega
      obtain ⟨ys, hys⟩ : ∃ ys, ys = (x.drop k).take n := ⟨_, rfl⟩
      have hyl : ys.length = n := by rw [hys]; simp; omega
      have hsl := tail_slice b f K (wr.drewN 2) (f : Int) (K : Int) rfl rfl (by omega) (by omega) (by omega)
      have hS := hst.out
      unfold Sta at hS
      have hcl8 := cF_length h mm
      have htl := tF_length hh mm
      have hcp : ∀ q, (Builtin.copy_ #[81, 81] 3 #[.slice (some ⟨b, 10 + f, none⟩) (K - f) (128 - f), .slice (some ⟨g, off + k, none⟩) (x.length - k) (cap - k)]).run Tryz.prog (wr.drewN q) = .ok (goInt n) ((wr.setCells b (10 + f) (ys.map B)).drewN q) := fun q => by
        have h1 := run_copy_cells (P := Tryz.prog) (wr.drewN q) 81 81 3 5 b (10 + f) (K - f) (128 - f) ⟨g, off + k, none⟩ (x.length - k) (cap - k) (ys.map B) (by kernel_rfl) (by kernel_rfl) (by
            rw [List.length_map, hyl]; exact hn) (fun j v hj => by
            obtain ⟨hj1, hj2⟩ := List.getElem?_eq_some_iff.1 hj
            have hj3 : j < n := by rw [List.length_map, hyl] at hj1; exact hj1
            have hq := Hx2.out (k + j) (by omega)
            have e2 : (ys.map B)[j] = B (x.getD (k + j) 0) := by
              rw [List.getElem_map]
              congr 1
              subst hys
              rw [List.getElem_take, List.getElem_drop]
              rw [List.getD_eq_getElem?_getD, List.getElem?_eq_getElem (by omega)]
              rfl
            rw [← hj2, e2, Addr.add_mid, Nat.add_assoc]
            exact cell_but hq fun hg2 => hbut.out.block g hg2 hgb) (fun j hj => by
            rw [List.length_map, hyl] at hj
            have := hS.cell (10 + f + j) (by rw [stV_length, hcl8, htl]; omega)
            show (wr.cell? _).isSome = true
            rw [this]; rfl) (fun j _ => hS.frozen _) (oneB ys)
        rw [List.length_map, hyl, setCells_drewN] at h1
        exact h1
      have CF : Hid (∀ q, Calls Tryz.prog 92 #[.pointer (some ⟨b, 0, none⟩)] (wr.drewN q) fun e w' => e = .returned (.int .i64 (f : Int)) ∧ w' = (wr.drewN q).drewN 1) := fun q => by
        have := filled_any b h (cF h mm) mm.length (tF h mm) (wr.drewN q) (hS.drewN q) hcl8 (by rw [HK.out trivial]; exact hbp.1) (by omega)
        rw [HK.out trivial, hf] at this
        exact this
      have HS : Hid (Cl wr b (stV h (cF h mm) mm.length (tF h mm))) := hS
      have Hys : Hid (True → ys = (x.drop k).take n ∧ mm = m ++ x.take k ∧ mm.length % K = f ∧ n = min (x.length - k) (K - f)) := fun _ => ⟨hys, hmm, hf, hn⟩
      have hyl2 : ys.length ≤ n ∧ n ≤ ys.length := by omega
      have hml2 : mm.length ≤ m.length + k ∧ m.length + k ≤ mm.length := by omega
      have hsl' : ∀ q, (Instr.sliceAt 145 (.pointer (some ⟨b, 10, none⟩)) (some (.int .i64 (f : Int))) (some (.int .i64 (K : Int))) none).run Tryz.prog (wr.drewN q) = .ok (.slice (some ⟨b, 10 + f, none⟩) (K - f) (128 - f)) (wr.drewN q) := fun q => tail_slice b f K (wr.drewN q) (f : Int) (K : Int) rfl rfl (by omega) (by omega) (by omega)
      clear hys hmm hf hn hyl hml hcl8 htl hS hsl hne hst
      rename ao = _ => hao
      clear hao
      go_wp2
      go_region_with (go_at_call 92; refine (CF.out _).mono ?_; rintro e w4 ⟨rfl, rfl⟩)
      obtain ⟨tl, htl⟩ : ∃ tl, tl = (tF h mm).take f ++ ys ++ (tF h mm).drop (f + ys.length) := ⟨_, rfl⟩
      have HC2 : Hid (Cl (wr.setCells b (10 + f) (ys.map B)) b (stV h (cF h mm) mm.length tl)) := by
        have h1 := Cl.cells (ys.map B) (10 + f) wr _ HS.out (by rw [stV_length, cF_length, tF_length hh, List.length_map]; omega)
        rw [spl_tail h (cF h mm) mm.length (tF h mm) (cF_length h mm) f ys, ← htl] at h1
        exact h1
      have HB2 : Hid (But w (wr.setCells b (10 + f) (ys.map B)) b) := But.cells _ _ _ _ hbut.out
      have HTL : Hid (True → tl = (tF h mm).take f ++ ys ++ (tF h mm).drop (f + ys.length)) := fun _ => htl
      have htl2 : tl.length = 128 := by rw [htl]; have := tF_length hh mm; simp; omega
      clear htl hcp hsl' HS CF hbut HH
      generalize wr.setCells b (10 + f) (ys.map B) = wq at *
      have g9 := stV_count HC2.out (cF_length h mm)
      have f9 := HC2.out.frozen 9
      have hwc : IntKind.u64.wrap ((mm.length : Int) + (n : Int)) = ((mm.length + n : Nat) : Int) := by rw [IntKind.wrap_u64]; omega
      obtain ⟨a2, hs3, ha2⟩ := slice_low g (off + k) (x.length - k) (cap - k) n (by omega) (by omega)
      go_wp2_with fail
      have HC3 : Hid (Cl ((wq.drewN 2).setCell ⟨b, 9, none⟩ (.int .u64 ((mm.length : Int) + (n : Int)))) b (stV h (cF h mm) (mm.length + n) tl)) := by
        have h1 := (HC2.out.drewN 2).set 9 (.int .u64 ((mm.length + n : Nat) : Int))
        rw [stV_setcount _ _ _ _ _ (cF_length h mm)] at h1
        rw [show (mm.length : Int) + (n : Int) = ((mm.length + n : Nat) : Int) by omega]
        exact h1
      have HB3 : Hid (But w ((wq.drewN 2).setCell ⟨b, 9, none⟩ (.int .u64 ((mm.length : Int) + (n : Int)))) b) := (HB2.out.drewN 2).set _ _
      generalize (wq.drewN 2).setCell ⟨b, 9, none⟩ (.int .u64 ((mm.length : Int) + (n : Int))) = we at *
      have CF2 := filled_any b h (cF h mm) (mm.length + n) tl we HC3.out (cF_length h mm) (by rw [HK.out trivial]; exact hbp.1) (by omega)
      rw [HK.out trivial] at CF2
      clear HC2 HB2 g9 f9 hwc hs3
      have hyn : ys.length = n := by omega
      have Hnext : Hid (True → m ++ x.take (k + n) = mm ++ ys) := fun _ => by
        obtain ⟨e1, e2, _, _⟩ := Hys.out trivial
        rw [e1, e2, List.append_assoc, List.take_add]
      by_cases hfull : f + n < K
      · have hmod := div_less mm.length n K hbp.1 (by rw [(Hys.out trivial).2.2.1]; exact hfull)
        rw [hmod.2, (Hys.out trivial).2.2.1] at CF2
        clear hmod
        have hfn : ((f + n : Nat) : Int) ≠ 0 := by omega
        refine CF2.mono ?_
        rintro e w5 ⟨rfl, rfl⟩
        clear CF2
        go_wp2
        refine ⟨⟨k + n, a2, by rw [Nat.sub_sub, Nat.sub_sub], by omega, fun h0 => by rw [ha2 (by omega), Nat.add_assoc], ?_, HB3.out.drewN 1⟩, ?_⟩
        · have h1 := app_less h mm ys (blk_pos hh) (by rw [HK.out trivial, (Hys.out trivial).2.2.1, hyn]; exact hfull)
          rw [HK.out trivial, (Hys.out trivial).2.2.1, ← HTL.out trivial] at h1
          rw [Hnext.out trivial]
          show Sta _ _ _ _
          unfold Sta
          rw [h1.1, h1.2, List.length_append, hyn]
          exact HC3.out.drewN 1
        · show x.length - k - n < x.length - k
          omega
      · have hfull2 : f + n = K := by omega
        have hmod := div_full mm.length n K hbp.1 (by rw [(Hys.out trivial).2.2.1]; exact hfull2)
        rw [hmod.2] at CF2
        clear hmod
        refine CF2.mono ?_
        rintro e w5 ⟨rfl, rfl⟩
        clear CF2
        go_wp2_with fail
        refine (mix_any b h (cF h mm) (mm.length + n) tl (we.drewN 1) (HC3.out.drewN 1) (cF_length h mm) htl2 ((HT.out.but HB3.out hb7).drewN 1) hb7).mono ?_
        rintro e w6 ⟨rfl, hc6, hb6⟩
        have HC6 : Hid (Cl w6 b (stV h (mixF h (cF h mm) tl) (mm.length + n) Z128)) := hc6
        have HB6 : Hid (But w w6 b) := (HB3.out.drewN 1).trans hb6
        clear hc6 hb6
        go_wp2
        refine ⟨⟨k + n, a2, by rw [Nat.sub_sub, Nat.sub_sub], by omega, fun h0 => by rw [ha2 (by omega), Nat.add_assoc], ?_, HB6⟩, ?_⟩
        · have h1 := app_full h mm ys (blk_pos hh) (by rw [HK.out trivial, (Hys.out trivial).2.2.1, hyn]; exact hfull2)
          rw [HK.out trivial, (Hys.out trivial).2.2.1, ← HTL.out trivial] at h1
          rw [Hnext.out trivial]
          show Sta _ _ _ _
          unfold Sta
          rw [h1.1, h1.2, List.length_append, hyn]
          exact HC6.out
        · show x.length - k - n < x.length - k
          omega
    · obtain rfl : k = x.length := by omega
      go_wp2
      go_end0
      refine ⟨rfl, ?_, hbut.out⟩
      have := hst.out
      rw [List.take_length] at this
      exact this
end Go.Proofs.YtdhfjhdlimmjhaaGreatDoor.Sha