import Derived.Test.YtephdffhfkldoaaDoorWr3
import Derived.Test.YtephdffhfkldoaaDoorSm
namespace Go.Proofs.YtephdffhfkldoaaDoor
open Go.RowKit

theorem row_lit (w : World) (x : X) (h : XOk w x) : Row (w.alloc (Obj.cells #[.int .i64 x.e.tag, xD x, .int .i64 x.e.kids] 35)) (some ⟨w.heap.size, 0, none⟩) [x] := by
  have hb := alloc_bl w [.int .i64 x.e.tag, xD x, .int .i64 x.e.kids] 35
  refine ⟨.inr ⟨w.heap.size, 0, rfl, hb.lt, fun j hj => ?_⟩, fun y hy => by rw [List.mem_singleton.1 hy]; exact h.below (alloc_below _ _) (Nat.le_refl _)⟩
  obtain rfl : j = 0 := by simpa using hj
  exact ⟨hb.cell 0 (by simp), hb.cell 1 (by simp), hb.cell 2 (by simp)⟩

def aloneV (t : E) (tag : Int) : Bool := t.tag == tag && shaped [t]

set_option maxHeartbeats 1000000 in
theorem alone_any (x : X) (tag : Int) (w : World) (h : XOk w x) :
    Calls Tryd.prog 38 #[xV x, .int .i64 tag] w fun e w' => e = .returned (.bool (aloneV x.e tag)) ∧ Below w.heap.size w w' := by
  cases ht : (x.e.tag == tag) with
  | false =>
    have HE : Hid (aloneV x.e tag = false) := by show _ = _; unfold aloneV; rw [ht]; rfl
    obtain ⟨⟨t, l, k⟩, a, c⟩ := x
    simp only [xV, xD] at *
    clear h
    go_enter Tryd.func38, Tryd.ntmps38
    go_wp2
    go_ret
    exact ⟨by rw [HE.out]; rfl, alloc_below _ _⟩
  | true =>
    have HE : Hid (aloneV x.e tag = shaped [x.e]) := by show _ = _; unfold aloneV; rw [ht]; rfl
    have C := fun o => shaped_any (some ⟨(w.alloc o).heap.size, 0, none⟩) 1 [x] _ (row_lit (w.alloc o) x (h.below (alloc_below _ _) (Nat.le_refl _))) (by simp)
    have HB : ∀ o1 o2 : Obj, Below w.heap.size w ((w.alloc o1).alloc o2) := fun o1 o2 => (alloc_below w o1).trans ((alloc_below (w.alloc o1) o2).mono (by rw [alloc_size]; omega))
    obtain ⟨⟨t, l, k⟩, a, c⟩ := x
    simp only [xV, xD, List.length_cons, List.length_nil] at *
    have HC : Hid (∀ o : Obj, Calls Tryd.prog 12 #[.slice (some ⟨(w.alloc o).heap.size, 0, none⟩) 1 1] ((w.alloc o).alloc (Obj.cells #[.int .i64 t, .slice a l.length c, .int .i64 k] 35)) fun e w' => e = .returned (.bool (shaped [⟨t, l, k⟩])) ∧ Below ((w.alloc o).alloc (Obj.cells #[.int .i64 t, .slice a l.length c, .int .i64 k] 35)).heap.size ((w.alloc o).alloc (Obj.cells #[.int .i64 t, .slice a l.length c, .int .i64 k] 35)) w') := fun o => by
      have := C o
      simp only [es, List.map_cons, List.map_nil] at this
      exact this
    generalize shaped [⟨t, l, k⟩] = sh at *
    clear C h
    have HCn := fun o => by
      have := HC.out o
      rw [alloc_size] at this
      exact this
    clear HC
    go_enter Tryd.func38, Tryd.ntmps38
    go_wp2_with fail
    refine (HCn _).mono ?_
    rintro e w1 ⟨rfl, hB⟩
    go_wp2
    go_ret
    exact ⟨by rw [HE.out]; rfl, (HB _ _).trans (hB.mono (HB _ _).size)⟩

/-- Bytes without the noughts ahead. -/
def lst (l : List UInt8) : List UInt8 := l.dropWhile (· == 0)

/-- A piece of bytes that can be read. -/
structure Sl (w : World) (v : Value) (l : List UInt8) : Prop where
  ex : ∃ a c, v = .slice a l.length c ∧ Rd w a l ∧ l.length ≤ c ∧ c ≤ 9223372036854775807 ∧ (a = none → c = 0)

set_option maxRecDepth 100000 in
set_option maxHeartbeats 1000000 in
theorem least_any (v : Value) (l : List UInt8) (w : World) (h : Sl w v l) :
    Calls Tryd.prog 37 #[v] w fun e w' => ∃ v', e = .returned v' ∧ Sl w v' (lst l) ∧ w' = w := by
  obtain ⟨a0, c0, hv0, _⟩ := h.ex
  have H0 : Hid (Sl w v l) := h
  clear h
  subst hv0
  go_enter Tryd.func37, Tryd.ntmps37
  go_wp2
  go_loopw [0] (fun s0 wr => ∃ l', Hid (Sl w s0 l' ∧ lst l = lst l') ∧ wr = w) (fun s _ => match s with | .slice _ n _ => n | _ => 0)
  case atStart => exact ⟨l, ⟨H0.out, rfl⟩, rfl⟩
  case round =>
    obtain ⟨l', HS, hwr⟩ := hrel
    subst hwr
    obtain ⟨a, c, hv, hr, h1, h2, h3⟩ := HS.out.1.ex
    subst hv
    match l', HS, hr, h1 with
    | [], HS, hr, h1 =>
      have HF : Hid (lst l = []) := HS.out.2
      have HS1 : Hid (Sl wr (.slice a 0 c) []) := HS.out.1
      simp only [List.length_nil] at *
      clear HS hr h3
      go_wp2
      go_ret
      exact ⟨_, rfl, by rw [HF.out]; exact HS1.out, rfl⟩
    | y :: r, HS, hr, h1 =>
      obtain ⟨g, off, rfl, hg, hc⟩ := hr.cell (by simp)
      have g0 := hc 0 (by simp)
      simp only [List.getD_cons_zero, Nat.add_zero] at g0
      by_cases hy : y = 0
      · subst hy
        have g0' : wr.cell? ⟨g, off, none⟩ = some (.int .u8 0) := g0
        have HF : Hid (lst l = lst r) := by
          show _ = _
          rw [HS.out.2]; simp [lst]
        have hd := Rd.drop hr 1
        clear hc g0 HS h3 hr
        simp only [List.length_cons] at *
        by_cases hc1 : c = 1
        · subst hc1
          obtain rfl : r = [] := List.length_eq_zero_iff.1 (by omega)
          have HSr : Hid (Sl wr (.slice (some ⟨g, off, none⟩) 0 0) []) := ⟨_, _, rfl, Rd.nil _ _, Nat.le_refl _, by omega, fun e => by cases e⟩
          simp only [List.length_nil] at *
          go_wp2
          go_roundw
          case rel => exact ⟨[], ⟨HSr.out, HF.out⟩, (by first | rfl | trivial)⟩
          case measure => simp
        · have hc3 : 1 < c := by omega
          have HSr : Hid (Sl wr (.slice (some ⟨g, off + 1, none⟩) r.length (c - 1)) r) := ⟨_, _, rfl, hd, by omega, by omega, fun e => by cases e⟩
          go_wp2
          go_roundw
          case rel => exact ⟨r, ⟨HSr.out, HF.out⟩, (by first | rfl | trivial)⟩
          case measure => simp
      · have hyb : ((y.toNat : Int) == 0) = false := by
          rw [beq_eq_false_iff_ne]
          have : y.toNat ≠ 0 := fun e => hy (u8_ext e)
          omega
        have HF : Hid (lst l = y :: r) := by
          show _ = _
          rw [HS.out.2]; simp [lst, hy]
        have HS1 : Hid (Sl wr (.slice (some ⟨g, off, none⟩) (r.length + 1) c) (y :: r)) := HS.out.1
        simp only [List.length_cons] at *
        clear HS hc hr h3
        go_wp2
        go_ret
        exact ⟨_, rfl, by rw [HF.out]; exact HS1.out, rfl⟩

/-- Uint's answer. -/
def uintV (t : E) : Option (List UInt8) := if aloneV t 2 && decide ((t.data.getD 0 0).toNat < 128) then some (lst t.data) else none

theorem alone_int {t : E} (h : aloneV t 2 = true) : 0 < t.data.length := by
  unfold aloneV at h
  simp only [Bool.and_eq_true, beq_iff_eq] at h
  obtain ⟨h1, h2⟩ := h
  obtain ⟨bs, hE⟩ := shaped_El.1 h2
  have hs := El_sound _ _ _ hE t (List.mem_singleton.2 rfl)
  unfold sound right at hs
  rw [h1] at hs
  simp at hs
  have h3 := hs.1.2
  cases hd : t.data with
  | nil => rw [hd] at h3; simp [isInt] at h3
  | cons a b => simp

set_option maxRecDepth 100000 in
set_option maxHeartbeats 1000000 in
theorem uint_any (x : X) (w : World) (h : XOk w x) (hnl : x.a = none → x.c = 0) (hlen : x.e.data.length ≤ 1000000000) :
    Calls Tryd.prog 17 #[xV x] w fun e w' => ∃ v, (e = .returned (.tuple #[v, .bool (uintV x.e).isSome]) ∧ Below w.heap.size w w') ∧ w'.ownsRow w.heap.size 5 1 v ((uintV x.e).getD []).length (((uintV x.e).getD []).map B) := by
  have C := fun o => alone_any x 2 (w.alloc o) (h.below (alloc_below _ _) (Nat.le_refl _))
  cases ha : aloneV x.e 2 with
  | false =>
    have HE : Hid (uintV x.e = none) := by show _ = _; unfold uintV; rw [ha]; rfl
    rw [ha] at C
    obtain ⟨⟨t, l, k⟩, a, c⟩ := x
    simp only [xV, xD] at *
    have HC : Hid (∀ o, Calls Tryd.prog 38 #[.agg #[.int .i64 t, .slice a l.length c, .int .i64 k], .int .i64 2] (w.alloc o) fun e w' => e = .returned (.bool false) ∧ Below (w.alloc o).heap.size (w.alloc o) w') := C
    clear C h
    go_enter Tryd.func17, Tryd.ntmps17
    go_wp2_with fail
    refine (HC.out _).mono ?_
    rintro e w1 ⟨rfl, hB⟩
    go_wp2
    go_ret2
    refine ⟨_, ⟨by rw [HE.out]; rfl, (alloc_below w _).trans (hB.mono (alloc_below w _).size)⟩, ?_⟩
    rw [HE.out]
    exact World.ownsRow_nil _ _ _ _
  | true =>
    have hpos := alone_int ha
    have HU : Hid (uintV x.e = if decide ((x.e.data.getD 0 0).toNat < 128) then some (lst x.e.data) else none) := by show _ = _; unfold uintV; rw [ha]; rfl
    rw [ha] at C
    obtain ⟨⟨t, l, k⟩, a, c⟩ := x
    simp only [xV, xD] at *
    have HC : Hid (∀ o, Calls Tryd.prog 38 #[.agg #[.int .i64 t, .slice a l.length c, .int .i64 k], .int .i64 2] (w.alloc o) fun e w' => e = .returned (.bool true) ∧ Below (w.alloc o).heap.size (w.alloc o) w') := C
    have HT : Hid (Bl 35 (w.alloc (Obj.cells #[.int .i64 t, .slice a l.length c, .int .i64 k] 35)) w.heap.size [.int .i64 t, .slice a l.length c, .int .i64 k]) := alloc_bl _ _ _
    have HR : Hid (Rd w a l) := h.rd
    have hle := h.le
    have hcp := h.cap
    clear C h ha
    go_enter Tryd.func17, Tryd.ntmps17
    go_wp2_with fail
    refine (HC.out _).mono ?_
    rintro e w1 ⟨rfl, hB⟩
    have HB1 : Hid (Below w.heap.size w w1) := (alloc_below w _).trans (hB.mono (alloc_below w _).size)
    have HT1 : Hid (Bl 35 w1 w.heap.size [.int .i64 t, .slice a l.length c, .int .i64 k]) := HT.out.below hB HT.out.lt
    have ct1 : w1.cell? ⟨w.heap.size, 1, none⟩ = some (.slice a l.length c) := HT1.out.cell 1 (by simp)
    have HR1 : Hid (Rd w1 a l) := HR.out.below HB1.out (Nat.le_refl _)
    obtain ⟨g, off, ea, hg, hc⟩ := HR1.out.cell hpos
    subst ea
    have g0 := hc 0 hpos
    rw [Nat.add_zero] at g0
    clear HC hB HT hc
    have hy := u8_lt (l.getD 0 0)
    by_cases hbig : (l.getD 0 0).toNat < 128
    · have HE : Hid (uintV ⟨t, l, k⟩ = some (lst l)) := by show _ = _; rw [HU.out, decide_eq_true hbig]; rfl
      have hb8 : decide ((128 : Int) ≤ ((l.getD 0 0).toNat : Int)) = false := decide_eq_false (by omega)
      have Cl := least_any (.slice (some ⟨g, off, none⟩) l.length c) l w1 ⟨_, _, rfl, HR1.out, hle, hcp, fun e => by cases e⟩
      generalize (l.getD 0 0).toNat = y at *
      have HCl : Hid (Calls Tryd.prog 37 #[.slice (some ⟨g, off, none⟩) l.length c] w1 fun e w' => ∃ v', e = .returned v' ∧ Sl w1 v' (lst l) ∧ w' = w1) := Cl
      have hll : (lst l).length ≤ l.length := by unfold lst; exact (List.dropWhile_sublist _).length_le
      clear Cl HU
      go_wp2_with fail
      refine HCl.out.mono ?_
      rintro e w2 ⟨v2, rfl, hsl, hw2⟩
      subst hw2
      obtain ⟨a2, c2, hv2, hr2, hl2, hc2, hn2⟩ := hsl.ex
      subst hv2
      have HR2 : Hid (Rd w2 a2 (lst l)) := hr2
      have Hn2 : Hid (a2 = none → (lst l).length = 0 ∧ c2 = 0) := fun e => ⟨by have := hn2 e; omega, hn2 e⟩
      have HO2 : Hid (Ob w2.heap.size w2 w2 (.slice none 0 0) []) := ⟨World.ownsRow_nil _ _ _ _, Below.refl _ _, Ku.refl _⟩
      have hsb : (lst l).length ≤ 10000000000 := by omega
      clear hsl hr2 hn2
      go_wp2_with (at_builtin; refine append_ob rfl (.const (.slice none 0 0)) (.tmp 16) rfl w2.heap.size _ [] rfl HO2.out a2 (lst l).length c2 (lst l) rfl rfl Hn2.out HR2.out (by simpa using hsb) (Nat.le_refl _) ?_; intro v5 w5 hob5)
      go_ret2
      refine ⟨_, ⟨by rw [HE.out]; rfl, HB1.out.trans (hob5.bel.mono HB1.out.size)⟩, ?_⟩
      rw [HE.out]
      have := hob5.own
      rw [List.nil_append] at this
      exact own_base this HB1.out.size
    · have HE : Hid (uintV ⟨t, l, k⟩ = none) := by show _ = _; rw [HU.out, decide_eq_false hbig]; rfl
      have hb8 : decide ((128 : Int) ≤ ((l.getD 0 0).toNat : Int)) = true := decide_eq_true (by omega)
      generalize (l.getD 0 0).toNat = y at *
      clear HU
      go_wp2
      go_ret2
      refine ⟨_, ⟨by rw [HE.out]; rfl, HB1.out⟩, ?_⟩
      rw [HE.out]
      exact World.ownsRow_nil _ _ _ _

end Go.Proofs.YtephdffhfkldoaaDoor
