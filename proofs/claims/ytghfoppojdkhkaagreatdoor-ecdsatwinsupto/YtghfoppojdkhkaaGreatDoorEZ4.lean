import Derived.Test.YtghfoppojdkhkaaGreatDoorEZ3
import Derived.Test.YtghfoppojdkhkaaGreatDoorCEn
import Derived.Test.YtghfoppojdkhkaaGreatDoorShZ7
namespace Go.Proofs.YtghfoppojdkhkaaGreatDoor
open Go.RowKit

set_option maxRecDepth 100000

theorem rd_take {w : World} {ao : Option Addr} {l : List UInt8} (h : Rd w ao l) (k : Nat) : Rd w ao (l.take k) := by
  rcases h with h | ⟨g, off, e, hg, hc⟩
  · subst h; exact .inl (by simp)
  · refine .inr ⟨g, off, e, hg, fun j hj => ?_⟩
    have h1 : j < k ∧ j < l.length := by rw [List.length_take] at hj; omega
    rw [hc j h1.2, List.getD_eq_getElem?_getD, List.getD_eq_getElem?_getD, List.getElem?_take, if_pos h1.1]
theorem rd_drop {w : World} {g off : Nat} {l : List UInt8} (h : Rd w (some ⟨g, off, none⟩) l) (k : Nat) : Rd w (some ⟨g, off + k, none⟩) (l.drop k) := by
  rcases h with h | ⟨g', off', e, hg, hc⟩
  · subst h; exact .inl (by simp)
  · cases e
    refine .inr ⟨g, off + k, rfl, hg, fun j hj => ?_⟩
    have h1 : k + j < l.length := by simp at hj; omega
    rw [Nat.add_assoc, hc (k + j) h1, List.getD_eq_getElem?_getD, List.getD_eq_getElem?_getD, List.getElem?_drop]
/-- Two numbers of a row of bytes, cut in the middle. -/
theorem from_v (ao : Option Addr) (len c : Nat) (l : List UInt8) (w : World) (hl : Rd w ao l) (e : l.length = len) (h : len ≤ 48) : Calls Tryz.prog 11 #[.slice ao len c] w fun e w' => ∃ r, e = .returned r ∧ Rk w w' r (bv l) 384 := by
  subst e
  refine (fromBytes_any ao c l w hl (by omega)).mono ?_
  rintro e w' ⟨r, rfl, hO, hB⟩
  exact ⟨r, rfl, ⟨hO, Nat.le_trans (dgl_pw (bv_pw h) (by decide)) (by decide), hB⟩, bv_pw h⟩
set_option maxHeartbeats 4000000 in
theorem cut_32 (ag : Option Addr) (cs : Nat) (l : List UInt8) (w : World) (hr : Rd w ag l) (hl : l.length = 64) (hc : 64 ≤ cs) :
    Calls Tryz.prog 31 #[.slice ag 64 cs, .int .i64 32] w fun e w' => ∃ r t, e = .returned (.tuple #[r, t, .bool true]) ∧ Mk w' w.heap.size r (bv (l.take 32)) 384 ∧ Mk w' w.heap.size t (bv (l.drop 32)) 384 ∧ Below w.heap.size w w' := by
  obtain ⟨g, off, rfl⟩ : ∃ g off : Nat, ag = some ⟨g, off, none⟩ := by
    rcases hr with h | ⟨g, off, e, _⟩
    · subst h; simp at hl
    · exact ⟨g, off, e⟩
  have H1 : Hid (Rd w (some ⟨g, off, none⟩) (l.take 32) ∧ (l.take 32).length = 32) := ⟨rd_take hr 32, by simp [hl]⟩
  have H2 : Hid (Rd w (some ⟨g, off + 32, none⟩) (l.drop 32) ∧ (l.drop 32).length = 32) := ⟨rd_drop hr 32, by simp [hl]⟩
  clear hr hl
  go_enter Tryz.func31, Tryz.ntmps31
  go_wp2
  go_quiet (fail)
  go_wp2_with fail
  refine (from_v _ _ _ (l.take 32) _ (H1.out.1.drewN _) H1.out.2 (by decide)).mono ?_
  rintro e w1 ⟨r, rfl, h⟩
  have HB1 : Hid (Below w.heap.size w w1) := (below_drewN (Below.refl w.heap.size w) _).trans h.bel
  have HR1 : Hid (Mk w1 w.heap.size r (bv (l.take 32)) 384) := h.mk
  obtain ⟨r0, r1, r2, rfl⟩ := h.sl
  clear h
  go_wp2_with fail
  refine (from_v _ _ _ (l.drop 32) _ (H2.out.1.below HB1.out (Nat.le_refl _)) H2.out.2 (by decide)).mono ?_
  rintro e w2 ⟨t, rfl, h⟩
  have HX : Hid (Mk w2 w.heap.size (.slice r0 r1 r2) (bv (l.take 32)) 384 ∧ Mk w2 w.heap.size t (bv (l.drop 32)) 384 ∧ Below w.heap.size w w2) := ⟨HR1.out.below h.bel, h.mk.base HB1.out.size, HB1.out.trans (h.bel.mono HB1.out.size)⟩
  obtain ⟨t0, t1, t2, rfl⟩ := h.sl
  clear h
  go_wp2
  go_ret3
  exact ⟨_, _, rfl, HX.out⟩
set_option maxHeartbeats 4000000 in
theorem cut_48 (ag : Option Addr) (cs : Nat) (l : List UInt8) (w : World) (hr : Rd w ag l) (hl : l.length = 96) (hc : 96 ≤ cs) :
    Calls Tryz.prog 31 #[.slice ag 96 cs, .int .i64 48] w fun e w' => ∃ r t, e = .returned (.tuple #[r, t, .bool true]) ∧ Mk w' w.heap.size r (bv (l.take 48)) 384 ∧ Mk w' w.heap.size t (bv (l.drop 48)) 384 ∧ Below w.heap.size w w' := by
  obtain ⟨g, off, rfl⟩ : ∃ g off : Nat, ag = some ⟨g, off, none⟩ := by
    rcases hr with h | ⟨g, off, e, _⟩
    · subst h; simp at hl
    · exact ⟨g, off, e⟩
  have H1 : Hid (Rd w (some ⟨g, off, none⟩) (l.take 48) ∧ (l.take 48).length = 48) := ⟨rd_take hr 48, by simp [hl]⟩
  have H2 : Hid (Rd w (some ⟨g, off + 48, none⟩) (l.drop 48) ∧ (l.drop 48).length = 48) := ⟨rd_drop hr 48, by simp [hl]⟩
  clear hr hl
  go_enter Tryz.func31, Tryz.ntmps31
  go_wp2
  go_quiet (fail)
  go_wp2_with fail
  refine (from_v _ _ _ (l.take 48) _ (H1.out.1.drewN _) H1.out.2 (by decide)).mono ?_
  rintro e w1 ⟨r, rfl, h⟩
  have HB1 : Hid (Below w.heap.size w w1) := (below_drewN (Below.refl w.heap.size w) _).trans h.bel
  have HR1 : Hid (Mk w1 w.heap.size r (bv (l.take 48)) 384) := h.mk
  obtain ⟨r0, r1, r2, rfl⟩ := h.sl
  clear h
  go_wp2_with fail
  refine (from_v _ _ _ (l.drop 48) _ (H2.out.1.below HB1.out (Nat.le_refl _)) H2.out.2 (by decide)).mono ?_
  rintro e w2 ⟨t, rfl, h⟩
  have HX : Hid (Mk w2 w.heap.size (.slice r0 r1 r2) (bv (l.take 48)) 384 ∧ Mk w2 w.heap.size t (bv (l.drop 48)) 384 ∧ Below w.heap.size w w2) := ⟨HR1.out.below h.bel, h.mk.base HB1.out.size, HB1.out.trans (h.bel.mono HB1.out.size)⟩
  obtain ⟨t0, t1, t2, rfl⟩ := h.sl
  clear h
  go_wp2
  go_ret3
  exact ⟨_, _, rfl, HX.out⟩
/-- A message's number. -/
def zV (s h : Int) (m : List UInt8) : Nat := bv ((Sha.sumF h m).take s.toNat)
theorem parts1 (w : World) (p : Sha.Prt) (h : Sha.prOk w p) : Sha.Pts (w.alloc (.cells #[Sha.prV p] 24)) (some ⟨w.heap.size, 0, none⟩) [p] := by
  refine ⟨.inr ⟨w.heap.size, 0, rfl, fun j hj => ?_⟩, ?_⟩
  · have hbl := alloc_bl w [Sha.prV p] 24
    have := hbl.cell j (by simpa using hj)
    rw [Nat.zero_add]
    refine this.trans ?_
    have e : [Sha.prV p] = [p].map Sha.prV := rfl
    simp only [e, List.getElem_map]
  · intro p' hp
    simp only [List.mem_singleton] at hp
    subst hp
    exact ⟨Sha.Rd.below h.1 (alloc_below w _) (Nat.le_refl _), h.2⟩
theorem siz_four (h : Int) : Sha.siz h = 0 ∨ Sha.siz h = 32 ∨ Sha.siz h = 48 ∨ Sha.siz h = 64 := by
  unfold Sha.siz
  split
  · simp
  · split
    · simp
    · split <;> simp
set_option maxHeartbeats 8000000 in
theorem number_v {c s : Int} {p b n gx gy : Nat} (hk : Kv c p b n gx gy s) (h : Int) (am : Option Addr) (cm : Nat) (m : List UInt8) (w : World) (T : Sha.Tb w) (hm : Rd w am m) (hc : m.length ≤ cm) (hc2 : cm ≤ 9223372036854775807) (hl : m.length < 2305843009213693952) :
    Calls Tryz.prog 34 #[.int .i64 h, .int .i64 c, .slice am m.length cm] w fun e w' => ∃ r, e = .returned r ∧ Mk w' w.heap.size r (zV s h m) 384 ∧ Below w.heap.size w w' := by
  have hb := alloc_below w (.cells #[.slice am m.length cm] 24)
  have CQ := Sha.ssum_any h (some ⟨w.heap.size, 0, none⟩) 1 [⟨am, cm, m⟩] (w.alloc (.cells #[.slice am m.length cm] 24)) (T.below hb) (parts1 w ⟨am, cm, m⟩ ⟨hm, hc, hc2⟩) (by simp) (by simp [Sha.cat]; omega)
  rw [show Sha.cat [⟨am, cm, m⟩] = m by simp [Sha.cat]] at CQ
  have HB0 : Hid (Below w.heap.size w (w.alloc (.cells #[.slice am m.length cm] 24))) := hb
  have HL : Hid ((Sha.sumF h m).length = Sha.siz h) := Sha.sumF_length h m
  have hs4 := siz_four h
  clear hb T hm hl
  go_enter Tryz.func34, Tryz.ntmps34
  go_wp2_with fail
  generalize (w.alloc (.cells #[.slice am m.length cm] 24)) = w0 at *
  refine CQ.mono ?_
  clear CQ
  rintro e w1 ⟨a1, rfl, ho, hq⟩
  have HB1 : Hid (Below w.heap.size w w1) := HB0.out.trans (hq.mono HB0.out.size)
  have HR1 : Hid (Rd w1 a1 (Sha.sumF h m)) := ho.rd
  clear ho hq
  generalize Sha.siz h = z at *
  go_wp2_with fail
  refine (size_v hk _).mono ?_
  rintro e w2 ⟨rfl, hB⟩
  have HB2 : Hid (Below w.heap.size w w2) := HB1.out.trans (hB.mono HB1.out.size)
  have HR2 : Hid (Rd w2 a1 ((Sha.sumF h m).take s.toNat)) := rd_take (HR1.out.below hB (Nat.le_refl _)) _
  have HL2 : Hid (((Sha.sumF h m).take s.toNat).length = min s.toNat z) := (by rw [List.length_take, HL.out] : ((Sha.sumF h m).take s.toNat).length = min s.toNat z)
  have HZ : Hid (zV s h m = bv ((Sha.sumF h m).take s.toNat)) := rfl
  clear hB
  generalize (Sha.sumF h m).take s.toNat = l at *
  rcases hk.s0 with hs | hs <;> subst hs <;> rcases hs4 with h4 | h4 | h4 | h4 <;> subst h4
  all_goals
    go_wp2_with fail
    refine (from_v _ _ _ l _ HR2.out (HL2.out.trans (by decide)) (by decide)).mono ?_
    rintro e w3 ⟨r, rfl, hh⟩
    have HX : Hid (Mk w3 w.heap.size r (bv l) 384 ∧ Below w.heap.size w w3) := ⟨hh.mk.base HB2.out.size, HB2.out.trans (hh.bel.mono HB2.out.size)⟩
    obtain ⟨r0, r1, r2, rfl⟩ := hh.sl
    clear hh
    go_wp2
    go_ret
    exact ⟨_, rfl, by rw [HZ.out]; exact HX.out.1, HX.out.2⟩
set_option maxHeartbeats 1000000 in
theorem cut_bad (ag : Option Addr) (len cs : Nat) (s : Int) (w : World) (hs : s = 32 ∨ s = 48) (hl : (len : Int) ≠ 2 * s) :
    Calls Tryz.prog 31 #[.slice ag len cs, .int .i64 s] w fun e w' => e = .returned (.tuple #[.slice none 0 0, .slice none 0 0, .bool false]) ∧ w' = w := by
  rcases hs with rfl | rfl
  · have d1 : ((len : Int) != 64) = true := bne_iff_ne.2 (by omega)
    go_enter Tryz.func31, Tryz.ntmps31
    go_wp2
    go_ret3
    exact ⟨rfl, rfl⟩
  · have d1 : ((len : Int) != 96) = true := bne_iff_ne.2 (by omega)
    go_enter Tryz.func31, Tryz.ntmps31
    go_wp2
    go_ret3
    exact ⟨rfl, rfl⟩
theorem cut_v (ag : Option Addr) (cs : Nat) (l : List UInt8) (s : Int) (w : World) (hr : Rd w ag l) (hs : s = 32 ∨ s = 48) (hl : (l.length : Int) = 2 * s) (hc : l.length ≤ cs) :
    Calls Tryz.prog 31 #[.slice ag l.length cs, .int .i64 s] w fun e w' => ∃ r t, e = .returned (.tuple #[r, t, .bool true]) ∧ Mk w' w.heap.size r (bv (l.take s.toNat)) 384 ∧ Mk w' w.heap.size t (bv (l.drop s.toNat)) 384 ∧ Below w.heap.size w w' := by
  rcases hs with rfl | rfl
  · have h : l.length = 64 := by omega
    rw [h]
    exact cut_32 ag cs l w hr h (by omega)
  · have h : l.length = 96 := by omega
    rw [h]
    exact cut_48 ag cs l w hr h (by omega)
end Go.Proofs.YtghfoppojdkhkaaGreatDoor

namespace Go.Proofs.YtghfoppojdkhkaaGreatDoor
open Go.RowKit

set_option maxRecDepth 100000

theorem Pa.open2 {w w' : World} {v : Value} {P : Pt} (h : Pa w w' v P) : ∃ (x0 y0 : Option Addr) (x1 x2 y1 y2 X Y : Nat) (f : Bool), v = .agg #[.slice x0 x1 x2, .slice y0 y1 y2, .bool f] ∧ Mk w' w.heap.size (.slice x0 x1 x2) X 384 ∧ Mk w' w.heap.size (.slice y0 y1 y2) Y 384 ∧ ptO X Y f = P ∧ (f = true → X = 0 ∧ Y = 0) := by
  cases P with
  | O => exact ⟨none, none, 0, 0, 0, 0, 0, 0, true, h.1, Mk.none _ _ _, Mk.none _ _ _, rfl, fun _ => ⟨rfl, rfl⟩⟩
  | A a c =>
    obtain ⟨⟨x, y, rfl, m1, m2, _⟩, _⟩ := h
    obtain ⟨x0, x1, x2, rfl⟩ := m1.nk.sl
    obtain ⟨y0, y1, y2, rfl⟩ := m2.nk.sl
    exact ⟨x0, y0, x1, x2, y1, y2, a, c, false, rfl, m1, m2, rfl, fun h => by cases h⟩
/-- What Verify answers, of a key and a signature of a curve. -/
noncomputable def verV (p b n : Nat) (G : Pt) (s h : Int) (lx ly m sg : List UInt8) : Int := open Classical in
  if Sha.siz h = 0 then 111 else if decB p b s lx ly = false then 90 else if (sg.length : Int) ≠ 2 * s then 91
  else if (0 < bv (sg.take s.toNat) ∧ bv (sg.take s.toNat) < n) ∧ 0 < bv (sg.drop s.toNat) ∧ bv (sg.drop s.toNat) < n then (if mkx n (jt p n G (zV s h m) (bv (sg.take s.toNat)) (iv n (bv (sg.drop s.toNat))) (.A (bv lx) (bv ly))) (bv (sg.take s.toNat)) = true then 0 else 91) else 91
theorem Tb.below' {w w' : World} {n : Nat} (h : Sha.Tb w) (hb : Below n w w') (hn : w.heap.size ≤ n) : Sha.Tb w' := h.below (hb.mono hn)
set_option maxHeartbeats 8000000 in
theorem ver_alg (c : Int) (h : Int) (ax ay am ag : Option Addr) (cx cy cm cg : Nat) (lx ly m sg : List UInt8) (w : World) (T : Sha.Tb w) (hx : Rd w ax lx) (hy : Rd w ay ly) (hm : Rd w am m) (hg : Rd w ag sg) (l1 : lx.length ≤ 100000000) (l2 : ly.length ≤ 100000000) (l3 : m.length ≤ 100000000) (l4 : sg.length ≤ cg) (c3 : m.length ≤ cm ∧ cm ≤ 9223372036854775807) (h0 : Sha.siz h = 0) :
    Calls Tryz.prog 10 #[.int .i64 h, .int .i64 c, .slice ax lx.length cx, .slice ay ly.length cy, .slice am m.length cm, .slice ag sg.length cg] w fun e w' => e = .returned (.int .i64 111) ∧ Below w.heap.size w w' := by
  have HR : Hid (Rd w ax lx ∧ Rd w ay ly ∧ Rd w am m ∧ Rd w ag sg ∧ Sha.Tb w) := ⟨hx, hy, hm, hg, T⟩
  have HLn : Hid (lx.length ≤ 100000000 ∧ ly.length ≤ 100000000 ∧ m.length ≤ 100000000 ∧ sg.length ≤ cg ∧ m.length ≤ cm ∧ cm ≤ 9223372036854775807) := ⟨l1, l2, l3, l4, c3⟩
  have CS := Sha.size_any h w
  rw [h0] at CS
  clear T hx hy hm hg l1 l2 l3 l4 c3
  go_enter Tryz.func10, Tryz.ntmps10
  go_wp2_with fail
  refine CS.mono ?_
  rintro e w_ ⟨rfl, rfl⟩
  clear CS
  go_wp2
  go_ret
  exact ⟨rfl, Below.refl _ _⟩
set_option maxHeartbeats 8000000 in
theorem ver_none (c : Int) (h1 : c ≠ 1) (h2 : c ≠ 2) (h : Int) (ax ay am ag : Option Addr) (cx cy cm cg : Nat) (lx ly m sg : List UInt8) (w : World) (T : Sha.Tb w) (hx : Rd w ax lx) (hy : Rd w ay ly) (hm : Rd w am m) (hg : Rd w ag sg) (l1 : lx.length ≤ 100000000) (l2 : ly.length ≤ 100000000) (l3 : m.length ≤ 100000000) (l4 : sg.length ≤ cg) (c3 : m.length ≤ cm ∧ cm ≤ 9223372036854775807) (h0 : Sha.siz h ≠ 0) :
    Calls Tryz.prog 10 #[.int .i64 h, .int .i64 c, .slice ax lx.length cx, .slice ay ly.length cy, .slice am m.length cm, .slice ag sg.length cg] w fun e w' => e = .returned (.int .i64 90) ∧ Below w.heap.size w w' := by
  have HR : Hid (Rd w ax lx ∧ Rd w ay ly ∧ Rd w am m ∧ Rd w ag sg ∧ Sha.Tb w) := ⟨hx, hy, hm, hg, T⟩
  have HLn : Hid (lx.length ≤ 100000000 ∧ ly.length ≤ 100000000 ∧ m.length ≤ 100000000 ∧ sg.length ≤ cg ∧ m.length ≤ cm ∧ cm ≤ 9223372036854775807) := ⟨l1, l2, l3, l4, c3⟩
  have CS := Sha.size_any h w
  have hz : (((Sha.siz h : Nat) : Int) == 0) = false := by have := h0; simp; omega
  generalize Sha.siz h = z at *
  clear T hx hy hm hg l1 l2 l3 l4 c3
  go_enter Tryz.func10, Tryz.ntmps10
  go_wp2_with fail
  refine CS.mono ?_
  rintro e w_ ⟨rfl, rfl⟩
  clear CS
  go_wp2_with fail
  refine (decode_none c h1 h2 ax ay cx cy lx ly _ (HR.out.1) (HR.out.2.1) HLn.out.1 HLn.out.2.1).mono ?_
  rintro e w1 ⟨rfl, hB⟩
  have HB : Hid (Below w_.heap.size w_ w1) := hB
  clear hB
  go_wp2
  go_ret
  exact ⟨rfl, HB.out.trans ((alloc_below w1 _).mono HB.out.size)⟩
set_option maxHeartbeats 8000000 in
theorem ver_key {c s : Int} {p b n gx gy : Nat} (hk : Kv c p b n gx gy s) (h : Int) (ax ay am ag : Option Addr) (cx cy cm cg : Nat) (lx ly m sg : List UInt8) (w : World) (T : Sha.Tb w) (hx : Rd w ax lx) (hy : Rd w ay ly) (hm : Rd w am m) (hg : Rd w ag sg) (l1 : lx.length ≤ 100000000) (l2 : ly.length ≤ 100000000) (l3 : m.length ≤ 100000000) (l4 : sg.length ≤ cg) (c3 : m.length ≤ cm ∧ cm ≤ 9223372036854775807) (h0 : Sha.siz h ≠ 0) (hd : decB p b s lx ly = false) :
    Calls Tryz.prog 10 #[.int .i64 h, .int .i64 c, .slice ax lx.length cx, .slice ay ly.length cy, .slice am m.length cm, .slice ag sg.length cg] w fun e w' => e = .returned (.int .i64 90) ∧ Below w.heap.size w w' := by
  have HR : Hid (Rd w ax lx ∧ Rd w ay ly ∧ Rd w am m ∧ Rd w ag sg ∧ Sha.Tb w) := ⟨hx, hy, hm, hg, T⟩
  have HLn : Hid (lx.length ≤ 100000000 ∧ ly.length ≤ 100000000 ∧ m.length ≤ 100000000 ∧ sg.length ≤ cg ∧ m.length ≤ cm ∧ cm ≤ 9223372036854775807) := ⟨l1, l2, l3, l4, c3⟩
  have CS := Sha.size_any h w
  have hz : (((Sha.siz h : Nat) : Int) == 0) = false := by have := h0; simp; omega
  generalize Sha.siz h = z at *
  clear T hx hy hm hg l1 l2 l3 l4 c3
  go_enter Tryz.func10, Tryz.ntmps10
  go_wp2_with fail
  refine CS.mono ?_
  rintro e w_ ⟨rfl, rfl⟩
  clear CS
  go_wp2_with fail
  refine (decode_bad hk ax ay cx cy lx ly _ (HR.out.1) (HR.out.2.1) HLn.out.1 HLn.out.2.1 hd).mono ?_
  rintro e w1 ⟨rfl, hB⟩
  have HB : Hid (Below w_.heap.size w_ w1) := hB
  clear hB
  go_wp2
  go_ret
  exact ⟨rfl, HB.out.trans ((alloc_below w1 _).mono HB.out.size)⟩
set_option maxHeartbeats 8000000 in
theorem ver_len {c s : Int} {p b n gx gy : Nat} (hk : Kv c p b n gx gy s) (h : Int) (ax ay am ag : Option Addr) (cx cy cm cg : Nat) (lx ly m sg : List UInt8) (w : World) (T : Sha.Tb w) (hx : Rd w ax lx) (hy : Rd w ay ly) (hm : Rd w am m) (hg : Rd w ag sg) (l1 : lx.length ≤ 100000000) (l2 : ly.length ≤ 100000000) (l3 : m.length ≤ 100000000) (l4 : sg.length ≤ cg) (c3 : m.length ≤ cm ∧ cm ≤ 9223372036854775807) (h0 : Sha.siz h ≠ 0) (hd : decB p b s lx ly = true) (hl : (sg.length : Int) ≠ 2 * s) :
    Calls Tryz.prog 10 #[.int .i64 h, .int .i64 c, .slice ax lx.length cx, .slice ay ly.length cy, .slice am m.length cm, .slice ag sg.length cg] w fun e w' => e = .returned (.int .i64 91) ∧ Below w.heap.size w w' := by
  have HR : Hid (Rd w ax lx ∧ Rd w ay ly ∧ Rd w am m ∧ Rd w ag sg ∧ Sha.Tb w) := ⟨hx, hy, hm, hg, T⟩
  have HLn : Hid (lx.length ≤ 100000000 ∧ ly.length ≤ 100000000 ∧ m.length ≤ 100000000 ∧ sg.length ≤ cg ∧ m.length ≤ cm ∧ cm ≤ 9223372036854775807) := ⟨l1, l2, l3, l4, c3⟩
  have CS := Sha.size_any h w
  have hz : (((Sha.siz h : Nat) : Int) == 0) = false := by have := h0; simp; omega
  generalize Sha.siz h = z at *
  clear T hx hy hm hg l1 l2 l3 l4 c3
  go_enter Tryz.func10, Tryz.ntmps10
  go_wp2_with fail
  refine CS.mono ?_
  rintro e w_ ⟨rfl, rfl⟩
  clear CS
  go_wp2_with fail
  refine (decode_good hk ax ay cx cy lx ly _ (HR.out.1) (HR.out.2.1) HLn.out.1 HLn.out.2.1 hd).mono ?_
  rintro e w1 ⟨r, rfl, hPa⟩
  obtain ⟨⟨xv, yv, rfl, m1, m2, _⟩, hB⟩ := hPa
  obtain ⟨x0, x1, x2, rfl⟩ := m1.nk.sl
  obtain ⟨y0, y1, y2, rfl⟩ := m2.nk.sl
  have hz1 := alloc_below w1 (.cells #[.slice x0 x1 x2, .slice y0 y1 y2, .bool false] 41)
  have HB2 : Hid (Below w_.heap.size w_ (w1.alloc (.cells #[.slice x0 x1 x2, .slice y0 y1 y2, .bool false] 41))) := hB.trans (hz1.mono hB.size)
  have HK2 : Hid (Bl 41 (w1.alloc (.cells #[.slice x0 x1 x2, .slice y0 y1 y2, .bool false] 41)) w1.heap.size [.slice x0 x1 x2, .slice y0 y1 y2, .bool false] ∧ Nk (w1.alloc (.cells #[.slice x0 x1 x2, .slice y0 y1 y2, .bool false] 41)) (.slice x0 x1 x2) (bv lx) 384 ∧ Nk (w1.alloc (.cells #[.slice x0 x1 x2, .slice y0 y1 y2, .bool false] 41)) (.slice y0 y1 y2) (bv ly) 384) := ⟨alloc_bl w1 [.slice x0 x1 x2, .slice y0 y1 y2, .bool false] 41, m1.nk.below hz1 (Nat.le_refl _), m2.nk.below hz1 (Nat.le_refl _)⟩
  clear hB m1 m2 hz1
  go_wp2_with fail
  generalize (w1.alloc (.cells #[.slice x0 x1 x2, .slice y0 y1 y2, .bool false] 41)) = w2 at *
  refine (size_v hk _).mono ?_
  rintro e w3 ⟨rfl, hB⟩
  have HB3 : Hid (Below w_.heap.size w_ w3) := HB2.out.trans (hB.mono HB2.out.size)
  have HK3 : Hid (Bl 41 w3 w1.heap.size [.slice x0 x1 x2, .slice y0 y1 y2, .bool false] ∧ Nk w3 (.slice x0 x1 x2) (bv lx) 384 ∧ Nk w3 (.slice y0 y1 y2) (bv ly) 384) := ⟨HK2.out.1.below hB HK2.out.1.lt, HK2.out.2.1.below hB (Nat.le_refl _), HK2.out.2.2.below hB (Nat.le_refl _)⟩
  clear hB HK2 HB2
  go_wp2_with fail
  refine (cut_bad ag sg.length cg s w3 hk.s0 hl).mono ?_
  rintro e w4 ⟨rfl, rfl⟩
  go_wp2
  go_ret
  exact ⟨rfl, HB3.out⟩
set_option maxHeartbeats 8000000 in
theorem ver_r {c s : Int} {p b n gx gy : Nat} (hk : Kv c p b n gx gy s) (h : Int) (ax ay am ag : Option Addr) (cx cy cm cg : Nat) (lx ly m sg : List UInt8) (w : World) (T : Sha.Tb w) (hx : Rd w ax lx) (hy : Rd w ay ly) (hm : Rd w am m) (hg : Rd w ag sg) (l1 : lx.length ≤ 100000000) (l2 : ly.length ≤ 100000000) (l3 : m.length ≤ 100000000) (l4 : sg.length ≤ cg) (c3 : m.length ≤ cm ∧ cm ≤ 9223372036854775807) (h0 : Sha.siz h ≠ 0) (hd : decB p b s lx ly = true) (hl : (sg.length : Int) = 2 * s) (hr : ¬ (0 < (bv (sg.take s.toNat)) ∧ (bv (sg.take s.toNat)) < n)) :
    Calls Tryz.prog 10 #[.int .i64 h, .int .i64 c, .slice ax lx.length cx, .slice ay ly.length cy, .slice am m.length cm, .slice ag sg.length cg] w fun e w' => e = .returned (.int .i64 91) ∧ Below w.heap.size w w' := by
  have HR : Hid (Rd w ax lx ∧ Rd w ay ly ∧ Rd w am m ∧ Rd w ag sg ∧ Sha.Tb w) := ⟨hx, hy, hm, hg, T⟩
  have HLn : Hid (lx.length ≤ 100000000 ∧ ly.length ≤ 100000000 ∧ m.length ≤ 100000000 ∧ sg.length ≤ cg ∧ m.length ≤ cm ∧ cm ≤ 9223372036854775807) := ⟨l1, l2, l3, l4, c3⟩
  have CS := Sha.size_any h w
  have hz : (((Sha.siz h : Nat) : Int) == 0) = false := by have := h0; simp; omega
  generalize Sha.siz h = z at *
  clear T hx hy hm hg l1 l2 l3 l4 c3
  go_enter Tryz.func10, Tryz.ntmps10
  go_wp2_with fail
  refine CS.mono ?_
  rintro e w_ ⟨rfl, rfl⟩
  clear CS
  go_wp2_with fail
  refine (decode_good hk ax ay cx cy lx ly _ (HR.out.1) (HR.out.2.1) HLn.out.1 HLn.out.2.1 hd).mono ?_
  rintro e w1 ⟨r, rfl, hPa⟩
  obtain ⟨⟨xv, yv, rfl, m1, m2, _⟩, hB⟩ := hPa
  obtain ⟨x0, x1, x2, rfl⟩ := m1.nk.sl
  obtain ⟨y0, y1, y2, rfl⟩ := m2.nk.sl
  have hz1 := alloc_below w1 (.cells #[.slice x0 x1 x2, .slice y0 y1 y2, .bool false] 41)
  have HB2 : Hid (Below w_.heap.size w_ (w1.alloc (.cells #[.slice x0 x1 x2, .slice y0 y1 y2, .bool false] 41))) := hB.trans (hz1.mono hB.size)
  have HK2 : Hid (Bl 41 (w1.alloc (.cells #[.slice x0 x1 x2, .slice y0 y1 y2, .bool false] 41)) w1.heap.size [.slice x0 x1 x2, .slice y0 y1 y2, .bool false] ∧ Nk (w1.alloc (.cells #[.slice x0 x1 x2, .slice y0 y1 y2, .bool false] 41)) (.slice x0 x1 x2) (bv lx) 384 ∧ Nk (w1.alloc (.cells #[.slice x0 x1 x2, .slice y0 y1 y2, .bool false] 41)) (.slice y0 y1 y2) (bv ly) 384) := ⟨alloc_bl w1 [.slice x0 x1 x2, .slice y0 y1 y2, .bool false] 41, m1.nk.below hz1 (Nat.le_refl _), m2.nk.below hz1 (Nat.le_refl _)⟩
  clear hB m1 m2 hz1
  go_wp2_with fail
  generalize (w1.alloc (.cells #[.slice x0 x1 x2, .slice y0 y1 y2, .bool false] 41)) = w2 at *
  refine (size_v hk _).mono ?_
  rintro e w3 ⟨rfl, hB⟩
  have HB3 : Hid (Below w_.heap.size w_ w3) := HB2.out.trans (hB.mono HB2.out.size)
  have HK3 : Hid (Bl 41 w3 w1.heap.size [.slice x0 x1 x2, .slice y0 y1 y2, .bool false] ∧ Nk w3 (.slice x0 x1 x2) (bv lx) 384 ∧ Nk w3 (.slice y0 y1 y2) (bv ly) 384) := ⟨HK2.out.1.below hB HK2.out.1.lt, HK2.out.2.1.below hB (Nat.le_refl _), HK2.out.2.2.below hB (Nat.le_refl _)⟩
  clear hB HK2 HB2
  go_wp2_with fail
  refine (cut_v ag cg sg s w3 (HR.out.2.2.2.1.below HB3.out (Nat.le_refl _)) hk.s0 hl HLn.out.2.2.2.1).mono ?_
  rintro e w4 ⟨rr, tt, rfl, m1, m2, hB⟩
  obtain ⟨r0, r1, r2, rfl⟩ := m1.nk.sl
  obtain ⟨t0, t1, t2, rfl⟩ := m2.nk.sl
  have HB4 : Hid (Below w_.heap.size w_ w4) := HB3.out.trans (hB.mono HB3.out.size)
  have HK4 : Hid (Bl 41 w4 w1.heap.size [.slice x0 x1 x2, .slice y0 y1 y2, .bool false] ∧ Nk w4 (.slice x0 x1 x2) (bv lx) 384 ∧ Nk w4 (.slice y0 y1 y2) (bv ly) 384 ∧ Mk w4 0 (.slice r0 r1 r2) (bv (sg.take s.toNat)) 384 ∧ Mk w4 0 (.slice t0 t1 t2) (bv (sg.drop s.toNat)) 384) := ⟨HK3.out.1.below hB HK3.out.1.lt, HK3.out.2.1.below hB (Nat.le_refl _), HK3.out.2.2.below hB (Nat.le_refl _), m1.base (Nat.zero_le _), m2.base (Nat.zero_le _)⟩
  clear hB m1 m2 HK3 HB3
  go_wp2_with fail
  have C := inRange_v hk _ (bv (sg.take s.toNat)) w4 HK4.out.2.2.2.1.nk.1
  rw [decide_eq_false hr] at C
  refine C.mono ?_
  clear C
  rintro e w5 ⟨rfl, hB⟩
  have HB5 : Hid (Below w_.heap.size w_ w5) := HB4.out.trans (hB.mono HB4.out.size)
  have HK5 : Hid (Bl 41 w5 w1.heap.size [.slice x0 x1 x2, .slice y0 y1 y2, .bool false] ∧ Nk w5 (.slice x0 x1 x2) (bv lx) 384 ∧ Nk w5 (.slice y0 y1 y2) (bv ly) 384 ∧ Mk w5 0 (.slice r0 r1 r2) (bv (sg.take s.toNat)) 384 ∧ Mk w5 0 (.slice t0 t1 t2) (bv (sg.drop s.toNat)) 384) := ⟨HK4.out.1.below hB HK4.out.1.lt, HK4.out.2.1.below hB (Nat.le_refl _), HK4.out.2.2.1.below hB (Nat.le_refl _), HK4.out.2.2.2.1.below hB, HK4.out.2.2.2.2.below hB⟩
  clear hB
  go_wp2
  go_ret
  exact ⟨rfl, HB5.out⟩
set_option maxHeartbeats 8000000 in
theorem ver_s {c s : Int} {p b n gx gy : Nat} (hk : Kv c p b n gx gy s) (h : Int) (ax ay am ag : Option Addr) (cx cy cm cg : Nat) (lx ly m sg : List UInt8) (w : World) (T : Sha.Tb w) (hx : Rd w ax lx) (hy : Rd w ay ly) (hm : Rd w am m) (hg : Rd w ag sg) (l1 : lx.length ≤ 100000000) (l2 : ly.length ≤ 100000000) (l3 : m.length ≤ 100000000) (l4 : sg.length ≤ cg) (c3 : m.length ≤ cm ∧ cm ≤ 9223372036854775807) (h0 : Sha.siz h ≠ 0) (hd : decB p b s lx ly = true) (hl : (sg.length : Int) = 2 * s) (hr : 0 < (bv (sg.take s.toNat)) ∧ (bv (sg.take s.toNat)) < n) (ht : ¬ (0 < (bv (sg.drop s.toNat)) ∧ (bv (sg.drop s.toNat)) < n)) :
    Calls Tryz.prog 10 #[.int .i64 h, .int .i64 c, .slice ax lx.length cx, .slice ay ly.length cy, .slice am m.length cm, .slice ag sg.length cg] w fun e w' => e = .returned (.int .i64 91) ∧ Below w.heap.size w w' := by
  have HR : Hid (Rd w ax lx ∧ Rd w ay ly ∧ Rd w am m ∧ Rd w ag sg ∧ Sha.Tb w) := ⟨hx, hy, hm, hg, T⟩
  have HLn : Hid (lx.length ≤ 100000000 ∧ ly.length ≤ 100000000 ∧ m.length ≤ 100000000 ∧ sg.length ≤ cg ∧ m.length ≤ cm ∧ cm ≤ 9223372036854775807) := ⟨l1, l2, l3, l4, c3⟩
  have CS := Sha.size_any h w
  have hz : (((Sha.siz h : Nat) : Int) == 0) = false := by have := h0; simp; omega
  generalize Sha.siz h = z at *
  clear T hx hy hm hg l1 l2 l3 l4 c3
  go_enter Tryz.func10, Tryz.ntmps10
  go_wp2_with fail
  refine CS.mono ?_
  rintro e w_ ⟨rfl, rfl⟩
  clear CS
  go_wp2_with fail
  refine (decode_good hk ax ay cx cy lx ly _ (HR.out.1) (HR.out.2.1) HLn.out.1 HLn.out.2.1 hd).mono ?_
  rintro e w1 ⟨r, rfl, hPa⟩
  obtain ⟨⟨xv, yv, rfl, m1, m2, _⟩, hB⟩ := hPa
  obtain ⟨x0, x1, x2, rfl⟩ := m1.nk.sl
  obtain ⟨y0, y1, y2, rfl⟩ := m2.nk.sl
  have hz1 := alloc_below w1 (.cells #[.slice x0 x1 x2, .slice y0 y1 y2, .bool false] 41)
  have HB2 : Hid (Below w_.heap.size w_ (w1.alloc (.cells #[.slice x0 x1 x2, .slice y0 y1 y2, .bool false] 41))) := hB.trans (hz1.mono hB.size)
  have HK2 : Hid (Bl 41 (w1.alloc (.cells #[.slice x0 x1 x2, .slice y0 y1 y2, .bool false] 41)) w1.heap.size [.slice x0 x1 x2, .slice y0 y1 y2, .bool false] ∧ Nk (w1.alloc (.cells #[.slice x0 x1 x2, .slice y0 y1 y2, .bool false] 41)) (.slice x0 x1 x2) (bv lx) 384 ∧ Nk (w1.alloc (.cells #[.slice x0 x1 x2, .slice y0 y1 y2, .bool false] 41)) (.slice y0 y1 y2) (bv ly) 384) := ⟨alloc_bl w1 [.slice x0 x1 x2, .slice y0 y1 y2, .bool false] 41, m1.nk.below hz1 (Nat.le_refl _), m2.nk.below hz1 (Nat.le_refl _)⟩
  clear hB m1 m2 hz1
  go_wp2_with fail
  generalize (w1.alloc (.cells #[.slice x0 x1 x2, .slice y0 y1 y2, .bool false] 41)) = w2 at *
  refine (size_v hk _).mono ?_
  rintro e w3 ⟨rfl, hB⟩
  have HB3 : Hid (Below w_.heap.size w_ w3) := HB2.out.trans (hB.mono HB2.out.size)
  have HK3 : Hid (Bl 41 w3 w1.heap.size [.slice x0 x1 x2, .slice y0 y1 y2, .bool false] ∧ Nk w3 (.slice x0 x1 x2) (bv lx) 384 ∧ Nk w3 (.slice y0 y1 y2) (bv ly) 384) := ⟨HK2.out.1.below hB HK2.out.1.lt, HK2.out.2.1.below hB (Nat.le_refl _), HK2.out.2.2.below hB (Nat.le_refl _)⟩
  clear hB HK2 HB2
  go_wp2_with fail
  refine (cut_v ag cg sg s w3 (HR.out.2.2.2.1.below HB3.out (Nat.le_refl _)) hk.s0 hl HLn.out.2.2.2.1).mono ?_
  rintro e w4 ⟨rr, tt, rfl, m1, m2, hB⟩
  obtain ⟨r0, r1, r2, rfl⟩ := m1.nk.sl
  obtain ⟨t0, t1, t2, rfl⟩ := m2.nk.sl
  have HB4 : Hid (Below w_.heap.size w_ w4) := HB3.out.trans (hB.mono HB3.out.size)
  have HK4 : Hid (Bl 41 w4 w1.heap.size [.slice x0 x1 x2, .slice y0 y1 y2, .bool false] ∧ Nk w4 (.slice x0 x1 x2) (bv lx) 384 ∧ Nk w4 (.slice y0 y1 y2) (bv ly) 384 ∧ Mk w4 0 (.slice r0 r1 r2) (bv (sg.take s.toNat)) 384 ∧ Mk w4 0 (.slice t0 t1 t2) (bv (sg.drop s.toNat)) 384) := ⟨HK3.out.1.below hB HK3.out.1.lt, HK3.out.2.1.below hB (Nat.le_refl _), HK3.out.2.2.below hB (Nat.le_refl _), m1.base (Nat.zero_le _), m2.base (Nat.zero_le _)⟩
  clear hB m1 m2 HK3 HB3
  go_wp2_with fail
  have C := inRange_v hk _ (bv (sg.take s.toNat)) w4 HK4.out.2.2.2.1.nk.1
  rw [decide_eq_true hr] at C
  refine C.mono ?_
  clear C
  rintro e w5 ⟨rfl, hB⟩
  have HB5 : Hid (Below w_.heap.size w_ w5) := HB4.out.trans (hB.mono HB4.out.size)
  have HK5 : Hid (Bl 41 w5 w1.heap.size [.slice x0 x1 x2, .slice y0 y1 y2, .bool false] ∧ Nk w5 (.slice x0 x1 x2) (bv lx) 384 ∧ Nk w5 (.slice y0 y1 y2) (bv ly) 384 ∧ Mk w5 0 (.slice r0 r1 r2) (bv (sg.take s.toNat)) 384 ∧ Mk w5 0 (.slice t0 t1 t2) (bv (sg.drop s.toNat)) 384) := ⟨HK4.out.1.below hB HK4.out.1.lt, HK4.out.2.1.below hB (Nat.le_refl _), HK4.out.2.2.1.below hB (Nat.le_refl _), HK4.out.2.2.2.1.below hB, HK4.out.2.2.2.2.below hB⟩
  clear hB
  go_wp2_with fail
  have C := inRange_v hk _ (bv (sg.drop s.toNat)) w5 HK5.out.2.2.2.2.nk.1
  rw [decide_eq_false ht] at C
  refine C.mono ?_
  clear C
  rintro e w6 ⟨rfl, hB⟩
  have HB6 : Hid (Below w_.heap.size w_ w6) := HB5.out.trans (hB.mono HB5.out.size)
  have HK6 : Hid (Bl 41 w6 w1.heap.size [.slice x0 x1 x2, .slice y0 y1 y2, .bool false] ∧ Nk w6 (.slice x0 x1 x2) (bv lx) 384 ∧ Nk w6 (.slice y0 y1 y2) (bv ly) 384 ∧ Mk w6 0 (.slice r0 r1 r2) (bv (sg.take s.toNat)) 384 ∧ Mk w6 0 (.slice t0 t1 t2) (bv (sg.drop s.toNat)) 384) := ⟨HK5.out.1.below hB HK5.out.1.lt, HK5.out.2.1.below hB (Nat.le_refl _), HK5.out.2.2.1.below hB (Nat.le_refl _), HK5.out.2.2.2.1.below hB, HK5.out.2.2.2.2.below hB⟩
  clear hB
  go_wp2
  go_ret
  exact ⟨rfl, HB6.out⟩
set_option maxHeartbeats 8000000 in
theorem ver_in {c s : Int} {p b n gx gy : Nat} (hk : Kv c p b n gx gy s) (h : Int) (ax ay am ag : Option Addr) (cx cy cm cg : Nat) (lx ly m sg : List UInt8) (w : World) (T : Sha.Tb w) (hx : Rd w ax lx) (hy : Rd w ay ly) (hm : Rd w am m) (hg : Rd w ag sg) (l1 : lx.length ≤ 100000000) (l2 : ly.length ≤ 100000000) (l3 : m.length ≤ 100000000) (l4 : sg.length ≤ cg) (c3 : m.length ≤ cm ∧ cm ≤ 9223372036854775807) (h0 : Sha.siz h ≠ 0) (hd : decB p b s lx ly = true) (hl : (sg.length : Int) = 2 * s) (hr : 0 < (bv (sg.take s.toNat)) ∧ (bv (sg.take s.toNat)) < n) (ht : 0 < (bv (sg.drop s.toNat)) ∧ (bv (sg.drop s.toNat)) < n) (code : Int) (hcode : Hid (code = if mkx n (jt p n (.A gx gy) (zV s h m) (bv (sg.take s.toNat)) (iv n (bv (sg.drop s.toNat))) (.A (bv lx) (bv ly))) (bv (sg.take s.toNat)) = true then 0 else 91)) :
    Calls Tryz.prog 10 #[.int .i64 h, .int .i64 c, .slice ax lx.length cx, .slice ay ly.length cy, .slice am m.length cm, .slice ag sg.length cg] w fun e w' => e = .returned (.int .i64 code) ∧ Below w.heap.size w w' := by
  have HR : Hid (Rd w ax lx ∧ Rd w ay ly ∧ Rd w am m ∧ Rd w ag sg ∧ Sha.Tb w) := ⟨hx, hy, hm, hg, T⟩
  have HLn : Hid (lx.length ≤ 100000000 ∧ ly.length ≤ 100000000 ∧ m.length ≤ 100000000 ∧ sg.length ≤ cg ∧ m.length ≤ cm ∧ cm ≤ 9223372036854775807) := ⟨l1, l2, l3, l4, c3⟩
  have CS := Sha.size_any h w
  have hz : (((Sha.siz h : Nat) : Int) == 0) = false := by have := h0; simp; omega
  generalize Sha.siz h = z at *
  clear T hx hy hm hg l1 l2 l3 l4 c3
  go_enter Tryz.func10, Tryz.ntmps10
  go_wp2_with fail
  refine CS.mono ?_
  rintro e w_ ⟨rfl, rfl⟩
  clear CS
  go_wp2_with fail
  refine (decode_good hk ax ay cx cy lx ly _ (HR.out.1) (HR.out.2.1) HLn.out.1 HLn.out.2.1 hd).mono ?_
  rintro e w1 ⟨r, rfl, hPa⟩
  obtain ⟨⟨xv, yv, rfl, m1, m2, _⟩, hB⟩ := hPa
  obtain ⟨x0, x1, x2, rfl⟩ := m1.nk.sl
  obtain ⟨y0, y1, y2, rfl⟩ := m2.nk.sl
  have hz1 := alloc_below w1 (.cells #[.slice x0 x1 x2, .slice y0 y1 y2, .bool false] 41)
  have HB2 : Hid (Below w_.heap.size w_ (w1.alloc (.cells #[.slice x0 x1 x2, .slice y0 y1 y2, .bool false] 41))) := hB.trans (hz1.mono hB.size)
  have HK2 : Hid (Bl 41 (w1.alloc (.cells #[.slice x0 x1 x2, .slice y0 y1 y2, .bool false] 41)) w1.heap.size [.slice x0 x1 x2, .slice y0 y1 y2, .bool false] ∧ Nk (w1.alloc (.cells #[.slice x0 x1 x2, .slice y0 y1 y2, .bool false] 41)) (.slice x0 x1 x2) (bv lx) 384 ∧ Nk (w1.alloc (.cells #[.slice x0 x1 x2, .slice y0 y1 y2, .bool false] 41)) (.slice y0 y1 y2) (bv ly) 384) := ⟨alloc_bl w1 [.slice x0 x1 x2, .slice y0 y1 y2, .bool false] 41, m1.nk.below hz1 (Nat.le_refl _), m2.nk.below hz1 (Nat.le_refl _)⟩
  clear hB m1 m2 hz1
  go_wp2_with fail
  generalize (w1.alloc (.cells #[.slice x0 x1 x2, .slice y0 y1 y2, .bool false] 41)) = w2 at *
  refine (size_v hk _).mono ?_
  rintro e w3 ⟨rfl, hB⟩
  have HB3 : Hid (Below w_.heap.size w_ w3) := HB2.out.trans (hB.mono HB2.out.size)
  have HK3 : Hid (Bl 41 w3 w1.heap.size [.slice x0 x1 x2, .slice y0 y1 y2, .bool false] ∧ Nk w3 (.slice x0 x1 x2) (bv lx) 384 ∧ Nk w3 (.slice y0 y1 y2) (bv ly) 384) := ⟨HK2.out.1.below hB HK2.out.1.lt, HK2.out.2.1.below hB (Nat.le_refl _), HK2.out.2.2.below hB (Nat.le_refl _)⟩
  clear hB HK2 HB2
  go_wp2_with fail
  refine (cut_v ag cg sg s w3 (HR.out.2.2.2.1.below HB3.out (Nat.le_refl _)) hk.s0 hl HLn.out.2.2.2.1).mono ?_
  rintro e w4 ⟨rr, tt, rfl, m1, m2, hB⟩
  obtain ⟨r0, r1, r2, rfl⟩ := m1.nk.sl
  obtain ⟨t0, t1, t2, rfl⟩ := m2.nk.sl
  have HB4 : Hid (Below w_.heap.size w_ w4) := HB3.out.trans (hB.mono HB3.out.size)
  have HK4 : Hid (Bl 41 w4 w1.heap.size [.slice x0 x1 x2, .slice y0 y1 y2, .bool false] ∧ Nk w4 (.slice x0 x1 x2) (bv lx) 384 ∧ Nk w4 (.slice y0 y1 y2) (bv ly) 384 ∧ Mk w4 0 (.slice r0 r1 r2) (bv (sg.take s.toNat)) 384 ∧ Mk w4 0 (.slice t0 t1 t2) (bv (sg.drop s.toNat)) 384) := ⟨HK3.out.1.below hB HK3.out.1.lt, HK3.out.2.1.below hB (Nat.le_refl _), HK3.out.2.2.below hB (Nat.le_refl _), m1.base (Nat.zero_le _), m2.base (Nat.zero_le _)⟩
  clear hB m1 m2 HK3 HB3
  go_wp2_with fail
  have C := inRange_v hk _ (bv (sg.take s.toNat)) w4 HK4.out.2.2.2.1.nk.1
  rw [decide_eq_true hr] at C
  refine C.mono ?_
  clear C
  rintro e w5 ⟨rfl, hB⟩
  have HB5 : Hid (Below w_.heap.size w_ w5) := HB4.out.trans (hB.mono HB4.out.size)
  have HK5 : Hid (Bl 41 w5 w1.heap.size [.slice x0 x1 x2, .slice y0 y1 y2, .bool false] ∧ Nk w5 (.slice x0 x1 x2) (bv lx) 384 ∧ Nk w5 (.slice y0 y1 y2) (bv ly) 384 ∧ Mk w5 0 (.slice r0 r1 r2) (bv (sg.take s.toNat)) 384 ∧ Mk w5 0 (.slice t0 t1 t2) (bv (sg.drop s.toNat)) 384) := ⟨HK4.out.1.below hB HK4.out.1.lt, HK4.out.2.1.below hB (Nat.le_refl _), HK4.out.2.2.1.below hB (Nat.le_refl _), HK4.out.2.2.2.1.below hB, HK4.out.2.2.2.2.below hB⟩
  clear hB
  go_wp2_with fail
  have C := inRange_v hk _ (bv (sg.drop s.toNat)) w5 HK5.out.2.2.2.2.nk.1
  rw [decide_eq_true ht] at C
  refine C.mono ?_
  clear C
  rintro e w6 ⟨rfl, hB⟩
  have HB6 : Hid (Below w_.heap.size w_ w6) := HB5.out.trans (hB.mono HB5.out.size)
  have HK6 : Hid (Bl 41 w6 w1.heap.size [.slice x0 x1 x2, .slice y0 y1 y2, .bool false] ∧ Nk w6 (.slice x0 x1 x2) (bv lx) 384 ∧ Nk w6 (.slice y0 y1 y2) (bv ly) 384 ∧ Mk w6 0 (.slice r0 r1 r2) (bv (sg.take s.toNat)) 384 ∧ Mk w6 0 (.slice t0 t1 t2) (bv (sg.drop s.toNat)) 384) := ⟨HK5.out.1.below hB HK5.out.1.lt, HK5.out.2.1.below hB (Nat.le_refl _), HK5.out.2.2.1.below hB (Nat.le_refl _), HK5.out.2.2.2.1.below hB, HK5.out.2.2.2.2.below hB⟩
  clear hB
  clear HK4 HK5 HB4 HB5
  go_upto_region 9 with fail
  go_cut [18] from 53 to 61 (fun s1 wx => ∃ (w' : World) (g : Nat) (j0 l0 : Option Addr) (j1 j2 l1 l2 X5 Y5 : Nat) (f5 : Bool), w' = wx ∧ s1 = .pointer (some ⟨g, 0, none⟩) ∧ Hid (ptO X5 Y5 f5 = (jt p n (.A gx gy) (zV s h m) (bv (sg.take s.toNat)) (iv n (bv (sg.drop s.toNat))) (.A (bv lx) (bv ly))) ∧ (f5 = true → X5 = 0 ∧ Y5 = 0)) ∧ Hid (Bl 41 w' g [.slice j0 j1 j2, .slice l0 l1 l2, .bool f5] ∧ Mk w' 0 (.slice j0 j1 j2) X5 384 ∧ Mk w' 0 (.slice l0 l1 l2) Y5 384 ∧ Mk w' 0 (.slice r0 r1 r2) (bv (sg.take s.toNat)) 384 ∧ Below w_.heap.size w_ w'))
  case first =>
    have HD : Hid (Bl 41 w6.drew w1.heap.size [.slice x0 x1 x2, .slice y0 y1 y2, .bool false] ∧ Nk w6.drew (.slice x0 x1 x2) (bv lx) 384 ∧ Nk w6.drew (.slice y0 y1 y2) (bv ly) 384 ∧ Mk w6.drew 0 (.slice r0 r1 r2) (bv (sg.take s.toNat)) 384 ∧ Mk w6.drew 0 (.slice t0 t1 t2) (bv (sg.drop s.toNat)) 384) := HK6.out
    have HBd : Hid (Below w6.drew.heap.size w6.drew w6.drew) := Below.refl _ _
    have HB0 : Hid (Below w_.heap.size w_ w6.drew) := below_drewN HB6.out 1
    have oK : onB p b (bv lx) (bv ly) false = true := (by simp only [decB, Bool.and_eq_true] at hd; exact hd.2.2)
    refine wp_region_K 8 (fun (w' : World) => w'.cell? ⟨w1.heap.size, 0, none⟩ = some (.slice x0 x1 x2) ∧ w'.cell? ⟨w1.heap.size, 1, none⟩ = some (.slice y0 y1 y2) ∧ w'.cell? ⟨w1.heap.size, 2, none⟩ = some (.bool false)) (by kernel_rfl) ?_
    have hHeld : ((fun (w' : World) => w'.cell? ⟨w1.heap.size, 0, none⟩ = some (.slice x0 x1 x2) ∧ w'.cell? ⟨w1.heap.size, 1, none⟩ = some (.slice y0 y1 y2) ∧ w'.cell? ⟨w1.heap.size, 2, none⟩ = some (.bool false))) (World.drew _) := ⟨HD.out.1.cell 0 (by simp), HD.out.1.cell 1 (by simp), HD.out.1.cell 2 (by simp)⟩
    refine wpAnyK_take0 0 (v := ?v1) rfl (by kernel_rfl) (fun _ _ _ h => h) (Or.inl ⟨by rfl, ?hy1⟩) (fun _ => hHeld) ?_
    case hy1 => (intro w hSw; go_simp; try with_reducible rfl)
    try simp only [Act.put, List.setIfInBounds_toArray, List.set_cons_zero, List.set_cons_succ]
    refine wpAnyK_take0 1 (v := ?v2) rfl (by kernel_rfl) (fun _ _ _ h => h) (Or.inl ⟨by rfl, ?hy2⟩) (fun _ => hHeld) ?_
    case hy2 => (intro w hSw; go_simp; try with_reducible rfl)
    try simp only [Act.put, List.setIfInBounds_toArray, List.set_cons_zero, List.set_cons_succ]
    refine wpAnyK_take0 2 (v := ?v3) rfl (by kernel_rfl) (fun _ _ _ h => h) (Or.inl ⟨by rfl, ?hy3⟩) (fun _ => hHeld) ?_
    case hy3 => (intro w hSw; go_simp; try with_reducible rfl)
    try simp only [Act.put, List.setIfInBounds_toArray, List.set_cons_zero, List.set_cons_succ]
    refine wpAnyK_take0 3 (v := ?v4) rfl (by kernel_rfl) (fun _ _ _ h => h) (Or.inl ⟨by rfl, ?hy4⟩) (fun _ => hHeld) ?_
    case hy4 => (intro w hSw; go_simp; try with_reducible rfl)
    try simp only [Act.put, List.setIfInBounds_toArray, List.set_cons_zero, List.set_cons_succ]
    refine wpAnyK_take0 5 (v := ?v5) rfl (by kernel_rfl) (fun _ _ _ h => h) (Or.inl ⟨by rfl, ?hy5⟩) (fun _ => hHeld) ?_
    case hy5 => (intro w hSw; go_simp; try with_reducible rfl)
    try simp only [Act.put, List.setIfInBounds_toArray, List.set_cons_zero, List.set_cons_succ]
    refine wpAnyK_take0 6 (v := ?v6) rfl (by kernel_rfl) (fun _ _ _ h => h) (Or.inl ⟨by rfl, ?hy6⟩) (fun _ => hHeld) ?_
    case hy6 => (intro w hSw; go_simp; try with_reducible rfl)
    try simp only [Act.put, List.setIfInBounds_toArray, List.set_cons_zero, List.set_cons_succ]
    refine wpAnyK_take 7 [8] (v := ?v7) rfl (by kernel_rfl) (fun _ _ _ h => h) (Or.inl ⟨by rfl, ?hy7⟩) hHeld ?_
    case hy7 => (intro w hSw; (try dsimp only at hSw); go_simp; try with_reducible rfl)
    try simp only [Act.put, List.setIfInBounds_toArray, List.set_cons_zero, List.set_cons_succ]
    refine wpAnyK_two 4 9 rfl rfl (by kernel_rfl) (fun K hK => ?_) (fun K hK => ?_)
    · go_simp
      have hq := HB0.out.trans (HBd.out.mono HB0.out.size)
      refine (number_v hk h am cm m _ (Tb.below' HR.out.2.2.2.2 hq (Nat.le_refl _)) (HR.out.2.2.1.below hq (Nat.le_refl _)) HLn.out.2.2.2.2.1 HLn.out.2.2.2.2.2 (by have := HLn.out.2.2.1; omega)).mono ?_
      clear hq
      rintro e wfa ⟨zv, rfl, mz, hBp⟩
      have HSa : Hid (Nk wfa zv (zV s h m) 384) := mz.nk
      clear mz
      have HBa1 : Hid (Below w6.drew.heap.size w6.drew wfa) := HBd.out.trans (hBp.mono HBd.out.size)
      clear hBp
      try dsimp only
      refine hK.out _ _ ?hk14 ?_
      case hk14 => exact fun _ => ⟨(HD.out.1.below HBa1.out HD.out.1.lt).cell 0 (by simp), (HD.out.1.below HBa1.out HD.out.1.lt).cell 1 (by simp), (HD.out.1.below HBa1.out HD.out.1.lt).cell 2 (by simp)⟩
      have hHeld : ((fun (w' : World) => w'.cell? ⟨w1.heap.size, 0, none⟩ = some (.slice x0 x1 x2) ∧ w'.cell? ⟨w1.heap.size, 1, none⟩ = some (.slice y0 y1 y2) ∧ w'.cell? ⟨w1.heap.size, 2, none⟩ = some (.bool false))) _ := ⟨(HD.out.1.below HBa1.out HD.out.1.lt).cell 0 (by simp), (HD.out.1.below HBa1.out HD.out.1.lt).cell 1 (by simp), (HD.out.1.below HBa1.out HD.out.1.lt).cell 2 (by simp)⟩
      clear hK K
      try simp only [Act.put, List.setIfInBounds_toArray, List.set_cons_zero, List.set_cons_succ]
      refine wpAnyK_two 8 9 rfl rfl (by kernel_rfl) (fun K hK => ?_) (fun K hK => ?_)
      · go_simp
        refine (ejoint_v hk _ _ _ _ _ (zV s h m) (bv (sg.take s.toNat)) (bv (sg.drop s.toNat)) (bv lx) (bv ly) false _ HSa.out (HD.out.2.2.2.1.below HBa1.out).nk (HD.out.2.2.2.2.below HBa1.out).nk.1 (HD.out.2.1.below HBa1.out (Nat.le_refl _)).1 (HD.out.2.2.1.below HBa1.out (Nat.le_refl _)).1 oK ht.1 ht.2).mono ?_
        rintro e wga ⟨rr, rfl, hPa⟩
        have hBp := hPa.bel
        obtain ⟨j0, l0, j1, j2, l1, l2, X5, Y5, f5, rfl, m1, m2, hpt, hz5⟩ := hPa.open2
        have HMa : Hid (Mk wga wfa.heap.size (.slice j0 j1 j2) X5 384 ∧ Mk wga wfa.heap.size (.slice l0 l1 l2) Y5 384 ∧ (ptO X5 Y5 f5 = (jt p n (.A gx gy) (zV s h m) (bv (sg.take s.toNat)) (iv n (bv (sg.drop s.toNat))) (.A (bv lx) (bv ly))) ∧ (f5 = true → X5 = 0 ∧ Y5 = 0))) := ⟨m1, m2, hpt, hz5⟩
        clear m1 m2 hpt hz5 hPa
        have HBa2 : Hid (Below w6.drew.heap.size w6.drew wga) := HBa1.out.trans (hBp.mono HBa1.out.size)
        clear hBp
        try dsimp only
        refine hK.out _ _ ?hk8 ?_
        case hk8 => exact fun _ => ⟨(HD.out.1.below HBa2.out HD.out.1.lt).cell 0 (by simp), (HD.out.1.below HBa2.out HD.out.1.lt).cell 1 (by simp), (HD.out.1.below HBa2.out HD.out.1.lt).cell 2 (by simp)⟩
        have hHeld : ((fun (w' : World) => w'.cell? ⟨w1.heap.size, 0, none⟩ = some (.slice x0 x1 x2) ∧ w'.cell? ⟨w1.heap.size, 1, none⟩ = some (.slice y0 y1 y2) ∧ w'.cell? ⟨w1.heap.size, 2, none⟩ = some (.bool false))) _ := ⟨(HD.out.1.below HBa2.out HD.out.1.lt).cell 0 (by simp), (HD.out.1.below HBa2.out HD.out.1.lt).cell 1 (by simp), (HD.out.1.below HBa2.out HD.out.1.lt).cell 2 (by simp)⟩
        clear hK K
        try simp only [Act.put, List.setIfInBounds_toArray, List.set_cons_zero, List.set_cons_succ]
        refine wpAnyK_step 9 rfl (by kernel_rfl) (fun K hK => ?_)
        go_simp
        have hza : Below wga.heap.size wga (wga.alloc (.cells #[.slice none 0 0, .slice none 0 0, .bool false] 41)) := alloc_below _ _
        have HAa : Hid (Below w6.drew.heap.size w6.drew (wga.alloc (.cells #[.slice none 0 0, .slice none 0 0, .bool false] 41))) := HBa2.out.trans (hza.mono HBa2.out.size)
        have HZa : Hid (Bl 41 (wga.alloc (.cells #[.slice none 0 0, .slice none 0 0, .bool false] 41)) wga.heap.size [.slice none 0 0, .slice none 0 0, .bool false]) := alloc_bl wga [.slice none 0 0, .slice none 0 0, .bool false] 41
        try dsimp only
        refine hK.out _ _ ?hk9 ?_
        case hk9 => exact fun _ => ⟨(HD.out.1.below HAa.out HD.out.1.lt).cell 0 (by simp), (HD.out.1.below HAa.out HD.out.1.lt).cell 1 (by simp), (HD.out.1.below HAa.out HD.out.1.lt).cell 2 (by simp)⟩
        have hHeld : ((fun (w' : World) => w'.cell? ⟨w1.heap.size, 0, none⟩ = some (.slice x0 x1 x2) ∧ w'.cell? ⟨w1.heap.size, 1, none⟩ = some (.slice y0 y1 y2) ∧ w'.cell? ⟨w1.heap.size, 2, none⟩ = some (.bool false))) _ := ⟨(HD.out.1.below HAa.out HD.out.1.lt).cell 0 (by simp), (HD.out.1.below HAa.out HD.out.1.lt).cell 1 (by simp), (HD.out.1.below HAa.out HD.out.1.lt).cell 2 (by simp)⟩
        clear hK K
        try simp only [Act.put, List.setIfInBounds_toArray, List.set_cons_zero, List.set_cons_succ]
        refine wpAnyK_step 10 rfl (by kernel_rfl) (fun K hK => ?_)
        rw [if_pos (by kernel_rfl)]
        refine wp_store_row 41 _ _ rfl (wga.heap.size) #[.slice j0 j1 j2, .slice l0 l1 l2, .bool f5] rfl rfl 41 #[.slice none 0 0, .slice none 0 0, .bool false] (HZa.out) (by kernel_rfl) rfl (by simp [Value.oneCell']) ?_
        refine hK.out _ _ ?hk10 ?_
        case hk10 => exact (fun h => nomatch (h.symm.trans (show _ = true by kernel_rfl)))
        clear hK K
        try simp only [Act.put]
        refine wpAnyK_done (by kernel_rfl) ?_ _
        go_wp2_with fail
        go_meet
        have hR := Fm.row wga 41 [.slice none 0 0, .slice none 0 0, .bool false] [.slice j0 j1 j2, .slice l0 l1 l2, .bool f5] rfl
        have hbF : Below w6.drew.heap.size w6.drew _ := HBa2.out.trans (hR.bel.mono HBa2.out.size)
        exact ⟨_, wga.heap.size, _, _, _, _, _, _, _, _, _, rfl, rfl, HMa.out.2.2, (hR.bx 0 (by simp)), (HMa.out.1.below hR.bel).base (Nat.zero_le _), (HMa.out.2.1.below hR.bel).base (Nat.zero_le _), HD.out.2.2.2.1.below hbF, HB0.out.trans (hbF.mono HB0.out.size)⟩
      · go_simp
        have hzb : Below wfa.heap.size wfa (wfa.alloc (.cells #[.slice none 0 0, .slice none 0 0, .bool false] 41)) := alloc_below _ _
        have HAb : Hid (Below w6.drew.heap.size w6.drew (wfa.alloc (.cells #[.slice none 0 0, .slice none 0 0, .bool false] 41))) := HBa1.out.trans (hzb.mono HBa1.out.size)
        have HZb : Hid (Bl 41 (wfa.alloc (.cells #[.slice none 0 0, .slice none 0 0, .bool false] 41)) wfa.heap.size [.slice none 0 0, .slice none 0 0, .bool false]) := alloc_bl wfa [.slice none 0 0, .slice none 0 0, .bool false] 41
        have HSb : Hid (Nk (wfa.alloc (.cells #[.slice none 0 0, .slice none 0 0, .bool false] 41)) zv (zV s h m) 384) := HSa.out.below hzb (Nat.le_refl _)
        try dsimp only
        refine hK.out _ _ ?hk11 ?_
        case hk11 => exact fun _ => ⟨(HD.out.1.below HAb.out HD.out.1.lt).cell 0 (by simp), (HD.out.1.below HAb.out HD.out.1.lt).cell 1 (by simp), (HD.out.1.below HAb.out HD.out.1.lt).cell 2 (by simp)⟩
        have hHeld : ((fun (w' : World) => w'.cell? ⟨w1.heap.size, 0, none⟩ = some (.slice x0 x1 x2) ∧ w'.cell? ⟨w1.heap.size, 1, none⟩ = some (.slice y0 y1 y2) ∧ w'.cell? ⟨w1.heap.size, 2, none⟩ = some (.bool false))) _ := ⟨(HD.out.1.below HAb.out HD.out.1.lt).cell 0 (by simp), (HD.out.1.below HAb.out HD.out.1.lt).cell 1 (by simp), (HD.out.1.below HAb.out HD.out.1.lt).cell 2 (by simp)⟩
        clear hK K
        try simp only [Act.put, List.setIfInBounds_toArray, List.set_cons_zero, List.set_cons_succ]
        refine wpAnyK_step 8 rfl (by kernel_rfl) (fun K hK => ?_)
        go_simp
        refine (ejoint_v hk _ _ _ _ _ (zV s h m) (bv (sg.take s.toNat)) (bv (sg.drop s.toNat)) (bv lx) (bv ly) false _ HSb.out (HD.out.2.2.2.1.below HAb.out).nk (HD.out.2.2.2.2.below HAb.out).nk.1 (HD.out.2.1.below HAb.out (Nat.le_refl _)).1 (HD.out.2.2.1.below HAb.out (Nat.le_refl _)).1 oK ht.1 ht.2).mono ?_
        rintro e wgb ⟨rr, rfl, hPa⟩
        have hBp := hPa.bel
        obtain ⟨j0, l0, j1, j2, l1, l2, X5, Y5, f5, rfl, m1, m2, hpt, hz5⟩ := hPa.open2
        have HMb : Hid (Mk wgb (wfa.alloc (.cells #[.slice none 0 0, .slice none 0 0, .bool false] 41)).heap.size (.slice j0 j1 j2) X5 384 ∧ Mk wgb (wfa.alloc (.cells #[.slice none 0 0, .slice none 0 0, .bool false] 41)).heap.size (.slice l0 l1 l2) Y5 384 ∧ (ptO X5 Y5 f5 = (jt p n (.A gx gy) (zV s h m) (bv (sg.take s.toNat)) (iv n (bv (sg.drop s.toNat))) (.A (bv lx) (bv ly))) ∧ (f5 = true → X5 = 0 ∧ Y5 = 0))) := ⟨m1, m2, hpt, hz5⟩
        clear m1 m2 hpt hz5 hPa
        have HBb2 : Hid (Below w6.drew.heap.size w6.drew wgb) := HAb.out.trans (hBp.mono HAb.out.size)
        have HZb2 : Hid (Bl 41 wgb wfa.heap.size [.slice none 0 0, .slice none 0 0, .bool false]) := HZb.out.below hBp (HZb.out.lt)
        clear hBp
        try dsimp only
        refine hK.out _ _ ?hk12 ?_
        case hk12 => exact fun _ => ⟨(HD.out.1.below HBb2.out HD.out.1.lt).cell 0 (by simp), (HD.out.1.below HBb2.out HD.out.1.lt).cell 1 (by simp), (HD.out.1.below HBb2.out HD.out.1.lt).cell 2 (by simp)⟩
        have hHeld : ((fun (w' : World) => w'.cell? ⟨w1.heap.size, 0, none⟩ = some (.slice x0 x1 x2) ∧ w'.cell? ⟨w1.heap.size, 1, none⟩ = some (.slice y0 y1 y2) ∧ w'.cell? ⟨w1.heap.size, 2, none⟩ = some (.bool false))) _ := ⟨(HD.out.1.below HBb2.out HD.out.1.lt).cell 0 (by simp), (HD.out.1.below HBb2.out HD.out.1.lt).cell 1 (by simp), (HD.out.1.below HBb2.out HD.out.1.lt).cell 2 (by simp)⟩
        clear hK K
        try simp only [Act.put, List.setIfInBounds_toArray, List.set_cons_zero, List.set_cons_succ]
        refine wpAnyK_step 10 rfl (by kernel_rfl) (fun K hK => ?_)
        rw [if_pos (by kernel_rfl)]
        refine wp_store_row 41 _ _ rfl (wfa.heap.size) #[.slice j0 j1 j2, .slice l0 l1 l2, .bool f5] rfl rfl 41 #[.slice none 0 0, .slice none 0 0, .bool false] (HZb2.out) (by kernel_rfl) rfl (by simp [Value.oneCell']) ?_
        refine hK.out _ _ ?hk13 ?_
        case hk13 => exact (fun h => nomatch (h.symm.trans (show _ = true by kernel_rfl)))
        clear hK K
        try simp only [Act.put]
        refine wpAnyK_done (by kernel_rfl) ?_ _
        go_wp2_with fail
        go_meet
        have hb := But.setRow wgb (wfa.heap.size) #[.slice j0 j1 j2, .slice l0 l1 l2, .bool f5]
        have hbF : Below w6.drew.heap.size w6.drew _ := HBb2.out.trans (hb.below HBb2.out.size (show w6.drew.heap.size ≤ wfa.heap.size from HBa1.out.size))
        exact ⟨_, wfa.heap.size, _, _, _, _, _, _, _, _, _, rfl, rfl, HMb.out.2.2, (setRow_heap _ _ _ _ _ _ HZb2.out), (HMb.out.1.but hb HZb.out.lt).base (Nat.zero_le _), (HMb.out.2.1.but hb HZb.out.lt).base (Nat.zero_le _), HD.out.2.2.2.1.below hbF, HB0.out.trans (hbF.mono HB0.out.size)⟩
    · go_simp
      have hzc : Below w6.drew.heap.size w6.drew (w6.drew.alloc (.cells #[.slice none 0 0, .slice none 0 0, .bool false] 41)) := alloc_below _ _
      have HAc : Hid (Below w6.drew.heap.size w6.drew (w6.drew.alloc (.cells #[.slice none 0 0, .slice none 0 0, .bool false] 41))) := HBd.out.trans (hzc.mono HBd.out.size)
      have HZc : Hid (Bl 41 (w6.drew.alloc (.cells #[.slice none 0 0, .slice none 0 0, .bool false] 41)) w6.drew.heap.size [.slice none 0 0, .slice none 0 0, .bool false]) := alloc_bl w6.drew [.slice none 0 0, .slice none 0 0, .bool false] 41
      try dsimp only
      refine hK.out _ _ ?hk15 ?_
      case hk15 => exact fun _ => ⟨(HD.out.1.below HAc.out HD.out.1.lt).cell 0 (by simp), (HD.out.1.below HAc.out HD.out.1.lt).cell 1 (by simp), (HD.out.1.below HAc.out HD.out.1.lt).cell 2 (by simp)⟩
      have hHeld : ((fun (w' : World) => w'.cell? ⟨w1.heap.size, 0, none⟩ = some (.slice x0 x1 x2) ∧ w'.cell? ⟨w1.heap.size, 1, none⟩ = some (.slice y0 y1 y2) ∧ w'.cell? ⟨w1.heap.size, 2, none⟩ = some (.bool false))) _ := ⟨(HD.out.1.below HAc.out HD.out.1.lt).cell 0 (by simp), (HD.out.1.below HAc.out HD.out.1.lt).cell 1 (by simp), (HD.out.1.below HAc.out HD.out.1.lt).cell 2 (by simp)⟩
      clear hK K
      try simp only [Act.put, List.setIfInBounds_toArray, List.set_cons_zero, List.set_cons_succ]
      refine wpAnyK_step 4 rfl (by kernel_rfl) (fun K hK => ?_)
      go_simp
      have hq := HB0.out.trans (HAc.out.mono HB0.out.size)
      refine (number_v hk h am cm m _ (Tb.below' HR.out.2.2.2.2 hq (Nat.le_refl _)) (HR.out.2.2.1.below hq (Nat.le_refl _)) HLn.out.2.2.2.2.1 HLn.out.2.2.2.2.2 (by have := HLn.out.2.2.1; omega)).mono ?_
      clear hq
      rintro e wfc ⟨zv, rfl, mz, hBp⟩
      have HSc : Hid (Nk wfc zv (zV s h m) 384) := mz.nk
      clear mz
      have HBc1 : Hid (Below w6.drew.heap.size w6.drew wfc) := HAc.out.trans (hBp.mono HAc.out.size)
      have HZc1 : Hid (Bl 41 wfc w6.drew.heap.size [.slice none 0 0, .slice none 0 0, .bool false]) := HZc.out.below hBp HZc.out.lt
      clear hBp
      try dsimp only
      refine hK.out _ _ ?hk16 ?_
      case hk16 => exact fun _ => ⟨(HD.out.1.below HBc1.out HD.out.1.lt).cell 0 (by simp), (HD.out.1.below HBc1.out HD.out.1.lt).cell 1 (by simp), (HD.out.1.below HBc1.out HD.out.1.lt).cell 2 (by simp)⟩
      have hHeld : ((fun (w' : World) => w'.cell? ⟨w1.heap.size, 0, none⟩ = some (.slice x0 x1 x2) ∧ w'.cell? ⟨w1.heap.size, 1, none⟩ = some (.slice y0 y1 y2) ∧ w'.cell? ⟨w1.heap.size, 2, none⟩ = some (.bool false))) _ := ⟨(HD.out.1.below HBc1.out HD.out.1.lt).cell 0 (by simp), (HD.out.1.below HBc1.out HD.out.1.lt).cell 1 (by simp), (HD.out.1.below HBc1.out HD.out.1.lt).cell 2 (by simp)⟩
      clear hK K
      try simp only [Act.put, List.setIfInBounds_toArray, List.set_cons_zero, List.set_cons_succ]
      refine wpAnyK_step 8 rfl (by kernel_rfl) (fun K hK => ?_)
      go_simp
      refine (ejoint_v hk _ _ _ _ _ (zV s h m) (bv (sg.take s.toNat)) (bv (sg.drop s.toNat)) (bv lx) (bv ly) false _ HSc.out (HD.out.2.2.2.1.below HBc1.out).nk (HD.out.2.2.2.2.below HBc1.out).nk.1 (HD.out.2.1.below HBc1.out (Nat.le_refl _)).1 (HD.out.2.2.1.below HBc1.out (Nat.le_refl _)).1 oK ht.1 ht.2).mono ?_
      rintro e wgc ⟨rr, rfl, hPa⟩
      have hBp := hPa.bel
      obtain ⟨j0, l0, j1, j2, l1, l2, X5, Y5, f5, rfl, m1, m2, hpt, hz5⟩ := hPa.open2
      have HMc : Hid (Mk wgc wfc.heap.size (.slice j0 j1 j2) X5 384 ∧ Mk wgc wfc.heap.size (.slice l0 l1 l2) Y5 384 ∧ (ptO X5 Y5 f5 = (jt p n (.A gx gy) (zV s h m) (bv (sg.take s.toNat)) (iv n (bv (sg.drop s.toNat))) (.A (bv lx) (bv ly))) ∧ (f5 = true → X5 = 0 ∧ Y5 = 0))) := ⟨m1, m2, hpt, hz5⟩
      clear m1 m2 hpt hz5 hPa
      have HBc2 : Hid (Below w6.drew.heap.size w6.drew wgc) := HBc1.out.trans (hBp.mono HBc1.out.size)
      have HZc2 : Hid (Bl 41 wgc w6.drew.heap.size [.slice none 0 0, .slice none 0 0, .bool false]) := HZc1.out.below hBp HZc1.out.lt
      clear hBp
      try dsimp only
      refine hK.out _ _ ?hk17 ?_
      case hk17 => exact fun _ => ⟨(HD.out.1.below HBc2.out HD.out.1.lt).cell 0 (by simp), (HD.out.1.below HBc2.out HD.out.1.lt).cell 1 (by simp), (HD.out.1.below HBc2.out HD.out.1.lt).cell 2 (by simp)⟩
      have hHeld : ((fun (w' : World) => w'.cell? ⟨w1.heap.size, 0, none⟩ = some (.slice x0 x1 x2) ∧ w'.cell? ⟨w1.heap.size, 1, none⟩ = some (.slice y0 y1 y2) ∧ w'.cell? ⟨w1.heap.size, 2, none⟩ = some (.bool false))) _ := ⟨(HD.out.1.below HBc2.out HD.out.1.lt).cell 0 (by simp), (HD.out.1.below HBc2.out HD.out.1.lt).cell 1 (by simp), (HD.out.1.below HBc2.out HD.out.1.lt).cell 2 (by simp)⟩
      clear hK K
      try simp only [Act.put, List.setIfInBounds_toArray, List.set_cons_zero, List.set_cons_succ]
      refine wpAnyK_step 10 rfl (by kernel_rfl) (fun K hK => ?_)
      rw [if_pos (by kernel_rfl)]
      refine wp_store_row 41 _ _ rfl (w6.drew.heap.size) #[.slice j0 j1 j2, .slice l0 l1 l2, .bool f5] rfl rfl 41 #[.slice none 0 0, .slice none 0 0, .bool false] (HZc2.out) (by kernel_rfl) rfl (by simp [Value.oneCell']) ?_
      refine hK.out _ _ ?hk18 ?_
      case hk18 => exact (fun h => nomatch (h.symm.trans (show _ = true by kernel_rfl)))
      clear hK K
      try simp only [Act.put]
      refine wpAnyK_done (by kernel_rfl) ?_ _
      go_wp2_with fail
      go_meet
      have hb := But.setRow wgc (w6.drew.heap.size) #[.slice j0 j1 j2, .slice l0 l1 l2, .bool f5]
      have hbF : Below w6.drew.heap.size w6.drew _ := HBc2.out.trans (hb.below HBc2.out.size (show w6.drew.heap.size ≤ w6.drew.heap.size from Nat.le_refl _))
      exact ⟨_, w6.drew.heap.size, _, _, _, _, _, _, _, _, _, rfl, rfl, HMc.out.2.2, (setRow_heap _ _ _ _ _ _ HZc2.out), (HMc.out.1.but hb HZc1.out.lt).base (Nat.zero_le _), (HMc.out.2.1.but hb HZc1.out.lt).base (Nat.zero_le _), HD.out.2.2.2.1.below hbF, HB0.out.trans (hbF.mono HB0.out.size)⟩
  obtain ⟨w7, g, j0, l0, j1, j2, l1, l2, X5, Y5, f5, rfl, rfl, E5, H7⟩ := hcut
  have k0 : w7.cell? ⟨g, 0, none⟩ = some (.slice j0 j1 j2) := H7.out.1.cell 0 (by simp)
  have k1 : w7.cell? ⟨g, 1, none⟩ = some (.slice l0 l1 l2) := H7.out.1.cell 1 (by simp)
  have k2 : w7.cell? ⟨g, 2, none⟩ = some (.bool f5) := H7.out.1.cell 2 (by simp)
  cases f5 with
  | true =>
    have hm0 : Hid (mkx n (jt p n (.A gx gy) (zV s h m) (bv (sg.take s.toNat)) (iv n (bv (sg.drop s.toNat))) (.A (bv lx) (bv ly))) (bv (sg.take s.toNat)) = false) := (by rw [← E5.out.1]; rfl : mkx n (jt p n (.A gx gy) (zV s h m) (bv (sg.take s.toNat)) (iv n (bv (sg.drop s.toNat))) (.A (bv lx) (bv ly))) (bv (sg.take s.toNat)) = false)
    go_wp2
    go_ret
    exact ⟨by rw [hcode.out, hm0.out]; rfl, H7.out.2.2.2.2⟩
  | false =>
    have hm0 : Hid (mkx n (jt p n (.A gx gy) (zV s h m) (bv (sg.take s.toNat)) (iv n (bv (sg.drop s.toNat))) (.A (bv lx) (bv ly))) (bv (sg.take s.toNat)) = decide (X5 % n = (bv (sg.take s.toNat)))) := (by rw [← E5.out.1]; rfl : mkx n (jt p n (.A gx gy) (zV s h m) (bv (sg.take s.toNat)) (iv n (bv (sg.drop s.toNat))) (.A (bv lx) (bv ly))) (bv (sg.take s.toNat)) = decide (X5 % n = (bv (sg.take s.toNat))))
    go_wp2_with fail
    clear k0 k1 k2
    have C := makes_v hk (.slice j0 j1 j2) (.slice l0 l1 l2) (.slice r0 r1 r2) X5 Y5 (bv (sg.take s.toNat)) false w7 H7.out.2.1.nk.1 H7.out.2.2.1.nk.1 H7.out.2.2.2.1.nk.1
    by_cases hm1 : X5 % n = (bv (sg.take s.toNat))
    · rw [decide_eq_true hm1] at C
      refine C.mono ?_
      clear C
      rintro e w8 ⟨rfl, hB⟩
      have HB8 : Hid (Below w_.heap.size w_ w8) := H7.out.2.2.2.2.trans (hB.mono H7.out.2.2.2.2.size)
      clear hB
      go_wp2
      go_ret
      exact ⟨by rw [hcode.out, hm0.out, decide_eq_true hm1]; rfl, HB8.out⟩
    · rw [decide_eq_false hm1] at C
      refine C.mono ?_
      clear C
      rintro e w8 ⟨rfl, hB⟩
      have HB8 : Hid (Below w_.heap.size w_ w8) := H7.out.2.2.2.2.trans (hB.mono H7.out.2.2.2.2.size)
      clear hB
      go_wp2
      go_ret
      exact ⟨by rw [hcode.out, hm0.out, decide_eq_false hm1]; rfl, HB8.out⟩
theorem verify_v {c s : Int} {p b n gx gy : Nat} (hk : Kv c p b n gx gy s) (h : Int) (ax ay am ag : Option Addr) (cx cy cm cg : Nat) (lx ly m sg : List UInt8) (w : World) (T : Sha.Tb w) (hx : Rd w ax lx) (hy : Rd w ay ly) (hm : Rd w am m) (hg : Rd w ag sg) (l1 : lx.length ≤ 100000000) (l2 : ly.length ≤ 100000000) (l3 : m.length ≤ 100000000) (l4 : sg.length ≤ cg) (c3 : m.length ≤ cm ∧ cm ≤ 9223372036854775807) : Calls Tryz.prog 10 #[.int .i64 h, .int .i64 c, .slice ax lx.length cx, .slice ay ly.length cy, .slice am m.length cm, .slice ag sg.length cg] w fun e w' => e = .returned (.int .i64 (verV p b n (.A gx gy) s h lx ly m sg)) ∧ Below w.heap.size w w' := by
  unfold verV
  by_cases h0 : Sha.siz h = 0
  · rw [if_pos h0]; exact ver_alg c h ax ay am ag cx cy cm cg lx ly m sg w T hx hy hm hg l1 l2 l3 l4 c3 h0
  rw [if_neg h0]
  cases hd : decB p b s lx ly with
  | false => rw [if_pos rfl]; exact ver_key hk h ax ay am ag cx cy cm cg lx ly m sg w T hx hy hm hg l1 l2 l3 l4 c3 h0 hd
  | true =>
    rw [if_neg (by simp)]
    by_cases hl : (sg.length : Int) = 2 * s
    · rw [if_neg (by simpa using hl)]
      by_cases hr : 0 < (bv (sg.take s.toNat)) ∧ (bv (sg.take s.toNat)) < n
      · by_cases ht : 0 < (bv (sg.drop s.toNat)) ∧ (bv (sg.drop s.toNat)) < n
        · rw [if_pos ⟨hr, ht⟩]; exact ver_in hk h ax ay am ag cx cy cm cg lx ly m sg w T hx hy hm hg l1 l2 l3 l4 c3 h0 hd hl hr ht _ rfl
        · rw [if_neg (fun hh => ht hh.2)]; exact ver_s hk h ax ay am ag cx cy cm cg lx ly m sg w T hx hy hm hg l1 l2 l3 l4 c3 h0 hd hl hr ht
      · rw [if_neg (fun hh => hr hh.1)]; exact ver_r hk h ax ay am ag cx cy cm cg lx ly m sg w T hx hy hm hg l1 l2 l3 l4 c3 h0 hd hl hr
    · rw [if_pos hl]; exact ver_len hk h ax ay am ag cx cy cm cg lx ly m sg w T hx hy hm hg l1 l2 l3 l4 c3 h0 hd hl
end Go.Proofs.YtghfoppojdkhkaaGreatDoor

namespace Go.Proofs.YtghfoppojdkhkaaGreatDoor
open Go.RowKit

set_option maxRecDepth 100000

set_option maxHeartbeats 8000000 in
theorem rec_ok {c s : Int} {p b n gx gy : Nat} (hk : Kv c p b n gx gy s) (h : Int) (am : Option Addr) (cm : Nat) (m : List UInt8) (r t x y : Value) (R S X Y a cc : Nat) (w : World) (T : Sha.Tb w) (hm : Rd w am m) (l3 : m.length ≤ 100000000) (c3 : m.length ≤ cm ∧ cm ≤ 9223372036854775807) (hr : Nu w r R) (ht : Nu w t S) (hx : Nu w x X) (hy : Nu w y Y)
    (h0 : Sha.siz h ≠ 0) (ho : onB p b X Y false = true) (r1' : 0 < R ∧ R < n) (s1' : 0 < S ∧ S < n) (hmk : X % n = R) (hQ : jt p n (.A gx gy) (mn n (zV s h m)) S (iv n R) (.A X Y) = .A a cc) (oQ : onB p b a cc false = true) :
    Calls Tryz.prog 19 #[.int .i64 h, .int .i64 c, .slice am m.length cm, r, t, .agg #[x, y, .bool false]] w fun e w' => ∃ xr yr, e = .returned (.tuple #[xr, yr, .int .i64 0]) ∧ Owb w' w.heap.size xr (tobe s.toNat a) ∧ Owb w' w.heap.size yr (tobe s.toNat cc) ∧ Below w.heap.size w w' := by
  obtain ⟨x0, x1, x2, rfl⟩ := hx.shape
  obtain ⟨y0, y1, y2, rfl⟩ := hy.shape
  obtain ⟨r0, r1, r2, rfl⟩ := hr.shape
  obtain ⟨t0, t1, t2, rfl⟩ := ht.shape
  have hn := hk.pmn
  have HN : Hid (Nk w (.slice r0 r1 r2) R 384 ∧ Nk w (.slice t0 t1 t2) S 384 ∧ Nu w (.slice x0 x1 x2) X ∧ Nu w (.slice y0 y1 y2) Y ∧ Rd w am m ∧ Sha.Tb w) := ⟨⟨hr, hn.lt r1'.2⟩, ⟨ht, hn.lt s1'.2⟩, hx, hy, hm, T⟩
  have HC : Hid (m.length ≤ cm ∧ cm ≤ 9223372036854775807 ∧ m.length ≤ 100000000) := ⟨c3.1, c3.2, l3⟩
  have HF0 : Hid (Fm w (w.alloc (.cells #[.slice x0 x1 x2, .slice y0 y1 y2, .bool false] 41)) [(41, [.slice x0 x1 x2, .slice y0 y1 y2, .bool false])] [] []) := ((Fm.nil (w := w) (A := []) ar_nil).push (by simp) 41 [.slice x0 x1 x2, .slice y0 y1 y2, .bool false])
  have hz : (((Sha.siz h : Nat) : Int) == 0) = false := by have := h0; simp; omega
  have hs0 : (s == 0) = false := by rcases hk.s0 with hh | hh <;> subst hh <;> rfl
  have CS := fun w => Sha.size_any h w
  generalize Sha.siz h = z at *
  clear hx hy hr ht hm T c3 l3 hn
  go_enter Tryz.func19, Tryz.ntmps19
  go_wp2_with fail
  generalize (w.alloc (.cells #[.slice x0 x1 x2, .slice y0 y1 y2, .bool false] 41)) = w0 at *
  refine (CS _).mono ?_
  rintro e w_ ⟨rfl, rfl⟩
  clear CS
  go_wp2_with fail
  refine (size_v hk _).mono ?_
  rintro e w1 ⟨rfl, hB⟩
  have HF1 : Hid (Fm w w1 [(41, [.slice x0 x1 x2, .slice y0 y1 y2, .bool false])] [] []) := HF0.out.below hB
  clear hB
  have k0 : w1.cell? ⟨w.heap.size, 0, none⟩ = some (.slice x0 x1 x2) := HF1.out.cell 0 0 (Nat.le_of_ble_eq_true rfl) (Nat.le_of_ble_eq_true rfl)
  have k1 : w1.cell? ⟨w.heap.size, 1, none⟩ = some (.slice y0 y1 y2) := HF1.out.cell 0 1 (Nat.le_of_ble_eq_true rfl) (Nat.le_of_ble_eq_true rfl)
  have k2 : w1.cell? ⟨w.heap.size, 2, none⟩ = some (.bool false) := HF1.out.cell 0 2 (Nat.le_of_ble_eq_true rfl) (Nat.le_of_ble_eq_true rfl)
  go_wp2_with fail
  clear k0 k1 k2
  have C := on_v hk _ _ X Y false _ (HN.out.2.2.1.below HF1.out.bel (Nat.le_refl _)) (HN.out.2.2.2.1.below HF1.out.bel (Nat.le_refl _))
  rw [ho] at C
  refine C.mono ?_
  clear C
  rintro e w2 ⟨rfl, hB⟩
  have HF2 : Hid (Fm w w2 [(41, [.slice x0 x1 x2, .slice y0 y1 y2, .bool false])] [] []) := HF1.out.below hB
  clear hB
  go_wp2_with fail
  have C := inRange_v hk _ R w2 (HN.out.1.below HF2.out.bel (Nat.le_refl _)).1
  rw [decide_eq_true r1'] at C
  refine C.mono ?_
  clear C
  rintro e w3 ⟨rfl, hB⟩
  have HF3 : Hid (Fm w w3 [(41, [.slice x0 x1 x2, .slice y0 y1 y2, .bool false])] [] []) := HF2.out.below hB
  clear hB
  go_wp2_with fail
  have C := inRange_v hk _ S w3 (HN.out.2.1.below HF3.out.bel (Nat.le_refl _)).1
  rw [decide_eq_true s1'] at C
  refine C.mono ?_
  clear C
  rintro e w4 ⟨rfl, hB⟩
  have HF4 : Hid (Fm w w4 [(41, [.slice x0 x1 x2, .slice y0 y1 y2, .bool false])] [] []) := HF3.out.below hB
  clear hB
  have k0 : w4.cell? ⟨w.heap.size, 0, none⟩ = some (.slice x0 x1 x2) := HF4.out.cell 0 0 (Nat.le_of_ble_eq_true rfl) (Nat.le_of_ble_eq_true rfl)
  have k1 : w4.cell? ⟨w.heap.size, 1, none⟩ = some (.slice y0 y1 y2) := HF4.out.cell 0 1 (Nat.le_of_ble_eq_true rfl) (Nat.le_of_ble_eq_true rfl)
  have k2 : w4.cell? ⟨w.heap.size, 2, none⟩ = some (.bool false) := HF4.out.cell 0 2 (Nat.le_of_ble_eq_true rfl) (Nat.le_of_ble_eq_true rfl)
  go_wp2_with fail
  clear k0 k1 k2
  have C := makes_v hk _ _ _ X Y R false w4 (HN.out.2.2.1.below HF4.out.bel (Nat.le_refl _)) (HN.out.2.2.2.1.below HF4.out.bel (Nat.le_refl _)) (HN.out.1.below HF4.out.bel (Nat.le_refl _)).1
  rw [decide_eq_true hmk] at C
  refine C.mono ?_
  clear C
  rintro e w5 ⟨rfl, hB⟩
  have HF5 : Hid (Fm w w5 [(41, [.slice x0 x1 x2, .slice y0 y1 y2, .bool false])] [] []) := HF4.out.below hB
  clear hB
  go_wp2_with fail
  refine (number_v hk h am cm m w5 (Tb.below' HN.out.2.2.2.2.2 HF5.out.bel (Nat.le_refl _)) (HN.out.2.2.2.2.1.below HF5.out.bel (Nat.le_refl _)) HC.out.1 HC.out.2.1 (by have := HC.out.2.2; omega)).mono ?_
  rintro e w6 ⟨zv, rfl, mz, hB⟩
  have HF6 : Hid (Fm w w6 [(41, [.slice x0 x1 x2, .slice y0 y1 y2, .bool false])] [] []) := HF5.out.below hB
  have HZ6 : Hid (Nk w6 zv (zV s h m) 384) := mz.nk
  obtain ⟨z0, z1, z2, rfl⟩ := mz.nk.sl
  clear hB mz
  go_wp2_with fail
  refine (order_v hk _).mono ?_
  rintro e w7 ⟨nv, rfl, mN, hB⟩
  have HF7 : Hid (Fm w w7 [(41, [.slice x0 x1 x2, .slice y0 y1 y2, .bool false])] [] []) := HF6.out.below hB
  have HZ7 : Hid (Nk w7 (.slice z0 z1 z2) (zV s h m) 384 ∧ Nk w7 nv n 384) := ⟨HZ6.out.below hB (Nat.le_refl _), mN.nk⟩
  obtain ⟨n0, n1, n2, rfl⟩ := mN.nk.sl
  clear hB mN
  go_wp2_with fail
  refine (subn_v hk _ _ (zV s h m) w7 HZ7.out.1 HZ7.out.2.1).mono ?_
  rintro e w8 ⟨mv, rfl, hh⟩
  have HF8 : Hid (Fm w w8 [(41, [.slice x0 x1 x2, .slice y0 y1 y2, .bool false])] [] []) := HF7.out.below hh.bel
  have HM8 : Hid (Nk w8 mv (mn n (zV s h m)) 384) := (by rw [← fS_mn hk.pmn]; exact hh.nb : Nk w8 mv (mn n (zV s h m)) 384)
  obtain ⟨m0, m1, m2, rfl⟩ := hh.sl
  clear hh
  have k0 : w8.cell? ⟨w.heap.size, 0, none⟩ = some (.slice x0 x1 x2) := HF8.out.cell 0 0 (Nat.le_of_ble_eq_true rfl) (Nat.le_of_ble_eq_true rfl)
  have k1 : w8.cell? ⟨w.heap.size, 1, none⟩ = some (.slice y0 y1 y2) := HF8.out.cell 0 1 (Nat.le_of_ble_eq_true rfl) (Nat.le_of_ble_eq_true rfl)
  have k2 : w8.cell? ⟨w.heap.size, 2, none⟩ = some (.bool false) := HF8.out.cell 0 2 (Nat.le_of_ble_eq_true rfl) (Nat.le_of_ble_eq_true rfl)
  go_wp2_with fail
  clear k0 k1 k2
  refine (ejoint_v hk _ _ _ _ _ (mn n (zV s h m)) S R X Y false w8 HM8.out (HN.out.2.1.below HF8.out.bel (Nat.le_refl _)) (HN.out.1.below HF8.out.bel (Nat.le_refl _)).1 (HN.out.2.2.1.below HF8.out.bel (Nat.le_refl _)) (HN.out.2.2.2.1.below HF8.out.bel (Nat.le_refl _)) ho r1'.1 r1'.2).mono ?_
  rintro e w9 ⟨rv, rfl, hPa⟩
  rw [show jt p n (.A gx gy) (mn n (zV s h m)) S (iv n R) (ptO X Y false) = .A a cc from hQ] at hPa
  obtain ⟨⟨xv, yv, rfl, q1, q2, _⟩, hB⟩ := hPa
  have HF9 : Hid (Fm w w9 [(41, [.slice x0 x1 x2, .slice y0 y1 y2, .bool false])] [] []) := HF8.out.below hB
  have HQ9 : Hid (Nk w9 xv a 384 ∧ Nk w9 yv cc 384) := ⟨q1.nk, q2.nk⟩
  obtain ⟨u0, u1, u2, rfl⟩ := q1.nk.sl
  obtain ⟨v0, v1, v2, rfl⟩ := q2.nk.sl
  clear hB q1 q2
  go_wp2_with fail
  refine (encode_ok hk _ _ a cc w9 HQ9.out.1.1 HQ9.out.2.1 oQ).mono ?_
  rintro e w10 ⟨xr, yr, rfl, o1, o2, hB⟩
  have HX : Hid (Owb w10 w.heap.size xr (tobe s.toNat a) ∧ Owb w10 w.heap.size yr (tobe s.toNat cc) ∧ Below w.heap.size w w10) := ⟨o1.base HF9.out.bel.size, o2.base HF9.out.bel.size, HF9.out.bel.trans (hB.mono HF9.out.bel.size)⟩
  obtain ⟨g0, g1, g2, rfl⟩ : Sl3 xr := (by obtain ⟨a, c, e, _⟩ := o1.nb; exact ⟨_, _, _, e⟩)
  obtain ⟨e0, e1, e2, rfl⟩ : Sl3 yr := (by obtain ⟨a, c, e, _⟩ := o2.nb; exact ⟨_, _, _, e⟩)
  clear o1 o2 hB
  go_wp2
  go_ret3
  exact ⟨_, _, rfl, HX.out⟩
end Go.Proofs.YtghfoppojdkhkaaGreatDoor
