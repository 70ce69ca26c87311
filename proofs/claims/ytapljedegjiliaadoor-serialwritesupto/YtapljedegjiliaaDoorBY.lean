import Derived.Test.YtapljedegjiliaaDoorBe
import Derived.Test.YtapljedegjiliaaDoorCZ
import Derived.Test.YtapljedegjiliaaDoorBZ
namespace Go.Proofs.YtapljedegjiliaaDoor
open Go.RowKit Go.Shelf

set_option maxRecDepth 100000 in
set_option maxHeartbeats 8000000 in
theorem twin21_any (ts : List (List UInt8)) (ao : Option Addr) (cap : Nat) (w : World) (h : TR w (.slice ao ts.length cap) ts ao cap) (hl : ts.length ≤ 100000000) :
    Calls Tryd.prog 7 #[.slice ao ts.length cap] w fun e w' => (∃ v, e = .returned v ∧ OT w.heap.size w' v ts) ∧ Below w.heap.size w w' := by
  have HN : Hid (∀ wx, Below w.heap.size w wx → TR wx (.slice ao ts.length cap) ts ao cap) := fun wx hx => h.below hx (Nat.le_refl _)
  have HT : Hid (∀ k, k < ts.length → ts.take (k + 1) = ts.take k ++ [ts.getD k []]) := fun k hk => takeT hk
  clear h
  go_enter Tryd.func7, Tryd.ntmps7
  go_wp2
  go_loopw [4, 3] (fun s4 s3 wx => ∃ k : Nat, s4 = .int .i64 k ∧ k ≤ ts.length ∧ OT w.heap.size wx s3 (ts.take k) ∧ Below w.heap.size w wx) (fun x _ _ => ts.length - (intOf x).toNat)
  case atStart => exact ⟨0, rfl, Nat.zero_le _, World.ownsRow_nil _ _ _ _, Below.refl _ _⟩
  case round =>
    obtain ⟨k, rfl, hk, ho, hb⟩ := hrel
    have HO : Hid (OT w.heap.size wr _ (ts.take k)) := ho
    have HBr : Hid (Below w.heap.size w wr) := hb
    obtain ⟨va, vc, rfl, _, _⟩ := own_slice ho
    rw [List.length_take_of_le hk] at HO ⊢
    by_cases hlt : k < ts.length
    · have q0 : decide ((k : Int) < (ts.length : Int)) = true := decide_eq_true (by omega)
      have q1 : (k : Int) < (ts.length : Int) := by omega
      obtain ⟨g, off, rfl, ck⟩ := (HN.out wr hb).at hlt
      have ht := HT.out k hlt
      generalize ts.getD k [] = x at *
      generalize hT : ts.take k = T at *
      have HTl : Hid (T.length = k) := by show _ = _; rw [← hT]; exact List.length_take_of_le hk
      have HTM : Hid (ts.take (k + 1) = T ++ [x]) := ht
      have ho1 : OT w.heap.size (wr.alloc (.cells #[.string ⟨x.toArray⟩] 9)) (.slice va k vc) T := World.ownsRow.alloc HO.out _
      have hsz : w.heap.size ≤ (wr.alloc (.cells #[.string ⟨x.toArray⟩] 9)).heap.size := by rw [alloc_size]; have := hb.size; omega
      have hBa : Below w.heap.size w (wr.alloc (.cells #[.string ⟨x.toArray⟩] 9)) := hb.trans ((alloc_below _ _).mono hb.size)
      clear ho hb ht hT
      go_wp2_with (at_builtin; refine append_txt (wr := wr.alloc (.cells #[.string ⟨x.toArray⟩] 9)) rfl (.tmp 11) (.tmp 16) rfl w.heap.size (.slice va k vc) T rfl ho1 (some ⟨wr.heap.size, 0, none⟩) 1 [x] rfl (one_txt wr x) (fun h => by cases h) (by rw [HTl.out]; simp only [List.length_cons, List.length_nil]; omega) hsz ?_; intro v1 w4 ho4 hg4; have HO4 : Hid (OT w.heap.size w4 v1 (T ++ [x])) := ho4; have HB4 : Hid (Below w.heap.size w w4) := hBa.grown hg4 hsz (own_block ho1); clear ho4 hg4 ho1 hBa hsz)
      go_roundw
      case rel => exact ⟨k + 1, by go_num, by omega, by rw [HTM.out]; exact HO4.out, HB4.out⟩
      case measure => simp [intOf]; omega
    · have q0 : decide ((k : Int) < (ts.length : Int)) = false := decide_eq_false (by omega)
      have HX : Hid (OT w.heap.size wr (.slice va k vc) ts) := by
        have := HO.out
        rwa [List.take_of_length_le (by omega)] at this
      clear ho hb HO
      go_wp2
      go_ret
      exact ⟨⟨_, rfl, HX.out⟩, HBr.out⟩

/-- The marks behind lent texts. -/
def mk20 : List (List UInt8) := List.replicate 20 [109, 97, 114, 107]
theorem mk_step (ts : List (List UInt8)) (j : Nat) : ts ++ List.replicate (j + 1) [109, 97, 114, 107] = (ts ++ List.replicate j [109, 97, 114, 107]) ++ [[109, 97, 114, 107]] := by
  rw [List.replicate_succ', List.append_assoc]
set_option maxRecDepth 100000 in
set_option maxHeartbeats 8000000 in
theorem lent21_any (ts : List (List UInt8)) (ao : Option Addr) (cap : Nat) (w : World) (h : TR w (.slice ao ts.length cap) ts ao cap) (hl : ts.length ≤ 10000000) :
    Calls Tryd.prog 4 #[.slice ao ts.length cap] w fun e w' => (∃ g c, e = .returned (.slice (some ⟨g, 0, none⟩) ts.length c) ∧ OT w.heap.size w' (.slice (some ⟨g, 0, none⟩) (ts.length + 20) c) (ts ++ mk20)) ∧ Below w.heap.size w w' := by
  have CT := twin21_any ts ao cap w h (by omega)
  have HS : Hid (∀ j, ts ++ List.replicate (j + 1) [109, 97, 114, 107] = (ts ++ List.replicate j [109, 97, 114, 107]) ++ [[109, 97, 114, 107]]) := fun j => mk_step ts j
  have HL : Hid (∀ j, (ts ++ List.replicate j ([109, 97, 114, 107] : List UInt8)).length = ts.length + j) := fun j => by show _ = _; simp
  clear h
  go_enter Tryd.func4, Tryd.ntmps4
  go_wp2_with fail
  refine CT.mono ?_
  clear CT
  rintro e w1 ⟨⟨v1, rfl, ho1⟩, hb1⟩
  have HO1 : Hid (OT w.heap.size w1 v1 ts) := ho1
  have HB1 : Hid (Below w.heap.size w w1) := hb1
  clear ho1 hb1
  go_wp2
  go_loopw [4, 3] (fun s4 s3 wx => ∃ j : Nat, s4 = .int .i64 j ∧ j ≤ 20 ∧ OT w.heap.size wx s3 (ts ++ List.replicate j [109, 97, 114, 107]) ∧ Below w.heap.size w wx) (fun x _ _ => 20 - (intOf x).toNat)
  case atStart => exact ⟨0, rfl, Nat.zero_le _, by simpa using HO1.out, HB1.out⟩
  case round =>
    obtain ⟨j, rfl, hj, ho, hb⟩ := hrel
    have HO : Hid (OT w.heap.size wr _ (ts ++ List.replicate j [109, 97, 114, 107])) := ho
    have HBr : Hid (Below w.heap.size w wr) := hb
    obtain ⟨va, vc, rfl, hvc, hvg⟩ := own_slice ho
    have hTl := HL.out j
    rw [hTl] at HO hvc hvg ⊢
    by_cases hlt : j < 20
    · have q0 : decide ((j : Int) < 20) = true := decide_eq_true (by omega)
      have hs := HS.out j
      generalize ts ++ List.replicate j [109, 97, 114, 107] = T at *
      have HTl : Hid (T.length = ts.length + j) := hTl
      have HTM : Hid (ts ++ List.replicate (j + 1) [109, 97, 114, 107] = T ++ [[109, 97, 114, 107]]) := hs
      have ho2 : OT w.heap.size (wr.alloc (.cells #[.string ⟨#[109, 97, 114, 107]⟩] 9)) (.slice va (ts.length + j) vc) T := World.ownsRow.alloc HO.out _
      have hsz : w.heap.size ≤ (wr.alloc (.cells #[.string ⟨#[109, 97, 114, 107]⟩] 9)).heap.size := by rw [alloc_size]; have := hb.size; omega
      have hBa : Below w.heap.size w (wr.alloc (.cells #[.string ⟨#[109, 97, 114, 107]⟩] 9)) := hb.trans ((alloc_below _ _).mono hb.size)
      clear ho hb hs hTl hvg HL HS
      go_wp2_with (at_builtin; refine append_txt (wr := wr.alloc (.cells #[.string ⟨#[109, 97, 114, 107]⟩] 9)) rfl (.tmp 11) (.tmp 12) rfl w.heap.size (.slice va (ts.length + j) vc) T rfl ho2 (some ⟨wr.heap.size, 0, none⟩) 1 [[109, 97, 114, 107]] rfl (one_txt wr [109, 97, 114, 107]) (fun h => by cases h) (by rw [HTl.out]; simp only [List.length_cons, List.length_nil]; omega) hsz ?_; intro v1 w4 ho4 hg4; have HO4 : Hid (OT w.heap.size w4 v1 (T ++ [[109, 97, 114, 107]])) := ho4; have HB4 : Hid (Below w.heap.size w w4) := hBa.grown hg4 hsz (own_block ho2); clear ho4 hg4 ho2 hBa hsz)
      go_roundw
      case rel => exact ⟨j + 1, by go_num, by omega, by rw [HTM.out]; exact HO4.out, HB4.out⟩
      case measure => simp [intOf]; omega
    · have q0 : decide ((j : Int) < 20) = false := decide_eq_false (by omega)
      obtain rfl : j = 20 := by omega
      obtain ⟨g, rfl⟩ := hvg (by omega)
      have hcI : (ts.length : Int) ≤ (vc : Int) := by omega
      have hcn : ts.length ≤ vc := by omega
      have HX : Hid (OT w.heap.size wr (.slice (some ⟨g, 0, none⟩) (ts.length + 20) vc) (ts ++ mk20)) := HO.out
      clear ho hb HO hTl hvg HL HS hvc
      go_wp2
      go_ret
      exact ⟨⟨g, vc, rfl, HX.out⟩, HBr.out⟩

theorem ot_pre {B : Nat} {w : World} {g n c : Nat} {l M : List (List UInt8)} (h : OT B w (.slice (some ⟨g, 0, none⟩) n c) (l ++ M)) : TR w (.slice (some ⟨g, 0, none⟩) l.length c) l (some ⟨g, 0, none⟩) c := by
  obtain ⟨a, c', e, hc, _⟩ := own_slice h
  cases e
  rw [List.length_append] at hc
  refine ⟨rfl, by omega, .inr ⟨g, 0, rfl, (h.lt g rfl).2, fun j hj => ?_⟩⟩
  rw [Nat.zero_add]
  unfold OT at h
  refine (own_cell h j _ ?_).1
  rw [List.getElem?_map, List.getElem?_append_left hj, List.getElem?_eq_getElem hj, List.getD_eq_getElem?_getD, List.getElem?_eq_getElem hj]
  rfl
theorem ot_at {B : Nat} {w : World} {g n c : Nat} {X : List (List UInt8)} (h : OT B w (.slice (some ⟨g, 0, none⟩) n c) X) {k : Nat} (hk : k < X.length) : w.cell? ⟨g, k, none⟩ = some (.string ⟨(X.getD k []).toArray⟩) ∧ w.frozen? ⟨g, k, none⟩ = false := by
  obtain ⟨a, c', e, hc, _⟩ := own_slice h
  cases e
  unfold OT at h
  refine own_cell h k _ ?_
  rw [List.getElem?_map, List.getElem?_eq_getElem hk, List.getD_eq_getElem?_getD, List.getElem?_eq_getElem hk]
  rfl
theorem mk_at (l : List (List UInt8)) {i : Nat} (hi : i < 20) : (l ++ mk20).getD (l.length + i) [] = [109, 97, 114, 107] := by
  rw [List.getD_eq_getElem?_getD, List.getElem?_append_right (by omega), show l.length + i - l.length = i by omega]
  unfold mk20
  rw [List.getElem?_replicate, if_pos hi]
  rfl

set_option maxRecDepth 100000 in
set_option maxHeartbeats 8000000 in
theorem whole21_any (ts : List (List UInt8)) (ao : Option Addr) (cap g c B : Nat) (w : World) (h : TR w (.slice ao ts.length cap) ts ao cap) (hk : OT B w (.slice (some ⟨g, 0, none⟩) (ts.length + 20) c) (ts ++ mk20)) (hl : ts.length ≤ 10000000) :
    Calls Tryd.prog 8 #[.slice (some ⟨g, 0, none⟩) ts.length c, .slice ao ts.length cap] w fun e w' => e = .returned (.bool true) ∧ ∃ q, w' = w.drewN q := by
  have CS := stexts21_any ts ts (some ⟨g, 0, none⟩) ao c cap w (ot_pre hk) h (by omega)
  rw [decide_eq_true rfl] at CS
  have hc2 : ts.length + 20 ≤ c := by
    obtain ⟨a, c', e, hc, _⟩ := own_slice hk
    injection e with _ _ e3
    rw [e3]
    simpa [mk20] using hc
  have hcI : (ts.length : Int) + 20 ≤ (c : Int) := by omega
  have HM : Hid (∀ i, i < 20 → w.cell? ⟨g, ts.length + i, none⟩ = some (.string ⟨#[109, 97, 114, 107]⟩)) := fun i hi => by
    have h1 := (ot_at hk (k := ts.length + i) (by simp [mk20]; omega)).1
    rw [mk_at ts hi] at h1
    exact h1
  clear h hk
  go_enter Tryd.func8, Tryd.ntmps8
  go_wp2
  go_loopw [6] (fun s wx => ∃ i : Nat, s = .int .i64 i ∧ i ≤ 20 ∧ wx = w) (fun x _ => 20 - (intOf x).toNat)
  case atStart => exact ⟨0, rfl, Nat.zero_le _, rfl⟩
  case round =>
    obtain ⟨i, rfl, hi, rfl⟩ := hrel
    by_cases hlt : i < 20
    · have q0 : decide ((i : Int) < 20) = true := decide_eq_true (by omega)
      have q1 : (ts.length : Int) + (i : Int) < (ts.length : Int) + 20 := by omega
      have q2 : 0 ≤ (ts.length : Int) + (i : Int) := by omega
      have q3 : ((ts.length : Int) + (i : Int)).toNat = ts.length + i := by omega
      have kx := HM.out i hlt
      go_wp2
      go_roundw
      case rel => exact ⟨i + 1, by go_num, by omega, trivial⟩
      case measure => simp [intOf]; omega
    · have q0 : decide ((i : Int) < 20) = false := decide_eq_false (by omega)
      clear HM
      go_wp2_with fail
      refine CS.mono ?_
      clear CS
      rintro e w1 ⟨rfl, q, rfl⟩
      go_wp2
      go_ret
      exact ⟨rfl, q, rfl⟩

end Go.Proofs.YtapljedegjiliaaDoor

namespace Go.Proofs.YtapljedegjiliaaDoor
open Go.RowKit Go.Shelf

/-- What stands while the texts are written over. -/
structure TQ (w : World) (g c n N : Nat) (wx : World) : Prop where
  bel : Below w.heap.size w wx
  k : ∃ X : List (List UInt8), (X.length = n ∧ ∀ x ∈ X, x.length ≤ N) ∧ OT w.heap.size wx (.slice (some ⟨g, 0, none⟩) (n + 20) c) (X ++ mk20)
theorem TQ.text {w : World} {g c n N : Nat} {wx : World} (h : TQ w g c n N wx) (hg : w.heap.size ≤ g) {i : Nat} (hi : i < n) : ∃ x : List UInt8, x.length ≤ N ∧ wx.cell? ⟨g, i, none⟩ = some (.string ⟨x.toArray⟩) ∧ wx.frozen? ⟨g, i, none⟩ = false ∧
    ∀ (y : List UInt8) (M : Nat), N ≤ M → y.length ≤ M → TQ w g c n M (wx.setCell ⟨g, i, none⟩ (.string ⟨y.toArray⟩)) := by
  obtain ⟨X, ⟨hX, hXl⟩, hO⟩ := h.k
  have hg2 : (X ++ mk20).getD i [] = X.getD i [] := by
    rw [List.getD_eq_getElem?_getD, List.getD_eq_getElem?_getD, List.getElem?_append_left (by omega)]
  have hm : X.getD i [] ∈ X := by rw [List.getD_eq_getElem?_getD, List.getElem?_eq_getElem (by omega)]; exact List.getElem_mem _
  have hat := ot_at hO (k := i) (by rw [List.length_append]; omega)
  rw [hg2] at hat
  refine ⟨X.getD i [], hXl _ hm, hat.1, hat.2, fun y M hM hy => ?_⟩
  have hO2 := hO
  unfold OT at hO2
  rw [show (X ++ mk20).length = n + 20 by simp [mk20, hX]] at hO2
  have hs := World.ownsRow.stored hO2 i (.string ⟨y.toArray⟩)
  refine ⟨h.bel.setCell hg _, X.set i y, ⟨by rw [List.length_set]; exact hX, fun x hx => ?_⟩, ?_⟩
  · rcases List.mem_or_eq_of_mem_set hx with hx | rfl
    · exact Nat.le_trans (hXl x hx) hM
    · exact hy
  · unfold OT
    rw [show (X.set i y ++ mk20).length = n + 20 by simp [mk20, hX], show (X.set i y ++ mk20).map tV = ((X ++ mk20).map tV).set i (.string ⟨y.toArray⟩) by
      rw [show (Value.string ⟨y.toArray⟩) = tV y from rfl, ← List.map_set, List.set_append_left _ _ (by omega)]]
    exact hs.1

set_option maxRecDepth 100000 in
set_option maxHeartbeats 32000000 in
/-- The law. -/
theorem swrites_any (ts : List (List UInt8)) (ao : Option Addr) (cap : Nat) (w : World) (h : TR w (.slice ao ts.length cap) ts ao cap) (hG : GL w.heap.size w) (hl : ts.length ≤ 1048576) (hb : ∀ t ∈ ts, t.length ≤ 1048576) :
    Calls Tryd.prog 3 #[.slice ao ts.length cap] w fun e w' => e = .returned (.bool true) ∧ Below w.heap.size w w' := by
  have CL := lent21_any ts ao cap w h (by omega)
  have HGq : Hid (∀ wq, Below w.heap.size w wq → GL wq.heap.size wq) := fun wq hq => (hG.below hq).up hq.size
  have HN : Hid (∀ wq, Below w.heap.size w wq → TR wq (.slice ao ts.length cap) ts ao cap) := fun wq hq => h.below hq (Nat.le_refl _)
  have HGe : Hid (∀ (X : List (List UInt8)) (a : Option Addr) (c : Nat) wq, Below w.heap.size w wq → X.length = ts.length → (∀ t ∈ X, t.length ≤ 3000000) → TR wq (.slice a X.length c) X a c → Calls Tryd.prog 5 #[.slice a ts.length c] wq fun e w' => e = .returned (.tuple #[.string ⟨(genF X).1.toArray⟩, .int .i64 ((genF X).2 : Int)]) ∧ Below wq.heap.size wq w') := fun X a c wq hq hXl hX hn => by
    rw [← hXl]
    exact gen_any X a c wq hn (HGq.out wq hq) (fun t ht => Nat.le_trans (hX t ht) (by omega)) (by omega)
  have HRG : Hid (∀ (X : List (List UInt8)) (a : Option Addr) (c : Nat) wq, X.length = ts.length → (∀ t ∈ X, t.length ≤ 3000000) → TR wq (.slice a X.length c) X a c → Calls Tryd.prog 6 #[.slice a ts.length c] wq fun e w' => e = .returned (.tuple #[.string ⟨(genF X).1.toArray⟩, .int .i64 ((genF X).2 : Int)]) ∧ Below wq.heap.size wq w') := fun X a c wq hXl hX hn => by
    rw [← hXl]
    exact rgen_any X a c wq hn (fun t ht => Nat.le_trans (hX t ht) (by omega)) (by omega)
  have HTw : Hid (∀ (X : List (List UInt8)) (a : Option Addr) (c : Nat) wq, X.length = ts.length → TR wq (.slice a X.length c) X a c → Calls Tryd.prog 7 #[.slice a ts.length c] wq fun e w' => (∃ v, e = .returned v ∧ OT wq.heap.size w' v X) ∧ Below wq.heap.size wq w') := fun X a c wq hXl hn => by
    rw [← hXl]
    exact twin21_any X a c wq hn (by omega)
  have HB0 : Hid (∀ t ∈ ts, t.length ≤ 3000000) := fun t ht => by have := hb t ht; omega
  have HB1 : Hid (∀ t ∈ ts, t.length ≤ 1048576) := hb
  clear h hG hb
  go_enter Tryd.func3, Tryd.ntmps3
  go_wp2_with fail
  refine CL.mono ?_
  clear CL
  rintro e w1 ⟨⟨g, c, rfl, hk⟩, hb1⟩
  have HW1 : Hid (Below w.heap.size w w1) := hb1
  have HBq : Hid (∀ wx, Below w1.heap.size w1 wx → Below w.heap.size w wx) := fun wx hx => HW1.out.trans (hx.mono HW1.out.size)
  have HK : Hid (∀ wx, Below w1.heap.size w1 wx → OT w.heap.size wx (.slice (some ⟨g, 0, none⟩) (ts.length + 20) c) (ts ++ mk20)) := fun wx hx => own_below hk hx (Nat.le_refl _)
  have HLg : Hid (w.heap.size ≤ g) := (hk.lt g rfl).1
  have C := HGe.out ts _ c w1 hb1 rfl HB0.out (ot_pre hk)
  obtain ⟨⟨px, pe⟩, hpf⟩ : ∃ p, genF ts = p := ⟨_, rfl⟩
  rw [hpf] at C
  dsimp only at C
  have HPF : Hid (genF ts = (px, pe)) := hpf
  clear hk hb1 hpf
  go_wp2_with fail
  refine C.mono ?_
  clear C
  rintro e w2 ⟨rfl, hx⟩
  have B2 : Hid (Below w1.heap.size w1 w2) := hx
  have C := HTw.out ts ao cap w2 rfl (HN.out w2 (HBq.out w2 hx))
  clear hx
  go_wp2_with fail
  refine C.mono ?_
  clear C
  rintro e w3 ⟨⟨v3, rfl, ho3⟩, hx⟩
  have B3 : Hid (Below w1.heap.size w1 w3) := B2.out.trans (hx.mono B2.out.size)
  obtain ⟨a3, c3, e3, hr3⟩ := ho3.tr
  subst e3
  have C := HRG.out ts a3 c3 w3 rfl HB0.out hr3
  rw [HPF.out] at C
  dsimp only at C
  clear hx ho3 hr3 B2
  go_wp2_with fail
  refine C.mono ?_
  clear C
  rintro e w4 ⟨rfl, hx⟩
  have B4 : Hid (Below w1.heap.size w1 w4) := B3.out.trans (hx.mono B3.out.size)
  have C := whole21_any ts ao cap g c _ w4 (HN.out w4 (HBq.out w4 B4.out)) (HK.out w4 B4.out) (by omega)
  have qp : (px != px) = false := by simp
  have qp1 : (px == px) = true := by simp
  have qe : ((pe : Int) != (pe : Int)) = false := by simp
  have qe1 : ((pe : Int) == (pe : Int)) = true := by simp
  clear hx B3
  go_wp2_with fail
  refine C.mono ?_
  clear C
  rintro e w5 ⟨rfl, q, rfl⟩
  have B5 : Hid (Below w1.heap.size w1 (w4.drewN q)) := below_drewN B4.out q
  have HTQ : Hid (TQ w g c ts.length (1048576 + 0) (w4.drewN q)) := ⟨HBq.out _ B5.out, ts, ⟨rfl, fun x hx => HB1.out x hx⟩, HK.out _ B5.out⟩
  clear B4 B5 HK HBq HPF HN HB0 HB1
  go_wp2
  clear qp qp1 qe qe1
  go_loopw [8] (fun s wx => ∃ i : Nat, s = .int .i64 i ∧ i ≤ ts.length ∧ TQ w g c ts.length (1048576 + i) wx) (fun s _ => ts.length - (intOf s).toNat)
  case atStart => exact ⟨0, rfl, Nat.zero_le _, HTQ.out⟩
  case round =>
    obtain ⟨i, rfl, hi, htq⟩ := hrel
    clear HTQ
    by_cases hlt : i < ts.length
    · have q0 : decide ((i : Int) < (ts.length : Int)) = true := decide_eq_true (by omega)
      have q1 : (i : Int) < (ts.length : Int) := by omega
      obtain ⟨x, hxl, c0, f0, hst⟩ := htq.text HLg.out hlt
      have s1 : x.length + 1 ≤ 9223372036854775807 := by omega
      have s2 : ¬ (9223372036854775807 < x.length + 1) := by omega
      have hn := hst (x ++ [120]) (1048576 + (i + 1)) (by omega) (by rw [List.length_append, List.length_singleton]; omega)
      have HQ : (⟨x.toArray⟩ : ByteArray) ++ ⟨#[120]⟩ = ⟨(x ++ [120]).toArray⟩ := by
        show (⟨x.toArray⟩ : ByteArray) ++ ⟨([120] : List UInt8).toArray⟩ = _
        rw [sapp3]
      rw [← HQ] at hn
      obtain ⟨wa, ea⟩ : ∃ y, wr.setCell ⟨g, i, none⟩ (.string (⟨x.toArray⟩ ++ ⟨#[120]⟩)) = y := ⟨_, rfl⟩
      rw [ea] at hn
      have HGm : Hid (TQ w g c ts.length (1048576 + (i + 1)) wa) := hn
      clear hn hst hxl htq HQ HGe HRG HTw HGq
      go_wp2
      go_roundw
      case rel => exact ⟨i + 1, by go_num, by omega, HGm.out⟩
      case measure => simp [intOf]; omega
    · have q0 : decide ((i : Int) < (ts.length : Int)) = false := decide_eq_false (by omega)
      obtain ⟨X, ⟨hXl, hX0⟩, hk⟩ := htq.k
      have HBz : Hid (Below w.heap.size w wr) := htq.bel
      have HX : Hid (∀ t ∈ X, t.length ≤ 3000000) := fun t ht => by have := hX0 t ht; omega
      have HXl : Hid (X.length = ts.length) := hXl
      have HKR : Hid (∀ wx, Below wr.heap.size wr wx → TR wx (.slice (some ⟨g, 0, none⟩) X.length c) X (some ⟨g, 0, none⟩) c) := fun wx hx => ot_pre (own_below hk hx (Nat.le_refl _))
      have C := HTw.out X _ c wr hXl (HKR.out wr (Below.refl _ _))
      clear hk hX0 htq hXl HTw
      go_wp2_with fail
      refine C.mono ?_
      clear C
      rintro e w6 ⟨⟨v6, rfl, ho6⟩, hx⟩
      have B6 : Hid (Below wr.heap.size wr w6) := hx
      obtain ⟨a6, c6, e6, hr6⟩ := ho6.tr
      rw [HXl.out] at e6
      subst e6
      have C := HRG.out X a6 c6 w6 HXl.out HX.out hr6
      obtain ⟨⟨px, pe⟩, hpf⟩ : ∃ p, genF X = p := ⟨_, rfl⟩
      rw [hpf] at C
      dsimp only at C
      have HPF : Hid (genF X = (px, pe)) := hpf
      clear hx ho6 hr6 hpf
      go_wp2_with fail
      refine C.mono ?_
      clear C
      rintro e w7 ⟨rfl, hx⟩
      have B7 : Hid (Below wr.heap.size wr w7) := B6.out.trans (hx.mono B6.out.size)
      have C := HGe.out X _ c w7 (HBz.out.trans (B7.out.mono HBz.out.size)) HXl.out HX.out (HKR.out w7 B7.out)
      rw [HPF.out] at C
      dsimp only at C
      have qp : (px != px) = false := by simp
      have qp1 : (px == px) = true := by simp
      have qe : ((pe : Int) != (pe : Int)) = false := by simp
      have qe1 : ((pe : Int) == (pe : Int)) = true := by simp
      clear hx B6
      go_wp2_with fail
      refine C.mono ?_
      clear C
      rintro e w8 ⟨rfl, hx⟩
      have HB8 : Hid (Below w.heap.size w w8) := (HBz.out.trans (B7.out.mono HBz.out.size)).trans (hx.mono (Nat.le_trans HBz.out.size B7.out.size))
      clear hx
      go_wp2
      go_ret
      exact ⟨rfl, HB8.out⟩

end Go.Proofs.YtapljedegjiliaaDoor

namespace Go.Proofs.YtapljedegjiliaaDoor
open Go.RowKit Go.Shelf

theorem swrites_top (v : Value) (l : List (List UInt8)) (a : Option Addr) (cap N : Nat) (W : World) (h : TR W v l a cap) (hl : l.length ≤ N) (hb : ∀ x ∈ l, x.length ≤ N) (hN : N ≤ 1048576) (hG : GL W.heap.size W) :
    Calls Tryd.prog 3 #[v] W fun e W' => e = .returned (.bool true) ∧ Below W.heap.size W W' := by
  obtain ⟨rfl, _, _⟩ := id h
  exact swrites_any l a cap W h hG (by omega) (fun n hx => Nat.le_trans (hb n hx) hN)

end Go.Proofs.YtapljedegjiliaaDoor
