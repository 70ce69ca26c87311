import Derived.Test.YtmagjhidgembnaaDoorOZ
import Derived.Test.YtmagjhidgembnaaDoorIZ
import Derived.Test.YtmagjhidgembnaaDoorXZ
import Derived.Test.YtmagjhidgembnaaDoorUZ
namespace Go.Proofs.YtmagjhidgembnaaDoor
open Go.RowKit Go.Shelf

theorem sumW_le {X : List Nd} {B : Nat} (h : ∀ n ∈ X, n.text.length ≤ B ∧ n.key.length ≤ B) : sumW X ≤ X.length * (12 * B + 12) := by
  induction X with
  | nil => simp [sumW]
  | cons n r ih =>
    have h1 := h n (by simp)
    have h2 := ih (fun x hx => h x (by simp [hx]))
    rw [sumW, wN, List.length_cons, Nat.add_mul]
    omega
theorem ts_of {X : List Nd} {B : Nat} (h : ∀ n ∈ X, n.text.length ≤ B ∧ n.key.length ≤ B) (hB : B ≤ 1000000000) : TS X := fun i hi => by
  have := h (X.getD i (nd0 0)) (by rw [List.getD_eq_getElem?_getD, List.getElem?_eq_getElem hi]; exact List.getElem_mem hi)
  omega
theorem tb_of {X : List Nd} {B : Nat} (h : ∀ n ∈ X, n.text.length ≤ B ∧ n.key.length ≤ B) (hB : B ≤ 1073741824) : TB X := fun n hn => by
  have := h n hn
  omega
theorem own_monoX {w : World} {b0 b1 n size : Nat} {e : TypeId} {v : Value} {xs : List Value} (h : w.ownsRow b1 e size v n xs) (hb : b0 ≤ b1) : w.ownsRow b0 e size v n xs :=
  ⟨h.1, h.2.elim .inl fun ⟨g, cap, cur, e, hg, r⟩ => .inr ⟨g, cap, cur, e, Nat.le_trans hb hg, r⟩⟩
/-- A value whose first node is of no kind is none. -/
theorem shaped_77 {X : List Nd} {x : Nd} (hx : x.kind = 77) (h0 : 0 < X.length) : shapedF (X.set 0 x) = false := by
  cases hs : shapedF (X.set 0 x) with
  | false => rfl
  | true =>
    have h := shaped_sq hs
    obtain ⟨d, n, ks, r, pre, post, hd, hvv, hp, hw2, _⟩ := h.at 0 (by simpa using h0)
    have hpre : pre = [] := List.eq_nil_of_length_eq_zero hp
    rw [hpre] at hvv
    cases X with
    | nil => simp at h0
    | cons y Y =>
      simp at hvv
      rw [← hvv.1] at hw2
      unfold wmF at hw2
      rw [hx] at hw2
      simp at hw2

/-- What stands while the list is written over. -/
structure WQ (w : World) (g c n N : Nat) (wx : World) : Prop where
  bel : Below w.heap.size w wx
  k : ∃ X : List Nd, (X.length = n ∧ ∀ x ∈ X, x.text.length ≤ N ∧ x.key.length ≤ N) ∧ NO w.heap.size wx (.slice (some ⟨g, 0, none⟩) (n + 2) c) (X ++ [m91, m92])
theorem WQ.mono {w : World} {g c n N M : Nat} {wx : World} (h : WQ w g c n N wx) (hM : N ≤ M) : WQ w g c n M wx :=
  ⟨h.bel, h.k.elim fun X hX => ⟨X, ⟨hX.1.1, fun x hx => by have := hX.1.2 x hx; omega⟩, hX.2⟩⟩
theorem WQ.node {w : World} {g c n N : Nat} {wx : World} (h : WQ w g c n N wx) (hg : w.heap.size ≤ g) {i : Nat} (hi : i < n) : ∃ x : Nd, (x.text.length ≤ N ∧ x.key.length ≤ N) ∧
    (∀ j v, (nC x)[j]? = some v → wx.cell? ⟨g, i * 6 + j, none⟩ = some v ∧ wx.frozen? ⟨g, i * 6 + j, none⟩ = false) ∧
    ∀ j v (y : Nd) (M : Nat), j < 6 → (nC x).set j v = nC y → N ≤ M → y.text.length ≤ M → y.key.length ≤ M → WQ w g c n M (wx.setCell ⟨g, i * 6 + j, none⟩ v) := by
  obtain ⟨X, ⟨hX, hXl⟩, hO⟩ := h.k
  have hlen : (X ++ [m91, m92]).length = n + 2 := by simp [hX]
  have hg2 : (X ++ [m91, m92]).getD i (nd0 0) = X.getD i (nd0 0) := by
    rw [List.getD_eq_getElem?_getD, List.getD_eq_getElem?_getD, List.getElem?_append_left (by omega)]
  have hm : X.getD i (nd0 0) ∈ X := by rw [List.getD_eq_getElem?_getD, List.getElem?_eq_getElem (by omega)]; exact List.getElem_mem _
  refine ⟨X.getD i (nd0 0), hXl _ hm, fun j v hj => no_at hO hlen i j v (by omega) (by rw [hg2]; exact hj), fun j v y M hj hy hM h1 h2 => ?_⟩
  have hs := no_cell hO hlen i j v y (by omega) hj (by rw [hg2]; exact hy)
  rw [List.set_append_left _ _ (by omega)] at hs
  refine ⟨h.bel.setCell hg _, X.set i y, ⟨by rw [List.length_set]; exact hX, fun x hx => ?_⟩, hs.1⟩
  rcases List.mem_or_eq_of_mem_set hx with hx | rfl
  · have := hXl x hx; omega
  · exact ⟨h1, h2⟩

set_option maxRecDepth 100000 in
set_option maxHeartbeats 32000000 in
/-- The law. -/
theorem writes_any (l : List Nd) (va : Option Addr) (vc : Nat) (w : World) (h : NR w (.slice va l.length vc) l va vc) (hvn : va = none → vc = 0) (hG : GL w.heap.size w) (hl : l.length ≤ 1048576) (hb : ∀ n ∈ l, n.text.length ≤ 1048576 ∧ n.key.length ≤ 1048576) :
    Calls Tryd.prog 3 #[.slice va l.length vc] w fun e w' => e = .returned (.bool true) ∧ Below w.heap.size w w' := by
  have CB := beyond_any _ l va vc w h (by omega)
  have HGq : Hid (∀ wq, Below w.heap.size w wq → GL wq.heap.size wq) := fun wq hq => (hG.below hq).up hq.size
  have HN : Hid (∀ wq, Below w.heap.size w wq → NR wq (.slice va l.length vc) l va vc) := fun wq hq => h.below hq (Nat.le_refl _)
  have HCL : Hid (∀ wq, Below w.heap.size w wq → Calls Tryd.prog 5 #[.slice va l.length vc] wq fun e w' => (∃ g c, e = .returned (.slice (some ⟨g, 0, none⟩) l.length c) ∧ NO wq.heap.size w' (.slice (some ⟨g, 0, none⟩) (l.length + 2) c) (l ++ [m91, m92])) ∧ Below wq.heap.size wq w') := fun wq hq => lent_any l va vc wq (HN.out wq hq) hvn (by omega)
  -- what the program and the document say of any list with such texts
  have HSh : Hid (∀ (X : List Nd) (ao : Option Addr) (cap : Nat) wq, Below w.heap.size w wq → X.length = l.length → (∀ n ∈ X, n.text.length ≤ 3000000 ∧ n.key.length ≤ 3000000) → NR wq (.slice ao X.length cap) X ao cap → Calls Tryd.prog 6 #[.slice ao l.length cap] wq fun e w' => e = .returned (.bool (shapedF X)) ∧ Below wq.heap.size wq w') := fun X ao cap wq hq hXl hX hn => by
    rw [← hXl]
    exact shaped_any _ X ao cap wq hn (HGq.out wq hq) (tb_of hX (by omega)) (by omega)
  have HPr : Hid (∀ (X : List Nd) (ao : Option Addr) (cap : Nat) wq, Below w.heap.size w wq → X.length = l.length → (∀ n ∈ X, n.text.length ≤ 3000000 ∧ n.key.length ≤ 3000000) → NR wq (.slice ao X.length cap) X ao cap → Calls Tryd.prog 7 #[.slice ao l.length cap] wq fun e w' => e = .returned (.tuple #[.string ⟨(printF X).1.toArray⟩, .int .i64 ((printF X).2 : Int)]) ∧ Below wq.heap.size wq w') := fun X ao cap wq hq hXl hX hn => by
    rw [← hXl]
    exact print_any _ X ao cap wq hn (HGq.out wq hq) (tb_of hX (by omega)) (by omega)
  have HRP : Hid (∀ (X : List Nd) (ao : Option Addr) (cap : Nat) wq, X.length = l.length → (∀ n ∈ X, n.text.length ≤ 3000000 ∧ n.key.length ≤ 3000000) → NR wq (.slice ao X.length cap) X ao cap → Calls Tryd.prog 8 #[.slice ao l.length cap] wq fun e w' => e = .returned (.tuple #[.string ⟨(printF X).1.toArray⟩, .int .i64 ((printF X).2 : Int)]) ∧ Below wq.heap.size wq w') := fun X ao cap wq hXl hX hn => by
    rw [← hXl]
    refine rprint_any X ao cap wq hn (by omega) (ts_of hX (by omega)) ?_
    have h1 := sumW_le hX
    rw [hXl] at h1
    have h2 : l.length * (12 * 3000000 + 12) ≤ 1048576 * (12 * 3000000 + 12) := Nat.mul_le_mul_right _ hl
    omega
  have HRS : Hid (∀ (X : List Nd) (ao : Option Addr) (cap : Nat) wq, X.length = l.length → (∀ n ∈ X, n.text.length ≤ 3000000 ∧ n.key.length ≤ 3000000) → NR wq (.slice ao X.length cap) X ao cap → Calls Tryd.prog 10 #[.slice ao l.length cap] wq fun e w' => e = .returned (.bool (shapedF X)) ∧ Below wq.heap.size wq w') := fun X ao cap wq hXl hX hn => by
    rw [← hXl]
    exact rshaped_any X ao cap wq hn (by omega) (ts_of hX (by omega))
  have HSt : Hid (∀ (X : List Nd) (ao : Option Addr) (cap g c B : Nat) wq, X.length = l.length → NR wq (.slice ao X.length cap) X ao cap → NO B wq (.slice (some ⟨g, 0, none⟩) (l.length + 2) c) (X ++ [m91, m92]) → Calls Tryd.prog 9 #[.slice (some ⟨g, 0, none⟩) l.length c, .slice ao l.length cap] wq fun e w' => e = .returned (.bool true) ∧ ∃ q, w' = wq.drewN q) := fun X ao cap g c B wq hXl hn hk => by
    rw [← hXl] at hk ⊢
    exact still_any X ao cap g c B wq hn hk (by omega)
  have HTw : Hid (∀ (X : List Nd) (g c : Nat) wq, X.length = l.length → NR wq (.slice (some ⟨g, 0, none⟩) X.length c) X (some ⟨g, 0, none⟩) c → Calls Tryd.prog 11 #[.slice (some ⟨g, 0, none⟩) l.length c] wq fun e w' => Below wq.heap.size wq w' ∧ ∃ v', e = .returned v' ∧ NO wq.heap.size w' v' X) := fun X g c wq hXl hn => by
    rw [← hXl]
    exact twin_any _ X _ c wq hn (by omega) (fun h => by cases h)
  have HB0 : Hid (∀ n ∈ l, n.text.length ≤ 3000000 ∧ n.key.length ≤ 3000000) := fun n hn => by have := hb n hn; omega
  have HB1 : Hid (∀ n ∈ l, n.text.length ≤ 1048576 ∧ n.key.length ≤ 1048576) := hb
  clear h hvn hG hb
  go_enter Tryd.func3, Tryd.ntmps3
  go_wp2_with fail
  refine CB.mono ?_
  clear CB
  rintro e w1 ⟨hb1, b, rfl⟩
  have HW1 : Hid (Below w.heap.size w w1) := hb1
  cases b with
  | true =>
    clear hb1 HGq HN HCL HSh HPr HRP HRS HSt HTw
    go_wp2
    go_ret
    exact ⟨rfl, HW1.out⟩
  | false =>
    have CL := HCL.out w1 hb1
    clear hb1 HCL
    go_wp2_with fail
    refine CL.mono ?_
    clear CL
    rintro e w2 ⟨⟨g, c, rfl, hk2⟩, hb2⟩
    have HBq : Hid (∀ wx, Below w2.heap.size w2 wx → Below w.heap.size w wx) := fun wx hx => by
      have h3 := HW1.out.trans (hb2.mono HW1.out.size)
      exact h3.trans (hx.mono h3.size)
    have HK : Hid (∀ wx, Below w2.heap.size w2 wx → NO w.heap.size wx (.slice (some ⟨g, 0, none⟩) (l.length + 2) c) (l ++ [m91, m92])) := fun wx hx => own_below (own_monoX hk2 HW1.out.size) hx (Nat.le_refl _)
    have HLg : Hid (w.heap.size ≤ g) := Nat.le_trans HW1.out.size (hk2.lt g rfl).1
    have HKR : Hid (∀ wx, Below w2.heap.size w2 wx → NR wx (.slice (some ⟨g, 0, none⟩) l.length c) l (some ⟨g, 0, none⟩) c) := fun wx hx => no_pre (HK.out wx hx)
    have C := HSh.out l _ c w2 (HBq.out w2 (Below.refl _ _)) rfl HB0.out (HKR.out w2 (Below.refl _ _))
    generalize hsf : shapedF l = sl at *
    have HSF : Hid (shapedF l = sl) := hsf
    clear hk2 hb2 hsf HW1
    go_wp2_with fail
    refine C.mono ?_
    clear C
    rintro e w3 ⟨rfl, hx⟩
    have B3 : Hid (Below w2.heap.size w2 w3) := hx
    clear hx
    have C := HPr.out l _ c w3 (HBq.out w3 B3.out) rfl HB0.out (HKR.out w3 B3.out)
    obtain ⟨⟨px, pe⟩, hpf⟩ : ∃ p, printF l = p := ⟨_, rfl⟩
    rw [hpf] at C
    dsimp only at C
    have HPF : Hid (printF l = (px, pe)) := hpf
    clear hpf
    go_wp2_with fail
    refine C.mono ?_
    clear C
    rintro e w4 ⟨rfl, hx⟩
    have B4 : Hid (Below w2.heap.size w2 w4) := B3.out.trans (hx.mono B3.out.size)
    clear hx B3
    have C := HRP.out l _ vc w4 rfl HB0.out (HN.out w4 (HBq.out w4 B4.out))
    rw [HPF.out] at C
    dsimp only at C
    go_wp2_with fail
    refine C.mono ?_
    clear C
    rintro e w5 ⟨rfl, hx⟩
    have B5 : Hid (Below w2.heap.size w2 w5) := B4.out.trans (hx.mono B4.out.size)
    clear hx B4
    have C := HSt.out l _ vc g c _ w5 rfl (HN.out w5 (HBq.out w5 B5.out)) (HK.out w5 B5.out)
    go_wp2_with fail
    refine C.mono ?_
    clear C
    rintro e w6 ⟨rfl, q, rfl⟩
    have B6 : Hid (Below w2.heap.size w2 (w5.drewN q)) := below_drewN B5.out q
    have C := HRS.out l _ vc (w5.drewN q) rfl HB0.out (HN.out _ (HBq.out _ B6.out))
    rw [HSF.out] at C
    clear B5
    go_wp2_with fail
    refine C.mono ?_
    clear C
    rintro e w7 ⟨rfl, hx⟩
    have B7 : Hid (Below w2.heap.size w2 w7) := B6.out.trans (hx.mono B6.out.size)
    clear hx B6
    have qb : (sl != sl) = false := by simp
    have qb1 : (sl == sl) = true := by simp
    have qp : (px != px) = false := by simp
    have qp1 : (px == px) = true := by simp
    have qe : ((pe : Int) != (pe : Int)) = false := by simp
    have qe1 : ((pe : Int) == (pe : Int)) = true := by simp
    have HWS : Hid (WQ w g c l.length (1048576 + 0) w7) := ⟨HBq.out w7 B7.out, l, ⟨rfl, fun x hx => HB1.out x hx⟩, HK.out w7 B7.out⟩
    clear HK HKR HBq B7 HB0 HB1 HSF HPF HN
    go_wp2
    clear qb qb1 qp qp1 qe qe1
    go_loopw [10] (fun s wx => ∃ i : Nat, s = .int .i64 i ∧ i ≤ l.length ∧ WQ w g c l.length (1048576 + i) wx) (fun s _ => l.length - (intOf s).toNat)
    case atStart => exact ⟨0, rfl, Nat.zero_le _, HWS.out⟩
    case round =>
      obtain ⟨i, rfl, hi, hws⟩ := hrel
      clear HWS
      have HGi : Hid (WQ w g c l.length (1048576 + i) wr) := hws
      clear hws
      by_cases hlt : i < l.length
      · have q0 : decide ((i : Int) < (l.length : Int)) = true := decide_eq_true (by omega)
        have q1 : (i : Int) < (l.length : Int) := by omega
        obtain ⟨⟨kda, kya, txa, wha, ita, kka⟩, hxa, hca, hwa⟩ := HGi.out.node HLg.out hlt
        have c0 : wr.cell? ⟨g, i * 6, none⟩ = some (.int .i64 kda) := (hca 0 _ rfl).1
        have f0 : wr.frozen? ⟨g, i * 6, none⟩ = false := (hca 0 _ rfl).2
        have c2 := (hca 2 _ rfl).1
        have f2 := (hca 2 _ rfl).2
        dsimp only at hxa
        clear HSh HPr HRP HRS HSt HTw HGq
        by_cases h3 : kda = 3
        · subst h3
          have hn : WQ w g c l.length (1048576 + (i + 1)) (wr.setCell ⟨g, i * 6, none⟩ (.int .i64 1)) := hwa 0 (.int .i64 1) ⟨1, kya, txa, wha, ita, kka⟩ (1048576 + (i + 1)) (by decide) rfl (by omega) (by show txa.length ≤ _; omega) (by show kya.length ≤ _; omega)
          obtain ⟨wa, ea⟩ : ∃ x, wr.setCell ⟨g, i * 6, none⟩ (.int .i64 1) = x := ⟨_, rfl⟩
          rw [ea] at hn
          have HGm : Hid (WQ w g c l.length (1048576 + (i + 1)) wa) := hn
          clear hn hxa hca hwa HGi c2 f2
          go_wp2
          go_roundw
          case rel => exact ⟨i + 1, by go_num, by omega, HGm.out⟩
          case measure => simp [intOf]; omega
        have r3 : (kda == 3) = false := by simpa using h3
        by_cases h1 : kda = 1
        · subst h1
          have hn : WQ w g c l.length (1048576 + (i + 1)) (wr.setCell ⟨g, i * 6, none⟩ (.int .i64 2)) := hwa 0 (.int .i64 2) ⟨2, kya, txa, wha, ita, kka⟩ (1048576 + (i + 1)) (by decide) rfl (by omega) (by show txa.length ≤ _; omega) (by show kya.length ≤ _; omega)
          obtain ⟨wa, ea⟩ : ∃ x, wr.setCell ⟨g, i * 6, none⟩ (.int .i64 2) = x := ⟨_, rfl⟩
          rw [ea] at hn
          have HGm : Hid (WQ w g c l.length (1048576 + (i + 1)) wa) := hn
          clear hn hxa hca hwa HGi c2 f2 h3
          go_wp2
          go_roundw
          case rel => exact ⟨i + 1, by go_num, by omega, HGm.out⟩
          case measure => simp [intOf]; omega
        have r1 : (kda == 1) = false := by simpa using h1
        by_cases h5 : kda = 5
        · subst h5
          have s1 : 1 + txa.length ≤ 9223372036854775807 := by omega
          have s2 : ¬ (9223372036854775807 < 1 + txa.length) := by omega
          have hn : WQ w g c l.length (1048576 + (i + 1)) (wr.setCell ⟨g, i * 6 + 2, none⟩ (.string ⟨(113 :: txa).toArray⟩)) := hwa 2 (.string ⟨(113 :: txa).toArray⟩) ⟨5, kya, 113 :: txa, wha, ita, kka⟩ (1048576 + (i + 1)) (by decide) rfl (by omega) (by show (113 :: txa).length ≤ _; rw [List.length_cons]; omega) (by show kya.length ≤ _; omega)
          have HQ : (⟨#[113]⟩ : ByteArray) ++ ⟨txa.toArray⟩ = ⟨(113 :: txa).toArray⟩ := by
            show (⟨([113] : List UInt8).toArray⟩ : ByteArray) ++ ⟨txa.toArray⟩ = _
            rw [sapp3]; rfl
          rw [← HQ] at hn
          obtain ⟨wa, ea⟩ : ∃ x, wr.setCell ⟨g, i * 6 + 2, none⟩ (.string (⟨#[113]⟩ ++ ⟨txa.toArray⟩)) = x := ⟨_, rfl⟩
          rw [ea] at hn
          have HGm : Hid (WQ w g c l.length (1048576 + (i + 1)) wa) := hn
          clear hn hxa hca hwa HGi f0 h3 h1 HQ
          go_wp2
          go_roundw
          case rel => exact ⟨i + 1, by go_num, by omega, HGm.out⟩
          case measure => simp [intOf]; omega
        have r5 : (kda == 5) = false := by simpa using h5
        have HGm : Hid (WQ w g c l.length (1048576 + (i + 1)) wr) := HGi.out.mono (by omega)
        clear hxa hca hwa HGi f0 h3 h1 h5 c2 f2
        go_wp2
        go_roundw
        case rel => exact ⟨i + 1, by go_num, by omega, HGm.out⟩
        case measure => simp [intOf]; omega
      · have q0 : decide ((i : Int) < (l.length : Int)) = false := decide_eq_false (by omega)
        obtain ⟨X, ⟨hXl, hX0⟩, hk⟩ := HGi.out.k
        have HBz : Hid (Below w.heap.size w wr) := HGi.out.bel
        have HX : Hid (∀ n ∈ X, n.text.length ≤ 3000000 ∧ n.key.length ≤ 3000000) := fun n hn => by have := hX0 n hn; omega
        have HXl : Hid (X.length = l.length) := hXl
        have HK : Hid (∀ wx, Below wr.heap.size wr wx → NO w.heap.size wx (.slice (some ⟨g, 0, none⟩) (l.length + 2) c) (X ++ [m91, m92])) := fun wx hx => own_below hk hx (Nat.le_refl _)
        have HKR : Hid (∀ wx, Below wr.heap.size wr wx → NR wx (.slice (some ⟨g, 0, none⟩) X.length c) X (some ⟨g, 0, none⟩) c) := fun wx hx => no_pre (HK.out wx hx)
        have HBq : Hid (∀ wx, Below wr.heap.size wr wx → Below w.heap.size w wx) := fun wx hx => HBz.out.trans (hx.mono HBz.out.size)
        have C := HTw.out X g c wr hXl (HKR.out wr (Below.refl _ _))
        clear hk hX0 HGi hXl HTw
        go_wp2_with fail
        refine C.mono ?_
        clear C
        rintro e w8 ⟨hx, v8, rfl, ho8⟩
        obtain ⟨a8, c8, hr8⟩ := NO.nr ho8
        obtain ⟨e8, _, _⟩ := id hr8
        rw [HXl.out] at e8
        subst e8
        have HR8 : Hid (∀ wx, Below w8.heap.size w8 wx → NR wx (.slice a8 X.length c8) X a8 c8) := fun wx hx => by
          have h9 := hr8.below hx (Nat.le_refl _)
          obtain ⟨_, h10, h11⟩ := h9
          exact ⟨rfl, h10, h11⟩
        have B8 : Hid (Below wr.heap.size wr w8) := hx
        have HB8 : Hid (∀ wx, Below w8.heap.size w8 wx → Below wr.heap.size wr wx) := fun wx hy => B8.out.trans (hy.mono B8.out.size)
        have C := HPr.out X _ c w8 (HBq.out w8 hx) HXl.out HX.out (HKR.out w8 hx)
        obtain ⟨⟨px, pe⟩, hpf⟩ : ∃ p, printF X = p := ⟨_, rfl⟩
        rw [hpf] at C
        dsimp only at C
        have HPF : Hid (printF X = (px, pe)) := hpf
        clear hpf hx ho8 hr8
        go_wp2_with fail
        refine C.mono ?_
        clear C
        rintro e w9 ⟨rfl, hx⟩
        have B9 : Hid (Below w8.heap.size w8 w9) := hx
        clear hx
        have C := HRP.out X a8 c8 w9 HXl.out HX.out (HR8.out w9 B9.out)
        rw [HPF.out] at C
        dsimp only at C
        go_wp2_with fail
        refine C.mono ?_
        clear C
        rintro e w10 ⟨rfl, hx⟩
        have B10 : Hid (Below w8.heap.size w8 w10) := B9.out.trans (hx.mono B9.out.size)
        clear hx B9
        have C := HSh.out X _ c w10 (HBq.out w10 (HB8.out w10 B10.out)) HXl.out HX.out (HKR.out w10 (HB8.out w10 B10.out))
        obtain ⟨sl2, hsf2⟩ : ∃ s, shapedF X = s := ⟨_, rfl⟩
        rw [hsf2] at C
        have HSF2 : Hid (shapedF X = sl2) := hsf2
        clear hsf2
        go_wp2_with fail
        refine C.mono ?_
        clear C
        rintro e w11 ⟨rfl, hx⟩
        have B11 : Hid (Below w8.heap.size w8 w11) := B10.out.trans (hx.mono B10.out.size)
        clear hx B10
        have C := HSt.out X a8 c8 g c _ w11 HXl.out (HR8.out w11 B11.out) (HK.out w11 (HB8.out w11 B11.out))
        go_wp2_with fail
        refine C.mono ?_
        clear C
        rintro e w12 ⟨rfl, q2, rfl⟩
        have B12 : Hid (Below w8.heap.size w8 (w11.drewN q2)) := below_drewN B11.out q2
        have C := HRS.out X a8 c8 (w11.drewN q2) HXl.out HX.out (HR8.out _ B12.out)
        rw [HSF2.out] at C
        have HC2 : Hid (∀ wx, Below w8.heap.size w8 wx → Calls Tryd.prog 10 #[.slice a8 l.length c8] wx fun e w' => e = .returned (.bool sl2) ∧ Below wx.heap.size wx w') := fun wx hx => by
          have := HRS.out X a8 c8 wx HXl.out HX.out (HR8.out wx hx)
          rwa [HSF2.out] at this
        clear B11
        go_wp2_with fail
        refine C.mono ?_
        clear C
        rintro e w13 ⟨rfl, hx⟩
        have B13 : Hid (Below w8.heap.size w8 w13) := B12.out.trans (hx.mono B12.out.size)
        clear hx B12
        have qb : (sl2 != sl2) = false := by simp
        have qb1 : (sl2 == sl2) = true := by simp
        have qp : (px != px) = false := by simp
        have qp1 : (px == px) = true := by simp
        have qe : ((pe : Int) != (pe : Int)) = false := by simp
        have qe1 : ((pe : Int) == (pe : Int)) = true := by simp
        by_cases h0 : l.length = 0
        · have qz : ((l.length : Int) == 0) = true := beq_iff_eq.2 (by omega)
          have C := HC2.out w13 B13.out
          clear HC2 h0 HSh HPr HRP HRS HSt HGq
          go_wp2_with fail
          refine C.mono ?_
          clear C
          rintro e w14 ⟨rfl, hx⟩
          have HBy : Hid (Below w.heap.size w w14) := HBq.out w14 (HB8.out w14 (B13.out.trans (hx.mono B13.out.size)))
          clear hx
          go_wp2
          go_ret
          exact ⟨rfl, HBy.out⟩
        · have qz : ((l.length : Int) == 0) = false := beq_eq_false_iff_ne.2 (by omega)
          have hl0 : (0 : Int) < (l.length : Int) := by omega
          have hk13 := HK.out w13 (HB8.out w13 B13.out)
          have hlen : (X ++ [m91, m92]).length = l.length + 2 := by simp [HXl.out]
          have hX0 : 0 < X.length := by have := HXl.out; omega
          obtain ⟨⟨kda, kya, txa, wha, ita, kka⟩, hxe⟩ : ∃ x, X.getD 0 (nd0 0) = x := ⟨_, rfl⟩
          have hg2 : (X ++ [m91, m92]).getD 0 (nd0 0) = ⟨kda, kya, txa, wha, ita, kka⟩ := by
            rw [← hxe, List.getD_eq_getElem?_getD, List.getD_eq_getElem?_getD, List.getElem?_append_left hX0]
          have hat := no_at hk13 hlen 0 0 (.int .i64 kda) (by omega) (by rw [hg2]; rfl)
          have hst := no_cell hk13 hlen 0 0 (.int .i64 77) ⟨77, kya, txa, wha, ita, kka⟩ (by omega) (by decide) (by rw [hg2]; rfl)
          rw [List.set_append_left _ _ hX0] at hst
          rw [show 0 * 6 + 0 = 0 from rfl] at hat hst
          have c0 := hat.1
          have f0 := hat.2
          obtain ⟨wz, ez⟩ : ∃ x, w13.setCell ⟨g, 0, none⟩ (.int .i64 77) = x := ⟨_, rfl⟩
          rw [ez] at hst
          have hbz : Below w.heap.size w wz := by rw [← ez]; exact (HBq.out w13 (HB8.out w13 B13.out)).setCell HLg.out _
          have hmx : X.getD 0 (nd0 0) ∈ X := by rw [List.getD_eq_getElem?_getD, List.getElem?_eq_getElem hX0]; exact List.getElem_mem _
          have hm := HX.out _ hmx
          rw [hxe] at hm
          have C := HSh.out (X.set 0 ⟨77, kya, txa, wha, ita, kka⟩) (some ⟨g, 0, none⟩) c wz hbz (by rw [List.length_set]; exact HXl.out) (fun n hn => by
            rcases List.mem_or_eq_of_mem_set hn with hn | rfl
            · exact HX.out n hn
            · exact hm) (no_pre hst.1)
          rw [shaped_77 (x := ⟨77, kya, txa, wha, ita, kka⟩) rfl hX0] at C
          have HBy : Hid (Below w.heap.size w wz) := hbz
          clear hk13 hlen hX0 hxe hg2 hat hst hbz hmx hm HC2 h0 HSh HPr HRP HRS HSt HGq HK HKR HR8 HX HXl
          go_wp2_with fail
          refine C.mono ?_
          clear C
          rintro e w14 ⟨rfl, hx⟩
          have HBw : Hid (Below w.heap.size w w14) := HBy.out.trans (hx.mono HBy.out.size)
          clear hx
          go_wp2
          go_ret
          exact ⟨rfl, HBw.out⟩

end Go.Proofs.YtmagjhidgembnaaDoor

namespace Go.Proofs.YtmagjhidgembnaaDoor
open Go.RowKit Go.Shelf

theorem writes_top (v : Value) (l : List Nd) (a : Option Addr) (cap N : Nat) (W : World) (h : NR W v l a cap) (hn : a = none → cap = 0) (hl : l.length ≤ N) (hb : ∀ x ∈ l, x.text.length ≤ N ∧ x.key.length ≤ N) (hN : N ≤ 1048576) (hG : GL W.heap.size W) :
    Calls Tryd.prog 3 #[v] W fun e W' => e = .returned (.bool true) ∧ Below W.heap.size W W' := by
  obtain ⟨rfl, _, _⟩ := id h
  exact writes_any l a cap W h hn hG (by omega) (fun n hx => by have := hb n hx; omega)

end Go.Proofs.YtmagjhidgembnaaDoor
