import Derived.Test.YtgkbbcoagnilgaaTwM
import Derived.Test.YtgkbbcoagnilgaaRefRd
import Derived.Test.YtgkbbcoagnilgaaSpread
namespace Go.Proofs.Ytgkbbcoagnilgaa
open Go.RowKit

/-- A digit as the model's int. -/
def DI (d : Nat) : Value := .int .i64 (d : Int)

theorem len_bd {l : List Nat} {V : Nat} (h : Dg l V) (hV : V < 10 ^ 200) : l.length ≤ 200 := by
  by_cases h0 : l = []
  · rw [h0]; simp
  · apply Nat.le_of_not_lt
    intro hlt
    have h1 := h.top h0
    have h2 : 10 ^ 200 ≤ 10 ^ (l.length - 1) := Nat.pow_le_pow_right (by decide) (by omega)
    omega

/-- The document's number that has nothing yet. -/
abbrev RZ : Obj := .cells #[.bool false, .slice none 0 0, .int .i64 0, .bool false, .slice none 0 0, .bool false, .string ⟨#[]⟩] 35

theorem rz_box (w : World) : RBox (w.alloc RZ) w.heap.size false (.slice none 0 0) 0 false (.slice none 0 0) false [] := by
  constructor <;> first | (go_simp; done) | (simp; done)

theorem Tk.len {l : List Nat} {F F0 : Nat} (h : Tk l F F0) (hF : F0 < 10 ^ 200) : l.length ≤ 200 := by
  by_cases h0 : l = []
  · rw [h0]; simp
  · apply Nat.le_of_not_lt
    intro hlt
    have h1 := h.top h0
    have h2 : 10 ^ 200 ≤ 10 ^ (l.length - 1) := Nat.pow_le_pow_right (by decide) (by omega)
    omega

/-- The digits as signs, the highest first. -/
def zz (l : List Nat) : List UInt8 := l.reverse.map fun d => UInt8.ofNat (48 + d)

theorem zz_len (l : List Nat) : (zz l).length = l.length := by unfold zz; simp

theorem zz_get (l : List Nat) (p : Nat) (d : Nat) (hp : p < l.length) (hd : l[p] = d) : (zz l)[l.length - 1 - p]? = some (UInt8.ofNat (48 + d)) := by
  unfold zz
  rw [List.getElem?_map, List.getElem?_reverse (by omega), show l.length - 1 - (l.length - 1 - p) = p by omega, List.getElem?_eq_getElem hp, hd]
  rfl

theorem dv_of (d : Nat) (h : d < 10) : DV (UInt8.ofNat (48 + d)) = .int .i64 (d : Int) := by
  have ht : (UInt8.ofNat (48 + d)).toNat = 48 + d := by
    rw [UInt8.toNat_ofNat']
    exact Nat.mod_eq_of_lt (by omega)
  show Value.int .i64 (((UInt8.ofNat (48 + d)).toNat : Int) - 48) = _
  rw [ht]
  congr 1
  omega

theorem zz_dig (l : List Nat) (h : ∀ d ∈ l, d < 10) : ∀ c ∈ zz l, isD c = true := by
  intro c hc
  unfold zz at hc
  obtain ⟨d, hd, rfl⟩ := List.mem_map.1 hc
  have h10 := h d (by simpa using hd)
  have ht : (UInt8.ofNat (48 + d)).toNat = 48 + d := by
    rw [UInt8.toNat_ofNat']
    exact Nat.mod_eq_of_lt (by omega)
  unfold isD
  rw [ht]
  simp
  omega

theorem rn_box (w : World) (o : Int) : RBox (w.alloc (.cells #[.bool false, .slice none 0 0, .int .i64 o, .bool false, .slice none 0 0, .bool false, .string ⟨#[]⟩] 35)) w.heap.size false (.slice none 0 0) o false (.slice none 0 0) false [] := by
  constructor <;> first | (go_simp; done) | (simp; done)

/-- What the document's Twice answers. -/
def TwA (F0 b T : Nat) (x : Int) (w : World) (e : Ending) (w' : World) : Prop := ∃ (l : List Nat) (a : Option Addr) (c : Nat), Dg l (F0 * b ^ T) ∧
  e = .returned (.agg #[.bool false, .slice a (tr (zz l)).length c, .int .i64 ((l.length : Int) + if x < 0 then x else 0), .bool false, .slice none 0 0, .bool false, .string ⟨#[]⟩]) ∧
  w'.ownsRow (w.heap.size + 1) 3 1 (.slice a (tr (zz l)).length c) (tr (zz l)).length ((tr (zz l)).map DV) ∧ Below w.heap.size w w'

set_option maxRecDepth 10000 in
set_option maxHeartbeats 4000000 in
theorem twice_neg (F0 : Nat) (x : Int) (T : Nat) (w : World) (hF0 : F0 ≤ 100000000) (hT1 : T ≤ 1000) (hx : x = -(T : Int)) (hx0 : x < 0) (hV : F0 * 5 ^ T < 10 ^ 200) :
    Calls Try.prog 9 #[.int .i64 (F0 : Int), .int .i64 x] w fun e w' => TwA F0 5 T x w e w' := by
  obtain ⟨i0, hi, hz0, hz1, hz2⟩ := info_parts Try.infoI
  have HV : Hid (F0 * 5 ^ T < 10 ^ 200) := hV
  have HF : Hid (F0 < 10 ^ 200) := by
    show _ < _
    have : 100000000 < 10 ^ 200 := by decide
    omega
  have Hx : Hid (x = -(T : Int)) := hx
  have hx1 : -1000 ≤ x := by omega
  have hx2 : x ≤ 1000 := by omega
  have hxn : -x = (T : Int) := by omega
  have hxw : IntKind.i64.wrap (-x) = (T : Int) := by rw [IntKind.wrap_i64]; omega
  clear hV hx
  go_enter Try.func9, Try.ntmps9
  go_wp2
  obtain ⟨W1, hW1⟩ : ∃ W1, W1 = w.alloc RZ := ⟨_, rfl⟩
  have hsz1 : w.heap.size + 1 ≤ W1.heap.size := by rw [hW1, World.size_alloc]; omega
  have HR1 : Hid (RBox W1 w.heap.size false (.slice none 0 0) 0 false (.slice none 0 0) false []) := by rw [hW1]; exact rz_box w
  have HB1 : Hid (Below w.heap.size w W1) := by rw [hW1]; exact (Below.refl _ w).alloc (Nat.le_refl _) _
  rw [show w.alloc (.cells #[.bool false, .slice none 0 0, .int .i64 0, .bool false, .slice none 0 0, .bool false, .string ⟨#[]⟩] 35) = W1 from hW1.symm]
  clear hW1
  go_loopw [0, 5] (fun s0 s5 wr => ∃ (F : Nat) (l : List Nat), Value.int .i64 (F : Int) = s0 ∧ F ≤ 100000000 ∧ Hid (Tk l F F0) ∧ Hid (wr.ownsRow (w.heap.size + 1) 3 1 s5 l.length (l.map DI)) ∧ Hid (RBox wr w.heap.size false (.slice none 0 0) 0 false (.slice none 0 0) false []) ∧ Hid (Below w.heap.size w wr) ∧ w.heap.size + 1 ≤ wr.heap.size) (fun s _ _ => (intOf s).toNat)
  case atStart => exact ⟨F0, [], rfl, hF0, Tk.start F0, World.ownsRow_nil _ _ _ _, HR1, HB1, hsz1⟩
  case round =>
    obtain ⟨F, l, hv0, hF, HTk, HO, HR, HB, hsz⟩ := hrel
    have hv0' := hv0.symm
    clear hv0
    subst hv0'
    have hll : l.length ≤ 200 := HTk.out.len HF.out
    by_cases hgo : 0 < F
    · obtain ⟨r, hr⟩ : ∃ r, r = F % 10 := ⟨_, rfl⟩
      obtain ⟨q, hq⟩ : ∃ q, q = F / 10 := ⟨_, rfl⟩
      have k1 : Int.tmod (F : Int) 10 = (r : Int) := by rw [Int.tmod_eq_emod_of_nonneg (by omega)]; omega
      have k2 : (F : Int) % 10 = (r : Int) := by omega
      have k3 : Int.tdiv (F : Int) 10 = (q : Int) := by rw [Int.tdiv_eq_ediv_of_nonneg (by omega)]; omega
      have k4 : (F : Int) / 10 = (q : Int) := by omega
      have HTk2 : Hid (Tk (l ++ [r]) q F0) := by rw [hr, hq]; exact HTk.out.step hgo
      have hqF : q < F := by omega
      clear hr hq
      go_wp2_with (
        at_builtin
        refine wpList_append_own_wide _ rfl (.tmp 15) (.tmp 18) 33 rfl (w.heap.size + 1) 3 i0 (.int .i64 0) 1 8 Try.underlying33 hi hz0 hz1 hz2 rfl (by decide) u5 l.length (l.map DI) rfl (HO.out.alloc _) ⟨wr.heap.size, 0, none⟩ 1 1 [.int .i64 (r : Int)] rfl rfl (by intro t u ht; match t, ht with | 0, ht => (simp at ht; subst ht; simp [Addr.add])) (by intro u hu; simp at hu; subst hu; rfl) (by unfold maxLen; omega) (by omega) (by simp; omega) ?_
        intro v1 w1 hown1 hgrow1 _)
      have HO2 : Hid (w1.ownsRow (w.heap.size + 1) 3 1 v1 (l ++ [r]).length ((l ++ [r]).map DI)) := by
        rw [List.length_append, List.length_singleton, List.map_append]
        exact hown1
      have HR2 : Hid (RBox w1 w.heap.size false (.slice none 0 0) 0 false (.slice none 0 0) false []) := (HR.out.alloc _).grown hgrow1 (row_ne HO.out (by omega))
      have HB2 : Hid (Below w.heap.size w w1) := (HB.out.alloc HB.out.size _).grown hgrow1 (by rw [World.size_alloc]; omega) (fun k hk => by have := (HO.out.lt k hk).1; omega)
      have hs2 : w.heap.size + 1 ≤ w1.heap.size := by have := hgrow1.size; rw [World.size_alloc] at this; omega
      exact ⟨⟨q, l ++ [r], rfl, by omega, HTk2, HO2, HR2, HB2, hs2⟩, by simp [intOf]; omega⟩
    · have hF00 : F = 0 := by omega
      have HD : Hid (Dg l F0) := by
        have h := HTk.out
        rw [hF00] at h
        exact h.done
      clear hF00 HTk
      go_wp2
      go_loopw [8, 5, 9, 10] (fun s8 s5 _ _ wq => ∃ (i : Nat) (l : List Nat), Value.int .i64 (i : Int) = s8 ∧ i ≤ T ∧ Hid (Dg l (F0 * 5 ^ i)) ∧ Hid (wq.ownsRow (w.heap.size + 1) 3 1 s5 l.length (l.map DI)) ∧ Hid (RBox wq w.heap.size false (.slice none 0 0) 0 false (.slice none 0 0) false []) ∧ Hid (Below w.heap.size w wq) ∧ w.heap.size + 1 ≤ wq.heap.size) (fun s _ _ _ _ => T - (intOf s).toNat)
      case atStart => exact ⟨0, l, rfl, Nat.zero_le _, by rw [Nat.pow_zero, Nat.mul_one]; exact HD, HO, HR, HB, hsz⟩
      case round =>
        obtain ⟨i, l2, hv8, hiT, HD2, HO2, HR2, HB2, hsz2⟩ := hrel
        have hv8' := hv8.symm
        clear hv8
        subst hv8'
        clear HD HO HR HB hsz
        by_cases hlt : i < T
        · have hVi : Hid (F0 * 5 ^ i < 10 ^ 200) := by
            show _ < _
            have : F0 * 5 ^ i ≤ F0 * 5 ^ T := Nat.mul_le_mul_left _ (Nat.pow_le_pow_right (by decide) (by omega))
            have := HV.out
            omega
          have hl200 : l2.length ≤ 200 := len_bd HD2.out hVi.out
          obtain ⟨ao, cap, hu5, hcap1, hcap2⟩ := owns_shape HO2.out
          subst hu5
          go_wp2
          go_loopw [10, 9] (fun s10 s9 wk => ∃ (k c : Nat) (l3 : List Nat), Value.int .i64 (k : Int) = s10 ∧ Value.int .i64 (c : Int) = s9 ∧ k ≤ l2.length ∧ c < 5 ∧ Hid (Ml l2 l3 5 k c) ∧ Hid (wk.ownsRow (w.heap.size + 1) 3 1 (.slice ao l2.length cap) l2.length (l3.map DI)) ∧ Hid (RBox wk w.heap.size false (.slice none 0 0) 0 false (.slice none 0 0) false []) ∧ Hid (Below w.heap.size w wk) ∧ w.heap.size + 1 ≤ wk.heap.size) (fun s _ _ => l2.length - (intOf s).toNat)
          case atStart => exact ⟨0, 0, l2, rfl, rfl, Nat.zero_le _, by decide, Ml.start l2 5 (by decide) HD2.out.dig, HO2, HR2, HB2, hsz2⟩
          case round =>
            obtain ⟨k, c, l3, hv10, hv9, hk, hc, HM, HO3, HR3, HB3, hsz3⟩ := hrel
            have hv10' := hv10.symm
            have hv9' := hv9.symm
            clear hv10 hv9
            subst hv10' hv9'
            have hl3 := HM.out.len
            have hl31 : l3.length ≤ l2.length := by omega
            have hl32 : l2.length ≤ l3.length := by omega
            clear hl3
            by_cases hkl : k < l2.length
            · obtain ⟨gb, hao, hgb1, hgb2, hcells⟩ := owns_some HO3.out (by omega)
              subst hao
              obtain ⟨d, hd⟩ : ∃ d, d = l3[k] := ⟨_, rfl⟩
              have hd10 : d < 10 := by rw [hd]; exact HM.out.dig _ (List.getElem_mem _)
              have gc : wr.cell? ⟨gb, k, none⟩ = some (.int .i64 (d : Int)) := hcells k _ (by rw [List.getElem?_map, List.getElem?_eq_getElem (by omega), hd]; rfl)
              have gf : wr.frozen? ⟨gb, k, none⟩ = false := HO3.out.frozenAt k
              obtain ⟨S, hS⟩ : ∃ S, S = c + d * 5 := ⟨_, rfl⟩
              have hSi : (c : Int) + (d : Int) * 5 = (S : Int) := by omega
              have hS100 : S ≤ 100 := by omega
              obtain ⟨r, hr⟩ : ∃ r, r = S % 10 := ⟨_, rfl⟩
              obtain ⟨q, hq⟩ : ∃ q, q = S / 10 := ⟨_, rfl⟩
              have k1 : Int.tmod (S : Int) 10 = (r : Int) := by rw [Int.tmod_eq_emod_of_nonneg (by omega)]; omega
              have k2 : (S : Int) % 10 = (r : Int) := by omega
              have k3 : Int.tdiv (S : Int) 10 = (q : Int) := by rw [Int.tdiv_eq_ediv_of_nonneg (by omega)]; omega
              have k4 : (S : Int) / 10 = (q : Int) := by omega
              have HM2 : Hid (Ml l2 (l3.set k r) 5 (k + 1) q) := by
                have h := HM.out.step (d := d) (by omega) hd (by decide)
                rw [← hS, ← hr, ← hq] at h
                exact h
              have hqB : q < 5 := HM2.out.car
              have HO4 : Hid ((wr.setCell ⟨gb, k, none⟩ (.int .i64 (r : Int))).ownsRow (w.heap.size + 1) 3 1 (.slice (some ⟨gb, 0, none⟩) l2.length cap) l2.length ((l3.set k r).map DI)) := by
                have h := (HO3.out.stored k (.int .i64 (r : Int))).1
                rw [List.map_set]
                exact h
              have HR4 : Hid (RBox (wr.setCell ⟨gb, k, none⟩ (.int .i64 (r : Int))) w.heap.size false (.slice none 0 0) 0 false (.slice none 0 0) false []) := HR3.out.setOther (by show w.heap.size ≠ gb; omega) _
              have HB4 : Hid (Below w.heap.size w (wr.setCell ⟨gb, k, none⟩ (.int .i64 (r : Int)))) := HB3.out.setCell (by show w.heap.size ≤ gb; omega) _
              have hsz4 : w.heap.size + 1 ≤ (wr.setCell ⟨gb, k, none⟩ (.int .i64 (r : Int))).heap.size := Nat.le_trans hsz3 (size_set _ _ _)
              clear hd hS hr hq hcells
              go_wp2
              go_roundw
              case rel => exact ⟨k + 1, q, l3.set k r, by go_num, rfl, by omega, hqB, HM2, HO4, HR4, HB4, hsz4⟩
              case measure => simp [intOf]; omega
            · have hkk : k = l3.length := by omega
              have HD3 : Hid (Dg (if 0 < c then l3 ++ [c] else l3) (F0 * 5 ^ (i + 1))) := by
                have h := HM.out
                rw [hkk] at h
                have h2 := h.done HD2.out (by decide) (by decide)
                rw [Nat.pow_succ, Nat.mul_comm (5 ^ i) 5, Nat.mul_left_comm]
                exact h2
              have HO3b : Hid (wr.ownsRow (w.heap.size + 1) 3 1 (.slice ao l2.length cap) l3.length (l3.map DI)) := by
                have e : l3.length = l2.length := by omega
                rw [e]; exact HO3
              clear hkk HM HD2 HO2 HR2 HB2 hsz2
              by_cases hc0 : 0 < c
              · have HD4 : Hid (Dg (l3 ++ [c]) (F0 * 5 ^ (i + 1))) := by
                  have h := HD3.out
                  rw [if_pos hc0] at h
                  exact h
                clear HD3
                go_wp2_with (
                  at_builtin
                  refine wpList_append_own_wide _ rfl (.tmp 55) (.tmp 57) 33 rfl (w.heap.size + 1) 3 i0 (.int .i64 0) 1 8 Try.underlying33 hi hz0 hz1 hz2 rfl (by decide) (.slice ao l2.length cap) l3.length (l3.map DI) rfl (HO3b.out.alloc _) ⟨wr.heap.size, 0, none⟩ 1 1 [.int .i64 (c : Int)] rfl rfl (by intro t u ht; match t, ht with | 0, ht => (simp at ht; subst ht; simp [Addr.add])) (by intro u hu; simp at hu; subst hu; rfl) (by unfold maxLen; omega) (by omega) (by simp; omega) ?_
                  intro v1 w1 hown1 hgrow1 _)
                have HO5 : Hid (w1.ownsRow (w.heap.size + 1) 3 1 v1 (l3 ++ [c]).length ((l3 ++ [c]).map DI)) := by
                  rw [List.length_append, List.length_singleton, List.map_append]
                  exact hown1
                have HR5 : Hid (RBox w1 w.heap.size false (.slice none 0 0) 0 false (.slice none 0 0) false []) := (HR3.out.alloc _).grown hgrow1 (row_ne HO3.out (by omega))
                have HB5 : Hid (Below w.heap.size w w1) := (HB3.out.alloc HB3.out.size _).grown hgrow1 (by rw [World.size_alloc]; omega) (fun k hk => by have := (HO3.out.lt k hk).1; omega)
                have hs5 : w.heap.size + 1 ≤ w1.heap.size := by have := hgrow1.size; rw [World.size_alloc] at this; omega
                refine ⟨⟨i + 1, l3 ++ [c], by go_num, by omega, HD4, HO5, HR5, HB5, hs5⟩, by simp [intOf]; omega⟩
              · have HD4 : Hid (Dg l3 (F0 * 5 ^ (i + 1))) := by
                  have h := HD3.out
                  rw [if_neg hc0] at h
                  exact h
                clear HD3
                go_wp2
                go_roundw
                case rel => exact ⟨i + 1, l3, by go_num, by omega, HD4, HO3b, HR3, HB3, hsz3⟩
                case measure => simp [intOf]; omega
        · have HDf : Hid (Dg l2 (F0 * 5 ^ T)) := by
            have e : i = T := by omega
            rw [← e]; exact HD2
          have hl200 : l2.length ≤ 200 := len_bd HDf.out HV.out
          obtain ⟨ao, cap, hu5, hcap1, hcap2⟩ := owns_shape HO2.out
          subst hu5
          clear HD2
          go_wp2
          obtain ⟨Wn, hWn⟩ : ∃ Wn, Wn = wr.alloc (.cells #[.bool false, .slice none 0 0, .int .i64 ((l2.length : Int) + x), .bool false, .slice none 0 0, .bool false, .string ⟨#[]⟩] 35) := ⟨_, rfl⟩
          obtain ⟨bN, hbN⟩ : ∃ bN, bN = wr.heap.size := ⟨_, rfl⟩
          obtain ⟨O, hO⟩ : ∃ O : Int, O = ((l2.length : Int) + x) := ⟨_, rfl⟩
          have HO6 : Hid (O = ((l2.length : Int) + x)) := hO
          have HN6 : Hid (RBox Wn bN false (.slice none 0 0) O false (.slice none 0 0) false []) := by rw [hWn, hbN, hO]; exact rn_box wr _
          have HR6 : Hid (RBox Wn w.heap.size false (.slice none 0 0) 0 false (.slice none 0 0) false []) := by rw [hWn]; exact HR2.out.alloc _
          have HB6 : Hid (Below w.heap.size w Wn) := by rw [hWn]; exact HB2.out.alloc HB2.out.size _
          have HL6 : Hid (Wn.ownsRow (w.heap.size + 1) 3 1 (.slice ao l2.length cap) l2.length (l2.map DI)) := by rw [hWn]; exact HO2.out.alloc _
          have Hlt6 : Hid (∀ k, (Value.slice ao l2.length cap).ownBlock = some k → k < bN) := fun k hk => by rw [hbN]; exact (HO2.out.lt k hk).2
          have hsz6 : bN + 1 ≤ Wn.heap.size := by rw [hWn, World.size_alloc, hbN]; omega
          have hbN1 : w.heap.size + 1 ≤ bN := by omega
          rw [show wr.alloc (.cells #[.bool false, .slice none 0 0, .int .i64 ((l2.length : Int) + x), .bool false, .slice none 0 0, .bool false, .string ⟨#[]⟩] 35) = Wn from hWn.symm, ← hbN]
          clear hWn hbN hO HR2 HB2 HO2 hsz2
          have HdA : Hid (∀ d ∈ l2, d < 10) := HDf.out.dig
          go_loopw [12] (fun s12 wq => ∃ (m cap2 : Nat) (ao2 : Option Addr), Value.int .i64 ((l2.length : Int) - 1 - m) = s12 ∧ m ≤ l2.length ∧ Hid (wq.ownsRow (w.heap.size + 1) 3 1 (.slice ao l2.length cap) l2.length (l2.map DI)) ∧ Hid (wq.ownsRow (bN + 1) 3 1 (.slice ao2 m cap2) m (((zz l2).take m).map DV)) ∧
              Hid (RBox wq w.heap.size false (.slice none 0 0) 0 false (.slice none 0 0) false []) ∧ Hid (RBox wq bN false (.slice ao2 m cap2) O false (.slice none 0 0) false []) ∧ Hid (Below w.heap.size w wq) ∧ bN + 1 ≤ wq.heap.size) (fun s _ => (intOf s + 1).toNat)
          case atStart => exact ⟨0, 0, none, by go_num, Nat.zero_le _, HL6, World.ownsRow_nil _ _ _ _, HR6, HN6, HB6, hsz6⟩
          case round =>
            obtain ⟨m, cap2, ao2, hv12, hm, HL, HDg, HR, HN, HB, hsz⟩ := hrel
            have hv12' := hv12.symm
            clear hv12
            subst hv12'
            have n1 := HN.out.c1
            have nf1 := HN.out.f1
            have hbNl : bN < wr.heap.size := HN.out.lt
            by_cases hgo2 : m < l2.length
            · obtain ⟨p, hp⟩ : ∃ p, p = l2.length - 1 - m := ⟨_, rfl⟩
              have hpi : (l2.length : Int) - 1 - m = (p : Int) := by omega
              have hpl : p < l2.length := by omega
              obtain ⟨gl, hao, hgl1, hgl2, hcells⟩ := owns_some HL.out (by omega)
              subst hao
              obtain ⟨d, hd⟩ : ∃ d, l2[p] = d := ⟨_, rfl⟩
              have hd10 : d < 10 := by rw [← hd]; exact HdA.out _ (List.getElem_mem _)
              have gc : wr.cell? ⟨gl, p, none⟩ = some (.int .i64 (d : Int)) := hcells p _ (by rw [List.getElem?_map, List.getElem?_eq_getElem (by omega), hd]; rfl)
              have Hzt : Hid (((zz l2).take (m + 1)).map DV = ((zz l2).take m).map DV ++ [.int .i64 (d : Int)]) := by
                show _ = _
                have hz := zz_get l2 p d hpl hd
                rw [show l2.length - 1 - p = m by omega] at hz
                rw [List.take_add_one, hz, List.map_append]
                congr 1
                show [DV (UInt8.ofNat (48 + d))] = _
                rw [dv_of d hd10]
              have hglN : gl ≠ bN := fun e => by have := Hlt6.out gl rfl; omega
              have hglb : gl < bN := Hlt6.out gl rfl
              clear hcells hd hp
              rw [hpi]
              have hpm1 : p + m + 1 ≤ l2.length := by omega
              have hpm2 : l2.length ≤ p + m + 1 := by omega
              clear hpi
              go_wp2_with fail
              go_region_law (
                refine step_append_own rfl (.tmp 77) (.tmp 82) 33 rfl (bN + 1) 3 i0 (.int .i64 0) 1 8 Try.underlying33 hi hz0 hz1 hz2 rfl (by decide) (.slice ao2 m cap2) m (((zz l2).take m).map DV) (by simp [Act.eval]) (HDg.out.alloc _) ⟨wr.heap.size, 0, none⟩ 1 1 [.int .i64 (d : Int)] (by simp [Act.eval]) rfl (by intro t u ht; match t, ht with | 0, ht => simp at ht; subst ht; simp [Addr.add]) (by intro u hu; simp at hu; subst hu; rfl) (by unfold maxLen; omega) (by omega) (by simp; omega) ?_
                intro v1 w1 hown1 hgrow1 _
                obtain ⟨ao1, cap1, rfl, hc1, hc2⟩ := owns_shape hown1
                have ra1 : Hid (RBox w1 w.heap.size false (.slice none 0 0) 0 false (.slice none 0 0) false []) := by
                  refine RBox.grown ?_ hgrow1 (row_ne HDg.out (by omega))
                  repeat' (first | with_reducible exact HR.out | with_reducible apply RBox.drew | with_reducible apply RBox.alloc)
                have rb1 : Hid (RBox w1 bN false (.slice ao2 m cap2) O false (.slice none 0 0) false []) := by
                  refine RBox.grown ?_ hgrow1 (row_ne HDg.out (by omega))
                  repeat' (first | with_reducible exact HN.out | with_reducible apply RBox.drew | with_reducible apply RBox.alloc)
                have ll1 : Hid (w1.ownsRow (w.heap.size + 1) 3 1 (.slice (some ⟨gl, 0, none⟩) l2.length cap) l2.length (l2.map DI)) := by
                  refine World.ownsRow.kept ?_ hgrow1 (.inr (fun e => ?_))
                  · first | exact HL.out.alloc _ | exact owns_drew (HL.out.alloc _) | exact World.ownsRow.alloc (owns_drew HL.out) _
                  · have := (HDg.out.lt gl e.symm).1
                    omega
                have bl1 : Hid (Below w.heap.size w w1) := by
                  refine Below.grown ?_ hgrow1 (by simp; omega) (fun k hk => by have := (HDg.out.lt k hk).1; omega)
                  repeat' (first | with_reducible exact HB.out | with_reducible apply Below.drew | with_reducible refine Below.alloc ?_ ?_ _ | omega | (simp; omega))
                have hs1 : bN + 1 ≤ w1.heap.size := by have := hgrow1.size; simp at this; omega
                have Hown1 : Hid (w1.ownsRow (bN + 1) 3 1 (.slice ao1 (m + 1) cap1) (m + 1) (((zz l2).take m).map DV ++ [.int .i64 (d : Int)])) := hown1
                have c1 := rb1.out.c1
                have f1 := rb1.out.f1
                clear hown1 hgrow1)
              all_goals go_wp2
              all_goals (refine ⟨⟨m + 1, cap1, ao1, by congr 1; omega, by omega, ?_, ?_, ?_, ?_, ?_, ?_⟩, by first | (simp [intOf]; done) | (simp [intOf]; omega)⟩)
              all_goals first
                | exact ownsRow_setCell_other ll1.out (by show some gl ≠ some bN; simp [hglN]) _
                | (rw [Hzt.out]; exact ownsRow_setCell_below Hown1.out (by show bN < bN + 1; omega) _)
                | exact ra1.out.setOther (by show w.heap.size ≠ bN; omega) _
                | exact rb1.out.set1 _
                | exact bl1.out.setCell (by show w.heap.size ≤ bN; omega) _
                | exact Nat.le_trans hs1 (size_set _ _ _)
            · have hmm : m = l2.length := by omega
              have HD7 : Hid (wr.ownsRow (bN + 1) 3 1 (.slice ao2 m cap2) m ((zz l2).map DV)) := by
                have h := HDg.out
                rw [List.take_of_length_le (by rw [zz_len]; omega)] at h
                exact h
              have Hm : Hid (m = (zz l2).length) := by show _ = _; rw [zz_len]; exact hmm
              have Hzd : Hid (∀ c ∈ zz l2, isD c = true) := zz_dig l2 HdA.out
              have hm200 : m ≤ 200 := by omega
              clear hmm HDg n1 nf1 hbNl HL
              go_wp2
              go_loopw [] (fun wr => ∃ (n cap2 : Nat) (ao2 : Option Addr) (ds : List UInt8), Hid (n = ds.length) ∧ n ≤ 200 ∧ Hid (tr ds = tr (zz l2)) ∧ Hid (∀ c ∈ ds, isD c = true) ∧ Hid (RBox wr w.heap.size false (.slice none 0 0) 0 false (.slice none 0 0) false []) ∧
                  Hid (RBox wr bN false (.slice ao2 n cap2) O false (.slice none 0 0) false []) ∧ Hid (wr.ownsRow (bN + 1) 3 1 (.slice ao2 n cap2) n (ds.map DV)) ∧ bN + 1 ≤ wr.heap.size ∧ Hid (Below w.heap.size w wr)) (fun wr => lenAt (wr.cell? ⟨bN, 1, none⟩))
              case atStart => exact ⟨m, cap2, ao2, zz l2, Hm, hm200, rfl, Hzd, HR, HN, HD7, hsz, HB⟩
              case round =>
              clear HR HN HD7 HB hsz
              obtain ⟨n, cap2, ao2, ds, Hn, hn200, Htr, HallD, HR, HN, HDg, hsz, HB⟩ := hrel
              have r1 := HN.out.c1
              have f1 := HN.out.f1
              by_cases hn0 : n = 0
              · have hn00 : n ≤ 0 := by omega
                have hfin : tr (zz l2) = ds := by
                  have h0 : ds = [] := List.eq_nil_of_length_eq_zero (by rw [← Hn.out]; exact hn0)
                  rw [← Htr.out, h0]; rfl
                have HrO : Hid (O = (l2.length : Int) + if x < 0 then x else 0) := by show _ = _; rw [HO6.out]; rw [if_pos hx0]
                have Hfin : Hid (tr (zz l2) = ds) := hfin
                have b0 := HN.out.c0
                have a0 := HR.out.c0
                have fa0 := HR.out.f0
                have b2 := HN.out.c2
                have a2 := HR.out.c2
                have fa2 := HR.out.f2
                have b3 := HN.out.c3
                have a3 := HR.out.c3
                have fa3 := HR.out.f3
                have b4 := HN.out.c4
                have a4 := HR.out.c4
                have fa4 := HR.out.f4
                have b5 := HN.out.c5
                have a5 := HR.out.c5
                have fa5 := HR.out.f5
                have b6 := HN.out.c6
                have a6 := HR.out.c6
                have fa6 := HR.out.f6
                have a1 := HR.out.c1
                have fa1 := HR.out.f1
                have b1 := HN.out.c1
                have hB := HB.out
                have hblk : ¬ bN = w.heap.size := by omega
                have hblk2 : ¬ w.heap.size = bN := by omega
                clear hfin hn0 r1
                go_wp2
                (try simp only [Exit.inBlock, Exit.then])
                refine bodyPost_ret (v := .agg #[.bool false, .slice ao2 n cap2, .int .i64 O, .bool false, .slice none 0 0, .bool false, .string ⟨#[]⟩]) ?_ rfl ⟨l2, ao2, cap2, HDf.out, ?_, ?_, ?_⟩
                · rw [results_cell rfl]; go_simp
                · rw [Hfin.out, ← Hn.out, HrO.out]
                · rw [Hfin.out, ← Hn.out]
                  repeat' (first | with_reducible exact owns_base HDg.out (by omega) | (with_reducible refine ownsRow_setCell_below ?_ ?_ _) | (simp; done) | (simp; omega))
                · (repeat' (first | with_reducible assumption | with_reducible exact Below.refl _ _ | with_reducible exact Nat.le_refl _ | with_reducible refine Below.setCell ?_ ?_ _ | with_reducible refine Below.alloc ?_ ?_ _ | with_reducible apply Below.drew | with_reducible apply below_drewN | omega | (simp; done) | (simp; omega)))
              · have hpos : 0 < n := by omega
                have hne : ds ≠ [] := by intro e; have := Hn.out; rw [e] at this; simp at this; omega
                obtain ⟨y, c, hy⟩ : ∃ y c, ds = y ++ [c] := ⟨ds.dropLast, ds.getLast hne, (List.dropLast_concat_getLast hne).symm⟩
                obtain ⟨gb, rfl, hgb1, hgb2, hcells⟩ := owns_some HDg.out hpos
                obtain ⟨_, cap', e', hcapn, _⟩ := owns_shape HDg.out
                obtain rfl : cap' = cap2 := by cases e'; rfl
                have hyn : n = y.length + 1 := by rw [Hn.out, hy]; simp
                obtain ⟨j, hj⟩ : ∃ j, j = y.length := ⟨_, rfl⟩
                have hji : (n : Int) - 1 = (j : Int) := by omega
                have hcell : wr.cell? ⟨gb, j, none⟩ = some (.int .i64 ((c.toNat : Int) - 48)) := by
                  refine hcells j _ ?_
                  rw [hy, List.map_append, hj]
                  simp [DV]
                have hcD : isD c = true := HallD.out c (by rw [hy]; simp)
                have hb1 := (isD_rng hcD).1
                have hjn : j < n := by omega
                have Hnj : Hid (n = j + 1) := by show _ = _; omega
                have Hy : Hid (ds = y ++ [c]) := hy
                have Hjy : Hid (j = y.length) := hj
                have Htry : Hid (tr ds = if (c == 48) = true then tr y else ds) := by show _ = _; rw [hy]; exact tr_snoc y c
                clear hcells hcD hne hy hyn hj hn0
                by_cases hc : c = 48
                · have hq1 : (((c.toNat : Int) - 48) == 0) = true := by subst hc; rfl
                  have Htr1 : Hid (tr y = tr (zz l2)) := by show _ = _; rw [← Htr.out, Htry.out, if_pos (by simp [hc])]
                  clear hc
                  go_wp2
                  go_roundw
                  case rel =>
                    refine ⟨j, cap', some ⟨gb, 0, none⟩, y, Hjy, by omega, Htr1, ?_, ?_, ?_, ?_, ?_, ?_⟩
                    · intro c' hc'
                      exact HallD.out c' (by rw [Hy.out]; simp [hc'])
                    · show RBox _ _ _ _ _ _ _ _ _
                      exact HR.out.setOther (by show w.heap.size ≠ bN; omega) _
                    · show RBox _ _ _ _ _ _ _ _ _
                      exact HN.out.set1 _
                    · show World.ownsRow _ _ _ _ _ _ _
                      refine ownsRow_setCell_below ?_ (by show bN < _; omega) _
                      have h := HDg.out
                      rw [Hnj.out, Hy.out, List.map_append] at h
                      exact owns_less h
                    · exact Nat.le_trans hsz (size_set _ _ _)
                    · exact HB.out.setCell (by show w.heap.size ≤ bN; omega) _
                  case measure =>
                    rw [(HN.out.set1 _).c1, r1]
                    exact hjn
                · have hq1 : (((c.toNat : Int) - 48) == 0) = false := by
                    have : c.toNat ≠ 48 := fun e => hc (UInt8.toNat_inj.1 e)
                    simp; omega
                  have hfin : tr (zz l2) = ds := by
                    rw [← Htr.out, Htry.out, if_neg (by simpa using hc)]
                  have HrO : Hid (O = (l2.length : Int) + if x < 0 then x else 0) := by show _ = _; rw [HO6.out]; rw [if_pos hx0]
                  have Hfin : Hid (tr (zz l2) = ds) := hfin
                  have b0 := HN.out.c0
                  have a0 := HR.out.c0
                  have fa0 := HR.out.f0
                  have b2 := HN.out.c2
                  have a2 := HR.out.c2
                  have fa2 := HR.out.f2
                  have b3 := HN.out.c3
                  have a3 := HR.out.c3
                  have fa3 := HR.out.f3
                  have b4 := HN.out.c4
                  have a4 := HR.out.c4
                  have fa4 := HR.out.f4
                  have b5 := HN.out.c5
                  have a5 := HR.out.c5
                  have fa5 := HR.out.f5
                  have b6 := HN.out.c6
                  have a6 := HR.out.c6
                  have fa6 := HR.out.f6
                  have a1 := HR.out.c1
                  have fa1 := HR.out.f1
                  have b1 := HN.out.c1
                  have hB := HB.out
                  have hblk : ¬ bN = w.heap.size := by omega
                  have hblk2 : ¬ w.heap.size = bN := by omega
                  clear hfin hc r1
                  go_wp2
                  (try simp only [Exit.inBlock, Exit.then])
                  refine bodyPost_ret (v := .agg #[.bool false, .slice (some ⟨gb, 0, none⟩) n cap', .int .i64 O, .bool false, .slice none 0 0, .bool false, .string ⟨#[]⟩]) ?_ rfl ⟨l2, (some ⟨gb, 0, none⟩), cap', HDf.out, ?_, ?_, ?_⟩
                  · rw [results_cell rfl]; go_simp
                  · rw [Hfin.out, ← Hn.out, HrO.out]
                  · rw [Hfin.out, ← Hn.out]
                    repeat' (first | with_reducible exact owns_base HDg.out (by omega) | (with_reducible refine ownsRow_setCell_below ?_ ?_ _) | (simp; done) | (simp; omega))
                  · (repeat' (first | with_reducible assumption | with_reducible exact Below.refl _ _ | with_reducible exact Nat.le_refl _ | with_reducible refine Below.setCell ?_ ?_ _ | with_reducible refine Below.alloc ?_ ?_ _ | with_reducible apply Below.drew | with_reducible apply below_drewN | omega | (simp; done) | (simp; omega)))

set_option maxRecDepth 10000 in
set_option maxHeartbeats 4000000 in
theorem twice_pos (F0 : Nat) (x : Int) (T : Nat) (w : World) (hF0 : F0 ≤ 100000000) (hT1 : T ≤ 1000) (hx : x = (T : Int)) (hx0 : 0 ≤ x) (hV : F0 * 2 ^ T < 10 ^ 200) :
    Calls Try.prog 9 #[.int .i64 (F0 : Int), .int .i64 x] w fun e w' => TwA F0 2 T x w e w' := by
  obtain ⟨i0, hi, hz0, hz1, hz2⟩ := info_parts Try.infoI
  have HV : Hid (F0 * 2 ^ T < 10 ^ 200) := hV
  have HF : Hid (F0 < 10 ^ 200) := by
    show _ < _
    have : 100000000 < 10 ^ 200 := by decide
    omega
  have Hx : Hid (x = (T : Int)) := hx
  have hx1 : -1000 ≤ x := by omega
  have hx2 : x ≤ 1000 := by omega
  clear hV hx
  go_enter Try.func9, Try.ntmps9
  go_wp2
  obtain ⟨W1, hW1⟩ : ∃ W1, W1 = w.alloc RZ := ⟨_, rfl⟩
  have hsz1 : w.heap.size + 1 ≤ W1.heap.size := by rw [hW1, World.size_alloc]; omega
  have HR1 : Hid (RBox W1 w.heap.size false (.slice none 0 0) 0 false (.slice none 0 0) false []) := by rw [hW1]; exact rz_box w
  have HB1 : Hid (Below w.heap.size w W1) := by rw [hW1]; exact (Below.refl _ w).alloc (Nat.le_refl _) _
  rw [show w.alloc (.cells #[.bool false, .slice none 0 0, .int .i64 0, .bool false, .slice none 0 0, .bool false, .string ⟨#[]⟩] 35) = W1 from hW1.symm]
  clear hW1
  go_loopw [0, 5] (fun s0 s5 wr => ∃ (F : Nat) (l : List Nat), Value.int .i64 (F : Int) = s0 ∧ F ≤ 100000000 ∧ Hid (Tk l F F0) ∧ Hid (wr.ownsRow (w.heap.size + 1) 3 1 s5 l.length (l.map DI)) ∧ Hid (RBox wr w.heap.size false (.slice none 0 0) 0 false (.slice none 0 0) false []) ∧ Hid (Below w.heap.size w wr) ∧ w.heap.size + 1 ≤ wr.heap.size) (fun s _ _ => (intOf s).toNat)
  case atStart => exact ⟨F0, [], rfl, hF0, Tk.start F0, World.ownsRow_nil _ _ _ _, HR1, HB1, hsz1⟩
  case round =>
    obtain ⟨F, l, hv0, hF, HTk, HO, HR, HB, hsz⟩ := hrel
    have hv0' := hv0.symm
    clear hv0
    subst hv0'
    have hll : l.length ≤ 200 := HTk.out.len HF.out
    by_cases hgo : 0 < F
    · obtain ⟨r, hr⟩ : ∃ r, r = F % 10 := ⟨_, rfl⟩
      obtain ⟨q, hq⟩ : ∃ q, q = F / 10 := ⟨_, rfl⟩
      have k1 : Int.tmod (F : Int) 10 = (r : Int) := by rw [Int.tmod_eq_emod_of_nonneg (by omega)]; omega
      have k2 : (F : Int) % 10 = (r : Int) := by omega
      have k3 : Int.tdiv (F : Int) 10 = (q : Int) := by rw [Int.tdiv_eq_ediv_of_nonneg (by omega)]; omega
      have k4 : (F : Int) / 10 = (q : Int) := by omega
      have HTk2 : Hid (Tk (l ++ [r]) q F0) := by rw [hr, hq]; exact HTk.out.step hgo
      have hqF : q < F := by omega
      clear hr hq
      go_wp2_with (
        at_builtin
        refine wpList_append_own_wide _ rfl (.tmp 15) (.tmp 18) 33 rfl (w.heap.size + 1) 3 i0 (.int .i64 0) 1 8 Try.underlying33 hi hz0 hz1 hz2 rfl (by decide) u5 l.length (l.map DI) rfl (HO.out.alloc _) ⟨wr.heap.size, 0, none⟩ 1 1 [.int .i64 (r : Int)] rfl rfl (by intro t u ht; match t, ht with | 0, ht => (simp at ht; subst ht; simp [Addr.add])) (by intro u hu; simp at hu; subst hu; rfl) (by unfold maxLen; omega) (by omega) (by simp; omega) ?_
        intro v1 w1 hown1 hgrow1 _)
      have HO2 : Hid (w1.ownsRow (w.heap.size + 1) 3 1 v1 (l ++ [r]).length ((l ++ [r]).map DI)) := by
        rw [List.length_append, List.length_singleton, List.map_append]
        exact hown1
      have HR2 : Hid (RBox w1 w.heap.size false (.slice none 0 0) 0 false (.slice none 0 0) false []) := (HR.out.alloc _).grown hgrow1 (row_ne HO.out (by omega))
      have HB2 : Hid (Below w.heap.size w w1) := (HB.out.alloc HB.out.size _).grown hgrow1 (by rw [World.size_alloc]; omega) (fun k hk => by have := (HO.out.lt k hk).1; omega)
      have hs2 : w.heap.size + 1 ≤ w1.heap.size := by have := hgrow1.size; rw [World.size_alloc] at this; omega
      exact ⟨⟨q, l ++ [r], rfl, by omega, HTk2, HO2, HR2, HB2, hs2⟩, by simp [intOf]; omega⟩
    · have hF00 : F = 0 := by omega
      have HD : Hid (Dg l F0) := by
        have h := HTk.out
        rw [hF00] at h
        exact h.done
      clear hF00 HTk
      go_wp2
      rw [Hx.out]
      go_loopw [8, 5, 9, 10] (fun s8 s5 _ _ wq => ∃ (i : Nat) (l : List Nat), Value.int .i64 (i : Int) = s8 ∧ i ≤ T ∧ Hid (Dg l (F0 * 2 ^ i)) ∧ Hid (wq.ownsRow (w.heap.size + 1) 3 1 s5 l.length (l.map DI)) ∧ Hid (RBox wq w.heap.size false (.slice none 0 0) 0 false (.slice none 0 0) false []) ∧ Hid (Below w.heap.size w wq) ∧ w.heap.size + 1 ≤ wq.heap.size) (fun s _ _ _ _ => T - (intOf s).toNat)
      case atStart => exact ⟨0, l, rfl, Nat.zero_le _, by rw [Nat.pow_zero, Nat.mul_one]; exact HD, HO, HR, HB, hsz⟩
      case round =>
        obtain ⟨i, l2, hv8, hiT, HD2, HO2, HR2, HB2, hsz2⟩ := hrel
        have hv8' := hv8.symm
        clear hv8
        subst hv8'
        clear HD HO HR HB hsz
        by_cases hlt : i < T
        · have hVi : Hid (F0 * 2 ^ i < 10 ^ 200) := by
            show _ < _
            have : F0 * 2 ^ i ≤ F0 * 2 ^ T := Nat.mul_le_mul_left _ (Nat.pow_le_pow_right (by decide) (by omega))
            have := HV.out
            omega
          have hl200 : l2.length ≤ 200 := len_bd HD2.out hVi.out
          obtain ⟨ao, cap, hu5, hcap1, hcap2⟩ := owns_shape HO2.out
          subst hu5
          go_wp2
          go_loopw [10, 9] (fun s10 s9 wk => ∃ (k c : Nat) (l3 : List Nat), Value.int .i64 (k : Int) = s10 ∧ Value.int .i64 (c : Int) = s9 ∧ k ≤ l2.length ∧ c < 2 ∧ Hid (Ml l2 l3 2 k c) ∧ Hid (wk.ownsRow (w.heap.size + 1) 3 1 (.slice ao l2.length cap) l2.length (l3.map DI)) ∧ Hid (RBox wk w.heap.size false (.slice none 0 0) 0 false (.slice none 0 0) false []) ∧ Hid (Below w.heap.size w wk) ∧ w.heap.size + 1 ≤ wk.heap.size) (fun s _ _ => l2.length - (intOf s).toNat)
          case atStart => exact ⟨0, 0, l2, rfl, rfl, Nat.zero_le _, by decide, Ml.start l2 2 (by decide) HD2.out.dig, HO2, HR2, HB2, hsz2⟩
          case round =>
            obtain ⟨k, c, l3, hv10, hv9, hk, hc, HM, HO3, HR3, HB3, hsz3⟩ := hrel
            have hv10' := hv10.symm
            have hv9' := hv9.symm
            clear hv10 hv9
            subst hv10' hv9'
            have hl3 := HM.out.len
            have hl31 : l3.length ≤ l2.length := by omega
            have hl32 : l2.length ≤ l3.length := by omega
            clear hl3
            by_cases hkl : k < l2.length
            · obtain ⟨gb, hao, hgb1, hgb2, hcells⟩ := owns_some HO3.out (by omega)
              subst hao
              obtain ⟨d, hd⟩ : ∃ d, d = l3[k] := ⟨_, rfl⟩
              have hd10 : d < 10 := by rw [hd]; exact HM.out.dig _ (List.getElem_mem _)
              have gc : wr.cell? ⟨gb, k, none⟩ = some (.int .i64 (d : Int)) := hcells k _ (by rw [List.getElem?_map, List.getElem?_eq_getElem (by omega), hd]; rfl)
              have gf : wr.frozen? ⟨gb, k, none⟩ = false := HO3.out.frozenAt k
              obtain ⟨S, hS⟩ : ∃ S, S = c + d * 2 := ⟨_, rfl⟩
              have hSi : (c : Int) + (d : Int) * 2 = (S : Int) := by omega
              have hS100 : S ≤ 100 := by omega
              obtain ⟨r, hr⟩ : ∃ r, r = S % 10 := ⟨_, rfl⟩
              obtain ⟨q, hq⟩ : ∃ q, q = S / 10 := ⟨_, rfl⟩
              have k1 : Int.tmod (S : Int) 10 = (r : Int) := by rw [Int.tmod_eq_emod_of_nonneg (by omega)]; omega
              have k2 : (S : Int) % 10 = (r : Int) := by omega
              have k3 : Int.tdiv (S : Int) 10 = (q : Int) := by rw [Int.tdiv_eq_ediv_of_nonneg (by omega)]; omega
              have k4 : (S : Int) / 10 = (q : Int) := by omega
              have HM2 : Hid (Ml l2 (l3.set k r) 2 (k + 1) q) := by
                have h := HM.out.step (d := d) (by omega) hd (by decide)
                rw [← hS, ← hr, ← hq] at h
                exact h
              have hqB : q < 2 := HM2.out.car
              have HO4 : Hid ((wr.setCell ⟨gb, k, none⟩ (.int .i64 (r : Int))).ownsRow (w.heap.size + 1) 3 1 (.slice (some ⟨gb, 0, none⟩) l2.length cap) l2.length ((l3.set k r).map DI)) := by
                have h := (HO3.out.stored k (.int .i64 (r : Int))).1
                rw [List.map_set]
                exact h
              have HR4 : Hid (RBox (wr.setCell ⟨gb, k, none⟩ (.int .i64 (r : Int))) w.heap.size false (.slice none 0 0) 0 false (.slice none 0 0) false []) := HR3.out.setOther (by show w.heap.size ≠ gb; omega) _
              have HB4 : Hid (Below w.heap.size w (wr.setCell ⟨gb, k, none⟩ (.int .i64 (r : Int)))) := HB3.out.setCell (by show w.heap.size ≤ gb; omega) _
              have hsz4 : w.heap.size + 1 ≤ (wr.setCell ⟨gb, k, none⟩ (.int .i64 (r : Int))).heap.size := Nat.le_trans hsz3 (size_set _ _ _)
              clear hd hS hr hq hcells
              go_wp2
              go_roundw
              case rel => exact ⟨k + 1, q, l3.set k r, by go_num, rfl, by omega, hqB, HM2, HO4, HR4, HB4, hsz4⟩
              case measure => simp [intOf]; omega
            · have hkk : k = l3.length := by omega
              have HD3 : Hid (Dg (if 0 < c then l3 ++ [c] else l3) (F0 * 2 ^ (i + 1))) := by
                have h := HM.out
                rw [hkk] at h
                have h2 := h.done HD2.out (by decide) (by decide)
                rw [Nat.pow_succ, Nat.mul_comm (2 ^ i) 2, Nat.mul_left_comm]
                exact h2
              have HO3b : Hid (wr.ownsRow (w.heap.size + 1) 3 1 (.slice ao l2.length cap) l3.length (l3.map DI)) := by
                have e : l3.length = l2.length := by omega
                rw [e]; exact HO3
              clear hkk HM HD2 HO2 HR2 HB2 hsz2
              by_cases hc0 : 0 < c
              · have HD4 : Hid (Dg (l3 ++ [c]) (F0 * 2 ^ (i + 1))) := by
                  have h := HD3.out
                  rw [if_pos hc0] at h
                  exact h
                clear HD3
                go_wp2_with (
                  at_builtin
                  refine wpList_append_own_wide _ rfl (.tmp 55) (.tmp 57) 33 rfl (w.heap.size + 1) 3 i0 (.int .i64 0) 1 8 Try.underlying33 hi hz0 hz1 hz2 rfl (by decide) (.slice ao l2.length cap) l3.length (l3.map DI) rfl (HO3b.out.alloc _) ⟨wr.heap.size, 0, none⟩ 1 1 [.int .i64 (c : Int)] rfl rfl (by intro t u ht; match t, ht with | 0, ht => (simp at ht; subst ht; simp [Addr.add])) (by intro u hu; simp at hu; subst hu; rfl) (by unfold maxLen; omega) (by omega) (by simp; omega) ?_
                  intro v1 w1 hown1 hgrow1 _)
                have HO5 : Hid (w1.ownsRow (w.heap.size + 1) 3 1 v1 (l3 ++ [c]).length ((l3 ++ [c]).map DI)) := by
                  rw [List.length_append, List.length_singleton, List.map_append]
                  exact hown1
                have HR5 : Hid (RBox w1 w.heap.size false (.slice none 0 0) 0 false (.slice none 0 0) false []) := (HR3.out.alloc _).grown hgrow1 (row_ne HO3.out (by omega))
                have HB5 : Hid (Below w.heap.size w w1) := (HB3.out.alloc HB3.out.size _).grown hgrow1 (by rw [World.size_alloc]; omega) (fun k hk => by have := (HO3.out.lt k hk).1; omega)
                have hs5 : w.heap.size + 1 ≤ w1.heap.size := by have := hgrow1.size; rw [World.size_alloc] at this; omega
                refine ⟨⟨i + 1, l3 ++ [c], by go_num, by omega, HD4, HO5, HR5, HB5, hs5⟩, by simp [intOf]; omega⟩
              · have HD4 : Hid (Dg l3 (F0 * 2 ^ (i + 1))) := by
                  have h := HD3.out
                  rw [if_neg hc0] at h
                  exact h
                clear HD3
                go_wp2
                go_roundw
                case rel => exact ⟨i + 1, l3, by go_num, by omega, HD4, HO3b, HR3, HB3, hsz3⟩
                case measure => simp [intOf]; omega
        · have HDf : Hid (Dg l2 (F0 * 2 ^ T)) := by
            have e : i = T := by omega
            rw [← e]; exact HD2
          have hl200 : l2.length ≤ 200 := len_bd HDf.out HV.out
          obtain ⟨ao, cap, hu5, hcap1, hcap2⟩ := owns_shape HO2.out
          subst hu5
          clear HD2
          go_wp2
          obtain ⟨Wn, hWn⟩ : ∃ Wn, Wn = wr.alloc (.cells #[.bool false, .slice none 0 0, .int .i64 (l2.length : Int), .bool false, .slice none 0 0, .bool false, .string ⟨#[]⟩] 35) := ⟨_, rfl⟩
          obtain ⟨bN, hbN⟩ : ∃ bN, bN = wr.heap.size := ⟨_, rfl⟩
          obtain ⟨O, hO⟩ : ∃ O : Int, O = (l2.length : Int) := ⟨_, rfl⟩
          have HO6 : Hid (O = (l2.length : Int)) := hO
          have HN6 : Hid (RBox Wn bN false (.slice none 0 0) O false (.slice none 0 0) false []) := by rw [hWn, hbN, hO]; exact rn_box wr _
          have HR6 : Hid (RBox Wn w.heap.size false (.slice none 0 0) 0 false (.slice none 0 0) false []) := by rw [hWn]; exact HR2.out.alloc _
          have HB6 : Hid (Below w.heap.size w Wn) := by rw [hWn]; exact HB2.out.alloc HB2.out.size _
          have HL6 : Hid (Wn.ownsRow (w.heap.size + 1) 3 1 (.slice ao l2.length cap) l2.length (l2.map DI)) := by rw [hWn]; exact HO2.out.alloc _
          have Hlt6 : Hid (∀ k, (Value.slice ao l2.length cap).ownBlock = some k → k < bN) := fun k hk => by rw [hbN]; exact (HO2.out.lt k hk).2
          have hsz6 : bN + 1 ≤ Wn.heap.size := by rw [hWn, World.size_alloc, hbN]; omega
          have hbN1 : w.heap.size + 1 ≤ bN := by omega
          rw [show wr.alloc (.cells #[.bool false, .slice none 0 0, .int .i64 (l2.length : Int), .bool false, .slice none 0 0, .bool false, .string ⟨#[]⟩] 35) = Wn from hWn.symm, ← hbN]
          clear hWn hbN hO HR2 HB2 HO2 hsz2
          have HdA : Hid (∀ d ∈ l2, d < 10) := HDf.out.dig
          go_loopw [12] (fun s12 wq => ∃ (m cap2 : Nat) (ao2 : Option Addr), Value.int .i64 ((l2.length : Int) - 1 - m) = s12 ∧ m ≤ l2.length ∧ Hid (wq.ownsRow (w.heap.size + 1) 3 1 (.slice ao l2.length cap) l2.length (l2.map DI)) ∧ Hid (wq.ownsRow (bN + 1) 3 1 (.slice ao2 m cap2) m (((zz l2).take m).map DV)) ∧
              Hid (RBox wq w.heap.size false (.slice none 0 0) 0 false (.slice none 0 0) false []) ∧ Hid (RBox wq bN false (.slice ao2 m cap2) O false (.slice none 0 0) false []) ∧ Hid (Below w.heap.size w wq) ∧ bN + 1 ≤ wq.heap.size) (fun s _ => (intOf s + 1).toNat)
          case atStart => exact ⟨0, 0, none, by go_num, Nat.zero_le _, HL6, World.ownsRow_nil _ _ _ _, HR6, HN6, HB6, hsz6⟩
          case round =>
            obtain ⟨m, cap2, ao2, hv12, hm, HL, HDg, HR, HN, HB, hsz⟩ := hrel
            have hv12' := hv12.symm
            clear hv12
            subst hv12'
            have n1 := HN.out.c1
            have nf1 := HN.out.f1
            have hbNl : bN < wr.heap.size := HN.out.lt
            by_cases hgo2 : m < l2.length
            · obtain ⟨p, hp⟩ : ∃ p, p = l2.length - 1 - m := ⟨_, rfl⟩
              have hpi : (l2.length : Int) - 1 - m = (p : Int) := by omega
              have hpl : p < l2.length := by omega
              obtain ⟨gl, hao, hgl1, hgl2, hcells⟩ := owns_some HL.out (by omega)
              subst hao
              obtain ⟨d, hd⟩ : ∃ d, l2[p] = d := ⟨_, rfl⟩
              have hd10 : d < 10 := by rw [← hd]; exact HdA.out _ (List.getElem_mem _)
              have gc : wr.cell? ⟨gl, p, none⟩ = some (.int .i64 (d : Int)) := hcells p _ (by rw [List.getElem?_map, List.getElem?_eq_getElem (by omega), hd]; rfl)
              have Hzt : Hid (((zz l2).take (m + 1)).map DV = ((zz l2).take m).map DV ++ [.int .i64 (d : Int)]) := by
                show _ = _
                have hz := zz_get l2 p d hpl hd
                rw [show l2.length - 1 - p = m by omega] at hz
                rw [List.take_add_one, hz, List.map_append]
                congr 1
                show [DV (UInt8.ofNat (48 + d))] = _
                rw [dv_of d hd10]
              have hglN : gl ≠ bN := fun e => by have := Hlt6.out gl rfl; omega
              have hglb : gl < bN := Hlt6.out gl rfl
              clear hcells hd hp
              rw [hpi]
              have hpm1 : p + m + 1 ≤ l2.length := by omega
              have hpm2 : l2.length ≤ p + m + 1 := by omega
              clear hpi
              go_wp2_with fail
              go_region_law (
                refine step_append_own rfl (.tmp 77) (.tmp 82) 33 rfl (bN + 1) 3 i0 (.int .i64 0) 1 8 Try.underlying33 hi hz0 hz1 hz2 rfl (by decide) (.slice ao2 m cap2) m (((zz l2).take m).map DV) (by simp [Act.eval]) (HDg.out.alloc _) ⟨wr.heap.size, 0, none⟩ 1 1 [.int .i64 (d : Int)] (by simp [Act.eval]) rfl (by intro t u ht; match t, ht with | 0, ht => simp at ht; subst ht; simp [Addr.add]) (by intro u hu; simp at hu; subst hu; rfl) (by unfold maxLen; omega) (by omega) (by simp; omega) ?_
                intro v1 w1 hown1 hgrow1 _
                obtain ⟨ao1, cap1, rfl, hc1, hc2⟩ := owns_shape hown1
                have ra1 : Hid (RBox w1 w.heap.size false (.slice none 0 0) 0 false (.slice none 0 0) false []) := by
                  refine RBox.grown ?_ hgrow1 (row_ne HDg.out (by omega))
                  repeat' (first | with_reducible exact HR.out | with_reducible apply RBox.drew | with_reducible apply RBox.alloc)
                have rb1 : Hid (RBox w1 bN false (.slice ao2 m cap2) O false (.slice none 0 0) false []) := by
                  refine RBox.grown ?_ hgrow1 (row_ne HDg.out (by omega))
                  repeat' (first | with_reducible exact HN.out | with_reducible apply RBox.drew | with_reducible apply RBox.alloc)
                have ll1 : Hid (w1.ownsRow (w.heap.size + 1) 3 1 (.slice (some ⟨gl, 0, none⟩) l2.length cap) l2.length (l2.map DI)) := by
                  refine World.ownsRow.kept ?_ hgrow1 (.inr (fun e => ?_))
                  · first | exact HL.out.alloc _ | exact owns_drew (HL.out.alloc _) | exact World.ownsRow.alloc (owns_drew HL.out) _
                  · have := (HDg.out.lt gl e.symm).1
                    omega
                have bl1 : Hid (Below w.heap.size w w1) := by
                  refine Below.grown ?_ hgrow1 (by simp; omega) (fun k hk => by have := (HDg.out.lt k hk).1; omega)
                  repeat' (first | with_reducible exact HB.out | with_reducible apply Below.drew | with_reducible refine Below.alloc ?_ ?_ _ | omega | (simp; omega))
                have hs1 : bN + 1 ≤ w1.heap.size := by have := hgrow1.size; simp at this; omega
                have Hown1 : Hid (w1.ownsRow (bN + 1) 3 1 (.slice ao1 (m + 1) cap1) (m + 1) (((zz l2).take m).map DV ++ [.int .i64 (d : Int)])) := hown1
                have c1 := rb1.out.c1
                have f1 := rb1.out.f1
                clear hown1 hgrow1)
              all_goals go_wp2
              all_goals (refine ⟨⟨m + 1, cap1, ao1, by congr 1; omega, by omega, ?_, ?_, ?_, ?_, ?_, ?_⟩, by first | (simp [intOf]; done) | (simp [intOf]; omega)⟩)
              all_goals first
                | exact ownsRow_setCell_other ll1.out (by show some gl ≠ some bN; simp [hglN]) _
                | (rw [Hzt.out]; exact ownsRow_setCell_below Hown1.out (by show bN < bN + 1; omega) _)
                | exact ra1.out.setOther (by show w.heap.size ≠ bN; omega) _
                | exact rb1.out.set1 _
                | exact bl1.out.setCell (by show w.heap.size ≤ bN; omega) _
                | exact Nat.le_trans hs1 (size_set _ _ _)
            · have hmm : m = l2.length := by omega
              have HD7 : Hid (wr.ownsRow (bN + 1) 3 1 (.slice ao2 m cap2) m ((zz l2).map DV)) := by
                have h := HDg.out
                rw [List.take_of_length_le (by rw [zz_len]; omega)] at h
                exact h
              have Hm : Hid (m = (zz l2).length) := by show _ = _; rw [zz_len]; exact hmm
              have Hzd : Hid (∀ c ∈ zz l2, isD c = true) := zz_dig l2 HdA.out
              have hm200 : m ≤ 200 := by omega
              clear hmm HDg n1 nf1 hbNl HL
              go_wp2
              go_loopw [] (fun wr => ∃ (n cap2 : Nat) (ao2 : Option Addr) (ds : List UInt8), Hid (n = ds.length) ∧ n ≤ 200 ∧ Hid (tr ds = tr (zz l2)) ∧ Hid (∀ c ∈ ds, isD c = true) ∧ Hid (RBox wr w.heap.size false (.slice none 0 0) 0 false (.slice none 0 0) false []) ∧
                  Hid (RBox wr bN false (.slice ao2 n cap2) O false (.slice none 0 0) false []) ∧ Hid (wr.ownsRow (bN + 1) 3 1 (.slice ao2 n cap2) n (ds.map DV)) ∧ bN + 1 ≤ wr.heap.size ∧ Hid (Below w.heap.size w wr)) (fun wr => lenAt (wr.cell? ⟨bN, 1, none⟩))
              case atStart => exact ⟨m, cap2, ao2, zz l2, Hm, hm200, rfl, Hzd, HR, HN, HD7, hsz, HB⟩
              case round =>
              clear HR HN HD7 HB hsz
              obtain ⟨n, cap2, ao2, ds, Hn, hn200, Htr, HallD, HR, HN, HDg, hsz, HB⟩ := hrel
              have r1 := HN.out.c1
              have f1 := HN.out.f1
              by_cases hn0 : n = 0
              · have hn00 : n ≤ 0 := by omega
                have hfin : tr (zz l2) = ds := by
                  have h0 : ds = [] := List.eq_nil_of_length_eq_zero (by rw [← Hn.out]; exact hn0)
                  rw [← Htr.out, h0]; rfl
                have HrO : Hid (O = (l2.length : Int) + if x < 0 then x else 0) := by show _ = _; rw [HO6.out]; rw [if_neg (by omega), Int.add_zero]
                have Hfin : Hid (tr (zz l2) = ds) := hfin
                have b0 := HN.out.c0
                have a0 := HR.out.c0
                have fa0 := HR.out.f0
                have b2 := HN.out.c2
                have a2 := HR.out.c2
                have fa2 := HR.out.f2
                have b3 := HN.out.c3
                have a3 := HR.out.c3
                have fa3 := HR.out.f3
                have b4 := HN.out.c4
                have a4 := HR.out.c4
                have fa4 := HR.out.f4
                have b5 := HN.out.c5
                have a5 := HR.out.c5
                have fa5 := HR.out.f5
                have b6 := HN.out.c6
                have a6 := HR.out.c6
                have fa6 := HR.out.f6
                have a1 := HR.out.c1
                have fa1 := HR.out.f1
                have b1 := HN.out.c1
                have hB := HB.out
                have hblk : ¬ bN = w.heap.size := by omega
                have hblk2 : ¬ w.heap.size = bN := by omega
                clear hfin hn0 r1
                go_wp2
                (try simp only [Exit.inBlock, Exit.then])
                refine bodyPost_ret (v := .agg #[.bool false, .slice ao2 n cap2, .int .i64 O, .bool false, .slice none 0 0, .bool false, .string ⟨#[]⟩]) ?_ rfl ⟨l2, ao2, cap2, HDf.out, ?_, ?_, ?_⟩
                · rw [results_cell rfl]; go_simp
                · rw [Hfin.out, ← Hn.out, HrO.out]
                · rw [Hfin.out, ← Hn.out]
                  repeat' (first | with_reducible exact owns_base HDg.out (by omega) | (with_reducible refine ownsRow_setCell_below ?_ ?_ _) | (simp; done) | (simp; omega))
                · (repeat' (first | with_reducible assumption | with_reducible exact Below.refl _ _ | with_reducible exact Nat.le_refl _ | with_reducible refine Below.setCell ?_ ?_ _ | with_reducible refine Below.alloc ?_ ?_ _ | with_reducible apply Below.drew | with_reducible apply below_drewN | omega | (simp; done) | (simp; omega)))
              · have hpos : 0 < n := by omega
                have hne : ds ≠ [] := by intro e; have := Hn.out; rw [e] at this; simp at this; omega
                obtain ⟨y, c, hy⟩ : ∃ y c, ds = y ++ [c] := ⟨ds.dropLast, ds.getLast hne, (List.dropLast_concat_getLast hne).symm⟩
                obtain ⟨gb, rfl, hgb1, hgb2, hcells⟩ := owns_some HDg.out hpos
                obtain ⟨_, cap', e', hcapn, _⟩ := owns_shape HDg.out
                obtain rfl : cap' = cap2 := by cases e'; rfl
                have hyn : n = y.length + 1 := by rw [Hn.out, hy]; simp
                obtain ⟨j, hj⟩ : ∃ j, j = y.length := ⟨_, rfl⟩
                have hji : (n : Int) - 1 = (j : Int) := by omega
                have hcell : wr.cell? ⟨gb, j, none⟩ = some (.int .i64 ((c.toNat : Int) - 48)) := by
                  refine hcells j _ ?_
                  rw [hy, List.map_append, hj]
                  simp [DV]
                have hcD : isD c = true := HallD.out c (by rw [hy]; simp)
                have hb1 := (isD_rng hcD).1
                have hjn : j < n := by omega
                have Hnj : Hid (n = j + 1) := by show _ = _; omega
                have Hy : Hid (ds = y ++ [c]) := hy
                have Hjy : Hid (j = y.length) := hj
                have Htry : Hid (tr ds = if (c == 48) = true then tr y else ds) := by show _ = _; rw [hy]; exact tr_snoc y c
                clear hcells hcD hne hy hyn hj hn0
                by_cases hc : c = 48
                · have hq1 : (((c.toNat : Int) - 48) == 0) = true := by subst hc; rfl
                  have Htr1 : Hid (tr y = tr (zz l2)) := by show _ = _; rw [← Htr.out, Htry.out, if_pos (by simp [hc])]
                  clear hc
                  go_wp2
                  go_roundw
                  case rel =>
                    refine ⟨j, cap', some ⟨gb, 0, none⟩, y, Hjy, by omega, Htr1, ?_, ?_, ?_, ?_, ?_, ?_⟩
                    · intro c' hc'
                      exact HallD.out c' (by rw [Hy.out]; simp [hc'])
                    · show RBox _ _ _ _ _ _ _ _ _
                      exact HR.out.setOther (by show w.heap.size ≠ bN; omega) _
                    · show RBox _ _ _ _ _ _ _ _ _
                      exact HN.out.set1 _
                    · show World.ownsRow _ _ _ _ _ _ _
                      refine ownsRow_setCell_below ?_ (by show bN < _; omega) _
                      have h := HDg.out
                      rw [Hnj.out, Hy.out, List.map_append] at h
                      exact owns_less h
                    · exact Nat.le_trans hsz (size_set _ _ _)
                    · exact HB.out.setCell (by show w.heap.size ≤ bN; omega) _
                  case measure =>
                    rw [(HN.out.set1 _).c1, r1]
                    exact hjn
                · have hq1 : (((c.toNat : Int) - 48) == 0) = false := by
                    have : c.toNat ≠ 48 := fun e => hc (UInt8.toNat_inj.1 e)
                    simp; omega
                  have hfin : tr (zz l2) = ds := by
                    rw [← Htr.out, Htry.out, if_neg (by simpa using hc)]
                  have HrO : Hid (O = (l2.length : Int) + if x < 0 then x else 0) := by show _ = _; rw [HO6.out]; rw [if_neg (by omega), Int.add_zero]
                  have Hfin : Hid (tr (zz l2) = ds) := hfin
                  have b0 := HN.out.c0
                  have a0 := HR.out.c0
                  have fa0 := HR.out.f0
                  have b2 := HN.out.c2
                  have a2 := HR.out.c2
                  have fa2 := HR.out.f2
                  have b3 := HN.out.c3
                  have a3 := HR.out.c3
                  have fa3 := HR.out.f3
                  have b4 := HN.out.c4
                  have a4 := HR.out.c4
                  have fa4 := HR.out.f4
                  have b5 := HN.out.c5
                  have a5 := HR.out.c5
                  have fa5 := HR.out.f5
                  have b6 := HN.out.c6
                  have a6 := HR.out.c6
                  have fa6 := HR.out.f6
                  have a1 := HR.out.c1
                  have fa1 := HR.out.f1
                  have b1 := HN.out.c1
                  have hB := HB.out
                  have hblk : ¬ bN = w.heap.size := by omega
                  have hblk2 : ¬ w.heap.size = bN := by omega
                  clear hfin hc r1
                  go_wp2
                  (try simp only [Exit.inBlock, Exit.then])
                  refine bodyPost_ret (v := .agg #[.bool false, .slice (some ⟨gb, 0, none⟩) n cap', .int .i64 O, .bool false, .slice none 0 0, .bool false, .string ⟨#[]⟩]) ?_ rfl ⟨l2, (some ⟨gb, 0, none⟩), cap', HDf.out, ?_, ?_, ?_⟩
                  · rw [results_cell rfl]; go_simp
                  · rw [Hfin.out, ← Hn.out, HrO.out]
                  · rw [Hfin.out, ← Hn.out]
                    repeat' (first | with_reducible exact owns_base HDg.out (by omega) | (with_reducible refine ownsRow_setCell_below ?_ ?_ _) | (simp; done) | (simp; omega))
                  · (repeat' (first | with_reducible assumption | with_reducible exact Below.refl _ _ | with_reducible exact Nat.le_refl _ | with_reducible refine Below.setCell ?_ ?_ _ | with_reducible refine Below.alloc ?_ ?_ _ | with_reducible apply Below.drew | with_reducible apply below_drewN | omega | (simp; done) | (simp; omega)))

end Go.Proofs.Ytgkbbcoagnilgaa
