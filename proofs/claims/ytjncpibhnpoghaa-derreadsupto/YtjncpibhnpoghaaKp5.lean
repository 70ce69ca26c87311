import Derived.Test.YtjncpibhnpoghaaKg
namespace Go.Proofs.Ytjncpibhnpoghaa
open Go.RowKit

theorem fulls_mem (p : Int) : ∀ (xs : List X) (i : Nat) (y : X), y ∈ fulls p i xs → ∃ x ∈ xs, xD y = xD x
  | [], _, y, h => by cases h
  | x :: r, i, y, h => by
    rcases List.mem_cons.1 h with rfl | h
    · exact ⟨x, List.mem_cons_self .., by simp [xD, xFul]⟩
    · obtain ⟨z, hz, e⟩ := fulls_mem p r (i + 1) y h
      exact ⟨z, List.mem_cons_of_mem _ hz, e⟩

theorem xCs_at1' (xs ys : List X) (x : X) : (xCs (xs ++ x :: ys))[xs.length * 3 + 1]? = some (xD x) := by
  rw [xCs_append, List.getElem?_append_right (by rw [xCs_length]; omega), xCs_length, Nat.add_sub_cancel_left]
  rfl

theorem GS.start {base : Nat} {xs ys : List X} {p : Int} {w ws : World} {lv : Value} (h : Lst base ws lv ys) (hf : Fr xs w ws) (ho : ∀ y ∈ ys, ∃ x ∈ xs, xD y = xD x) : GS base xs ys p w ws ws lv (.slice none 0 0) [] :=
  ⟨h, World.ownsRow_nil _ _ _ _, fun g hg => by simp [Value.ownBlock] at hg, fun j hj => by simp at hj, fun j hj => by simp at hj, fun j hj => by simp at hj, fun x hx g hg => ((h.dat x hx).lt g hg).2, fun g hg => (h.own.lt g hg).2, Nat.le_refl _, hf, ho, hf.size⟩
theorem fulls_full (p : Int) : ∀ (xs : List X) (i k : Nat) (hk : k < (fulls p i xs).length), (fulls p i xs)[k].e.data = List.replicate (fulls p i xs)[k].e.data.length (UInt8.ofNat (mkV (i + k) p))
  | [], _, _, hk => by simp [fulls] at hk
  | x :: r, i, 0, _ => by simp [fulls, xFul]
  | x :: r, i, k + 1, hk => by
    have := fulls_full p r (i + 1) k (by simpa [fulls] using hk)
    simp only [fulls, List.getElem_cons_succ]
    rw [show i + (k + 1) = i + 1 + k by omega]
    exact this
theorem split_at (ys : List X) (i : Nat) (hi : i < ys.length) : ∃ pre y post, ys = pre ++ y :: post ∧ pre.length = i ∧ ys[i] = y :=
  ⟨ys.take i, ys[i], ys.drop (i + 1), by rw [← List.drop_eq_getElem_cons hi, List.take_append_drop], by rw [List.length_take]; omega, rfl⟩

set_option maxRecDepth 100000 in
set_option maxHeartbeats 8000000 in
theorem keeps_any (base : Nat) (w : World) (lv : Value) (xs : List X) (p : Int) (hL : Lst base w lv xs) (hp : p = 0 ∨ p = 1 ∨ p = 2) (hn : xs.length ≤ 65536) (hd : ∀ x ∈ xs, x.e.data.length ≤ 65536) :
    Calls Try.prog 24 #[lv, .int .i64 p] w fun e w' => e = .returned (.bool true) ∧ Lst base w' lv (fulls p 0 xs) ∧ Fr xs w w' := by
  obtain ⟨ao, cap, hlv⟩ : ∃ ao cap, lv = .slice ao xs.length cap := own_slice hL.own
  subst hlv
  have HM : Hid (∀ i : Nat, i ≤ 100000 → ∀ w, Calls Try.prog 40 #[.int .i64 (i : Int), .int .i64 p] w fun e w' => e = .returned (.int .u8 (mkV i p : Nat)) ∧ w' = w) := fun i hi w => mark_any i p hi hp w
  have HO : Hid (∀ i : Nat, i ≤ 100000 → ∀ w, Calls Try.prog 41 #[.int .i64 (i : Int), .int .i64 p] w fun e w' => e = .returned (.int .u8 (moV i p : Nat)) ∧ w' = w) := fun i hi w => more_any i p hi hp w
  have Hd : Hid (∀ x ∈ xs, x.e.data.length ≤ 65536) := hd
  have H0 : Hid (Lst base w (.slice ao xs.length cap) (half p xs 0 0) ∧ Fr xs w w) := ⟨by rw [half_zero, List.take_zero, List.drop_zero]; exact hL, Fr.refl _ _⟩
  clear hL hd hp
  go_enter Try.func24, Try.ntmps24
  go_wp2
  go_loopw [5] (fun s5 wr => ∃ i : Nat, s5 = .int .i64 (i : Int) ∧ i ≤ xs.length ∧ Hid (Lst base wr (.slice ao xs.length cap) (half p xs i 0) ∧ Fr xs w wr)) (fun s _ => xs.length - (intOf s).toNat)
  case atStart => exact ⟨0, rfl, Nat.zero_le _, H0⟩
  case round =>
    obtain ⟨i, rfl, hi, HL⟩ := hrel
    by_cases hlt : i < xs.length
    · have hdi := Hd.out xs[i] (List.getElem_mem hlt)
      go_wp2
      go_loopw [6] (fun s6 wq => ∃ k : Nat, s6 = .int .i64 (k : Int) ∧ k ≤ xs[i].e.data.length ∧ Hid (Lst base wq (.slice ao xs.length cap) (half p xs i k) ∧ Fr xs w wq)) (fun s _ => xs[i].e.data.length - (intOf s).toNat)
      case atStart => exact ⟨0, rfl, Nat.zero_le _, HL⟩
      case round =>
        obtain ⟨k, rfl, hk, HK⟩ := hrel
        have hLL := HK.out.1
        rw [half_at p xs i k hlt] at hLL
        have hln : (fulls p 0 (xs.take i)).length = i := by rw [fulls_length, List.length_take]; omega
        have hl2 : (fulls p 0 (xs.take i) ++ xFul xs[i] k (mkV i p) :: xs.drop (i + 1)).length = xs.length := by
          rw [List.length_append, hln, List.length_cons, List.length_drop]; omega
        have hown := hLL.own
        rw [hl2] at hown
        obtain ⟨gl, cl, hao, hcl1, hcl2⟩ := own_some hown (by omega)
        simp only [Value.slice.injEq] at hao
        obtain ⟨rfl, he9, rfl⟩ := hao
        clear he9
        have hxd : xD (xFul xs[i] k (mkV i p)) = .slice xs[i].a xs[i].e.data.length xs[i].c := by
          show Value.slice _ (xFul xs[i] k (mkV i p)).e.data.length _ = _
          rw [xFul_length _ _ _ hk]; rfl
        have c1 : wr.cell? ⟨gl, i * 3 + 1, none⟩ = some (.slice xs[i].a xs[i].e.data.length xs[i].c) := by
          rw [hown.cellAt _ (by omega), ← hxd]
          have := xCs_at1' (fulls p 0 (xs.take i)) (xs.drop (i + 1)) (xFul xs[i] k (mkV i p))
          rw [hln] at this
          exact this
        have hiI : (i : Int) < (xs.length : Int) := by omega
        by_cases hkl : k < xs[i].e.data.length
        · have hdat := hLL.dat (xFul xs[i] k (mkV i p)) (List.mem_append.2 (.inr (List.mem_cons_self ..)))
          rw [hxd, xFul_length _ _ _ hk] at hdat
          obtain ⟨gd, cd, had, hcd1, hcd2⟩ := own_some hdat (by omega)
          rw [had] at c1 hxd hdat
          have fd := hdat.frozenAt k
          obtain ⟨y, cy⟩ : ∃ y, wr.cell? ⟨gd, k, none⟩ = some y := by
            rw [hdat.cellAt k (by omega)]
            exact ⟨_, List.getElem?_eq_getElem (by rw [List.length_map, xFul_length _ _ _ hk]; omega)⟩
          have HW : Hid (Lst base ((wr.drewN 1).setCell ⟨gd, k, none⟩ (.int .u8 ((mkV i p : Nat) : Int))) (.slice (some ⟨gl, 0, none⟩) xs.length cap) (half p xs i (k + 1)) ∧ Fr xs w ((wr.drewN 1).setCell ⟨gd, k, none⟩ (.int .u8 ((mkV i p : Nat) : Int)))) := by
            have h1 := (hLL.drewN 1).write k (UInt8.ofNat (mkV i p)) (g := gd) (by rw [hxd]; rfl)
            rw [xFul_step _ _ _ hkl, ← half_at p xs i (k + 1) hlt] at h1
            have e1 : B (UInt8.ofNat (mkV i p)) = .int .u8 ((mkV i p : Nat) : Int) := by unfold B; rw [u8_ofNat _ (mkV_lt i p)]
            rw [e1] at h1
            refine ⟨h1, (HK.out.2.drewN 1).set (x := xs[i]) (List.getElem_mem hlt) ?_ _ _⟩
            show (Value.slice xs[i].a xs[i].e.data.length xs[i].c).ownBlock = _
            rw [had]; rfl
          have hMi : ∀ w, Calls Try.prog 40 #[.int .i64 (i : Int), .int .i64 p] w fun e w' => e = .returned (.int .u8 (mkV i p : Nat)) ∧ w' = w := HM.out i (by omega)
          have HMi : Hid (∀ w, Calls Try.prog 40 #[.int .i64 (i : Int), .int .i64 p] w fun e w' => e = .returned (.int .u8 (mkV i p : Nat)) ∧ w' = w) := hMi
          clear hMi hxd hdat had hown hl2 hln hLL HK
          generalize mkV i p = mv at *
          generalize xs[i].e.data.length = dl at *
          go_wp2
          refine wp_region_tail 10 (by kernel_rfl) (by kernel_rfl) ?_
          simp only [List.take_succ_cons, List.take_zero, List.drop_succ_cons, List.drop_zero]
          repeat (first | go_big_quiet_skip | (go_big_quiet_want; go_big_quiet_op; go_big_quiet_on) | (go_big_quiet_want; go_big_quiet_op; refine ⟨_, HMi.out _, ?_⟩; go_big_quiet_on))
          refine wpQuiet_nil ?_
          go_wp2
          go_roundw
          case rel => exact ⟨k + 1, by go_num, by omega, HW⟩
          case measure => simp [intOf]; omega
        · have hke : k = xs[i].e.data.length := by omega
          have HN : Hid (Lst base wr (.slice (some ⟨gl, 0, none⟩) xs.length cap) (half p xs (i + 1) 0) ∧ Fr xs w wr) := by
            rw [← half_next p xs i hlt, ← hke]; exact HK
          clear hxd hown hl2 hln hLL HK hke
          generalize xs[i].e.data.length = dl at *
          go_wp2
          go_roundw
          case rel => exact ⟨i + 1, by go_num, by omega, HN⟩
          case measure => simp [intOf]; omega
    · obtain rfl : i = xs.length := by omega
      obtain ⟨ys, hys⟩ : ∃ ys, fulls p 0 xs = ys := ⟨_, rfl⟩
      have hL0 := HL.out.1
      rw [half_all, hys] at hL0
      have HG0 : Hid (GS base xs ys p w wr wr (.slice ao xs.length cap) (.slice none 0 0) []) := GS.start hL0 HL.out.2 (fun y hy => fulls_mem p xs 0 y (by rw [hys]; exact hy))
      have Hyl : Hid (ys.length = xs.length) := by show _ = _; rw [← hys, fulls_length]
      have Hfull : Hid (∀ k, (hk : k < ys.length) → ys[k].e.data = List.replicate ys[k].e.data.length (UInt8.ofNat (mkV k p))) := fun k hk => by
        subst hys
        have := fulls_full p xs 0 k hk
        rwa [Nat.zero_add] at this
      have Hdy : Hid (∀ y ∈ ys, y.e.data.length ≤ 65536) := fun y hy => by
        obtain ⟨x, hx, e⟩ := fulls_mem p xs 0 y (by rw [hys]; exact hy)
        have := Hd.out x hx
        simp only [xD, Value.slice.injEq] at e
        omega
      have Hys : Hid (fulls p 0 xs = ys) := hys
      clear hL0 HL hys hi hlt H0 Hd
      obtain ⟨ws, hws⟩ : ∃ ws, ws = wr := ⟨_, rfl⟩
      rw [← hws] at HG0 ⊢
      clear hws
      obtain ⟨N, hN⟩ : ∃ N, N = xs.length := ⟨_, rfl⟩
      rw [← hN] at HG0 Hyl hn ⊢
      have HN : Hid (N = xs.length) := hN
      clear hN
      go_wp2
      go_loopw [7, 8] (fun s7 s8 wq => ∃ (i : Nat) (gs : List Value) (aG : Option Addr) (cG : Nat), s8 = .int .i64 (i : Int) ∧ i ≤ N ∧ s7 = .slice aG i cG ∧ Hid (gs.length = i ∧ GS base xs ys p w ws wq (.slice ao N cap) s7 gs)) (fun _ s _ => N - (intOf s).toNat)
      case atStart => exact ⟨0, [], none, 0, rfl, Nat.zero_le _, rfl, rfl, HG0⟩
      case round =>
        clear HG0
        obtain ⟨i, gs, aG, cG, rfl, hi, rfl, HGi⟩ := hrel
        by_cases hlt : i < N
        · obtain ⟨pre, y, post, hys, hpl, hyi⟩ := split_at ys i (by rw [Hyl.out]; exact hlt)
          have hfull : y.e.data = List.replicate y.e.data.length (UInt8.ofNat (mkV pre.length p)) := by
            have := Hfull.out i (by rw [Hyl.out]; exact hlt)
            rw [hyi] at this
            rw [hpl]
            exact this
          have hGi := HGi.out.2
          rw [hys] at hGi
          have HLG0 : Hid (LG base xs pre post y p w ws wr (.slice ao N cap) (.slice aG i cG) gs (xD y) 0) := LG.start hGi (by rw [HGi.out.1, hpl]) hfull
          have hown := hGi.lst.own
          have hl2 : (pre ++ y :: post).length = N := by rw [← hys]; exact Hyl.out
          rw [hl2] at hown
          obtain ⟨gl, cl, hao, hcl1, hcl2⟩ := own_some hown (by omega)
          simp only [Value.slice.injEq] at hao
          obtain ⟨rfl, he9, rfl⟩ := hao
          clear he9
          have c1 : wr.cell? ⟨gl, i * 3 + 1, none⟩ = some (.slice y.a y.e.data.length y.c) := by
            rw [hown.cellAt _ (by omega)]
            have := xCs_at1' pre post y
            rw [hpl] at this
            exact this
          have hdl : y.e.data.length ≤ 65536 := Hdy.out y (by rw [hys]; exact List.mem_append.2 (.inr (List.mem_cons_self ..)))
          have Hpl : Hid (pre.length = i ∧ ys = pre ++ y :: post) := ⟨hpl, hys⟩
          have hiI : (i : Int) < (N : Int) := by omega
          obtain ⟨dl, hdl2⟩ : ∃ dl, y.e.data.length = dl := ⟨_, rfl⟩
          have Hdl : Hid (y.e.data.length = dl) := hdl2
          rw [hdl2] at c1 hdl
          have HLG1 : Hid (LG base xs pre post y p w ws wr (.slice (some ⟨gl, 0, none⟩) N cap) (.slice aG i cG) gs (.slice y.a dl y.c) 0) := by
            have := HLG0.out
            unfold xD at this
            rw [hdl2] at this
            exact this
          have HOi : Hid (∀ w, Calls Try.prog 41 #[.int .i64 (i : Int), .int .i64 p] w fun e w' => e = .returned (.int .u8 (moV i p : Nat)) ∧ w' = w) := HO.out i (by omega)
          clear hfull hGi HLG0 hown hl2 hys hpl hyi HGi hdl2
          go_wp2
          go_loopw [9, 10] (fun s9 s10 wz => ∃ (j : Nat) (aL : Option Addr) (cL : Nat), s10 = .int .i64 (j : Int) ∧ j ≤ 90 ∧ s9 = .slice aL (dl + j) cL ∧ Hid (LG base xs pre post y p w ws wz (.slice (some ⟨gl, 0, none⟩) N cap) (.slice aG i cG) gs s9 j)) (fun _ s _ => 90 - (intOf s).toNat)
          case atStart => exact ⟨0, _, _, rfl, by omega, rfl, HLG1⟩
          case round =>
            clear HLG1
            obtain ⟨j, aL, cL, rfl, hj, rfl, HLj⟩ := hrel
            by_cases hjl : j < 90
            · obtain ⟨v', w', hrun, hL'⟩ := HLj.out.step (by rw [Hdl.out]; omega)
              rw [Hpl.out.1] at hrun
              obtain ⟨a', c', ev⟩ : ∃ a c, v' = .slice a (dl + (j + 1)) c := by
                obtain ⟨a, c, e⟩ := own_slice hL'.own
                rw [Hdl.out] at e
                exact ⟨a, c, e⟩
              subst ev
              have HLn : Hid (LG base xs pre post y p w ws w' (.slice (some ⟨gl, 0, none⟩) N cap) (.slice aG i cG) gs (.slice a' (dl + (j + 1)) c') (j + 1)) := hL'
              have hMo := HOi.out wr
              clear hL' HLj
              go_wp2_with fail
              refine hMo.mono ?_
              rintro e w1 ⟨rfl, rfl⟩
              clear hMo
              go_wp2_with (at_builtin; refine Lib.wpList_append_run _ rfl _ _ 22 22 rfl _ _ rfl rfl _ _ hrun ?_)
              go_roundw
              case rel => exact ⟨j + 1, a', c', by go_num, by omega, rfl, HLn⟩
              case measure => simp [intOf]; omega
            · obtain rfl : j = 90 := by omega
              obtain ⟨v', w', hrun, hG'⟩ := HLj.out.done (by rw [HLj.out.len, Hpl.out.1]; omega)
              obtain ⟨a', c', ev⟩ : ∃ a c, v' = .slice a (i + 1) c := by
                obtain ⟨a, c, e⟩ := own_slice hG'.own
                rw [List.length_append, HLj.out.len, Hpl.out.1] at e
                exact ⟨a, c, e⟩
              subst ev
              have HGn : Hid ((gs ++ [Value.slice aL (dl + 90) cL]).length = i + 1 ∧ GS base xs ys p w ws w' (.slice (some ⟨gl, 0, none⟩) N cap) (.slice a' (i + 1) c') (gs ++ [Value.slice aL (dl + 90) cL])) := ⟨by rw [List.length_append, HLj.out.len, Hpl.out.1]; rfl, by rw [Hpl.out.2]; exact hG'⟩
              clear hG' HLj hjl hj
              go_wp2_with (at_builtin; refine Lib.wpList_append_run _ rfl _ _ 64 64 rfl _ _ rfl rfl _ _ hrun ?_)
              go_roundw
              case rel => exact ⟨i + 1, _, a', c', by go_num, by omega, rfl, HGn⟩
              case measure => simp [intOf]; omega
        · obtain rfl : i = N := by omega
          obtain ⟨wf, hwf⟩ : ∃ wf, wf = wr := ⟨_, rfl⟩
          rw [← hwf] at HGi ⊢
          clear hwf hlt hi
          have HZ : Hid (Lst base wf (.slice ao i cap) ys ∧ Fr xs w wf) := ⟨HGi.out.2.lst, HGi.out.2.fr⟩
          go_wp2
          go_loopw [11] (fun s11 wq => ∃ t q : Nat, s11 = .int .i64 (t : Int) ∧ t ≤ i ∧ wq = wf.drewN q) (fun s _ => i - (intOf s).toNat)
          case atStart => exact ⟨0, 0, rfl, Nat.zero_le _, rfl⟩
          case round =>
            obtain ⟨t, q, rfl, ht, rfl⟩ := hrel
            by_cases htl : t < i
            · obtain ⟨pre, y, post, hys, hpl, hyi⟩ := split_at ys t (by rw [Hyl.out]; exact htl)
              have hG := HGi.out.2
              have hfull : y.e.data = List.replicate y.e.data.length (UInt8.ofNat (mkV t p)) := by
                have := Hfull.out t (by rw [Hyl.out]; exact htl)
                rw [hyi] at this
                exact this
              have hown := hG.lst.own
              rw [Hyl.out] at hown
              obtain ⟨gl, cl, hao, hcl1, hcl2⟩ := own_some hown (by omega)
              simp only [Value.slice.injEq] at hao
              obtain ⟨rfl, he9, rfl⟩ := hao
              clear he9
              have c1 : wf.cell? ⟨gl, t * 3 + 1, none⟩ = some (.slice y.a y.e.data.length y.c) := by
                rw [hown.cellAt _ (by omega)]
                have := xCs_at1' pre post y
                rw [hpl, ← hys] at this
                exact this
              have hym : y ∈ ys := by rw [hys]; exact List.mem_append.2 (.inr (List.mem_cons_self ..))
              have hdl : y.e.data.length ≤ 65536 := Hdy.out y hym
              have hgsl : gs.length = i := HGi.out.1
              have htg : t < gs.length := by omega
              have hrow := hG.rows t htg
              have hget : ys.getD t ⟨⟨0, [], 0⟩, none, 0⟩ = y := by rw [List.getD_eq_getElem?_getD, List.getElem?_eq_getElem (by rw [Hyl.out]; exact htl), hyi]; rfl
              rw [hget] at hrow
              obtain ⟨gr, cr, hgr, hcr1, hcr2⟩ := own_some hrow (by omega)
              have hGown := hG.own
              rw [hgsl] at hGown
              obtain ⟨gg, cg, hgg, hcg1, hcg2⟩ := own_some hGown (by omega)
              simp only [Value.slice.injEq] at hgg
              obtain ⟨rfl, he8, rfl⟩ := hgg
              clear he8
              have cG1 : wf.cell? ⟨gg, t, none⟩ = some (.slice (some ⟨gr, 0, none⟩) (y.e.data.length + 90) cr) := by
                rw [hGown.cellAt _ (by omega), List.getElem?_eq_getElem htg, hgr]
              rw [hgr] at hrow
              have Hmore : Hid (∀ k, y.e.data.length ≤ k → k < y.e.data.length + 90 → wf.cell? ⟨gr, k, none⟩ = some (.int .u8 ((moV t p : Nat) : Int))) := fun k h1 h2 => by
                rw [hrow.cellAt k (by omega), List.getElem?_map]
                unfold grw
                rw [List.getElem?_append_right (by simpa using h1), List.getElem?_replicate, if_pos (by simp; omega)]
                show some (B (UInt8.ofNat (moV t p))) = _
                unfold B
                rw [u8_ofNat _ (moV_lt t p)]
              have hdat := hG.lst.dat y hym
              have Hmark : Hid (∀ k, k < y.e.data.length → ∃ gd, y.a = some ⟨gd, 0, none⟩ ∧ wf.cell? ⟨gd, k, none⟩ = some (.int .u8 ((mkV t p : Nat) : Int))) := fun k h1 => by
                obtain ⟨gd, cd, had, _, _⟩ := own_some hdat (by omega)
                have had2 := had
                simp only [xD, Value.slice.injEq] at had2
                refine ⟨gd, had2.1, ?_⟩
                rw [had] at hdat
                rw [hdat.cellAt k (by omega), List.getElem?_map, hfull, List.getElem?_replicate, if_pos h1]
                show some (B (UInt8.ofNat (mkV t p))) = _
                unfold B
                rw [u8_ofNat _ (mkV_lt t p)]
              have HMi : Hid (∀ w, Calls Try.prog 40 #[.int .i64 (t : Int), .int .i64 p] w fun e w' => e = .returned (.int .u8 (mkV t p : Nat)) ∧ w' = w) := HM.out t (by omega)
              have HOi : Hid (∀ w, Calls Try.prog 41 #[.int .i64 (t : Int), .int .i64 p] w fun e w' => e = .returned (.int .u8 (moV t p : Nat)) ∧ w' = w) := HO.out t (by omega)
              have htI : (t : Int) < (i : Int) := by omega
              clear hG hfull hown hrow hget hGown hdat hgr hys hpl hyi hgsl htg hym
              generalize mkV t p = mv at *
              generalize moV t p = mo at *
              obtain ⟨dl, hdl2⟩ : ∃ dl, y.e.data.length = dl := ⟨_, rfl⟩
              rw [hdl2] at c1 hdl cG1 Hmore Hmark hcr1
              obtain ⟨ya, hya⟩ : ∃ ya, y.a = ya := ⟨_, rfl⟩
              rw [hya] at c1 Hmark
              clear hdl2 hya
              have dmv : ((mv : Int) != (mv : Int)) = false := by simp
              have dmo : ((mo : Int) != (mo : Int)) = false := by simp
              go_wp2
              go_loopw [12] (fun s12 wq => ∃ k q : Nat, s12 = .int .i64 (k : Int) ∧ k ≤ dl ∧ wq = wf.drewN q) (fun s _ => dl - (intOf s).toNat)
              case atStart => exact ⟨0, q, rfl, Nat.zero_le _, rfl⟩
              case round =>
                obtain ⟨k, q2, rfl, hk, rfl⟩ := hrel
                by_cases hkl : k < dl
                · obtain ⟨gd, rfl, ck⟩ := Hmark.out k hkl
                  go_wp2
                  go_quiet (first | (refine (HMi.out _).mono ?_; rintro e w' ⟨rfl, rfl⟩; exact ⟨rfl, _, rfl⟩))
                  go_wp2
                  go_roundw
                  case rel => exact ⟨k + 1, _, by go_num, by omega, rfl⟩
                  case measure => simp [intOf]; omega
                · obtain rfl : k = dl := by omega
                  clear hk hkl
                  go_wp2
                  go_loopw [13] (fun s13 wq => ∃ k2 q : Nat, s13 = .int .i64 (k2 : Int) ∧ k ≤ k2 ∧ k2 ≤ k + 90 ∧ wq = wf.drewN q) (fun s _ => k + 90 - (intOf s).toNat)
                  case atStart => exact ⟨k, q2, rfl, Nat.le_refl _, by omega, rfl⟩
                  case round =>
                    obtain ⟨k2, q3, rfl, hk2, hk3, rfl⟩ := hrel
                    by_cases hkl : k2 < k + 90
                    · have ck := Hmore.out k2 hk2 hkl
                      go_wp2
                      go_quiet (first | (refine (HOi.out _).mono ?_; rintro e w' ⟨rfl, rfl⟩; exact ⟨rfl, _, rfl⟩))
                      go_wp2
                      go_roundw
                      case rel => exact ⟨k2 + 1, _, by go_num, by omega, by omega, rfl⟩
                      case measure => simp [intOf]; omega
                    · go_wp2
                      go_roundw
                      case rel => exact ⟨t + 1, _, by go_num, by omega, rfl⟩
                      case measure => simp [intOf]; omega
            · go_wp2
              go_ret
              refine ⟨rfl, ?_, HZ.out.2.drewN q⟩
              rw [Hys.out, ← HN.out]
              exact HZ.out.1.drewN q

end Go.Proofs.Ytjncpibhnpoghaa
