import Derived.Test.YtgkbbcoagnilgabDoorSumM
import Derived.Test.YtgkbbcoagnilgabDoorExact
import Derived.OwnWalk
import Derived.Laws.OwnMore
namespace Go.Proofs.YtgkbbcoagnilgabDoor
open Go.RowKit

theorem ba_cat (a b : List UInt8) : (ByteArray.mk a.toArray) ++ (ByteArray.mk b.toArray) = ByteArray.mk (a ++ b).toArray := by
  apply ByteArray.ext
  simp

theorem owns_base0 {w : World} {base e n : Nat} {v : Value} {xs : List Value} (h : w.ownsRow base e 1 v n xs) : w.ownsRow 0 e 1 v n xs := by
  refine ⟨h.1, ?_⟩
  rcases h.2 with hn | ⟨g, cap, cur, e1, hg, rest⟩
  · exact .inl hn
  · exact .inr ⟨g, cap, cur, e1, Nat.zero_le _, rest⟩

/-- What sum answers. -/
def SumA (g f g' f' G F : List UInt8) : Prop := allD G ∧ allD F ∧ G ≠ [] ∧ badW G = false ∧ F.length = max f.length f'.length ∧ G.length ≤ g.length + g'.length + 1 ∧
  num (G ++ F) = num (g ++ f) * 10 ^ (max f.length f'.length - f.length) + num (g' ++ f') * 10 ^ (max f.length f'.length - f'.length)

theorem out_conv (w : World) (bO k m cap n : Nat) (ds : List UInt8) (h : w.ownsRow 0 5 1 (.slice (some ⟨bO, 0, none⟩) n n) n (ds.map Bv)) (hl : ds.length = n) (hk : k + m ≤ n) :
    (convert 53 9 (.slice (some ⟨bO, k, none⟩) m cap)).run Tryd.prog w = .ok (.string ⟨((ds.drop k).take m).toArray⟩) w := by
  have e : m = ((ds.drop k).take m).length := by rw [List.length_take, List.length_drop]; omega
  have hc : ∀ j (hj : j < ((ds.drop k).take m).length), w.cell? ((⟨bO, k, none⟩ : Addr).add j) = some (Bv ((ds.drop k).take m)[j]) := fun j hj => by
    have ea : (⟨bO, k, none⟩ : Addr).add j = ⟨bO, k + j, none⟩ := by
      unfold Addr.add
      by_cases h0 : j = 0
      · subst h0; rfl
      · simp [h0]
    rw [ea, h.cellAt (k + j) (by omega), List.getElem?_map, List.getElem_take, List.getElem_drop, List.getElem?_eq_getElem (by omega)]
    rfl
  have := run_convert_bytes_back w 53 9 5 ⟨bO, k, none⟩ cap ((ds.drop k).take m) Tryd.underlying53 Tryd.underlying5 Tryd.underlying9 hc
  rw [← e] at this
  exact this

/-- A text's length. -/
def strLen : Value → Nat
  | .string b => b.size
  | _ => 0
theorem strLen_mk (l : List UInt8) : strLen (.string ⟨l.toArray⟩) = l.length := by
  show l.toArray.size = _
  simp

set_option maxRecDepth 10000 in
set_option maxHeartbeats 4000000 in
theorem sum_any (g f g' f' : List UInt8) (w : World) (hg : allD g) (hf : allD f) (hg' : allD g') (hf' : allD f') (h0 : g ≠ []) (hl1 : g.length + f.length ≤ 4000000) (hl2 : g'.length + f'.length ≤ 4000000) :
    Calls Tryd.prog 11 #[.string ⟨(txt false g f).toArray⟩, .string ⟨(txt false g' f').toArray⟩] w fun e w' => ∃ G F, e = .returned (.string ⟨(txt false G F).toArray⟩) ∧ SumA g f g' f' G F ∧ Below w.heap.size w w' := by
  obtain ⟨i0, hi, hz0, hz1, hz2⟩ := info_parts Try.infoB
  have t1 := txt_len false g f
  have t2 := txt_len false g' f'
  have HC1 : Hid (∀ w, Calls Tryd.prog 22 #[.string ⟨(txt false g f).toArray⟩] w fun e w' => e = .returned (.tuple #[.string ⟨g.toArray⟩, .string ⟨f.toArray⟩]) ∧ ∃ q, w' = w.drewN q) := fun w => by
    have h := lcut_any (txt false g f) w (by omega)
    rw [dotA_txt g f hg, dotB_txt false g f hg] at h
    exact h
  have HC2 : Hid (∀ w, Calls Tryd.prog 22 #[.string ⟨(txt false g' f').toArray⟩] w fun e w' => e = .returned (.tuple #[.string ⟨g'.toArray⟩, .string ⟨f'.toArray⟩]) ∧ ∃ q, w' = w.drewN q) := fun w => by
    have h := lcut_any (txt false g' f') w (by omega)
    rw [dotA_txt g' f' hg', dotB_txt false g' f' hg'] at h
    exact h
  generalize txt false g f = TA at HC1 t1
  generalize txt false g' f' = TB at HC2 t2
  have Hg : Hid (allD g) := hg
  have Hf : Hid (allD f) := hf
  have Hg' : Hid (allD g') := hg'
  have Hf' : Hid (allD f') := hf'
  have hg1 : 1 ≤ g.length := List.length_pos_iff.2 h0
  clear hg hf hg' hf' h0 t1 t2
  go_enter Tryd.func11, Tryd.ntmps11
  go_wp2_with fail
  refine (HC1.out _).mono ?_
  rintro e w1 ⟨rfl, q1, rfl⟩
  go_wp2_with fail
  refine (HC2.out _).mono ?_
  rintro e w2 ⟨rfl, q2, rfl⟩
  go_wp2
  go_loop [6] (fun s6 => ∃ j : Nat, Value.string ⟨(f ++ List.replicate j 48).toArray⟩ = s6 ∧ f.length + j ≤ max f.length f'.length) (fun s => f'.length - strLen s)
  case atStart => exact ⟨0, by simp, by omega⟩
  case round =>
    obtain ⟨j, hv, hj⟩ := hrel
    have hv' := hv.symm
    clear hv
    subst hv'
    obtain ⟨U, hU⟩ : ∃ U, U = f ++ List.replicate j 48 := ⟨_, rfl⟩
    have hUl1 : U.length ≤ f.length + j := by rw [hU, List.length_append, List.length_replicate]; omega
    have hUl2 : f.length + j ≤ U.length := by rw [hU, List.length_append, List.length_replicate]; omega
    have HU : Hid (U = f ++ List.replicate j 48) := hU
    rw [← hU]
    clear hU
    by_cases hlt : U.length < f'.length
    · have hcat : (ByteArray.mk U.toArray) ++ (ByteArray.mk #[48]) = ByteArray.mk (f ++ List.replicate (j + 1) 48).toArray := by
        have := ba_cat U [48]
        rw [show (#[48] : Array UInt8) = [48].toArray from rfl, this, HU.out, List.append_assoc, ← List.replicate_succ']
      go_wp2
      go_round
      case rel => exact ⟨j + 1, by rw [← hcat], by omega⟩
      case measure => simp [strLen_mk]; omega
    · go_wp2
      go_loop [8] (fun s8 => ∃ j' : Nat, Value.string ⟨(f' ++ List.replicate j' 48).toArray⟩ = s8 ∧ f'.length + j' ≤ U.length) (fun s => U.length - strLen s)
      case atStart => exact ⟨0, by simp, by omega⟩
      case round =>
        obtain ⟨j', hv, hj'⟩ := hrel
        have hv' := hv.symm
        clear hv
        subst hv'
        obtain ⟨V, hV⟩ : ∃ V, V = f' ++ List.replicate j' 48 := ⟨_, rfl⟩
        have hVl1 : V.length ≤ f'.length + j' := by rw [hV, List.length_append, List.length_replicate]; omega
        have hVl2 : f'.length + j' ≤ V.length := by rw [hV, List.length_append, List.length_replicate]; omega
        have HV : Hid (V = f' ++ List.replicate j' 48) := hV
        rw [← hV]
        clear hV
        by_cases hlt2 : V.length < U.length
        · have hcat : (ByteArray.mk V.toArray) ++ (ByteArray.mk #[48]) = ByteArray.mk (f' ++ List.replicate (j' + 1) 48).toArray := by
            have := ba_cat V [48]
            rw [show (#[48] : Array UInt8) = [48].toArray from rfl, this, HV.out, List.append_assoc, ← List.replicate_succ']
          go_wp2
          go_round
          case rel => exact ⟨j' + 1, by rw [← hcat], by omega⟩
          case measure => simp [strLen_mk]; omega
        · go_wp2
          go_loop [5] (fun s5 => ∃ i : Nat, Value.string ⟨(List.replicate i 48 ++ g).toArray⟩ = s5 ∧ i + g.length ≤ max g.length g'.length) (fun s => g'.length - strLen s)
          case atStart => exact ⟨0, by simp, by omega⟩
          case round =>
            obtain ⟨i, hv, hi'⟩ := hrel
            have hv' := hv.symm
            clear hv
            subst hv'
            obtain ⟨X, hX⟩ : ∃ X, X = List.replicate i 48 ++ g := ⟨_, rfl⟩
            have hXl1 : X.length ≤ i + g.length := by rw [hX, List.length_append, List.length_replicate]; omega
            have hXl2 : i + g.length ≤ X.length := by rw [hX, List.length_append, List.length_replicate]; omega
            have HX : Hid (X = List.replicate i 48 ++ g) := hX
            rw [← hX]
            clear hX
            by_cases hlt3 : X.length < g'.length
            · have hcat : (ByteArray.mk #[48]) ++ (ByteArray.mk X.toArray) = ByteArray.mk (List.replicate (i + 1) 48 ++ g).toArray := by
                have := ba_cat [48] X
                rw [show (#[48] : Array UInt8) = [48].toArray from rfl, this, HX.out, List.replicate_succ]
                rfl
              go_wp2
              go_round
              case rel => exact ⟨i + 1, by rw [← hcat], by omega⟩
              case measure => simp [strLen_mk]; omega
            · go_wp2
              go_loop [7] (fun s7 => ∃ i' : Nat, Value.string ⟨(List.replicate i' 48 ++ g').toArray⟩ = s7 ∧ i' + g'.length ≤ X.length) (fun s => X.length - strLen s)
              case atStart => exact ⟨0, by simp, by omega⟩
              case round =>
                obtain ⟨i', hv, hi2⟩ := hrel
                have hv' := hv.symm
                clear hv
                subst hv'
                obtain ⟨Y, hY⟩ : ∃ Y, Y = List.replicate i' 48 ++ g' := ⟨_, rfl⟩
                have hYl1 : Y.length ≤ i' + g'.length := by rw [hY, List.length_append, List.length_replicate]; omega
                have hYl2 : i' + g'.length ≤ Y.length := by rw [hY, List.length_append, List.length_replicate]; omega
                have HY : Hid (Y = List.replicate i' 48 ++ g') := hY
                rw [← hY]
                clear hY
                by_cases hlt4 : Y.length < X.length
                · have hcat : (ByteArray.mk #[48]) ++ (ByteArray.mk Y.toArray) = ByteArray.mk (List.replicate (i' + 1) 48 ++ g').toArray := by
                    have := ba_cat [48] Y
                    rw [show (#[48] : Array UInt8) = [48].toArray from rfl, this, HY.out, List.replicate_succ]
                    rfl
                  go_wp2
                  go_round
                  case rel => exact ⟨i' + 1, by rw [← hcat], by omega⟩
                  case measure => simp [strLen_mk]; omega
                · obtain ⟨L, hL⟩ : ∃ L, L = X ++ U := ⟨_, rfl⟩
                  obtain ⟨M, hM⟩ : ∃ M, M = Y ++ V := ⟨_, rfl⟩
                  have hc1 : (ByteArray.mk X.toArray) ++ (ByteArray.mk U.toArray) = ByteArray.mk L.toArray := by rw [hL]; exact ba_cat X U
                  have hc2 : (ByteArray.mk Y.toArray) ++ (ByteArray.mk V.toArray) = ByteArray.mk M.toArray := by rw [hM]; exact ba_cat Y V
                  have hLl1 : L.length ≤ X.length + U.length := by rw [hL, List.length_append]; omega
                  have hLl2 : X.length + U.length ≤ L.length := by rw [hL, List.length_append]; omega
                  have hMl1 : M.length ≤ L.length := by rw [hM, List.length_append]; omega
                  have hMl2 : L.length ≤ M.length := by rw [hM, List.length_append]; omega
                  have HL : Hid (L = X ++ U) := hL
                  have HM : Hid (M = Y ++ V) := hM
                  have HLd : Hid (allD L) := by
                    show allD L
                    rw [hL, HX.out, HU.out]
                    intro c hc
                    simp only [List.mem_append, List.mem_replicate] at hc
                    rcases hc with (⟨_, rfl⟩ | h) | (h | ⟨_, rfl⟩)
                    · decide
                    · exact Hg.out c h
                    · exact Hf.out c h
                    · decide
                  have HMd : Hid (allD M) := by
                    show allD M
                    rw [hM, HY.out, HV.out]
                    intro c hc
                    simp only [List.mem_append, List.mem_replicate] at hc
                    rcases hc with (⟨_, rfl⟩ | h) | (h | ⟨_, rfl⟩)
                    · decide
                    · exact Hg'.out c h
                    · exact Hf'.out c h
                    · decide
                  clear hL hM
                  go_wp2_with (at_make; refine wpList_make_full _ rfl _ _ 53 rfl w.heap.size 5 i0 (.int .u8 0) 1 Tryd.underlying53 hi hz0 hz1 _ _ _ _ L.length rfl rfl (by simp) (by simp) ?b2 ?b3 (Nat.le_refl _) ?_)
                  case b2 => first | omega | (rw [hz2]; omega)
                  case b3 => unfold maxLen; omega
                  intro w0 hown0 hgrow0
                  have hmc : (madeCells #[Value.int .u8 0] L.length).toList = (List.replicate L.length (0 : UInt8)).map Bv := by
                    rw [toList_madeCells_one, List.map_replicate]
                    rfl
                  rw [hmc] at hown0
                  have HO0 : Hid (w0.ownsRow w.heap.size 5 1 (.slice (some ⟨w.heap.size, 0, none⟩) L.length L.length) L.length ((List.replicate L.length (0 : UInt8)).map Bv)) := hown0
                  have HB0 : Hid (Below w.heap.size w w0) := (below_drewN (Below.refl _ w) _).grown hgrow0 (Nat.le_refl _) (fun k h => by cases h)
                  clear hmc hown0 hgrow0
                  go_wp2
                  obtain ⟨n, hn⟩ : ∃ n, n = L.length := ⟨_, rfl⟩
                  have hn1 : n ≤ L.length := by omega
                  have hn2 : L.length ≤ n := by omega
                  rw [← hn] at HO0 ⊢
                  have Hn : Hid (n = L.length) := hn
                  clear hn
                  go_loopw [13, 12] (fun s13 s12 wr => ∃ (m c : Nat) (ds : List UInt8), Value.int .i64 ((n : Int) - 1 - m) = s13 ∧ Value.int .i64 (c : Int) = s12 ∧ m ≤ n ∧ c ≤ 1 ∧ Hid (SumI L M ds n m c) ∧ Hid (wr.ownsRow w.heap.size 5 1 (.slice (some ⟨w.heap.size, 0, none⟩) n n) n (ds.map Bv)) ∧ Hid (Below w.heap.size w wr)) (fun s _ _ => (intOf s + 1).toNat)
                  case atStart => exact ⟨0, 0, List.replicate n 0, by go_num, rfl, Nat.zero_le _, by decide, SumI.start L M n, HO0, HB0⟩
                  case round =>
                    obtain ⟨m, c, ds, hv13, hv12, hm, hc1', HI, HO, HB⟩ := hrel
                    have hv13' := hv13.symm
                    have hv12' := hv12.symm
                    clear hv13 hv12
                    subst hv13' hv12'
                    by_cases hgo : m < n
                    · obtain ⟨p, hp⟩ : ∃ p, p = n - 1 - m := ⟨_, rfl⟩
                      have hpi : (n : Int) - 1 - m = (p : Int) := by omega
                      have hpL : p < L.length := by omega
                      have hpM : p < M.length := by omega
                      obtain ⟨cl, hcl⟩ : ∃ cl, L[p] = cl := ⟨_, rfl⟩
                      obtain ⟨cm, hcm⟩ : ∃ cm, M[p] = cm := ⟨_, rfl⟩
                      have gl : (ByteArray.mk L.toArray)[p]'(by show p < L.toArray.size; simpa using hpL) = cl := by rw [← hcl]; rfl
                      have gm : (ByteArray.mk M.toArray)[p]'(by show p < M.toArray.size; simpa using hpM) = cm := by rw [← hcm]; rfl
                      have bl := isD_bd (HLd.out cl (by rw [← hcl]; exact List.getElem_mem hpL))
                      have bm := isD_bd (HMd.out cm (by rw [← hcm]; exact List.getElem_mem hpM))
                      have el : dz L p = cl.toNat - 48 := by unfold dz; rw [if_pos hpL, List.getD_eq_getElem?_getD, List.getElem?_eq_getElem hpL, Option.getD_some, hcl]
                      have em : dz M p = cm.toNat - 48 := by unfold dz; rw [if_pos hpM, List.getD_eq_getElem?_getD, List.getElem?_eq_getElem hpM, Option.getD_some, hcm]
                      obtain ⟨a, hal⟩ : ∃ a, a = cl.toNat - 48 := ⟨_, rfl⟩
                      obtain ⟨b, hbm⟩ : ∃ b, b = cm.toNat - 48 := ⟨_, rfl⟩
                      have wa : IntKind.u8.wrap ((cl.toNat : Int) - 48) = (a : Int) := by rw [IntKind.wrap_u8]; omega
                      have wa2 : (cl.toNat : Int) - 48 = (a : Int) := by omega
                      have wb : IntKind.u8.wrap ((cm.toNat : Int) - 48) = (b : Int) := by rw [IntKind.wrap_u8]; omega
                      have wb2 : (cm.toNat : Int) - 48 = (b : Int) := by omega
                      obtain ⟨S, hS⟩ : ∃ S, S = c + a + b := ⟨_, rfl⟩
                      have hSi : (c : Int) + (a : Int) + (b : Int) = (S : Int) := by omega
                      have hSb : S ≤ 19 := by omega
                      obtain ⟨r, hr⟩ : ∃ r, r = S % 10 := ⟨_, rfl⟩
                      obtain ⟨qq, hqq⟩ : ∃ qq, qq = S / 10 := ⟨_, rfl⟩
                      have hr9 : r ≤ 9 := by omega
                      have hq1 : qq ≤ 1 := by omega
                      have k1 : Int.tmod (S : Int) 10 = (r : Int) := by rw [Int.tmod_eq_emod_of_nonneg (by omega)]; omega
                      have k2 : (S : Int) % 10 = (r : Int) := by omega
                      have k3 : Int.tdiv (S : Int) 10 = (qq : Int) := by rw [Int.tdiv_eq_ediv_of_nonneg (by omega)]; omega
                      have k4 : (S : Int) / 10 = (qq : Int) := by omega
                      have hdl := HI.out.len
                      have hpd : p < ds.length := by omega
                      have HI2 : Hid (SumI L M (ds.set p (UInt8.ofNat (48 + r))) n (m + 1) qq) := by
                        have h := HI.out.step (a := a) (b := b) hgo (by rw [← hp, el]; exact hal) (by rw [← hp, em]; exact hbm) (by omega) (by omega)
                        rw [← hp, ← hS, ← hr, ← hqq] at h
                        exact h
                      have gc : wr.cell? ⟨w.heap.size, p, none⟩ = some (.int .u8 (ds[p].toNat : Int)) := by
                        rw [HO.out.cellAt p (by omega), List.getElem?_map, List.getElem?_eq_getElem hpd]
                        rfl
                      have gf : wr.frozen? ⟨w.heap.size, p, none⟩ = false := HO.out.frozenAt p
                      generalize ds[p] = old at gc
                      have hof := ofNat_toNat r (by omega)
                      have HO2 : Hid (∀ q, ((wr.drewN q).setCell ⟨w.heap.size, p, none⟩ (.int .u8 (48 + (r : Int)))).ownsRow w.heap.size 5 1 (.slice (some ⟨w.heap.size, 0, none⟩) n n) n ((ds.set p (UInt8.ofNat (48 + r))).map Bv)) := by
                        intro q
                        have hq0 : (wr.drewN q).ownsRow w.heap.size 5 1 (.slice (some ⟨w.heap.size, 0, none⟩) n n) n (ds.map Bv) := HO.out
                        have h := (hq0.stored p (.int .u8 (48 + (r : Int)))).1
                        have e2 : (ds.map Bv).set p (.int .u8 (48 + (r : Int))) = (ds.set p (UInt8.ofNat (48 + r))).map Bv := by
                          rw [List.map_set]
                          congr 1
                          unfold Bv
                          rw [hof]
                          rfl
                        rw [e2] at h
                        exact h
                      have HB2 : Hid (∀ q, Below w.heap.size w ((wr.drewN q).setCell ⟨w.heap.size, p, none⟩ (.int .u8 (48 + (r : Int))))) := fun q => (below_drewN HB.out q).setCell (Nat.le_refl _) _
                      have hpm1 : p + m + 1 ≤ n := by omega
                      have hpm2 : n ≤ p + m + 1 := by omega
                      clear hcl hcm el em hal hbm hS hr hqq hdl hp hof
                      rw [hpi]
                      clear hpi
                      go_wp2
                      go_quiet (fail)
                      go_wp2
                      exact ⟨⟨m + 1, qq, _, by congr 1; omega, rfl, by omega, hq1, HI2, HO2.out _, HB2.out _⟩, by first | (simp [intOf]; done) | (simp [intOf]; omega)⟩
                    · have hmn : m = n := by omega
                      have HI3 : Hid (SumI L M ds n n c) := by rw [← hmn] ; exact hmn ▸ HI.out
                      clear hmn HI
                      obtain ⟨GS, hGS⟩ : ∃ GS, GS = ds.take X.length := ⟨_, rfl⟩
                      obtain ⟨FS, hFS⟩ : ∃ FS, FS = ds.drop X.length := ⟨_, rfl⟩
                      have hdl := HI3.out.len
                      have hXn : X.length ≤ n := by omega
                      have hGl1 : GS.length ≤ X.length := by rw [hGS, List.length_take]; omega
                      have hGl2 : X.length ≤ GS.length := by rw [hGS, List.length_take]; omega
                      have hFl1 : FS.length ≤ U.length := by rw [hFS, List.length_drop]; omega
                      have hFl2 : U.length ≤ FS.length := by rw [hFS, List.length_drop]; omega
                      have hown0 : wr.ownsRow 0 5 1 (.slice (some ⟨w.heap.size, 0, none⟩) n n) n (ds.map Bv) := owns_base0 HO.out
                      have hcv1 := out_conv wr w.heap.size 0 X.length n n ds hown0 hdl (by omega)
                      rw [List.drop_zero, ← hGS] at hcv1
                      have hcv2 := out_conv wr w.heap.size X.length (n - X.length) (n - X.length) n ds hown0 hdl (by omega)
                      rw [← hFS, List.take_of_length_le (by omega)] at hcv2
                      have hU1 : Hid (GS ++ FS = ds) := by show _ = _; rw [hGS, hFS]; exact List.take_append_drop _ _
                      have hsum := sum_num g f g' f' i j i' j' n c ds (by
                        have h := HI3.out
                        rw [HL.out, HM.out, HX.out, HY.out, HU.out, HV.out] at h
                        exact h) (by rw [← HX.out, ← HU.out, ← HL.out]; exact Hn.out.symm) (by rw [← HY.out, ← HV.out, ← HM.out]; omega)
                      have Hsum : Hid (num ds + c * 10 ^ n = num (g ++ f) * 10 ^ j + num (g' ++ f') * 10 ^ j' ∧ allD ds) := hsum
                      obtain ⟨S0, hS0⟩ : ∃ S0, S0 = if 0 < c then 49 :: GS else GS := ⟨_, rfl⟩
                      have HS0 : Hid (allD S0 ∧ S0 ≠ [] ∧ S0.length ≤ X.length + 1 ∧ num (S0 ++ FS) = num (g ++ f) * 10 ^ j + num (g' ++ f') * 10 ^ j') := by
                        have hdD : allD GS := fun x hx => Hsum.out.2 x (by rw [← hU1.out]; exact List.mem_append_left _ hx)
                        rw [hS0]
                        by_cases hc0 : 0 < c
                        · have hc11 : c = 1 := by omega
                          rw [if_pos hc0]
                          refine ⟨fun x hx => ?_, by simp, by simp; omega, ?_⟩
                          · rcases List.mem_cons.1 hx with h | h
                            · rw [h]; decide
                            · exact hdD x h
                          · rw [← Hsum.out.1, ← hU1.out, List.cons_append, hc11]
                            have e : num (49 :: (GS ++ FS)) = 1 * 10 ^ (GS ++ FS).length + num (GS ++ FS) := by
                              unfold num
                              rw [List.length_cons, dn_cons]
                              rfl
                            rw [e, hU1.out, hdl, Nat.add_comm]
                        · rw [if_neg hc0]
                          have hc00 : c = 0 := by omega
                          refine ⟨hdD, fun e => ?_, by omega, ?_⟩
                          · have e1 : GS.length = 0 := by rw [e]; rfl
                            omega
                          · rw [hU1.out, ← Hsum.out.1, hc00, Nat.zero_mul, Nat.add_zero]
                      have HFd : Hid (allD FS) := fun x hx => Hsum.out.2 x (by rw [← hU1.out]; exact List.mem_append_right _ hx)
                      have hcat1 : (ByteArray.mk #[49]) ++ (ByteArray.mk GS.toArray) = ByteArray.mk (49 :: GS).toArray := ba_cat [49] GS
                      have HS0e : Hid (S0 = if 0 < c then 49 :: GS else GS) := hS0
                      have HB3 : Hid (Below w.heap.size w wr) := HB
                      clear hGS hFS hdl hown0 hsum Hsum hS0 HI3 HO HB HO0 HB0
                      by_cases hc0 : 0 < c
                      · have e0 : Hid (S0 = 49 :: GS) := by show _ = _; rw [HS0e.out, if_pos hc0]
                        go_wp2
                        rw [← e0.out]
                        go_loop [14] (fun s14 => ∃ S : List UInt8, Value.string ⟨S.toArray⟩ = s14 ∧ Hid (tz S = tz S0) ∧ 1 ≤ S.length ∧ S.length ≤ S0.length) (fun s => strLen s)
                        case atStart => exact ⟨S0, rfl, rfl, List.length_pos_iff.2 HS0.out.2.1, Nat.le_refl _⟩
                        case round =>
                          obtain ⟨S, hv, HT, hS1, hS2⟩ := hrel
                          have hv' := hv.symm
                          clear hv
                          subst hv'
                          have hS3 := HS0.out.2.2.1
                          obtain ⟨a, t, hSt⟩ : ∃ a t, S = a :: t := by
                            cases S with
                            | nil => simp at hS1
                            | cons a t => exact ⟨a, t, rfl⟩
                          have gx : (ByteArray.mk S.toArray)[0]'(by show 0 < S.toArray.size; rw [List.size_toArray]; omega) = a := by subst hSt; rfl
                          have hsuf := suf1 S
                          have HSt : Hid (S = a :: t) := hSt
                          have htl1 : S.length ≤ t.length + 1 := by rw [hSt]; simp
                          have htl2 : t.length + 1 ≤ S.length := by rw [hSt]; simp
                          have hTt : S.tail = t := by rw [hSt]; rfl
                          rw [hTt] at hsuf
                          clear hSt hTt
                          by_cases hgo : 1 < S.length ∧ a = 48
                          · have hq : ((a.toNat : Int) == 48) = true := by rw [hgo.2]; rfl
                            have hq1 := hgo.1
                            have HT2 : Hid (tz t = tz S0) := by
                              show _ = _
                              rw [← HT.out, HSt.out]
                              exact (tz_step a t (fun e => by rw [e] at htl1; simp at htl1; omega) hgo.2).symm
                            clear hgo
                            go_wp2
                            go_round
                            case rel => exact ⟨t, rfl, HT2, by omega, by omega⟩
                            case measure => simp [strLen_mk]; omega
                          · have HG : Hid (S = tz S0) := by
                              show _ = _
                              rw [← HT.out]
                              refine (tz_keep S ?_).symm
                              rintro ⟨h1, h2⟩
                              apply hgo
                              refine ⟨h1, ?_⟩
                              rw [HSt.out] at h2
                              simpa using h2
                            have HA : Hid (SumA g f g' f' S FS) := by
                              obtain ⟨s1, s2, s3, s4⟩ := HS0.out
                              obtain ⟨z1, z2, z3, z4, z5⟩ := tz_good S0 s1 s2
                              have hj1 : max f.length f'.length - f.length = j := by omega
                              have hj2 : max f.length f'.length - f'.length = j' := by omega
                              refine ⟨by rw [HG.out]; exact z1, HFd.out, by rw [HG.out]; exact z2, by rw [HG.out]; exact z3, by omega, by omega, ?_⟩
                              rw [hj1, hj2, HG.out, z5, s4]
                            have hq : 1 < S.length → ((a.toNat : Int) == 48) = false := fun h => by
                              have : a.toNat ≠ 48 := fun e => hgo ⟨h, UInt8.toNat_inj.1 e⟩
                              simp; omega
                            clear hgo HT HG HS0
                            have hc46 : (ByteArray.mk S.toArray) ++ (ByteArray.mk #[46]) = ByteArray.mk (S ++ [46]).toArray := ba_cat S [46]
                            have hcF : (ByteArray.mk (S ++ [46]).toArray) ++ (ByteArray.mk FS.toArray) = ByteArray.mk (S ++ [46] ++ FS).toArray := ba_cat _ _
                            have hl46 : (S ++ [46]).length ≤ 8000010 := by rw [List.length_append]; simp; omega
                            have HE1 : Hid (0 < U.length → txt false S FS = S ++ [46] ++ FS) := fun h => by
                              have : FS ≠ [] := fun e => by (have e1 : FS.length = 0 := by rw [e]; rfl); omega
                              unfold txt
                              rw [if_neg (by decide), if_neg this]
                              simp
                            have HE2 : Hid (¬ 0 < U.length → txt false S FS = S) := fun h => by
                              have : FS = [] := List.eq_nil_of_length_eq_zero (by omega)
                              unfold txt
                              rw [if_neg (by decide), if_pos this]
                              simp
                            generalize S ++ [46] = S46 at hc46 hcF HE1 hl46
                            by_cases hS11 : 1 < S.length
                            · have hq2 := hq hS11
                              clear hq
                              by_cases hU0 : 0 < U.length
                              · have HE3 : Hid (txt false S FS = S46 ++ FS) := HE1.out hU0
                                go_wp2
                                go_ret
                                refine ⟨S, FS, ?_, HA.out, HB3.out⟩
                                rw [HE3.out]
                                rfl
                              · have HE3 : Hid (txt false S FS = S) := HE2.out hU0
                                go_wp2
                                go_ret
                                refine ⟨S, FS, ?_, HA.out, HB3.out⟩
                                rw [HE3.out]
                                rfl
                            · clear hq
                              by_cases hU0 : 0 < U.length
                              · have HE3 : Hid (txt false S FS = S46 ++ FS) := HE1.out hU0
                                go_wp2
                                go_ret
                                refine ⟨S, FS, ?_, HA.out, HB3.out⟩
                                rw [HE3.out]
                                rfl
                              · have HE3 : Hid (txt false S FS = S) := HE2.out hU0
                                go_wp2
                                go_ret
                                refine ⟨S, FS, ?_, HA.out, HB3.out⟩
                                rw [HE3.out]
                                rfl
                      · have e0 : Hid (S0 = GS) := by show _ = _; rw [HS0e.out, if_neg hc0]
                        go_wp2
                        rw [← e0.out]
                        go_loop [14] (fun s14 => ∃ S : List UInt8, Value.string ⟨S.toArray⟩ = s14 ∧ Hid (tz S = tz S0) ∧ 1 ≤ S.length ∧ S.length ≤ S0.length) (fun s => strLen s)
                        case atStart => exact ⟨S0, rfl, rfl, List.length_pos_iff.2 HS0.out.2.1, Nat.le_refl _⟩
                        case round =>
                          obtain ⟨S, hv, HT, hS1, hS2⟩ := hrel
                          have hv' := hv.symm
                          clear hv
                          subst hv'
                          have hS3 := HS0.out.2.2.1
                          obtain ⟨a, t, hSt⟩ : ∃ a t, S = a :: t := by
                            cases S with
                            | nil => simp at hS1
                            | cons a t => exact ⟨a, t, rfl⟩
                          have gx : (ByteArray.mk S.toArray)[0]'(by show 0 < S.toArray.size; rw [List.size_toArray]; omega) = a := by subst hSt; rfl
                          have hsuf := suf1 S
                          have HSt : Hid (S = a :: t) := hSt
                          have htl1 : S.length ≤ t.length + 1 := by rw [hSt]; simp
                          have htl2 : t.length + 1 ≤ S.length := by rw [hSt]; simp
                          have hTt : S.tail = t := by rw [hSt]; rfl
                          rw [hTt] at hsuf
                          clear hSt hTt
                          by_cases hgo : 1 < S.length ∧ a = 48
                          · have hq : ((a.toNat : Int) == 48) = true := by rw [hgo.2]; rfl
                            have hq1 := hgo.1
                            have HT2 : Hid (tz t = tz S0) := by
                              show _ = _
                              rw [← HT.out, HSt.out]
                              exact (tz_step a t (fun e => by rw [e] at htl1; simp at htl1; omega) hgo.2).symm
                            clear hgo
                            go_wp2
                            go_round
                            case rel => exact ⟨t, rfl, HT2, by omega, by omega⟩
                            case measure => simp [strLen_mk]; omega
                          · have HG : Hid (S = tz S0) := by
                              show _ = _
                              rw [← HT.out]
                              refine (tz_keep S ?_).symm
                              rintro ⟨h1, h2⟩
                              apply hgo
                              refine ⟨h1, ?_⟩
                              rw [HSt.out] at h2
                              simpa using h2
                            have HA : Hid (SumA g f g' f' S FS) := by
                              obtain ⟨s1, s2, s3, s4⟩ := HS0.out
                              obtain ⟨z1, z2, z3, z4, z5⟩ := tz_good S0 s1 s2
                              have hj1 : max f.length f'.length - f.length = j := by omega
                              have hj2 : max f.length f'.length - f'.length = j' := by omega
                              refine ⟨by rw [HG.out]; exact z1, HFd.out, by rw [HG.out]; exact z2, by rw [HG.out]; exact z3, by omega, by omega, ?_⟩
                              rw [hj1, hj2, HG.out, z5, s4]
                            have hq : 1 < S.length → ((a.toNat : Int) == 48) = false := fun h => by
                              have : a.toNat ≠ 48 := fun e => hgo ⟨h, UInt8.toNat_inj.1 e⟩
                              simp; omega
                            clear hgo HT HG HS0
                            have hc46 : (ByteArray.mk S.toArray) ++ (ByteArray.mk #[46]) = ByteArray.mk (S ++ [46]).toArray := ba_cat S [46]
                            have hcF : (ByteArray.mk (S ++ [46]).toArray) ++ (ByteArray.mk FS.toArray) = ByteArray.mk (S ++ [46] ++ FS).toArray := ba_cat _ _
                            have hl46 : (S ++ [46]).length ≤ 8000010 := by rw [List.length_append]; simp; omega
                            have HE1 : Hid (0 < U.length → txt false S FS = S ++ [46] ++ FS) := fun h => by
                              have : FS ≠ [] := fun e => by (have e1 : FS.length = 0 := by rw [e]; rfl); omega
                              unfold txt
                              rw [if_neg (by decide), if_neg this]
                              simp
                            have HE2 : Hid (¬ 0 < U.length → txt false S FS = S) := fun h => by
                              have : FS = [] := List.eq_nil_of_length_eq_zero (by omega)
                              unfold txt
                              rw [if_neg (by decide), if_pos this]
                              simp
                            generalize S ++ [46] = S46 at hc46 hcF HE1 hl46
                            by_cases hS11 : 1 < S.length
                            · have hq2 := hq hS11
                              clear hq
                              by_cases hU0 : 0 < U.length
                              · have HE3 : Hid (txt false S FS = S46 ++ FS) := HE1.out hU0
                                go_wp2
                                go_ret
                                refine ⟨S, FS, ?_, HA.out, HB3.out⟩
                                rw [HE3.out]
                                rfl
                              · have HE3 : Hid (txt false S FS = S) := HE2.out hU0
                                go_wp2
                                go_ret
                                refine ⟨S, FS, ?_, HA.out, HB3.out⟩
                                rw [HE3.out]
                                rfl
                            · clear hq
                              by_cases hU0 : 0 < U.length
                              · have HE3 : Hid (txt false S FS = S46 ++ FS) := HE1.out hU0
                                go_wp2
                                go_ret
                                refine ⟨S, FS, ?_, HA.out, HB3.out⟩
                                rw [HE3.out]
                                rfl
                              · have HE3 : Hid (txt false S FS = S) := HE2.out hU0
                                go_wp2
                                go_ret
                                refine ⟨S, FS, ?_, HA.out, HB3.out⟩
                                rw [HE3.out]
                                rfl

end Go.Proofs.YtgkbbcoagnilgabDoor
