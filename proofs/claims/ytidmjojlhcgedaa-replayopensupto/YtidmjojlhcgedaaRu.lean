import Derived.Test.YtidmjojlhcgedaaRt
import Derived.Deep.CutRange
namespace Go.Proofs.Ytidmjojlhcgedaa
open Go.RowKit Go.Maps
set_option maxRecDepth 100000

theorem own_nil {w : World} {B0 : Nat} {ao : Option Addr} {n c : Nat} {l : List UInt8} (h : Owb w B0 (.slice ao n c) l) : ao = none → c = 0 := by
  intro e
  subst e
  rcases h.2 with ⟨h0, _⟩ | ⟨g, cap, cur, e, _⟩
  · cases h0; rfl
  · cases e

theorem long_row {w : World} {B0 : Nat} {v : Value} {l : List UInt8} {n : Nat} (h : Owb w B0 v l) (hn : l.length = n) (h0 : 0 < n) : ∃ (g : Nat) (vs : List Value) (c : Nat), v = .slice (some ⟨g, 0, none⟩) n c ∧ n ≤ c ∧ Bl 5 w g vs ∧ vs.take n = l.map B ∧ B0 ≤ g := by
  subst hn
  rcases h.2 with ⟨_, h1⟩ | ⟨g, cap, cur, e, hg, hh, h1, h2, h3, h4⟩
  · omega
  · exact ⟨g, cur.toList, cap, e, h1, hh, by simpa using h4, hg⟩

theorem Owb.nb_rd {w : World} {base : Nat} {ao : Option Addr} {n c : Nat} {xs : List UInt8} (h : Owb w base (.slice ao n c) xs) : Rd w ao xs := by
  obtain ⟨a, c', e, _, hr⟩ := h.nb
  cases e
  exact hr

set_option maxHeartbeats 8000000 in
theorem whole_any (ao : Option Addr) (cap : Nat) (l : List UInt8) (aos : Option Addr) (cos : Nat) (os : List Stp) (cut at_ : Int) (by_ : UInt8) (ab : Option Addr) (cb : Nat) (bh : List UInt8) (w : World)
    (hr0 : Rd w ao l) (hcap : l.length ≤ cap) (hnil : ao = none → cap = 0) (hl : l.length ≤ 10000000) (hro0 : RdO w aos os) (hol : os.length ≤ 10000000) (hos0 : ∀ s ∈ os, StpOk s) (hrb0 : Rd w ab bh) (hbl : bh.length ≤ 10000000) (hcut : I64 cut) (hat : I64 at_) :
    Calls Try.prog 4 #[.slice ao l.length cap, .slice aos os.length cos, .int .i64 cut, .int .i64 at_, .int .u8 (by_.toNat : Int), .slice ab bh.length cb] w fun e w' => e = .returned (.bool true) ∧ Below w.heap.size w w' := by
  have hr : Hid (Rd w ao l) := hr0
  have hro : Hid (RdO w aos os) := hro0
  have hos : Hid (∀ s ∈ os, StpOk s) := hos0
  have hrb : Hid (Rd w ab bh) := hrb0
  clear hr0 hro0 hos0 hrb0
  go_enter Try.func4, Try.ntmps4
  go_wp2_with fail
  refine (started_any w).mono ?_
  rintro e w1 ⟨rfl, hbel1⟩
  have hb1 : Hid (Below w.heap.size w w1) := hbel1
  clear hbel1
  go_wp2_with fail
  refine (opened_any ao cap l w1 (hr.out.below hb1.out (Nat.le_refl _)) hcap hnil (by omega)).mono ?_
  rintro e w2 ⟨bb, mb, rfl, hB2', hbb', hmb', hbel2⟩
  have hbb : w.heap.size ≤ bb := Nat.le_trans hb1.out.size hbb'
  have hmb : w.heap.size ≤ mb := Nat.le_trans hb1.out.size hmb'
  have hb2 : Hid (Below w.heap.size w w2) := hb1.out.trans (hbel2.mono hb1.out.size)
  have hB2 : Hid (Bok w2 bb mb (openB l)) := hB2'
  clear hB2' hbb' hmb' hbel2
  have hfr : ∀ k, (k = bb ∨ k = mb) → w.heap.size ≤ k := by rintro k (rfl | rfl) <;> assumption
  go_wp2_with fail
  go_loopw [14] (fun s wr => ∃ k : Nat, s = .int .i64 (k : Int) ∧ k ≤ os.length ∧ Bok wr bb mb (runB (openB l) (os.take k)) ∧ Below w.heap.size w wr) (fun s _ => os.length - (intOf s).toNat)
  case atStart => exact ⟨0, rfl, Nat.zero_le _, hB2.out, hb2.out⟩
  case round =>
    obtain ⟨k, rfl, hk, hBk, hbk⟩ := hrel
    have hBr : Hid (Bok wr bb mb (runB (openB l) (os.take k))) := hBk
    have hbr : Hid (Below w.heap.size w wr) := hbk
    clear hBk hbk
    by_cases hlt : k < os.length
    · obtain ⟨g, off, hao, _, o0, o1, o2, o3⟩ := (hro.out.below hbr.out (Nat.le_refl _)).at' hlt
      subst hao
      have hst := stp_at hos.out hlt
      have hnx : Hid (runB (openB l) (os.take (k + 1)) = if (os.getD k stp0).k = 1 then (takeF (runB (openB l) (os.take k)) (os.getD k stp0).j (os.getD k stp0).u (os.getD k stp0).n).2 else runB (openB l) (os.take k)) := runB_snoc _ _ hlt
      have hok : Hid (BkOk (runB (openB l) (os.take k))) := runB_ok (openB_ok l) (fun s hs => hos.out s (List.mem_of_mem_take hs))
      generalize runB (openB l) (os.take k) = bk at hBr hnx hok
      generalize os.getD k stp0 = s at o0 o1 o2 o3 hst hnx
      obtain ⟨sk, sj, su, sn⟩ := s
      simp only at o0 o1 o2 o3 hnx
      have hsj : Hid (StpOk ⟨sk, sj, su, sn⟩) := hst
      clear hst
      by_cases hk1 : sk = 1
      · subst hk1
        go_wp2_with fail
        refine wp_region_tail 16 (by kernel_rfl) (by kernel_rfl) ?_
        simp only [List.take_succ_cons, List.take_zero, List.drop_succ_cons, List.drop_zero]
        repeat (first | go_big_quiet_skip | (go_big_quiet_want; go_big_quiet_op; go_big_quiet_on))
        refine wpQuiet_nil ?_
        go_wp2_with fail
        refine (take_any bb mb bk sj su sn (wr.drewN 1) ⟨hBr.out.cells, hBr.out.own, hBr.out.ne⟩ hok.out hsj.out.u).mono ?_
        rintro e w8 ⟨rfl, hB8, hC8⟩
        have hb8 : Hid (Below w.heap.size w w8) := chf_new (below_drewN hbr.out 1) hC8 hfr
        have hB8h : Hid (Bok w8 bb mb (takeF bk sj su sn).2) := hB8
        clear hB8 hC8
        go_wp2_with fail
        go_roundw
        case rel => exact ⟨k + 1, by go_num, by omega, by rw [hnx.out]; simpa using hB8h.out, hb8.out⟩
        case measure => simp [intOf]; omega
      · have qk : (sk == 1) = false := by simpa using hk1
        go_wp2_with fail
        go_roundw
        case rel => exact ⟨k + 1, by go_num, by omega, by rw [hnx.out, if_neg hk1]; exact hBr.out, hbr.out⟩
        case measure => simp [intOf]; omega
    · obtain rfl : k = os.length := by omega
      rw [List.take_length] at hBr
      have hOK : Hid (BkOk (runB (openB l) os)) := runB_ok (openB_ok l) hos.out
      generalize runB (openB l) os = b at hBr hOK
      go_wp2_with fail
      refine (image_any bb mb b wr hBr.out hOK.out).mono ?_
      rintro e w4 ⟨v4, rfl, hob⟩
      obtain ⟨ai, ci, rfl, hci, hri⟩ := hob.own.nb
      have hop := open_img hOK.out
      have hil := imgF_length hOK.out
      have hi8 : 8 ≤ (imgF b).length := by simp [imgF, tobe_length]
      have hb4 : Hid (Below w.heap.size w w4) := hbr.out.trans (hob.bel.mono hbr.out.size)
      have hRi : Hid (Rd w4 ai (imgF b)) := hri
      have hOi : Hid (OBb wr.heap.size wr w4 (.slice ai (imgF b).length ci) (imgF b)) := hob
      have hni : ai = none → ci = 0 := own_nil hob.own
      clear hri hob hBr
      generalize imgF b = im at *
      obtain ⟨n, hn⟩ : ∃ n, im.length = n := ⟨_, rfl⟩
      have hnh : Hid (im.length = n) := hn
      rw [hn]
      rw [hn] at hil hci hi8
      have hBkH : Hid (openR im = .ok b) := hop
      clear hop
      go_upto_region 10 with fail
      obtain ⟨q, hq⟩ : ∃ q : Bool, (decide (0 ≤ cut) && decide (cut < (n : Int))) = q := ⟨_, rfl⟩
      go_cut [70] from 63 to 70 (fun s wx => s = .bool q ∧ wx = w4)
      case first =>
        by_cases h0 : 0 ≤ cut
        · have q0 : decide (cut ≥ 0) = true := by simpa using h0
          go_wp2_with fail
          go_meet
          refine ⟨?_, rfl⟩
          rw [← hq]
          simp [h0]
        · have q0 : decide (cut ≥ 0) = false := by simpa using h0
          go_wp2_with fail
          go_meet
          refine ⟨?_, rfl⟩
          rw [← hq]
          simp
          omega
      case rest =>
        obtain ⟨rfl, rfl⟩ := hcut
        rename World => wA
        have hqh : Hid ((decide (0 ≤ cut) && decide (cut < (n : Int))) = q) := hq
        clear hq
        go_upto_if 70 with fail
        go_cut [16, 17, 18] from 71 to 93 (fun _ _ _ wx => Hid (Below wA.heap.size wA wx))
        case first =>
          cases q
          · go_wp2_with fail
            go_meet
            exact Below.refl _ _
          · have hc : 0 ≤ cut ∧ cut < (n : Int) := by simpa using hqh.out
            obtain ⟨m, rfl⟩ : ∃ m : Nat, cut = (m : Int) := ⟨cut.toNat, by omega⟩
            have hm : m < n := by omega
            have htl : (im.take m).length = m := by rw [List.length_take]; have := hnh.out; omega
            have OC := open_any ai ci (im.take m) wA (Rd.take hRi.out m) (by omega) hni (by omega)
            rw [htl] at OC
            cases ho : openR (im.take m) with
            | ok b' => exact absurd ho (open_shorter hBkH.out (by have := hnh.out; omega) b')
            | error k =>
              have hk := open_place ho
              rw [htl] at hk
              rw [ho] at OC
              clear ho htl hc hqh
              go_wp2_with fail
              refine OC.mono ?_
              rintro e w5 ⟨rfl, hb5⟩
              have hb5h : Hid (Below wA.heap.size wA w5) := hb5
              clear hb5 OC
              go_wp2_with fail
              go_meet
              exact hb5h
        case rest =>
          have hB5 : Hid (Below wA.heap.size wA wc) := hcut
          clear hqh hcut
          rename World => wC
          have hbC : Hid (Below w.heap.size w wC) := hb4.out.trans (hB5.out.mono hb4.out.size)
          have hRC : Hid (Rd wC ai im) := hRi.out.below hB5.out (Nat.le_refl _)
          have hRbC : Hid (Rd wC ab bh) := hrb.out.below hbC.out (Nat.le_refl _)
          clear hOi hRi
          go_wp2_with fail
          go_loopw [19, 20] (fun s19 s wx => ∃ k : Nat, s = .int .i64 (k : Int) ∧ k ≤ n ∧ OBb wC.heap.size wC wx s19 (im.take k)) (fun _ s _ => n - (intOf s).toNat)
          case atStart => exact ⟨0, rfl, Nat.zero_le _, OBb.nil wC⟩
          case round =>
            obtain ⟨k, rfl, hk, hob⟩ := hrel
            have hobh : Hid (OBb wC.heap.size wC wr _ (im.take k)) := hob
            clear hob
            by_cases hlt : k < n
            · have hltL : k < im.length := by have := hnh.out; omega
              obtain ⟨gi, oi, hai, _, hce⟩ := (hRC.out.below hobh.out.bel (Nat.le_refl _)).cell (by omega)
              subst hai
              have c1 := hce k hltL
              clear hce
              have htk : Hid (im.take (k + 1) = im.take k ++ [im.getD k 0]) := by show _ = _; rw [List.take_succ_eq_append_getElem hltL, getD_eq _ _ hltL]
              have hkl : (im.take k).length ≤ 1000000000 := by rw [List.length_take]; omega
              generalize im.getD k 0 = z at c1 htk
              go_wp2_with (at_builtin; refine append_oneb rfl _ _ rfl wC.heap.size _ (im.take k) z rfl hobh.out rfl hkl (Nat.le_refl _) ?_; intro v' w' hob')
              go_roundw
              case rel => exact ⟨k + 1, by go_num, by omega, by rw [htk.out]; exact hob'⟩
              case measure => simp [intOf]; omega
            · obtain rfl : k = n := by omega
              have hfull : Hid (OBb wC.heap.size wC wr u19 im) := by
                have := hobh.out
                rw [List.take_of_length_le (by have := hnh.out; omega)] at this
                exact this
              clear hobh
              have hbR : Hid (Below w.heap.size w wr) := hbC.out.trans (hfull.out.bel.mono hbC.out.size)
              have hLg : Hid (∃ (g : Nat) (vs : List Value) (c : Nat), u19 = .slice (some ⟨g, 0, none⟩) k c ∧ k ≤ c ∧ Bl 5 wr g vs ∧ vs.take k = im.map B ∧ wC.heap.size ≤ g) := long_row hfull.out.own hnh.out (by omega)
              obtain ⟨g9, vs9, c9, e9, hc9, hB9, hv9, hg9⟩ := hLg.out
              subst e9
              by_cases hb0 : 0 < bh.length
              · have q0 : decide ((bh.length : Int) > 0) = true := by simpa using hb0
                have hfo := hfull.out
                have hbne : bh ≠ [] := by intro e; rw [e] at hb0; simp at hb0
                go_wp2_with fail
                go_loopw [19, 21] (fun s19 s wx => ∃ j : Nat, s = .int .i64 (j : Int) ∧ j ≤ bh.length ∧ OBb wC.heap.size wC wx s19 (im ++ bh.take j)) (fun _ s _ => bh.length - (intOf s).toNat)
                case atStart => exact ⟨0, rfl, Nat.zero_le _, by simpa using hfo⟩
                case round =>
                  obtain ⟨j, rfl, hj, hob⟩ := hrel
                  have hobh : Hid (OBb wC.heap.size wC wr _ (im ++ bh.take j)) := hob
                  clear hob
                  by_cases hlt2 : j < bh.length
                  · obtain ⟨gi, oi, hai, _, hce⟩ := (hRbC.out.below hobh.out.bel (Nat.le_refl _)).cell (by omega)
                    subst hai
                    have c1 := hce j hlt2
                    clear hce
                    have htk : Hid (im ++ bh.take (j + 1) = im ++ bh.take j ++ [bh.getD j 0]) := by show _ = _; rw [List.take_succ_eq_append_getElem hlt2, getD_eq _ _ hlt2, List.append_assoc]
                    have hkl : (im ++ bh.take j).length ≤ 1000000000 := by rw [List.length_append, List.length_take]; have := hnh.out; omega
                    generalize bh.getD j 0 = z at c1 htk
                    go_wp2_with (at_builtin; refine append_oneb rfl _ _ rfl wC.heap.size _ (im ++ bh.take j) z rfl hobh.out rfl hkl (Nat.le_refl _) ?_; intro v' w' hob')
                    go_roundw
                    case rel => exact ⟨j + 1, by go_num, by omega, by rw [htk.out]; exact hob'⟩
                    case measure => simp [intOf]; omega
                  · obtain rfl : j = bh.length := by omega
                    have hful2 : Hid (OBb wC.heap.size wC wr u19 (im ++ bh)) := by
                      have := hobh.out
                      rw [List.take_length] at this
                      exact this
                    clear hobh
                    obtain ⟨g8, vs8, c8, e8, hc8, hB8, hv8, hg8⟩ := long_row (n := k + bh.length) hful2.out.own (by rw [List.length_append, hnh.out]) (by omega)
                    subst e8
                    have hll : (im ++ bh).length = k + bh.length := by rw [List.length_append, hnh.out]
                    have OC := open_any (some ⟨g8, 0, none⟩) c8 (im ++ bh) wr hful2.out.own.nb_rd (by rw [hll]; exact hc8) (fun e => by cases e) (by rw [hll]; omega)
                    rw [open_longer hBkH.out hbne, hll, hnh.out] at OC
                    have hbX : Hid (Below w.heap.size w wr) := hbC.out.trans (hful2.out.bel.mono hbC.out.size)
                    have hv8h : Hid (vs8.take k = im.map B) := by
                      show _ = _
                      have h1 := congrArg (List.take k) hv8
                      rw [List.take_take, Nat.min_eq_left (by omega), List.map_append, List.take_append_of_le_length (by rw [List.length_map, hnh.out]; exact Nat.le_refl _), List.take_of_length_le (l := im.map B) (by rw [List.length_map, hnh.out]; exact Nat.le_refl _)] at h1
                      exact h1
                    have hB8h : Hid (Bl 5 wr g8 vs8) := hB8
                    clear hB8 hv8 hful2 hfo
                    go_wp2_with fail
                    refine OC.mono ?_
                    rintro e w7 ⟨rfl, hb7⟩
                    have hb7h : Hid (Below wr.heap.size wr w7) := hb7
                    clear hb7 OC
                    have hbF : Hid (Below w.heap.size w w7) := hbX.out.trans (hb7h.out.mono hbX.out.size)
                    have hB7h : Hid (Bl 5 w7 g8 vs8) := hB8h.out.below hb7h.out hB8h.out.lt
                    have hv7h : Hid (vs8.take k = im.map B) := hv8h.out
                    clear hbX hB8h hv8h hb7h hLg hB9 hv9 hg9 hfull
                    by_cases ha : at_ < 0
                    · have q0 : decide (at_ < 0) = true := by simpa using ha
                      go_wp2_with fail
                      go_ret
                      exact ⟨rfl, hbF.out⟩
                    obtain ⟨p, rfl⟩ : ∃ p : Nat, at_ = (p : Int) := ⟨at_.toNat, by omega⟩
                    by_cases hp : k ≤ p
                    · have q1 : decide ((p : Int) ≥ (k : Int)) = true := by simpa using hp
                      go_wp2_with fail
                      go_ret
                      exact ⟨rfl, hbF.out⟩
                    by_cases hby : by_ = 0
                    · subst hby
                      go_wp2_with fail
                      go_ret
                      exact ⟨rfl, hbF.out⟩
                    have hpL : p < im.length := by rw [hnh.out]; omega
                    have hpv : p < vs8.length := by
                      have h1 := congrArg List.length hv7h.out
                      rw [List.length_take, List.length_map, hnh.out] at h1
                      omega
                    have hvp : vs8[p] = B im[p] := by
                      have h1 : (vs8.take k)[p]? = (im.map B)[p]? := by rw [hv7h.out]
                      rw [List.getElem?_take, if_pos (by omega), List.getElem?_eq_getElem hpv, List.getElem?_map, List.getElem?_eq_getElem hpL] at h1
                      simpa using h1
                    have c7c := hB7h.out.cell p hpv
                    rw [hvp] at c7c
                    have f7 := hB7h.out.frozen p
                    have hy : Hid (im[p] + by_ ≠ im[p]) := by
                      intro e
                      exact hby (by simpa using e)
                    have hop := hBkH.out
                    have hsp : im = im.take p ++ im[p] :: im.drop (p + 1) := by rw [← List.drop_eq_getElem_cons hpL, List.take_append_drop]
                    have hsp2 : im.set p (im[p] + by_) = im.take p ++ (im[p] + by_) :: im.drop (p + 1) := by rw [List.set_eq_take_append_cons_drop, if_pos hpL]
                    have hno : ∀ b', openR (im.set p (im[p] + by_)) ≠ .ok b' := by
                      rw [hsp2]
                      refine open_other (x := im[p]) (b := b) ?_ (fun e => hy.out e.symm)
                      rw [← hsp]; exact hop
                    have hadd : (((im[p] + by_).toNat : Nat) : Int) = ((im[p].toNat : Int) + (by_.toNat : Int)) % 256 := by
                      rw [UInt8.toNat_add]; omega
                    have hset : Hid (∀ wz, wz = w7.setCell ⟨g8, p, none⟩ (.int .u8 ((im[p].toNat + by_.toNat : Int) % 256)) → Rd wz (some ⟨g8, 0, none⟩) (im.set p (im[p] + by_)) ∧ Below w.heap.size w wz) := by
                      intro wz hz
                      subst hz
                      have hS := hB7h.out.set p (.int .u8 ((im[p].toNat + by_.toNat : Int) % 256))
                      refine ⟨.inr ⟨g8, 0, rfl, hS.lt, fun j hj => ?_⟩, hbF.out.setCell (by show w.heap.size ≤ g8; have := hbC.out.size; have := hg8; omega) _⟩
                      rw [List.length_set] at hj
                      have hjv : j < vs8.length := by
                        have h1 := congrArg List.length hv7h.out
                        rw [List.length_take, List.length_map] at h1
                        omega
                      rw [Nat.zero_add, hS.cell j (by rw [List.length_set]; exact hjv)]
                      rw [getD_eq _ _ (by rw [List.length_set]; exact hj)]
                      by_cases hjp : j = p
                      · subst hjp
                        rw [List.getElem_set_self, List.getElem_set_self]
                        unfold B
                        rw [hadd]
                      · rw [List.getElem_set_ne (fun e => hjp e.symm), List.getElem_set_ne (fun e => hjp e.symm)]
                        have h1 : (vs8.take k)[j]? = (im.map B)[j]? := by rw [hv7h.out]
                        rw [List.getElem?_take, if_pos (by rw [← hnh.out]; exact hj), List.getElem?_eq_getElem hjv, List.getElem?_map, List.getElem?_eq_getElem hj] at h1
                        simp at h1
                        rw [h1]
                    have hsl : (im.set p (im[p] + by_)).length = k := by rw [List.length_set, hnh.out]
                    have hnoH : Hid (∀ b', openR (im.set p (im[p] + by_)) ≠ .ok b') := hno
                    have hslH : Hid ((im.set p (im[p] + by_)).length = k) := hsl
                    have hby2 : ¬ by_.toNat = 0 := fun e => hby (UInt8.toNat_inj.1 e)
                    have hby3 : ((by_.toNat : Int) == 0) = false := by simp; omega
                    unfold B at c7c
                    clear hsp hsp2 hno hvp hadd hsl hop
                    generalize im.set p (im[p] + by_) = im2 at hset hnoH hslH
                    generalize im[p] = x at c7c hset hy
                    clear hy hby
                    go_wp2_with fail
                    obtain ⟨hRz, hbz⟩ := hset.out _ rfl
                    have OC := open_any (some ⟨g8, 0, none⟩) c8 im2 _ hRz (by rw [hslH.out]; omega) (fun e => by cases e) (by rw [hslH.out]; omega)
                    cases ho : openR im2 with
                    | ok b' => exact absurd ho (hnoH.out b')
                    | error j =>
                      rw [ho, hslH.out] at OC
                      have hbzh := hbz
                      clear ho hset hRz hbz
                      refine OC.mono ?_
                      rintro e w8 ⟨rfl, hb8⟩
                      go_wp2_with fail
                      go_ret
                      exact ⟨rfl, hbzh.trans (hb8.mono hbzh.size)⟩
              · have q0 : decide ((bh.length : Int) > 0) = false := by simpa using hb0
                have hbF : Hid (Below w.heap.size w wr) := hbR.out
                have hB7h : Hid (Bl 5 wr g9 vs9) := hB9
                have hv7h : Hid (vs9.take k = im.map B) := hv9
                clear hLg hB9 hv9 hfull
                by_cases ha : at_ < 0
                · have q0 : decide (at_ < 0) = true := by simpa using ha
                  go_wp2_with fail
                  go_ret
                  exact ⟨rfl, hbF.out⟩
                obtain ⟨p, rfl⟩ : ∃ p : Nat, at_ = (p : Int) := ⟨at_.toNat, by omega⟩
                by_cases hp : k ≤ p
                · have q1 : decide ((p : Int) ≥ (k : Int)) = true := by simpa using hp
                  go_wp2_with fail
                  go_ret
                  exact ⟨rfl, hbF.out⟩
                by_cases hby : by_ = 0
                · subst hby
                  go_wp2_with fail
                  go_ret
                  exact ⟨rfl, hbF.out⟩
                have hpL : p < im.length := by rw [hnh.out]; omega
                have hpv : p < vs9.length := by
                  have h1 := congrArg List.length hv7h.out
                  rw [List.length_take, List.length_map, hnh.out] at h1
                  omega
                have hvp : vs9[p] = B im[p] := by
                  have h1 : (vs9.take k)[p]? = (im.map B)[p]? := by rw [hv7h.out]
                  rw [List.getElem?_take, if_pos (by omega), List.getElem?_eq_getElem hpv, List.getElem?_map, List.getElem?_eq_getElem hpL] at h1
                  simpa using h1
                have c7c := hB7h.out.cell p hpv
                rw [hvp] at c7c
                have f7 := hB7h.out.frozen p
                have hy : Hid (im[p] + by_ ≠ im[p]) := by
                  intro e
                  exact hby (by simpa using e)
                have hop := hBkH.out
                have hsp : im = im.take p ++ im[p] :: im.drop (p + 1) := by rw [← List.drop_eq_getElem_cons hpL, List.take_append_drop]
                have hsp2 : im.set p (im[p] + by_) = im.take p ++ (im[p] + by_) :: im.drop (p + 1) := by rw [List.set_eq_take_append_cons_drop, if_pos hpL]
                have hno : ∀ b', openR (im.set p (im[p] + by_)) ≠ .ok b' := by
                  rw [hsp2]
                  refine open_other (x := im[p]) (b := b) ?_ (fun e => hy.out e.symm)
                  rw [← hsp]; exact hop
                have hadd : (((im[p] + by_).toNat : Nat) : Int) = ((im[p].toNat : Int) + (by_.toNat : Int)) % 256 := by
                  rw [UInt8.toNat_add]; omega
                have hset : Hid (∀ wz, wz = wr.setCell ⟨g9, p, none⟩ (.int .u8 ((im[p].toNat + by_.toNat : Int) % 256)) → Rd wz (some ⟨g9, 0, none⟩) (im.set p (im[p] + by_)) ∧ Below w.heap.size w wz) := by
                  intro wz hz
                  subst hz
                  have hS := hB7h.out.set p (.int .u8 ((im[p].toNat + by_.toNat : Int) % 256))
                  refine ⟨.inr ⟨g9, 0, rfl, hS.lt, fun j hj => ?_⟩, hbF.out.setCell (by show w.heap.size ≤ g9; have := hbC.out.size; have := hg9; omega) _⟩
                  rw [List.length_set] at hj
                  have hjv : j < vs9.length := by
                    have h1 := congrArg List.length hv7h.out
                    rw [List.length_take, List.length_map] at h1
                    omega
                  rw [Nat.zero_add, hS.cell j (by rw [List.length_set]; exact hjv)]
                  rw [getD_eq _ _ (by rw [List.length_set]; exact hj)]
                  by_cases hjp : j = p
                  · subst hjp
                    rw [List.getElem_set_self, List.getElem_set_self]
                    unfold B
                    rw [hadd]
                  · rw [List.getElem_set_ne (fun e => hjp e.symm), List.getElem_set_ne (fun e => hjp e.symm)]
                    have h1 : (vs9.take k)[j]? = (im.map B)[j]? := by rw [hv7h.out]
                    rw [List.getElem?_take, if_pos (by rw [← hnh.out]; exact hj), List.getElem?_eq_getElem hjv, List.getElem?_map, List.getElem?_eq_getElem hj] at h1
                    simp at h1
                    rw [h1]
                have hsl : (im.set p (im[p] + by_)).length = k := by rw [List.length_set, hnh.out]
                have hnoH : Hid (∀ b', openR (im.set p (im[p] + by_)) ≠ .ok b') := hno
                have hslH : Hid ((im.set p (im[p] + by_)).length = k) := hsl
                have hby2 : ¬ by_.toNat = 0 := fun e => hby (UInt8.toNat_inj.1 e)
                have hby3 : ((by_.toNat : Int) == 0) = false := by simp; omega
                unfold B at c7c
                clear hsp hsp2 hno hvp hadd hsl hop
                generalize im.set p (im[p] + by_) = im2 at hset hnoH hslH
                generalize im[p] = x at c7c hset hy
                clear hy hby
                go_wp2_with fail
                obtain ⟨hRz, hbz⟩ := hset.out _ rfl
                have OC := open_any (some ⟨g9, 0, none⟩) c9 im2 _ hRz (by rw [hslH.out]; omega) (fun e => by cases e) (by rw [hslH.out]; omega)
                cases ho : openR im2 with
                | ok b' => exact absurd ho (hnoH.out b')
                | error j =>
                  rw [ho, hslH.out] at OC
                  have hbzh := hbz
                  clear ho hset hRz hbz
                  refine OC.mono ?_
                  rintro e w8 ⟨rfl, hb8⟩
                  go_wp2_with fail
                  go_ret
                  exact ⟨rfl, hbzh.trans (hb8.mono hbzh.size)⟩

end Go.Proofs.Ytidmjojlhcgedaa
