import Derived.Test.YtkaoobdemaahbaaWdB
namespace Go.Proofs.Ytkaoobdemaahbaa
open Go.RowKit

set_option maxRecDepth 100000 in
set_option maxHeartbeats 4000000 in
/-- A twin that nothing was written to. -/
theorem still_any (base g o c N : Nat) (ao : Option Addr) (cap : Nat) (ys xs : List X) (w : World) (ho : o = 0) (h : Tm base w (.slice (some ⟨g, 0, none⟩) (N + 20) c) ys 20) (hR : Row w ao xs) (he : es ys = es xs) (hN : xs.length = N) (hlen : N ≤ 2000000) (hdl : ∀ x ∈ xs, x.e.data.length ≤ 2000000) :
    Calls Try.prog 11 #[.slice (some ⟨g, o, none⟩) N c, .slice ao N cap] w fun e w' => e = .returned (.bool true) ∧ Below w.heap.size w w' := by
  have hyl : ys.length = N := by have := congrArg List.length he; rw [es_length, es_length] at this; omega
  have hzl : (ys ++ fil 20).length = N + 20 := by rw [List.length_append, fil_length, hyl]
  obtain ⟨_, c', ev, hc1, hc2⟩ := own_some h.own (by rw [hzl]; omega)
  rw [hzl] at ev hc1
  simp only [Value.slice.injEq] at ev
  obtain ⟨_, _, ec⟩ := ev
  rw [← ec] at hc1 hc2
  have CS := same_any (some ⟨g, 0, none⟩) ao c cap ys xs w (h.row hzl hR he) hR (by omega)
  rw [decide_eq_true he, hyl, hN, ← ho] at CS
  have HT : Hid (∀ w', Below w.heap.size w w' → ∀ q, N ≤ q → q < N + 20 → w'.cell? ⟨g, o + q * 3, none⟩ = some (.int .i64 (700 + ((q : Int) - (N : Int)))) ∧ w'.cell? ⟨g, o + q * 3 + 1, none⟩ = some (.slice none 0 0) ∧ w'.cell? ⟨g, o + q * 3 + 2, none⟩ = some (.int .i64 0)) := fun w' hb q h1 h2 => by
    have := (h.below hb (Nat.le_refl _)).cells hzl q (by omega)
    have e : (ys ++ fil 20)[q]'(by omega) = ⟨⟨700 + (((q - N : Nat)) : Int), [], 0⟩, none, 0⟩ := by
      rw [List.getElem_append_right (by omega)]
      simp [fil, hyl]
    rw [e] at this
    rw [ho]
    refine ⟨?_, this.2.1, this.2.2⟩
    rw [this.1]
    congr 3
    show (700 : Int) + ((q - N : Nat) : Int) = _
    omega
  have HU : Hid (∀ w', Below w.heap.size w w' → ∀ i, i < N → ∃ (gy cy : Nat) (l : List UInt8) (g' off' : Nat) (xa : Option Addr) (xc : Nat), w'.cell? ⟨g, o + i * 3 + 1, none⟩ = some (.slice (some ⟨gy, 0, none⟩) l.length cy) ∧ Rd w' (some ⟨gy, 0, none⟩) (l ++ mks 90) ∧ l.length + 90 ≤ cy ∧ cy ≤ 9223372036854775807 ∧ l.length ≤ 2000000 ∧ ao = some ⟨g', off', none⟩ ∧ w'.cell? ⟨g', off' + i * 3 + 1, none⟩ = some (.slice xa l.length xc) ∧ Rd w' xa l) := fun w' hb i hi => by
    have h' := h.below hb (Nat.le_refl _)
    have hR' := hR.below hb (Nat.le_refl _)
    have hiy : i < ys.length := by omega
    have hix : i < xs.length := by omega
    have hcy := (h'.cells hzl i (by omega)).2.1
    rw [List.getElem_append_left hiy] at hcy
    obtain ⟨gy, e1, r, l1, l2⟩ := h'.full ys[i] (List.getElem_mem hiy)
    have hee : ys[i].e = xs[i].e := by
      have a1 : (es ys)[i]'(by rw [es_length]; exact hiy) = ys[i].e := by simp [es]
      have a2 : (es xs)[i]'(by rw [es_length]; exact hix) = xs[i].e := by simp [es]
      rw [← a1, ← a2]
      simp only [he]
    obtain ⟨g', off', e2, _, hc⟩ := hR'.at'.resolve_left (fun e => by rw [e] at hix; simp at hix)
    refine ⟨gy, ys[i].c, ys[i].e.data, g', off', xs[i].a, xs[i].c, ?_, r, l1, l2, ?_, e2, ?_, ?_⟩
    · rw [ho, hcy]; unfold xD; rw [e1]
    · rw [hee]; exact hdl _ (List.getElem_mem hix)
    · rw [(hc i hix).2.1, hee]; rfl
    · rw [hee]; exact (hR'.ok _ (List.getElem_mem hix)).rd
  clear h hR he hN hdl hyl hzl ec ho
  go_enter Try.func11, Try.ntmps11
  go_wp2_with fail
  refine CS.mono ?_
  rintro e w1 ⟨rfl, hb1⟩
  clear CS
  have HB1 : Hid (Below w.heap.size w w1) := hb1
  clear hb1
  go_wp2
  go_loop [6] (fun s => ∃ i : Nat, s = .int .i64 (i : Int) ∧ i ≤ 20) (fun s => 20 - (intOf s).toNat)
  case atStart => exact ⟨0, rfl, by omega⟩
  case round =>
    obtain ⟨i, rfl, hi⟩ := hrel
    by_cases hlt : i < 20
    · have d1 : decide ((i : Int) < 20) = true := decide_eq_true (by omega)
      obtain ⟨q, eq⟩ : ∃ q : Nat, (N : Int) + (i : Int) = (q : Int) := ⟨N + i, by omega⟩
      have hq1 : N ≤ q := by omega
      have hq2 : q < N + 20 := by omega
      obtain ⟨c0, c1, c2⟩ := HT.out w1 HB1.out q hq1 hq2
      have e700 : 700 + ((q : Int) - (N : Int)) = 700 + (i : Int) := by omega
      rw [e700] at c0
      have dn : ((700 + (i : Int)) != 700 + (i : Int)) = false := by simp
      have hqI : (q : Int) < (N : Int) + 20 := by omega
      clear e700
      go_wp2
      go_round
      case rel => exact ⟨i + 1, by go_num, by omega⟩
      case measure => simp [intOf]; omega
    · obtain rfl : i = 20 := by omega
      clear hlt hi
      go_wp2
      go_loopw [7] (fun s wr => ∃ i : Nat, s = .int .i64 (i : Int) ∧ i ≤ N ∧ Hid (Below w.heap.size w wr)) (fun s _ => N - (intOf s).toNat)
      case atStart => exact ⟨0, rfl, Nat.zero_le _, HB1⟩
      case round =>
        obtain ⟨i, rfl, hi, HB⟩ := hrel
        by_cases hlt : i < N
        · have d1 : decide ((i : Int) < (N : Int)) = true := decide_eq_true (by omega)
          obtain ⟨gy, cy, l, g', off', xa, xc, c1, r1, l1, l2, l3, e2, c2, r2⟩ := HU.out wr HB.out i hlt
          subst e2
          have CW := whole_any gy 0 cy xa xc l (wr.drewN 1) r1 r2 l3 l1 l2
          obtain ⟨n, Hn⟩ : ∃ n, Hid (l.length = n) := ⟨_, rfl⟩
          rw [Hn.out] at c1 c2 CW l1 l3
          have HCW : Hid (Calls Try.prog 22 #[.slice (some ⟨gy, 0, none⟩) (n + 90) cy, .slice xa n xc] (wr.drewN 1) fun e w' => e = .returned (.bool true) ∧ ∃ q, w' = (wr.drewN 1).drewN q) := CW
          clear r1 r2 CW
          go_wp2
          refine wp_region_tail 18 (by kernel_rfl) (by kernel_rfl) ?_
          simp only [List.take_succ_cons, List.take_zero, List.drop_succ_cons, List.drop_zero]
          repeat (first | go_big_quiet_skip | (go_big_quiet_want; go_big_quiet_op; go_big_quiet_on))
          refine wpQuiet_nil ?_
          go_wp2_with fail
          refine HCW.out.mono ?_
          rintro e w2 ⟨rfl, q, hw2⟩
          have HB2 : Hid (Below w.heap.size w w2) := by rw [hw2]; exact below_drewN (below_drewN HB.out 1) q
          clear hw2 HCW HB c1 c2
          go_wp2
          go_roundw
          case rel => exact ⟨i + 1, by go_num, by omega, HB2⟩
          case measure => simp [intOf]; omega
        · obtain rfl : i = N := by omega
          have d1 : decide ((i : Int) < (i : Int)) = false := decide_eq_false (by omega)
          clear hlt hi
          go_wp2
          go_ret
          exact ⟨rfl, HB.out⟩

end Go.Proofs.Ytkaoobdemaahbaa
