import Derived.Test.YtkaoobdemaahbaaWd3
namespace Go.Proofs.Ytkaoobdemaahbaa
open Go.RowKit

set_option maxRecDepth 100000 in
set_option maxHeartbeats 4000000 in
/-- The document's Shaped answers what the program's answers. -/
theorem rshaped_any (ao : Option Addr) (cap : Nat) (xs : List X) (w : World) (hR : Row w ao xs) (hlen : xs.length ≤ 2000000) :
    Calls Try.prog 9 #[.slice ao xs.length cap] w fun e w' => e = .returned (.bool (shaped (es xs))) ∧ Below w.heap.size w w' := by
  obtain ⟨V, HV⟩ : ∃ V, Hid (shaped (es xs) = V) := ⟨_, rfl⟩
  rw [HV.out]
  rcases hR.at' with h0 | ⟨g, off, rfl, hg, hc⟩
  · subst h0
    have eV : V = false := by rw [← HV.out]; rfl
    subst eV
    clear HV hR hlen
    go_enter Try.func9, Try.ntmps9
    go_wp2
    go_ret
    exact ⟨rfl, Below.refl _ _⟩
  have C0 := rbehind_any (some ⟨g, off, none⟩) cap xs w 0 hR hlen (by omega)
  have hdoc := shaped_doc (es xs)
  rw [HV.out, es_length] at hdoc
  have hR0 : Hid (Row w (some ⟨g, off, none⟩) xs) := hR
  by_cases hn0 : xs.length = 0
  · have hx : xs = [] := List.length_eq_zero_iff.1 hn0
    subst hx
    have eV : V = false := by rw [← HV.out]; rfl
    subst eV
    clear HV hR hlen hc hn0 C0 hdoc hR0
    go_enter Try.func9, Try.ntmps9
    go_wp2
    go_ret
    exact ⟨rfl, Below.refl _ _⟩
  have hne : es xs ≠ [] := fun h => hn0 (by rw [← es_length, h]; rfl)
  rw [decide_eq_true hne, Bool.true_and] at hdoc
  have dn0 : ((xs.length : Int) == 0) = false := beq_eq_false_iff_ne.2 (by omega)
  by_cases hrb : rb xs.length 1 (es xs) = some []
  · have hz : rbI (es xs) 0 = (xs.length : Int) := by
      unfold rbI; rw [List.drop_zero, es_length, hrb]; simp
    rw [hz] at C0
    rw [decide_eq_true hrb, Bool.true_and] at hdoc
    have HD : Hid (V = ((es xs).all aloneR && dpV xs.length 32 (es xs))) := hdoc
    have HRb : Hid (rb xs.length 1 (es xs) = some []) := hrb
    have HC : Hid (∀ j, (hj : j < xs.length) → w.cell? ⟨g, off + j * 3, none⟩ = some (.int .i64 xs[j].e.tag) ∧ w.cell? ⟨g, off + j * 3 + 1, none⟩ = some (xD xs[j]) ∧ w.cell? ⟨g, off + j * 3 + 2, none⟩ = some (.int .i64 xs[j].e.kids)) := hc
    obtain ⟨N, hN⟩ : ∃ N, xs.length = N := ⟨_, rfl⟩
    have HN : Hid (xs.length = N) := hN
    rw [hN] at C0 dn0 hlen hn0 ⊢
    have dnn : ((N : Int) != (N : Int)) = false := by simp
    clear hdoc hrb hz hc hR hN hne HV
    go_enter Try.func9, Try.ntmps9
    go_wp2_with fail
    refine C0.mono ?_
    rintro e w ⟨rfl, rfl⟩
    clear C0
    go_wp2
    go_loopw [3] (fun s3 wr => ∃ i : Nat, s3 = .int .i64 (i : Int) ∧ i ≤ N ∧ Hid (Below w.heap.size w wr) ∧ Hid (∀ x ∈ (es xs).take i, aloneR x = true)) (fun s3 _ => N - (intOf s3).toNat)
    case atStart => exact ⟨0, rfl, Nat.zero_le _, Below.refl _ _, fun x hx => by simp at hx⟩
    case round =>
      obtain ⟨i, rfl, hi, HB, HA⟩ := hrel
      by_cases hiN : i < N
      · have hil : i < xs.length := by rw [HN.out]; exact hiN
        obtain ⟨c0, c1, c2⟩ := HC.out i hil
        have hk : g < w.heap.size → wr.heap[g]? = w.heap[g]? := fun h1 => HB.out.block g h1
        have c0' := cell_but c0 hk
        have c1' := cell_but c1 hk
        have c2' := cell_but c2 hk
        have hok := (hR0.out.ok xs[i] (List.getElem_mem hil)).below HB.out (Nat.le_refl _)
        have C1 := ralone_any xs[i] wr hok
        have HA2 : Hid (aloneR xs[i].e = true → ∀ x ∈ (es xs).take (i + 1), aloneR x = true) := fun h x hx => by
          rw [List.take_succ_eq_append_getElem (by rw [es_length]; exact hil)] at hx
          rcases List.mem_append.1 hx with hx | hx
          · exact HA.out x hx
          · rw [List.mem_singleton.1 hx]; simpa [es] using h
        have HD2 : Hid (aloneR xs[i].e = false → V = false) := fun h => by
          rw [HD.out, show (es xs).all aloneR = false from ?_]
          · rfl
          · rw [List.all_eq_false]
            exact ⟨xs[i].e, List.mem_map_of_mem (List.getElem_mem hil), by rw [h]; simp⟩
        clear c0 c1 c2 hk HA
        generalize xs[i] = x at *
        clear hil
        obtain ⟨⟨t, l, kd⟩, a, c⟩ := x
        have hb1 := hok.lo
        have hb2 := hok.hi
        unfold xV xD at *
        simp only at *
        generalize aloneR ⟨t, l, kd⟩ = bb at *
        have HC1 : Hid (Calls Try.prog 19 #[.agg #[.int .i64 t, .slice a l.length c, .int .i64 kd]] wr fun e w' => e = .returned (.bool bb) ∧ Below wr.heap.size wr w') := C1
        clear C1 hok
        go_wp2_with fail
        refine HC1.out.mono ?_
        rintro e w1 ⟨rfl, hB1⟩
        have HB1 : Hid (Below w.heap.size w w1) := HB.out.trans (hB1.mono HB.out.size)
        clear hB1 HC1 HB c0' c1' c2'
        cases bb with
        | false =>
          have eV := HD2.out rfl
          subst eV
          go_wp2
          go_ret
          exact ⟨rfl, HB1.out⟩
        | true =>
          have HA3 : Hid (∀ x ∈ (es xs).take (i + 1), aloneR x = true) := HA2.out rfl
          clear HA2 HD2
          go_wp2
          go_round
          case rel => exact ⟨i + 1, by go_num, by omega, HB1, HA3⟩
          case measure => simp [intOf]; omega
      · have hiN2 : i = N := by omega
        subst hiN2
        have hall : ∀ x ∈ es xs, aloneR x = true := fun x hx => HA.out x (by rw [List.take_of_length_le (by rw [es_length, HN.out]; exact Nat.le_refl _)]; exact hx)
        have hR1 := hR0.out.below HB.out (Nat.le_refl _)
        have C1 := deep_any 32 (Nat.le_refl _) (some ⟨g, off, none⟩) cap xs wr 0 0 [] hR1 (by rw [HN.out]; exact hlen) (fun x hx => hall x.e (List.mem_map_of_mem hx)) (by rw [List.drop_zero]; exact HRb.out) (by omega)
        rw [List.drop_zero] at C1
        have e1 : V = dpV xs.length 32 (es xs) := by
          rw [HD.out, List.all_eq_true.2 hall, Bool.true_and]
        rw [← e1, HN.out] at C1
        have HC1 : Hid (Calls Try.prog 20 #[.slice (some ⟨g, off, none⟩) i cap, .int .i64 0, .int .i64 0] wr fun e w' => e = .returned (.bool V) ∧ w' = wr) := C1
        clear C1 e1 hR1 hall
        go_wp2_with fail
        refine HC1.out.mono ?_
        rintro e w1 ⟨rfl, rfl⟩
        clear HC1
        go_wp2
        go_ret
        exact ⟨rfl, HB.out⟩
  · have eV : V = false := by rw [hdoc, decide_eq_false hrb]; rfl
    have hz : rbI (es xs) 0 ≠ (xs.length : Int) := by
      unfold rbI
      rw [List.drop_zero, es_length]
      cases hq : rb xs.length 1 (es xs) with
      | none => simp
      | some r =>
        cases r with
        | nil => exact absurd hq hrb
        | cons a b => simp; omega
    have dz : (rbI (es xs) 0 != (xs.length : Int)) = true := bne_iff_ne.2 hz
    subst eV
    generalize rbI (es xs) 0 = z at *
    clear hdoc hrb hz hc hR hne HV hR0
    generalize xs.length = N at *
    go_enter Try.func9, Try.ntmps9
    go_wp2_with fail
    refine C0.mono ?_
    rintro e w ⟨rfl, rfl⟩
    clear C0
    go_wp2
    go_ret
    exact ⟨rfl, Below.refl _ _⟩

end Go.Proofs.Ytkaoobdemaahbaa
