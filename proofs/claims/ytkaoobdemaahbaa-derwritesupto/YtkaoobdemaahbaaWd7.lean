import Derived.Test.YtkaoobdemaahbaaWd6
namespace Go.Proofs.Ytkaoobdemaahbaa
open Go.RowKit

theorem rd_take {w : World} {ao : Option Addr} {l : List UInt8} (h : Rd w ao l) (k : Nat) : Rd w ao (l.take k) := by
  rcases h with h | ⟨g', o', e, hg, hc⟩
  · exact .inl (by rw [h]; simp)
  · refine .inr ⟨g', o', e, hg, fun j hj => ?_⟩
    have hj2 : j < l.length := by rw [List.length_take] at hj; omega
    have := hc j hj2
    rw [this, getD_eq _ _ hj2, getD_eq _ _ hj, List.getElem_take]
theorem els_succ {P : List E → List UInt8 → Prop} {n : Nat} {l : List E} {b : List UInt8} (h : Els P (n + 1) l b) : ∃ ts us bs cs, l = ts ++ us ∧ b = bs ++ cs ∧ P ts bs ∧ Els P n us cs := by
  cases h with
  | cons h1 h2 => exact ⟨_, _, _, _, rfl, rfl, h1, h2⟩
theorem els_zero {P : List E → List UInt8 → Prop} {l : List E} {b : List UInt8} (h : Els P 0 l b) : l = [] ∧ b = [] := by
  cases h
  exact ⟨rfl, rfl⟩

set_option maxRecDepth 100000 in
set_option maxHeartbeats 8000000 in
theorem bytes_step (d : Nat) (ih : ∀ d', d = d' + 1 → ByC d') : ByC d := by
  intro ao cap xs w k ts bs r hR hlen hnl hdl hts hEl
  obtain ⟨t, q, ets, hsd, hcase⟩ : ∃ t q, ts = t :: q ∧ sound t = true ∧ ((con t.tag = false ∧ bs = hd t.tag t.data.length ++ t.data) ∨ (∃ d' body, d = d' + 1 ∧ con t.tag = true ∧ bs = hd t.tag body.length ++ body ∧ Els (El d') t.kids.toNat q body)) := by
    cases d with
    | zero =>
      simp only [El] at hEl
      obtain ⟨t, e, hs, hc, hb⟩ := hEl
      exact ⟨t, [], e, hs, .inl ⟨hc, hb⟩⟩
    | succ d' =>
      simp only [El] at hEl
      rcases hEl with ⟨t, e, hs, hc, hb⟩ | ⟨t, q, body, e, hs, hc, hb, hE⟩
      · exact ⟨t, [], e, hs, .inl ⟨hc, hb⟩⟩
      · exact ⟨t, q, e, hs, .inr ⟨d', body, rfl, hc, hb, hE⟩⟩
  subst ets
  obtain ⟨N, hN⟩ : ∃ N, xs.length = N := ⟨_, rfl⟩
  have hkl : k < xs.length := by
    rcases Nat.lt_or_ge k xs.length with h | h
    · exact h
    · rw [List.drop_of_length_le (by rw [es_length]; exact h)] at hts; cases hts
  have hdrop : (es xs).drop k = xs[k].e :: (es xs).drop (k + 1) := by
    rw [List.drop_eq_getElem_cons (by rw [es_length]; exact hkl)]
    simp [es]
  rw [hdrop] at hts
  injection hts with e1 e2
  subst e1
  rw [sound_alone, Bool.and_eq_true] at hsd
  obtain ⟨t0, t1⟩ := aloneR_tag hsd.1
  have hk0 : 0 ≤ xs[k].e.kids := of_decide_eq_true hsd.2
  have hXo := hR.ok xs[k] (List.getElem_mem hkl)
  have hXn := hnl xs[k] (List.getElem_mem hkl)
  have hXd := hdl xs[k] (List.getElem_mem hkl)
  obtain ⟨g, off, rfl, hg, hc⟩ := hR.at'.resolve_left (fun e => by rw [e] at hkl; simp at hkl)
  have c0 := (hc k hkl).1
  have c1 := (hc k hkl).2.1
  have c2 := (hc k hkl).2.2
  obtain ⟨tn, htn⟩ : ∃ tn : Nat, xs[k].e.tag = (tn : Int) := ⟨xs[k].e.tag.toNat, by omega⟩
  obtain ⟨kn, hkn⟩ : ∃ kn : Nat, xs[k].e.kids = (kn : Int) := ⟨xs[k].e.kids.toNat, by omega⟩
  have CI := rinner_any tn (by omega)
  rw [← htn] at CI
  rw [hkn] at c2 hcase
  rw [Int.toNat_natCast] at hcase
  obtain ⟨tg, htg⟩ : ∃ tg, xs[k].e.tag = tg := ⟨_, rfl⟩
  obtain ⟨dt, hdt⟩ : ∃ dt, xs[k].e.data = dt := ⟨_, rfl⟩
  obtain ⟨ax, hax⟩ : ∃ ax, xs[k].a = ax := ⟨_, rfl⟩
  obtain ⟨cx, hcx⟩ : ∃ cx, xs[k].c = cx := ⟨_, rfl⟩
  have c1' : w.cell? ⟨g, off + k * 3 + 1, none⟩ = some (.slice ax dt.length cx) := by rw [c1]; unfold xD; rw [hax, hdt, hcx]
  have hX1 : Rd w ax dt := by rw [← hax, ← hdt]; exact hXo.rd
  have hX2 : dt.length ≤ cx := by rw [← hdt, ← hcx]; exact hXo.le
  have hX3 : cx ≤ 9223372036854775807 := by rw [← hcx]; exact hXo.cap
  have hX4 : ax = none → cx = 0 := by rw [← hax, ← hcx]; exact hXn
  have hkm : kn ≤ 9223372036854775807 := by have := hXo.hi; omega
  rw [hdt] at hXd
  rw [htg] at c0 CI t0 t1 hcase
  rw [hdt] at hcase
  have HC : Hid (∀ w', Below w.heap.size w w' → w'.cell? ⟨g, off + k * 3, none⟩ = some (.int .i64 tg) ∧ w'.cell? ⟨g, off + k * 3 + 2, none⟩ = some (.int .i64 (kn : Int))) := fun w' hb => ⟨cell_but c0 (fun h1 => hb.block g h1), cell_but c2 (fun h1 => hb.block g h1)⟩
  have HR0 : Hid (Row w (some ⟨g, off, none⟩) xs) := hR
  have HN : Hid (xs.length = N) := hN
  have Hnl : Hid (∀ x ∈ xs, x.a = none → x.c = 0) := hnl
  have Hdl : Hid (∀ x ∈ xs, x.e.data.length ≤ 100000000) := hdl
  have Hq : Hid ((es xs).drop (k + 1) = q ++ r) := e2
  rw [hN] at hlen hkl ⊢
  clear hc hR hnl hdl hdrop hXo hXn htn htg hdt hax hcx c1 c2 hN e2 hEl hsd hkn hk0
  rcases hcase with ⟨hcon, hbs⟩ | ⟨d', body, rfl, hcon, hbs, hE⟩
  · rw [hcon] at CI
    have Hbs : Hid (bs = hd tg dt.length ++ dt) := hbs
    have HA : Hid (Acc dt dt) := Acc.self dt
    have HT' : Hid (Rd w ax dt ∧ dt.length = dt.length ∧ dt.length ≤ cx ∧ cx ≤ 9223372036854775807 ∧ (ax = none → dt.length = 0 ∧ cx = 0)) := ⟨hX1, rfl, hX2, hX3, fun e => by have := hX4 e; omega⟩
    obtain ⟨n5, Hn5⟩ : ∃ n, Hid (dt.length = n) := ⟨_, rfl⟩
    rw [Hn5.out] at c1' HT' hX2 hXd
    clear hcon hbs ih hX1 hX4 Hq
    go_enter Try.func17, Try.ntmps17
    go_wp2_with fail
    refine (CI _).mono ?_
    rintro e w' ⟨rfl, hw'⟩
    obtain rfl := hw'
    clear CI c1'
    obtain ⟨w5, hw5⟩ : ∃ w5, w5 = w' := ⟨_, rfl⟩
    obtain ⟨a5, rfl⟩ : ∃ a5, a5 = ax := ⟨_, rfl⟩
    obtain ⟨k5, rfl⟩ : ∃ k5, k5 = cx := ⟨_, rfl⟩
    have HB5 : Hid (Below w'.heap.size w' w5) := by rw [hw5]; exact Below.refl _ _
    have HT : Hid (Rd w5 a5 dt ∧ dt.length = n5 ∧ n5 ≤ k5 ∧ k5 ≤ 9223372036854775807 ∧ (a5 = none → n5 = 0 ∧ k5 = 0)) := by rw [hw5]; exact ⟨HT'.out.1, Hn5.out, HT'.out.2.2⟩
    obtain ⟨c5, hc5⟩ : ∃ c5, c5 = dt := ⟨_, rfl⟩
    rw [← hc5] at HT
    have HA : Hid (Acc dt c5) := by rw [hc5]; exact Acc.self dt
    clear HT' hc5 c0
    rw [← hw5]
    clear hw5
    have ct := (HC.out w5 HB5.out).1
    have hk5 := HT.out.2.2.1
    have hk5' := HT.out.2.2.2.1
    by_cases hbig : n5 ≤ 65536
    · have d9 : decide ((n5 : Int) > 65536) = false := decide_eq_false (by omega)
      have d9' : decide (65536 < (n5 : Int)) = false := decide_eq_false (by omega)
      have hp9 : (n5 : Int) ≤ 65536 := by omega
      have CH := rhead_any tg n5 w5 t0 t1 (by omega)
      go_wp2_with fail
      refine CH.mono ?_
      rintro e w6 ⟨v6, rfl, ho6, hb6⟩
      clear CH
      have HO6 : Hid (Ob w5.heap.size w5 w6 v6 (hd tg n5)) := ⟨ho6, hb6, Ku.of_below hb6⟩
      have HRd : Hid (Rd w6 a5 c5) := HT.out.1.below hb6 (Nat.le_refl _)
      have hhl := (hd_len tg n5).2
      have hz6 := hb6.size
      obtain ⟨a6, k6, hv6⟩ := own_slice ho6
      subst hv6
      clear ho6 hb6 ct
      go_wp2_with (at_builtin; refine append_ob rfl (.tmp 55) (.tmp 56) rfl w5.heap.size _ (hd tg n5) rfl HO6.out a5 n5 k5 c5 rfl HT.out.2.1 HT.out.2.2.2.2 HRd.out (by omega) (by omega) ?_; intro v7 w7 hob7)
      go_ret
      have hcl := Acc.close tg HA.out
      rw [List.take_of_length_le (by rw [HT.out.2.1]; omega), HT.out.2.1, ← Hbs.out] at hcl
      exact ⟨_, _, rfl, own_base hob7.own HB5.out.size, hcl.1, hcl.2, HB5.out.trans (hob7.bel.mono HB5.out.size)⟩
    · have d9 : decide ((n5 : Int) > 65536) = true := decide_eq_true (by omega)
      have d9' : decide (65536 < (n5 : Int)) = true := decide_eq_true (by omega)
      have hp9 : 65536 < (n5 : Int) := by omega
      have hp8 : 65537 ≤ k5 := by omega
      obtain ⟨ad, rfl⟩ : ∃ ad, a5 = some ad := by
        cases a5 with
        | none => have := HT.out.2.2.2.2 rfl; omega
        | some ad => exact ⟨ad, rfl⟩
      obtain ⟨ga, oa, rfl, _, _⟩ : ∃ ga oa : Nat, ad = ⟨ga, oa, none⟩ ∧ True ∧ True := by
        rcases HT.out.1 with h | ⟨g', o', e, _⟩
        · have := HT.out.2.1; rw [h] at this; simp at this; omega
        · exact ⟨g', o', Option.some.inj e, trivial, trivial⟩
      have CH := rhead_any tg 65537 w5 t0 t1 (by omega)
      go_wp2_with fail
      refine CH.mono ?_
      rintro e w6 ⟨v6, rfl, ho6, hb6⟩
      clear CH
      have HO6 : Hid (Ob w5.heap.size w5 w6 v6 (hd tg 65537)) := ⟨ho6, hb6, Ku.of_below hb6⟩
      have htl : (c5.take 65537).length = 65537 := by rw [List.length_take, HT.out.2.1]; omega
      have HRd : Hid (Rd w6 (some ⟨ga, oa, none⟩) (c5.take 65537)) := rd_take (HT.out.1.below hb6 (Nat.le_refl _)) 65537
      have Htl : Hid ((c5.take 65537).length = 65537) := htl
      have hhl := (hd_len tg 65537).2
      have hz6 := hb6.size
      obtain ⟨a6, k6, hv6⟩ := own_slice ho6
      subst hv6
      clear ho6 hb6 ct htl
      go_wp2_with (at_builtin; refine append_ob rfl (.tmp 55) (.tmp 56) rfl w5.heap.size _ (hd tg 65537) rfl HO6.out (some ⟨ga, oa, none⟩) 65537 k5 (c5.take 65537) rfl Htl.out (fun e => by cases e) HRd.out (by omega) (by omega) ?_; intro v7 w7 hob7)
      go_ret
      have hcl := Acc.close tg HA.out
      rw [Htl.out, ← Hbs.out] at hcl
      exact ⟨_, _, rfl, own_base hob7.own HB5.out.size, hcl.1, hcl.2, HB5.out.trans (hob7.bel.mono HB5.out.size)⟩
  · rw [hcon] at CI
    have IH := ih d' rfl
    have Hbs : Hid (bs = hd tg body.length ++ body) := hbs
    have HE : Hid (Els (El d') kn q body) := hE
    have HNx : Hid ((es xs).length = N) := by show _ = _; rw [es_length]; exact HN.out
    have HIH : Hid (∀ (w' : World) (m : Nat) (ts : List E) (bs : List UInt8) (r : List E), Below w.heap.size w w' → (es xs).drop m = ts ++ r → El d' ts bs → Calls Try.prog 17 #[.slice (some ⟨g, off, none⟩) N cap, .int .i64 (m : Int)] w' fun e w'' => ∃ v c, e = .returned v ∧ w''.ownsRow w'.heap.size 5 1 v c.length (c.map B) ∧ Acc bs c ∧ c.length ≤ 65542 ∧ Below w'.heap.size w' w'') := fun w' m ts bs r hb h1 h2 => by
      have := IH (some ⟨g, off, none⟩) cap xs w' m ts bs r (HR0.out.below hb (Nat.le_refl _)) (by rw [HN.out]; exact hlen) Hnl.out Hdl.out h1 h2
      rwa [HN.out] at this
    have HBh : Hid (∀ (w' : World) (m : Nat), Below w.heap.size w w' → m ≤ 4000000 → Calls Try.prog 18 #[.slice (some ⟨g, off, none⟩) N cap, .int .i64 (m : Int)] w' fun e w'' => e = .returned (.int .i64 (rbI (es xs) m)) ∧ w'' = w') := fun w' m hb hm => by
      have := rbehind_any (some ⟨g, off, none⟩) cap xs w' m (HR0.out.below hb (Nat.le_refl _)) (by rw [HN.out]; exact hlen) hm
      rwa [HN.out] at this
    clear IH ih hcon hbs hE hX1 hX2 hX3 hX4 hXd
    go_enter Try.func17, Try.ntmps17
    go_wp2_with fail
    refine (CI _).mono ?_
    rintro e w' ⟨rfl, hw'⟩
    obtain rfl := hw'
    clear CI c1'
    go_wp2
    clear c0
    go_loopw [5, 6, 7] (fun s5 s6 s7 wr => ∃ (a5 : Option Addr) (n5 k5 m i : Nat) (c5 pre cs : List UInt8) (us : List E), s5 = .slice a5 n5 k5 ∧ s6 = .int .i64 (m : Int) ∧ s7 = .int .i64 (i : Int) ∧ i ≤ kn ∧ m ≤ N ∧ n5 ≤ 131078 ∧ Hid (Ob w'.heap.size w' wr (.slice a5 n5 k5) c5 ∧ c5.length = n5 ∧ Acc pre c5 ∧ body = pre ++ cs ∧ (es xs).drop m = us ++ r ∧ Els (El d') (kn - i) us cs)) (fun _ _ s7 _ => kn - (intOf s7).toNat)
    case atStart => exact ⟨none, 0, 0, k + 1, 0, [], [], body, q, rfl, by go_num, rfl, Nat.zero_le _, by omega, by omega, ⟨World.ownsRow_nil _ _ _ _, Below.refl _ _, Ku.refl _⟩, rfl, Acc.self _, rfl, Hq.out, HE.out⟩
    case round =>
      rename_i wr _
      obtain ⟨a5, n5, k5, m, i, c5, pre, cs, us, rfl, rfl, rfl, hi, hm, hn5, HI⟩ := hrel
      have ck := (HC.out wr HI.out.1.bel).2
      by_cases hgo : i < kn ∧ n5 ≤ 65536
      · obtain ⟨hik, hnb⟩ := hgo
        have d1 : decide ((i : Int) < (kn : Int)) = true := decide_eq_true (by omega)
        have d2 : decide ((n5 : Int) ≤ 65536) = true := decide_eq_true (by omega)
        have hs : kn - i = (kn - (i + 1)) + 1 := by omega
        obtain ⟨hOb, hcl, hAc, hbd, hdr, hEs⟩ := HI.out
        rw [hs] at hEs
        obtain ⟨ts', us', bs', cs', e1, e2, hP, hE2⟩ := els_succ hEs
        subst e1
        subst e2
        rw [List.append_assoc] at hdr
        have hlm : m + ts'.length ≤ N := by
          have := congrArg List.length hdr
          rw [List.length_drop, HNx.out, List.length_append] at this
          rcases Nat.lt_or_ge m N with h | h
          · omega
          · omega
        have hbh := (bh_rb N d' (ts' ++ (us' ++ r)) (us' ++ r) (by rw [← hdr, List.length_drop, HNx.out]; omega) (El_bh d' ts' bs' (us' ++ r) hP)).1
        have hbI : rbI (es xs) m = ((m + ts'.length : Nat) : Int) := by
          unfold rbI
          rw [HNx.out, hdr, hbh]
          have := congrArg List.length hdr
          rw [List.length_drop, HNx.out, List.length_append] at this
          simp only
          omega
        have hdr2 : (es xs).drop (m + ts'.length) = us' ++ r := by
          rw [← List.drop_drop, hdr, List.drop_left]
        have C1 := HIH.out wr m ts' bs' (us' ++ r) hOb.bel hdr hP
        have HI2 : Hid (Ob w'.heap.size w' wr (.slice a5 n5 k5) c5 ∧ c5.length = n5 ∧ Acc pre c5 ∧ body = (pre ++ bs') ++ cs' ∧ (es xs).drop (m + ts'.length) = us' ++ r ∧ Els (El d') (kn - (i + 1)) us' cs') := ⟨hOb, hcl, hAc, by rw [List.append_assoc]; exact hbd, hdr2, hE2⟩
        have HbI : Hid (rbI (es xs) m = ((m + ts'.length : Nat) : Int)) := hbI
        obtain ⟨m2, hm2⟩ : ∃ m2, m + ts'.length = m2 := ⟨_, rfl⟩
        rw [hm2] at HI2 HbI hlm
        clear HI hOb hcl hAc hbd hdr hEs hP hE2 hbh hbI hdr2 hm2 hs
        go_wp2_with fail
        refine C1.mono ?_
        rintro e w1 ⟨v1, c1, rfl, ho1, hA1, hl1, hb1⟩
        clear C1
        obtain ⟨a1, k1, hv1⟩ := own_slice ho1
        subst hv1
        have hrd1 := own_rd ho1
        have HO1 : Hid (Ob w'.heap.size w' w1 (.slice a5 n5 k5) c5) := ⟨own_below HI2.out.1.own hb1 (Nat.le_refl _), HI2.out.1.bel.trans (hb1.mono HI2.out.1.bel.size), HI2.out.1.ku.trans (Ku.of_below hb1)⟩
        have hnn : a1 = none → c1.length = 0 ∧ k1 = 0 := fun e => by
          rcases ho1.2 with ⟨h', h0⟩ | ⟨g', cap', cur, h', _⟩
          · simp only [Value.slice.injEq] at h'; exact ⟨h0, h'.2.2⟩
          · simp only [Value.slice.injEq] at h'; rw [e] at h'; cases h'.1
        have HRd1 : Hid (Rd w1 a1 c1) := hrd1.1
        have Hnn : Hid (a1 = none → c1.length = 0 ∧ k1 = 0) := hnn
        have HA1 : Hid (Acc bs' c1) := hA1
        have Hcl : Hid (c5.length = n5) := HI2.out.2.1
        have hsz1 : w'.heap.size ≤ w1.heap.size := HO1.out.bel.size
        obtain ⟨n1, Hn1⟩ : ∃ n, Hid (c1.length = n) := ⟨_, rfl⟩
        rw [Hn1.out] at hl1 Hnn ⊢
        clear ho1 hA1 hb1 hrd1 hnn
        go_wp2_with (at_builtin; refine append_ob rfl (.tmp 35) (.tmp 38) rfl w'.heap.size _ c5 rfl HO1.out a1 n1 k1 c1 rfl Hn1.out Hnn.out HRd1.out (by rw [Hcl.out]; omega) hsz1 ?_; intro v2 w2 hob2)
        have C2 := HBh.out w2 m hob2.bel (by omega)
        rw [HbI.out] at C2
        obtain ⟨a2, k2, hv2⟩ := own_slice hob2.own
        have hl2 : (c5 ++ c1).length = n5 + n1 := by rw [List.length_append, Hcl.out, Hn1.out]
        rw [hl2] at hv2
        subst hv2
        have HI3 : Hid (Ob w'.heap.size w' w2 (.slice a2 (n5 + n1) k2) (c5 ++ c1) ∧ (c5 ++ c1).length = n5 + n1 ∧ Acc (pre ++ bs') (c5 ++ c1) ∧ body = (pre ++ bs') ++ cs' ∧ (es xs).drop m2 = us' ++ r ∧ Els (El d') (kn - (i + 1)) us' cs') := ⟨hob2, hl2, HI2.out.2.2.1.step HA1.out (by rw [Hcl.out]; exact hnb), HI2.out.2.2.2⟩
        clear hob2 hl2 HI2 HO1 HRd1 Hnn HA1 Hcl Hn1 HbI ck
        go_wp2_with fail
        refine C2.mono ?_
        rintro e w3 ⟨rfl, hw3⟩
        obtain rfl := hw3
        clear C2
        go_wp2
        go_round
        · exact ⟨a2, n5 + n1, k2, m2, i + 1, c5 ++ c1, pre ++ bs', cs', us', rfl, rfl, by go_num, by omega, hlm, by omega, HI3⟩
        · show kn - (intOf _).toNat < kn - (intOf _).toNat
          simp only [intOf]
          omega
      · have HA : Hid (Acc body c5) := by
          obtain ⟨_, hcl, hAc, hbd, hdr, hEs⟩ := HI.out
          rcases Nat.lt_or_ge i kn with h | h
          · have h5 : 65536 < c5.length := by rw [hcl]; omega
            rw [hbd]; exact hAc.stop h5 cs
          · rw [show kn - i = 0 by omega] at hEs
            obtain ⟨_, e2⟩ := els_zero hEs
            rw [hbd, e2, List.append_nil]
            exact hAc
        have hOb := HI.out.1
        have hor := own_rd (by have := hOb.own; rw [HI.out.2.1] at this; rw [HI.out.2.1]; exact this : wr.ownsRow w'.heap.size 5 1 (.slice a5 c5.length k5) c5.length (c5.map B))
        have HT : Hid (Rd wr a5 c5 ∧ c5.length = n5 ∧ n5 ≤ k5 ∧ k5 ≤ 9223372036854775807 ∧ (a5 = none → n5 = 0 ∧ k5 = 0)) := ⟨hor.1, HI.out.2.1, by rw [← HI.out.2.1]; exact hor.2.1, hor.2.2, fun e => by
          rcases hOb.own.2 with ⟨h', h0⟩ | ⟨g', cap', cur, h', _⟩
          · simp only [Value.slice.injEq] at h'; exact ⟨h'.2.1, h'.2.2⟩
          · simp only [Value.slice.injEq] at h'; rw [e] at h'; cases h'.1⟩
        have HB5 : Hid (Below w'.heap.size w' wr) := hOb.bel
        obtain ⟨w5, rfl⟩ : ∃ w5, w5 = wr := ⟨_, rfl⟩
        clear HI hOb hor
        by_cases hik : i < kn
        · have d1 : decide ((i : Int) < (kn : Int)) = true := decide_eq_true (by omega)
          have d2 : decide ((n5 : Int) ≤ 65536) = false := decide_eq_false (by omega)
          have hnb0 : 65536 < n5 := by omega
          clear hgo
          have ct := (HC.out w5 HB5.out).1
          have hk5 := HT.out.2.2.1
          have hk5' := HT.out.2.2.2.1
          by_cases hbig : n5 ≤ 65536
          · omega
          · have d9 : decide ((n5 : Int) > 65536) = true := decide_eq_true (by omega)
            have d9' : decide (65536 < (n5 : Int)) = true := decide_eq_true (by omega)
            have hp9 : 65536 < (n5 : Int) := by omega
            have hp8 : 65537 ≤ k5 := by omega
            obtain ⟨ad, rfl⟩ : ∃ ad, a5 = some ad := by
              cases a5 with
              | none => have := HT.out.2.2.2.2 rfl; omega
              | some ad => exact ⟨ad, rfl⟩
            obtain ⟨ga, oa, rfl, _, _⟩ : ∃ ga oa : Nat, ad = ⟨ga, oa, none⟩ ∧ True ∧ True := by
              rcases HT.out.1 with h | ⟨g', o', e, _⟩
              · have := HT.out.2.1; rw [h] at this; simp at this; omega
              · exact ⟨g', o', Option.some.inj e, trivial, trivial⟩
            have CH := rhead_any tg 65537 w5 t0 t1 (by omega)
            go_wp2_with fail
            refine CH.mono ?_
            rintro e w6 ⟨v6, rfl, ho6, hb6⟩
            clear CH
            have HO6 : Hid (Ob w5.heap.size w5 w6 v6 (hd tg 65537)) := ⟨ho6, hb6, Ku.of_below hb6⟩
            have htl : (c5.take 65537).length = 65537 := by rw [List.length_take, HT.out.2.1]; omega
            have HRd : Hid (Rd w6 (some ⟨ga, oa, none⟩) (c5.take 65537)) := rd_take (HT.out.1.below hb6 (Nat.le_refl _)) 65537
            have Htl : Hid ((c5.take 65537).length = 65537) := htl
            have hhl := (hd_len tg 65537).2
            have hz6 := hb6.size
            obtain ⟨a6, k6, hv6⟩ := own_slice ho6
            subst hv6
            clear ho6 hb6 ct htl
            go_wp2_with (at_builtin; refine append_ob rfl (.tmp 55) (.tmp 56) rfl w5.heap.size _ (hd tg 65537) rfl HO6.out (some ⟨ga, oa, none⟩) 65537 k5 (c5.take 65537) rfl Htl.out (fun e => by cases e) HRd.out (by omega) (by omega) ?_; intro v7 w7 hob7)
            go_ret
            have hcl := Acc.close tg HA.out
            rw [Htl.out, ← Hbs.out] at hcl
            exact ⟨_, _, rfl, own_base hob7.own HB5.out.size, hcl.1, hcl.2, HB5.out.trans (hob7.bel.mono HB5.out.size)⟩
        · have d1 : decide ((i : Int) < (kn : Int)) = false := decide_eq_false (by omega)
          clear hgo
          have ct := (HC.out w5 HB5.out).1
          have hk5 := HT.out.2.2.1
          have hk5' := HT.out.2.2.2.1
          by_cases hbig : n5 ≤ 65536
          · have d9 : decide ((n5 : Int) > 65536) = false := decide_eq_false (by omega)
            have d9' : decide (65536 < (n5 : Int)) = false := decide_eq_false (by omega)
            have hp9 : (n5 : Int) ≤ 65536 := by omega
            have CH := rhead_any tg n5 w5 t0 t1 (by omega)
            go_wp2_with fail
            refine CH.mono ?_
            rintro e w6 ⟨v6, rfl, ho6, hb6⟩
            clear CH
            have HO6 : Hid (Ob w5.heap.size w5 w6 v6 (hd tg n5)) := ⟨ho6, hb6, Ku.of_below hb6⟩
            have HRd : Hid (Rd w6 a5 c5) := HT.out.1.below hb6 (Nat.le_refl _)
            have hhl := (hd_len tg n5).2
            have hz6 := hb6.size
            obtain ⟨a6, k6, hv6⟩ := own_slice ho6
            subst hv6
            clear ho6 hb6 ct
            go_wp2_with (at_builtin; refine append_ob rfl (.tmp 55) (.tmp 56) rfl w5.heap.size _ (hd tg n5) rfl HO6.out a5 n5 k5 c5 rfl HT.out.2.1 HT.out.2.2.2.2 HRd.out (by omega) (by omega) ?_; intro v7 w7 hob7)
            go_ret
            have hcl := Acc.close tg HA.out
            rw [List.take_of_length_le (by rw [HT.out.2.1]; omega), HT.out.2.1, ← Hbs.out] at hcl
            exact ⟨_, _, rfl, own_base hob7.own HB5.out.size, hcl.1, hcl.2, HB5.out.trans (hob7.bel.mono HB5.out.size)⟩
          · have d9 : decide ((n5 : Int) > 65536) = true := decide_eq_true (by omega)
            have d9' : decide (65536 < (n5 : Int)) = true := decide_eq_true (by omega)
            have hp9 : 65536 < (n5 : Int) := by omega
            have hp8 : 65537 ≤ k5 := by omega
            obtain ⟨ad, rfl⟩ : ∃ ad, a5 = some ad := by
              cases a5 with
              | none => have := HT.out.2.2.2.2 rfl; omega
              | some ad => exact ⟨ad, rfl⟩
            obtain ⟨ga, oa, rfl, _, _⟩ : ∃ ga oa : Nat, ad = ⟨ga, oa, none⟩ ∧ True ∧ True := by
              rcases HT.out.1 with h | ⟨g', o', e, _⟩
              · have := HT.out.2.1; rw [h] at this; simp at this; omega
              · exact ⟨g', o', Option.some.inj e, trivial, trivial⟩
            have CH := rhead_any tg 65537 w5 t0 t1 (by omega)
            go_wp2_with fail
            refine CH.mono ?_
            rintro e w6 ⟨v6, rfl, ho6, hb6⟩
            clear CH
            have HO6 : Hid (Ob w5.heap.size w5 w6 v6 (hd tg 65537)) := ⟨ho6, hb6, Ku.of_below hb6⟩
            have htl : (c5.take 65537).length = 65537 := by rw [List.length_take, HT.out.2.1]; omega
            have HRd : Hid (Rd w6 (some ⟨ga, oa, none⟩) (c5.take 65537)) := rd_take (HT.out.1.below hb6 (Nat.le_refl _)) 65537
            have Htl : Hid ((c5.take 65537).length = 65537) := htl
            have hhl := (hd_len tg 65537).2
            have hz6 := hb6.size
            obtain ⟨a6, k6, hv6⟩ := own_slice ho6
            subst hv6
            clear ho6 hb6 ct htl
            go_wp2_with (at_builtin; refine append_ob rfl (.tmp 55) (.tmp 56) rfl w5.heap.size _ (hd tg 65537) rfl HO6.out (some ⟨ga, oa, none⟩) 65537 k5 (c5.take 65537) rfl Htl.out (fun e => by cases e) HRd.out (by omega) (by omega) ?_; intro v7 w7 hob7)
            go_ret
            have hcl := Acc.close tg HA.out
            rw [Htl.out, ← Hbs.out] at hcl
            exact ⟨_, _, rfl, own_base hob7.own HB5.out.size, hcl.1, hcl.2, HB5.out.trans (hob7.bel.mono HB5.out.size)⟩

/-- The document's bytes. -/
theorem bytes_any : ∀ d : Nat, ByC d
  | 0 => bytes_step 0 (fun d' e => by omega)
  | d + 1 => bytes_step (d + 1) (fun d' e => by
    have e' : d' = d := by omega
    subst e'
    exact bytes_any d')

end Go.Proofs.Ytkaoobdemaahbaa
