import Derived.Test.YtkaoobdemaahbaaWr2
namespace Go.Proofs.Ytkaoobdemaahbaa
open Go.RowKit

theorem madeO (w : World) (n : Nat) (hn : n ≤ 65536) (base : Nat) (hb : base ≤ w.heap.size) : ∃ wm, (Instr.makeSlice 25 (.int .i64 0) (.int .i64 (n : Int))).run Try.prog w = .ok (.slice (some ⟨w.heap.size, 0, none⟩) 0 n) wm ∧ wm.ownsRow base 5 1 (.slice (some ⟨w.heap.size, 0, none⟩) 0 n) 0 [] ∧ Below w.heap.size w wm := by
  obtain ⟨i0, hi, hz0, hz1, hz2⟩ := info_parts infoB
  refine ⟨w.alloc (.cells (madeCells (Value.cells (.int .u8 0)) ((n : Int).toNat * i0.size)) 5), ?_, World.ownsRow_made w _ n hb (by unfold maxLen; omega) (by rw [size_madeCells, hz1, Int.toNat_natCast]), alloc_below _ _⟩
  rw [run_make w 25 5 i0 (.int .u8 0) Try.underlying25 hi hz0 .i64 .i64 0 (n : Int) (by omega) (by omega) (by rw [hz2]; omega) (by omega)]
  simp

theorem insL_at : ∀ (l : List E) (k : Nat) (t : E) (r : List E), l.drop k = t :: r → (insL l)[k]? = some (ins t r)
  | [], k, t, r, h => by simp at h
  | e :: q, 0, t, r, h => by
    simp only [List.drop_zero, List.cons.injEq] at h
    rw [h.1, h.2]; rfl
  | e :: q, k + 1, t, r, h => by
    simp only [List.drop_succ_cons] at h
    exact insL_at q k t r h

theorem pr_len {v : List E} {bs : List UInt8} (h : El 32 v bs) (hl : bs.length ≤ 65536) : pr v = bs := by
  have := El_pr _ _ _ h hl []
  rw [List.append_nil] at this
  rw [this]; simp [pr]

theorem els_sound {P : List E → List UInt8 → Prop} (hP : ∀ ts bs, P ts bs → ∀ t ∈ ts, sound t = true) {n : Nat} {ts : List E} {bs : List UInt8} (h : Els P n ts bs) : ∀ t ∈ ts, sound t = true := by
  induction h with
  | nil => intro t ht; cases ht
  | cons h1 h2 ih =>
    intro t ht
    rcases List.mem_append.1 ht with ht | ht
    · exact hP _ _ h1 t ht
    · exact ih t ht
theorem El_sound : ∀ (d : Nat) (ts : List E) (bs : List UInt8), El d ts bs → ∀ t ∈ ts, sound t = true := by
  intro d
  induction d with
  | zero =>
    rintro ts bs ⟨t, rfl, hs, _, _⟩ u hu
    rw [List.mem_singleton.1 hu]; exact hs
  | succ d ih =>
    rintro ts bs (⟨t, rfl, hs, _, _⟩ | ⟨t, q, body, rfl, hs, _, _, hk⟩) u hu
    · rw [List.mem_singleton.1 hu]; exact hs
    · rcases List.mem_cons.1 hu with rfl | hu
      · exact hs
      · exact els_sound ih hk u hu

theorem szs_sum_cons (t : E) (r : List E) : (szs r).sum ≤ (szs (t :: r)).sum ∧ ins t r ≤ (szs (t :: r)).sum := by
  rw [szs_cons]
  have h2 : ((szs r).take t.kids.toNat).sum + ((szs r).drop t.kids.toNat).sum = (szs r).sum := by
    rw [← List.sum_append, List.take_append_drop]
  simp only [List.sum_cons, ins]
  omega
theorem szs_sum_drop : ∀ (l : List E) (k : Nat), (szs (l.drop k)).sum ≤ (szs l).sum
  | [], k => by simp
  | t :: r, 0 => Nat.le_refl _
  | t :: r, k + 1 => Nat.le_trans (szs_sum_drop r k) (szs_sum_cons t r).1

/-- Print's answer. -/
def PrA (w : World) (v : List E) (e : Ending) (w' : World) : Prop :=
  ∃ bv, (e = .returned (.tuple #[bv, .int .i64 (prints v).2]) ∧ Below w.heap.size w w') ∧ w'.ownsRow w.heap.size 5 1 bv (prints v).1.length ((prints v).1.map B)

/-- Writing so far. -/
structure Pw (w2 wr : World) (v : Value) (xs : List X) (k : Nat) : Prop where
  ex : ∃ acc, Ob w2.heap.size w2 wr v acc ∧ acc ++ pr ((es xs).drop k) = pr (es xs)

set_option maxRecDepth 100000 in
set_option maxHeartbeats 8000000 in
theorem print_any (ao : Option Addr) (cap : Nat) (xs : List X) (w : World) (hR : Row w ao xs) (hnl : ∀ x ∈ xs, x.a = none → x.c = 0) (hlen : xs.length ≤ 2000000) (htot : tot (es xs) < 16777216) :
    Calls Try.prog 7 #[.slice ao xs.length cap] w fun e w' => PrA w (es xs) e w' := by
  have C1 := shaped_any ao cap xs w hR (by omega)
  have HR : Hid (Row w ao xs) := hR
  have Hnl : Hid (∀ x ∈ xs, x.a = none → x.c = 0) := hnl
  cases hsh : shaped (es xs) with
  | false =>
    have HP : Hid (prints (es xs) = ([], 80)) := by show _ = _; unfold prints; rw [hsh]; rfl
    rw [hsh] at C1
    have HC1 : Hid (Calls Try.prog 6 #[.slice ao xs.length cap] w fun e w' => e = .returned (.bool false) ∧ Below w.heap.size w w') := C1
    clear C1 hsh hR hnl htot
    go_enter Try.func7, Try.ntmps7
    go_wp2_with fail
    refine HC1.out.mono ?_
    rintro e w1 ⟨rfl, hB⟩
    go_wp2
    go_ret2
    refine ⟨_, ⟨by rw [HP.out]; rfl, hB⟩, ?_⟩
    rw [HP.out]
    exact World.ownsRow_nil _ _ _ _
  | true =>
    obtain ⟨bs, hE⟩ := shaped_El.1 hsh
    obtain ⟨s, a1, a2, a3⟩ := El_sz _ _ _ hE
    have hszs : szs (es xs) = [s] := by have := a3 []; rw [List.append_nil] at this; exact this
    have hokS : okS (es xs) := by have := El_ok _ _ _ hE [] trivial; rw [List.append_nil] at this; exact this
    have hP := prints_El hE
    have HE : Hid (El 32 (es xs) bs) := hE
    have hsb : s < 16777216 := by
      have := szs_tot (es xs)
      rw [hszs] at this
      simp at this
      omega
    have HC2 : Hid (∀ w', Row w' ao xs → Calls Try.prog 15 #[.slice ao xs.length cap] w' fun e w'' => ∃ bi, (e = .returned (.tuple #[.slice (some ⟨bi, 0, none⟩) xs.length xs.length, .int .i64 (s : Int)]) ∧ w'.heap.size ≤ bi) ∧ Bl 3 w'' bi ((insL (es xs)).map I) ∧ Below w'.heap.size w' w'') := fun w' h => lengths_any ao cap xs w' s h hlen hokS hszs htot
    rw [hsh] at C1
    have HC1 : Hid (Calls Try.prog 6 #[.slice ao xs.length cap] w fun e w' => e = .returned (.bool true) ∧ Below w.heap.size w w') := C1
    have Ha1 : Hid (bs.length ≤ s) := a1
    have Hszs : Hid (szs (es xs) = [s]) := hszs
    have Ha2 : Hid (bs.length ≤ 65536 → s = bs.length) := a2
    have HPr : Hid ((bs.length ≤ 65536 → prints (es xs) = (bs, 0)) ∧ (65536 < bs.length → prints (es xs) = ([], 10))) := hP
    clear C1 hsh hR hnl htot hE a1 a2 a3 hszs hokS hP
    go_enter Try.func7, Try.ntmps7
    go_wp2_with fail
    refine HC1.out.mono ?_
    rintro e w1 ⟨rfl, hB1⟩
    have HB1 : Hid (Below w.heap.size w w1) := hB1
    have HR1 : Hid (Row w1 ao xs) := HR.out.below hB1 (Nat.le_refl _)
    clear hB1 HC1
    go_wp2_with fail
    refine (HC2.out _ HR1.out).mono ?_
    rintro e w2 ⟨bi, ⟨rfl, hbi⟩, hIb, hB2⟩
    have HB2 : Hid (Below w.heap.size w w2) := HB1.out.trans (hB2.mono HB1.out.size)
    have HR2 : Hid (Row w2 ao xs) := HR1.out.below hB2 (Nat.le_refl _)
    have HIb : Hid (Bl 3 w2 bi ((insL (es xs)).map I)) := hIb
    clear hB2 HC2 HR1 HB1 hIb
    by_cases hbig : 65536 < s
    · have HP2 : Hid (prints (es xs) = ([], 10)) := HPr.out.2 (by
        rcases Nat.lt_or_ge 65536 bs.length with h | h
        · exact h
        · have := Ha2.out h; omega)
      go_wp2
      go_ret2
      refine ⟨_, ⟨by rw [HP2.out]; rfl, HB2.out⟩, ?_⟩
      rw [HP2.out]
      exact World.ownsRow_nil _ _ _ _
    · have hbs : bs.length ≤ 65536 := by have := Ha1.out; omega
      have HP2 : Hid (prints (es xs) = (bs, 0)) := HPr.out.1 hbs
      have HPR : Hid (pr (es xs) = bs) := pr_len HE.out hbs
      have Htg : Hid (∀ x ∈ xs, 0 ≤ x.e.tag ∧ x.e.tag ≤ 255) := fun x hx => tag_of (El_sound _ _ _ HE.out x.e (List.mem_map.2 ⟨x, hx, rfl⟩))
      have Hib : Hid (∀ k t r, (es xs).drop k = t :: r → ins t r ≤ 65536) := fun k t r h => by
        have h1 := szs_sum_drop (es xs) k
        rw [h, Hszs.out] at h1
        have h2 := (szs_sum_cons t r).2
        simp at h1
        omega
      obtain ⟨wm, hmk, hmo, hmb⟩ := madeO w2 s (by omega) w2.heap.size (Nat.le_refl _)
      have HP0 : Hid (Pw w2 wm (.slice (some ⟨w2.heap.size, 0, none⟩) 0 s) xs 0) := ⟨[], ⟨hmo, hmb, Ku.of_below hmb⟩, by simp⟩
      clear hmo hmb HPr Ha1 Ha2
      go_wp2
      go_loopw [6, 23] (fun s6 s23 wr => ∃ k : Nat, s23 = .int .i64 (k : Int) ∧ k ≤ xs.length ∧ Hid (Pw w2 wr s6 xs k)) (fun _ s _ => xs.length - (intOf s).toNat)
      case atStart => exact ⟨0, rfl, Nat.zero_le _, HP0⟩
      case round =>
        obtain ⟨k, rfl, hk, HPw⟩ := hrel
        obtain ⟨va, vn, vc, hv⟩ : ∃ a n c, u6 = .slice a n c := HPw.out.ex.elim fun acc h => (own_slice h.1.own).elim fun a h => h.elim fun c e => ⟨a, _, c, e⟩
        subst hv
        by_cases hkl : k < xs.length
        · obtain ⟨acc, hob, hacc⟩ := HPw.out.ex
          have HD : Hid ((es xs).drop k = xs[k].e :: (es xs).drop (k + 1)) := drop_es xs k hkl
          have hNi := insL_at (es xs) k _ _ HD.out
          have hNb := Hib.out k _ _ HD.out
          have hmem : xs[k] ∈ xs := List.getElem_mem hkl
          have htg := Htg.out _ hmem
          have Hnlx : Hid (xs[k].a = none → xs[k].c = 0) := Hnl.out _ hmem
          have HDN : Hid (xs[k].a = none → xs[k].e.data.length = 0) := fun e => by have h1 := Hnlx.out e; have h2 := (HR2.out.ok _ hmem).le; omega
          have HRr : Hid (Row wr ao xs) := HR2.out.below hob.bel (Nat.le_refl _)
          rcases HRr.out.at' with h0 | ⟨g, off, rfl, hg, hc⟩
          · subst h0; simp at hkl
          obtain ⟨c0, c1, c2⟩ := hc k hkl
          have hxok := HR2.out.ok _ hmem
          have Hxr : Hid (Rd w2 xs[k].a xs[k].e.data) := hxok.rd
          have Hacc : Hid (acc ++ pr ((es xs).drop k) = pr (es xs)) := hacc
          have HOb : Hid (Ob w2.heap.size w2 wr (.slice va vn vc) acc) := hob
          have hal : acc.length ≤ 65536 := by
            have := congrArg List.length hacc
            rw [HPR.out, List.length_append] at this
            omega
          have hdl : acc.length + xs[k].e.data.length ≤ 65536 := by
            have := congrArg List.length hacc
            rw [HPR.out, HD.out, pr, List.length_append, List.length_append, List.length_append] at this
            omega
          have hIr : Bl 3 wr bi ((insL (es xs)).map I) := HIb.out.below hob.bel HIb.out.lt
          generalize xs[k] = x at *
          obtain ⟨N, hN⟩ : ∃ N, N = ins x.e ((es xs).drop (k + 1)) := ⟨_, rfl⟩
          rw [← hN] at hNi hNb
          have HPk : Hid (pr ((es xs).drop k) = hd x.e.tag N ++ x.e.data ++ pr ((es xs).drop (k + 1))) := by
            show _ = _; rw [HD.out, pr, hN]
          have cN : wr.cell? ⟨bi, k, none⟩ = some (.int .i64 (N : Int)) := by
            obtain ⟨h1, h2⟩ := List.getElem?_eq_some_iff.1 hNi
            rw [hIr.cell k (by simpa using h1), List.getElem_map, h2]; rfl
          unfold xD at c1
          have hbr := hob.bel.size
          clear hNi hmem hxok hacc hob hIr hN hc HPw
          have HT4 : Hid (Bl 32 (wr.alloc (Obj.cells #[Value.int IntKind.i64 x.e.tag, Value.slice x.a x.e.data.length x.c, Value.int IntKind.i64 x.e.kids] 32)) wr.heap.size [.int .i64 x.e.tag, .slice x.a x.e.data.length x.c, .int .i64 x.e.kids]) := alloc_bl _ _ _
          have cN4 : (wr.alloc (Obj.cells #[Value.int IntKind.i64 x.e.tag, Value.slice x.a x.e.data.length x.c, Value.int IntKind.i64 x.e.kids] 32)).cell? ⟨bi, k, none⟩ = some (.int .i64 (N : Int)) := cell_but cN fun hg => (alloc_below wr _).block bi hg
          have ct4 : (wr.alloc (Obj.cells #[Value.int IntKind.i64 x.e.tag, Value.slice x.a x.e.data.length x.c, Value.int IntKind.i64 x.e.kids] 32)).cell? ⟨wr.heap.size, 0, none⟩ = some (.int .i64 x.e.tag) := HT4.out.cell 0 (by simp)
          have HO4 : Hid (Ob w2.heap.size w2 (wr.alloc (Obj.cells #[Value.int IntKind.i64 x.e.tag, Value.slice x.a x.e.data.length x.c, Value.int IntKind.i64 x.e.kids] 32)) (.slice va vn vc) acc) := HOb.out.alloc hbr _
          go_wp2
          refine wp_region_tail 7 (by kernel_rfl) (by kernel_rfl) ?_
          simp only [List.take_succ_cons, List.take_zero, List.drop_succ_cons, List.drop_zero]
          repeat (first | go_big_quiet_skip | (go_big_quiet_want; go_big_quiet_op; go_big_quiet_on))
          refine wpQuiet_nil ?_
          have HT5 : Hid (Bl 32 ((wr.alloc (Obj.cells #[Value.int IntKind.i64 x.e.tag, Value.slice x.a x.e.data.length x.c, Value.int IntKind.i64 x.e.kids] 32)).drewN 1) wr.heap.size [.int .i64 x.e.tag, .slice x.a x.e.data.length x.c, .int .i64 x.e.kids]) := HT4.out.drewN 1
          have HO5 : Hid (Ob w2.heap.size w2 ((wr.alloc (Obj.cells #[Value.int IntKind.i64 x.e.tag, Value.slice x.a x.e.data.length x.c, Value.int IntKind.i64 x.e.kids] 32)).drewN 1) (.slice va vn vc) acc) := ⟨HO4.out.own, below_drewN HO4.out.bel 1, ⟨HO4.out.ku.size, HO4.out.ku.block⟩⟩
          have hs5 : w2.heap.size ≤ ((wr.alloc (Obj.cells #[Value.int IntKind.i64 x.e.tag, Value.slice x.a x.e.data.length x.c, Value.int IntKind.i64 x.e.kids] 32)).drewN 1).heap.size := HO5.out.bel.size
          generalize ((wr.alloc (Obj.cells #[Value.int IntKind.i64 x.e.tag, Value.slice x.a x.e.data.length x.c, Value.int IntKind.i64 x.e.kids] 32)).drewN 1) = w4 at *
          have C4 := head_any w2.heap.size w4 (.slice va vn vc) acc x.e.tag N HO5.out.own hs5 (by omega) htg.1 htg.2 hNb
          clear HT4 cN4 ct4 HO4 cN c0 c1 c2
          go_wp2_with fail
          refine C4.mono ?_
          rintro e w5 ⟨v5, rfl, hob5⟩
          have HO6 : Hid (Ob w2.heap.size w2 w5 v5 (acc ++ hd x.e.tag N)) := ⟨hob5.own, HO5.out.bel.trans hob5.bel, HO5.out.ku.trans hob5.ku⟩
          have HT6 : Hid (Bl 32 w5 wr.heap.size [.int .i64 x.e.tag, .slice x.a x.e.data.length x.c, .int .i64 x.e.kids]) := hob5.ku.bl HT5.out (by decide)
          have ct6 : w5.cell? ⟨wr.heap.size, 1, none⟩ = some (.slice x.a x.e.data.length x.c) := HT6.out.cell 1 (by simp)
          have hs6 : w2.heap.size ≤ w5.heap.size := HO6.out.bel.size
          have Hx6 : Hid (Rd w5 x.a x.e.data) := Hxr.out.below HO6.out.bel (Nat.le_refl _)
          have hhl := (hd_length x.e.tag N).2
          have HAL : Hid ((acc ++ hd x.e.tag N).length + x.e.data.length ≤ 10000000000) := by show _ ≤ _; rw [List.length_append]; omega
          clear hob5 C4 HT5 HO5
          obtain ⟨a5, n5, c5, hv5⟩ : ∃ a n c, v5 = .slice a n c := (own_slice HO6.out.own).elim fun a h => h.elim fun c e => ⟨a, _, c, e⟩
          subst hv5
          go_wp2_with (at_builtin; refine append_ob rfl (.tmp 36) (.tmp 38) rfl w2.heap.size _ (acc ++ hd x.e.tag N) rfl HO6.out x.a x.e.data.length x.c x.e.data rfl rfl (fun e => ⟨HDN.out e, Hnlx.out e⟩) Hx6.out HAL.out hs6 ?_; intro v7 w7 hob7)
          have HP7 : Hid (Pw w2 w7 v7 xs (k + 1)) := ⟨_, hob7, by rw [← Hacc.out, HPk.out]; simp⟩
          clear hob7
          obtain ⟨a7, n7, c7, hv7⟩ : ∃ a n c, v7 = .slice a n c := HP7.out.ex.elim fun acc h => (own_slice h.1.own).elim fun a h => h.elim fun c e => ⟨a, _, c, e⟩
          subst hv7
          go_wp2
          go_roundw
          case rel => exact ⟨k + 1, by go_num, by omega, HP7⟩
          case measure => simp [intOf]; omega
        · obtain rfl : k = xs.length := by omega
          obtain ⟨acc, hob, hacc⟩ := HPw.out.ex
          rw [List.drop_of_length_le (by rw [es_length]; exact Nat.le_refl _), pr, List.append_nil, HPR.out] at hacc
          have Hacc : Hid (acc = bs) := hacc
          have HOb : Hid (Ob w2.heap.size w2 wr (.slice va vn vc) acc) := hob
          clear hacc hob HPw
          go_wp2
          go_ret2
          refine ⟨_, ⟨by rw [HP2.out]; rfl, HB2.out.trans (HOb.out.bel.mono HB2.out.size)⟩, ?_⟩
          rw [HP2.out]
          have := HOb.out.own
          rw [Hacc.out] at this
          exact own_base this HB2.out.size
end Go.Proofs.Ytkaoobdemaahbaa
