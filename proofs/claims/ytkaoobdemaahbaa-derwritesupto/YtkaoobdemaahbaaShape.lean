import Derived.Test.YtkaoobdemaahbaaLeaf
namespace Go.Proofs.Ytkaoobdemaahbaa
open Go.RowKit

/-- A list of elements lies there. -/
structure Row (w : World) (ao : Option Addr) (xs : List X) : Prop where
  at' : xs = [] ∨ ∃ g off : Nat, ao = some ⟨g, off, none⟩ ∧ g < w.heap.size ∧ ∀ j, (hj : j < xs.length) → w.cell? ⟨g, off + j * 3, none⟩ = some (.int .i64 xs[j].e.tag) ∧ w.cell? ⟨g, off + j * 3 + 1, none⟩ = some (xD xs[j]) ∧ w.cell? ⟨g, off + j * 3 + 2, none⟩ = some (.int .i64 xs[j].e.kids)
  ok : ∀ x ∈ xs, XOk w x

def es (xs : List X) : List E := xs.map (·.e)
theorem es_length (xs : List X) : (es xs).length = xs.length := by simp [es]

theorem Row.below {w w' : World} {ao : Option Addr} {xs : List X} {n : Nat} (h : Row w ao xs) (hb : Below n w w') (hn : w.heap.size ≤ n) : Row w' ao xs := by
  refine ⟨?_, fun x hx => (h.ok x hx).below hb hn⟩
  rcases h.at' with h | ⟨g, off, e, hg, hc⟩
  · exact .inl h
  · refine .inr ⟨g, off, e, Nat.lt_of_lt_of_le hg hb.size, fun j hj => ?_⟩
    have hk : g < w.heap.size → w'.heap[g]? = w.heap[g]? := fun h1 => hb.block g (by omega)
    exact ⟨cell_but (hc j hj).1 hk, cell_but (hc j hj).2.1 hk, cell_but (hc j hj).2.2 hk⟩

def bhI (v : List E) (d k : Nat) : Int := match bh d (v.drop k) with
  | some r => (v.length : Int) - (r.length : Int)
  | none => -1

theorem bh_suffix {d : Nat} {l r : List E} (h : bh d l = some r) : ∃ m, 0 < m ∧ m ≤ l.length ∧ r = l.drop m := by
  obtain ⟨ts, bs, e, hp⟩ := bh_El d l r h
  refine ⟨ts.length, ?_, by rw [e]; simp, by rw [e, List.drop_left]⟩
  cases ts with
  | cons a b => simp
  | nil =>
    exfalso
    cases d with
    | zero => obtain ⟨t, e, _⟩ := hp; cases e
    | succ d => rcases hp with ⟨t, e, _⟩ | ⟨t, q, b, e, _⟩ <;> cases e

theorem bhI_nil (v : List E) (d k : Nat) (h : v.length ≤ k) : bhI v d k = -1 := by
  unfold bhI
  rw [List.drop_of_length_le h]
  cases d <;> rfl

theorem bh_bad {d : Nat} {t : E} {r : List E} (h : sound t = false) : bh d (t :: r) = none := by
  cases d <;> simp [bh, h]
theorem bh_deep {t : E} {r : List E} (h : con t.tag = true) : bh 0 (t :: r) = none := by simp [bh, h]
theorem bh_prim {d : Nat} {t : E} {r : List E} (h : sound t = true) (hc : con t.tag = false) : bh d (t :: r) = some r := by
  cases d with
  | zero => simp [bh, h, hc]
  | succ d => simp [bh, h, kids_prim h hc, bks]
theorem bh_con {d : Nat} {t : E} {r : List E} (h : sound t = true) : bh (d + 1) (t :: r) = bks (bh d) t.kids.toNat r := by simp [bh, h]

theorem drop_es (xs : List X) (k : Nat) (h : k < xs.length) : (es xs).drop k = xs[k].e :: (es xs).drop (k + 1) := by
  rw [List.drop_eq_getElem_cons (by rw [es_length]; exact h)]
  simp [es]

theorem bhI_cases (v : List E) (d m : Nat) (hm : m ≤ v.length) : (bhI v d m = -1 ∧ bh d (v.drop m) = none) ∨ ∃ m', m' ≤ v.length ∧ bhI v d m = (m' : Int) ∧ bh d (v.drop m) = some (v.drop m') := by
  unfold bhI
  generalize hr : bh d (v.drop m) = q
  cases q with
  | none => exact .inl ⟨rfl, rfl⟩
  | some r =>
    obtain ⟨j, h1, h2, h3⟩ := bh_suffix hr
    rw [List.length_drop] at h2
    rw [List.drop_drop] at h3
    refine .inr ⟨m + j, by omega, ?_, by rw [h3]⟩
    simp only
    rw [h3, List.length_drop]
    omega

theorem bhI_of {v : List E} {d k m : Nat} (h : bh d (v.drop k) = some (v.drop m)) (hm : m ≤ v.length) : bhI v d k = (m : Int) := by
  unfold bhI; rw [h]; simp only [List.length_drop]; omega

def BhC (d : Nat) : Prop := ∀ (ao : Option Addr) (cap : Nat) (xs : List X) (w : World) (k : Nat) (op : Int), Row w ao xs → xs.length ≤ 281474976710656 → k ≤ xs.length → op = 32 - (d : Int) →
  Calls Try.prog 14 #[.slice ao xs.length cap, .int .i64 (k : Int), .int .i64 op] w fun e w' => e = .returned (.int .i64 (bhI (es xs) d k)) ∧ Below w.heap.size w w'

/-- What one call of itself answers. -/
def Stp (f : List E → Option (List E)) (v : List E) (m : Nat) (z : Int) : Prop := (z = -1 ∧ f (v.drop m) = none) ∨ ∃ m', m' ≤ v.length ∧ z = (m' : Int) ∧ f (v.drop m) = some (v.drop m')

set_option maxHeartbeats 2000000 in
theorem behind_walk (_d : Nat) (ao : Option Addr) (cap : Nat) (xs : List X) (w : World) (k : Nat) (op : Int) (hR : Row w ao xs) (hlen : xs.length ≤ 281474976710656) (hkl : k < xs.length) (ho1 : 0 ≤ op) (ho2 : op ≤ 32)
    (hs : sound xs[k].e = true) (hgo : (con xs[k].e.tag && decide (32 ≤ op)) = false) (f : List E → Option (List E))
    (hf : 0 < xs[k].e.kids → ∀ (w' : World) (m : Nat), Row w' ao xs → m ≤ xs.length → Calls Try.prog 14 #[.slice ao xs.length cap, .int .i64 (m : Int), .int .i64 (op + 1)] w' fun e w'' => ∃ z, (e = .returned (.int .i64 z) ∧ Below w'.heap.size w' w'') ∧ Stp f (es xs) m z) :
    Calls Try.prog 14 #[.slice ao xs.length cap, .int .i64 (k : Int), .int .i64 op] w fun e w' => ∃ z, (e = .returned (.int .i64 z) ∧ Below w.heap.size w w') ∧ ((z = -1 ∧ bks f xs[k].e.kids.toNat ((es xs).drop (k + 1)) = none) ∨ ∃ m', m' ≤ xs.length ∧ z = (m' : Int) ∧ bks f xs[k].e.kids.toNat ((es xs).drop (k + 1)) = some ((es xs).drop m')) := by
  have hR0 := hR
  rcases hR.at' with h0 | ⟨g, off, rfl, hg, hc⟩
  · subst h0; simp at hkl
  obtain ⟨c0, c1, c2⟩ := hc k hkl
  have hok := hR.ok xs[k] (List.getElem_mem hkl)
  have C1 := sound_any xs[k] w hok
  have hT := tag_of hs
  rw [hs] at C1
  generalize xs[k] = x at *
  obtain ⟨⟨t, l, kd⟩, a, c⟩ := x
  have hb1 := hok.lo
  have hb2 := hok.hi
  unfold xV xD at *
  simp only at *
  have C3 := fun w => isCon_any t w hT.1 hT.2
  generalize con t = cc at *
  have HC1 : Hid (Calls Try.prog 23 #[.agg #[.int .i64 t, .slice a l.length c, .int .i64 kd]] w fun e w' => e = .returned (.bool true) ∧ Below w.heap.size w w') := C1
  have HC3 : Hid (∀ w, Calls Try.prog 24 #[.int .i64 t] w fun e w' => e = .returned (.bool cc) ∧ w' = w) := C3
  have HF : Hid (0 < kd → ∀ (w' : World) (m : Nat), Row w' (some ⟨g, off, none⟩) xs → m ≤ xs.length → Calls Try.prog 14 #[.slice (some ⟨g, off, none⟩) xs.length cap, .int .i64 (m : Int), .int .i64 (op + 1)] w' fun e w'' => ∃ z, (e = .returned (.int .i64 z) ∧ Below w'.heap.size w' w'') ∧ Stp f (es xs) m z) := hf
  clear C1 C3 hs hc hR hok hf hT
  go_enter Try.func14, Try.ntmps14
  go_wp2_with fail
  refine HC1.out.mono ?_
  rintro e w1 ⟨rfl, hB1⟩
  have c0' := cell_but c0 fun hg => hB1.block g hg
  have c2' := cell_but c2 fun hg => hB1.block g hg
  have HR1 : Hid (Row w1 (some ⟨g, off, none⟩) xs) := hR0.below hB1 (Nat.le_refl _)
  have HB1 : Hid (Below w.heap.size w w1) := hB1
  clear c0 c1 c2 hR0 hB1 HC1
  go_wp2_with fail
  refine (HC3.out _).mono ?_
  rintro e w2 ⟨rfl, rfl⟩
  have hgo' : cc = true → op < 32 := fun h => by rw [h] at hgo; simp at hgo; exact hgo
  clear hgo
  have key : ∀ cc', cc = cc' → (cc' = true → op < 32) → True := fun _ _ _ => trivial
  clear key
  rcases (show cc = false ∨ (cc = true ∧ op < 32) by cases cc with | false => exact .inl rfl | true => exact .inr ⟨rfl, hgo' rfl⟩) with rfl | ⟨rfl, hop⟩
  all_goals
    clear hgo' HC3
    go_wp2
    go_loopw [7, 37] (fun s7 s37 wr => ∃ (m i : Nat), s7 = .int .i64 (m : Int) ∧ s37 = .int .i64 (i : Int) ∧ m ≤ xs.length ∧ i ≤ kd.toNat ∧ Hid (Below w.heap.size w wr) ∧ Hid (Row wr (some ⟨g, off, none⟩) xs) ∧ Hid (bks f kd.toNat ((es xs).drop (k + 1)) = bks f (kd.toNat - i) ((es xs).drop m))) (fun _ s _ => kd.toNat - (intOf s).toNat)
    case atStart => exact ⟨k + 1, 0, by go_num, rfl, by omega, Nat.zero_le _, HB1, HR1, rfl⟩
    case round =>
      obtain ⟨m, i, rfl, rfl, hm, hi, HB2, HR2, HK⟩ := hrel
      by_cases hik : (i : Int) < kd
      · have C := HF.out (by omega) wr m HR2.out hm
        have hko : kd.toNat - i = (kd.toNat - (i + 1)) + 1 := by omega
        have HK2 : Hid (bks f kd.toNat ((es xs).drop (k + 1)) = match f ((es xs).drop m) with | none => none | some r => bks f (kd.toNat - (i + 1)) r) := by
          show _ = _
          rw [HK.out, hko]
          rfl
        clear HK hko
        go_wp2_with fail
        refine C.mono ?_
        rintro e w3 ⟨z, ⟨rfl, hB3⟩, hz⟩
        have HB3 : Hid (Below w.heap.size w w3) := HB2.out.trans (hB3.mono HB2.out.size)
        have HR3 : Hid (Row w3 (some ⟨g, off, none⟩) xs) := HR2.out.below hB3 (Nat.le_refl _)
        clear HB2 HR2 hB3 C
        rcases hz with ⟨rfl, hz⟩ | ⟨m', hm', rfl, hz⟩
        · have HK3 : Hid (bks f kd.toNat ((es xs).drop (k + 1)) = none) := by
            show _ = _
            rw [HK2.out, hz]
          clear HK2 hz
          go_wp2
          go_ret
          exact ⟨-1, ⟨rfl, HB3.out⟩, .inl ⟨rfl, HK3.out⟩⟩
        · have HK3 : Hid (bks f kd.toNat ((es xs).drop (k + 1)) = bks f (kd.toNat - (i + 1)) ((es xs).drop m')) := by
            show _ = _
            rw [HK2.out, hz]
          rw [es_length] at hm'
          clear HK2 hz
          go_wp2
          go_roundw
          case rel => exact ⟨m', i + 1, rfl, by go_num, hm', by omega, HB3, HR3, HK3⟩
          case measure => simp [intOf]; omega
      · have HK2 : Hid (bks f kd.toNat ((es xs).drop (k + 1)) = some ((es xs).drop m)) := by
          show _ = _
          rw [HK.out, show kd.toNat - i = 0 from by omega]
          rfl
        clear HK
        go_wp2
        go_ret
        exact ⟨(m : Int), ⟨rfl, HB2.out⟩, .inr ⟨m, hm, rfl, HK2.out⟩⟩

set_option maxHeartbeats 1000000 in
theorem behind_end (d : Nat) (ao : Option Addr) (cap : Nat) (xs : List X) (w : World) (k : Nat) (op : Int) (_hlen : xs.length ≤ 281474976710656) (hk : k ≤ xs.length) (hkl : ¬ k < xs.length) :
    Calls Try.prog 14 #[.slice ao xs.length cap, .int .i64 (k : Int), .int .i64 op] w fun e w' => e = .returned (.int .i64 (bhI (es xs) d k)) ∧ Below w.heap.size w w' := by
  have hk' : k = xs.length := by omega
  have HF : Hid (bhI (es xs) d k = -1) := bhI_nil _ _ _ (by rw [es_length]; omega)
  subst hk'
  go_enter Try.func14, Try.ntmps14
  go_wp2
  go_ret
  exact ⟨by rw [HF.out]; rfl, Below.refl _ _⟩

set_option maxHeartbeats 1000000 in
theorem behind_bad {d : Nat} (ao : Option Addr) (cap : Nat) (xs : List X) (w : World) (k : Nat) (op : Int) (hR : Row w ao xs) (hlen : xs.length ≤ 281474976710656) (hkl : k < xs.length) (hs : sound xs[k].e = false) (HF : Hid (bhI (es xs) d k = -1)) :
    Calls Try.prog 14 #[.slice ao xs.length cap, .int .i64 (k : Int), .int .i64 op] w fun e w' => e = .returned (.int .i64 (bhI (es xs) d k)) ∧ Below w.heap.size w w' := by
  rcases hR.at' with h0 | ⟨g, off, rfl, hg, hc⟩
  · subst h0; simp at hkl
  obtain ⟨c0, c1, c2⟩ := hc k hkl
  have C1 := sound_any xs[k] w (hR.ok xs[k] (List.getElem_mem hkl))
  rw [hs] at C1
  generalize xs[k] = x at *
  obtain ⟨⟨t, l, kd⟩, a, c⟩ := x
  unfold xV xD at *
  simp only at *
  have HC1 : Hid (Calls Try.prog 23 #[.agg #[.int .i64 t, .slice a l.length c, .int .i64 kd]] w fun e w' => e = .returned (.bool false) ∧ Below w.heap.size w w') := C1
  clear hc C1 hs hR
  go_enter Try.func14, Try.ntmps14
  go_wp2_with fail
  refine HC1.out.mono ?_
  rintro e w1 ⟨rfl, hB1⟩
  go_wp2
  go_ret
  exact ⟨by rw [HF.out]; rfl, hB1⟩

set_option maxHeartbeats 1000000 in
theorem behind_deep {d : Nat} (ao : Option Addr) (cap : Nat) (xs : List X) (w : World) (k : Nat) (op : Int) (hR : Row w ao xs) (hlen : xs.length ≤ 281474976710656) (hkl : k < xs.length) (hs : sound xs[k].e = true) (hcn : con xs[k].e.tag = true) (hop : 32 ≤ op) (HF : Hid (bhI (es xs) d k = -1)) :
    Calls Try.prog 14 #[.slice ao xs.length cap, .int .i64 (k : Int), .int .i64 op] w fun e w' => e = .returned (.int .i64 (bhI (es xs) d k)) ∧ Below w.heap.size w w' := by
  rcases hR.at' with h0 | ⟨g, off, rfl, hg, hc⟩
  · subst h0; simp at hkl
  obtain ⟨c0, c1, c2⟩ := hc k hkl
  have C1 := sound_any xs[k] w (hR.ok xs[k] (List.getElem_mem hkl))
  have hT := tag_of hs
  have C3 := fun w => isCon_any xs[k].e.tag w hT.1 hT.2
  rw [hs] at C1
  rw [hcn] at C3
  generalize xs[k] = x at *
  obtain ⟨⟨t, l, kd⟩, a, c⟩ := x
  unfold xV xD at *
  simp only at *
  have HC1 : Hid (Calls Try.prog 23 #[.agg #[.int .i64 t, .slice a l.length c, .int .i64 kd]] w fun e w' => e = .returned (.bool true) ∧ Below w.heap.size w w') := C1
  have HC3 : Hid (∀ w, Calls Try.prog 24 #[.int .i64 t] w fun e w' => e = .returned (.bool true) ∧ w' = w) := C3
  clear hc C1 C3 hs hR hT hcn
  go_enter Try.func14, Try.ntmps14
  go_wp2_with fail
  refine HC1.out.mono ?_
  rintro e w1 ⟨rfl, hB1⟩
  have c0' := cell_but c0 fun hg => hB1.block g hg
  clear c0 c1 c2
  go_wp2_with fail
  refine (HC3.out _).mono ?_
  rintro e w2 ⟨rfl, rfl⟩
  go_wp2
  go_ret
  exact ⟨by rw [HF.out]; rfl, hB1⟩

theorem behind_step (d : Nat) (hd : d ≤ 32) (ih : ∀ d', d = d' + 1 → BhC d') : BhC d := by
  intro ao cap xs w k op hR hlen hk hop
  by_cases hkl : k < xs.length
  · have hD := drop_es xs k hkl
    cases e1 : sound xs[k].e with
    | false =>
      have HF : Hid (bhI (es xs) d k = -1) := by
        show bhI (es xs) d k = -1
        unfold bhI; rw [hD, bh_bad e1]
      exact behind_bad ao cap xs w k op hR hlen hkl e1 HF
    | true =>
      cases ec : con xs[k].e.tag with
      | false =>
        have hk0 := kids_prim e1 ec
        refine (behind_walk d ao cap xs w k op hR hlen hkl (by omega) (by omega) e1 (by rw [ec]; rfl) (fun _ => none) (fun h => by omega)).mono ?_
        rintro e w' ⟨z, h, hz⟩
        have hb : bh d ((es xs).drop k) = some ((es xs).drop (k + 1)) := by rw [hD]; exact bh_prim e1 ec
        have hI := bhI_of hb (by rw [es_length]; omega)
        rw [hk0] at hz
        rcases hz with ⟨rfl, h2⟩ | ⟨m', hm', rfl, h2⟩
        · simp [bks] at h2
        · simp only [Int.toNat_zero, bks, Option.some.injEq] at h2
          have := congrArg List.length h2
          rw [List.length_drop, List.length_drop, es_length] at this
          rw [hI, show (((k + 1 : Nat)) : Int) = (m' : Int) from by omega]
          exact h
      | true =>
        cases d with
        | zero =>
          have HF : Hid (bhI (es xs) 0 k = -1) := by
            show bhI (es xs) 0 k = -1
            unfold bhI; rw [hD, bh_deep ec]
          exact behind_deep ao cap xs w k op hR hlen hkl e1 ec (by omega) HF
        | succ d' =>
          have hI := ih d' rfl
          refine (behind_walk (d' + 1) ao cap xs w k op hR hlen hkl (by omega) (by omega) e1 (by rw [ec]; simp; omega) (bh d') (fun _ w' m hR' hm => ?_)).mono ?_
          · refine (hI ao cap xs w' m (op + 1) hR' hlen hm (by omega)).mono ?_
            rintro e w'' h
            exact ⟨_, h, bhI_cases (es xs) d' m (by rw [es_length]; exact hm)⟩
          · rintro e w' ⟨z, h, hz⟩
            have hb : bh (d' + 1) ((es xs).drop k) = bks (bh d') xs[k].e.kids.toNat ((es xs).drop (k + 1)) := by rw [hD]; exact bh_con e1
            rcases hz with ⟨rfl, h2⟩ | ⟨m', hm', rfl, h2⟩
            · have : bhI (es xs) (d' + 1) k = -1 := by unfold bhI; rw [hb, h2]
              rw [this]; exact h
            · rw [h2] at hb
              rw [bhI_of hb (by rw [es_length]; exact hm')]
              exact h
  · exact behind_end d ao cap xs w k op hlen hk hkl

theorem behind_any : ∀ d, d ≤ 32 → BhC d := by
  intro d
  induction d with
  | zero => intro h; exact behind_step 0 h (fun d' e => by omega)
  | succ d ih => intro h; exact behind_step (d + 1) h (fun d' e => (show d = d' by omega) ▸ ih (by omega))

set_option maxHeartbeats 1000000 in
theorem shaped_any (ao : Option Addr) (cap : Nat) (xs : List X) (w : World) (hR : Row w ao xs) (hlen : xs.length ≤ 281474976710656) :
    Calls Try.prog 6 #[.slice ao xs.length cap] w fun e w' => e = .returned (.bool (shaped (es xs))) ∧ Below w.heap.size w w' := by
  have C := behind_any 32 (Nat.le_refl _) ao cap xs w 0 0 hR hlen (Nat.zero_le _) rfl
  have HE : Hid (True → (bhI (es xs) 32 0 == (xs.length : Int)) = shaped (es xs)) := fun _ => by
    unfold shaped
    rcases bhI_cases (es xs) 32 0 (Nat.zero_le _) with ⟨h1, h2⟩ | ⟨m, h0, h1, h2⟩
    · rw [h1]
      rw [List.drop_zero] at h2
      rw [h2]
      rw [beq_eq_false_iff_ne.2 (by omega)]
      rfl
    · rw [h1]
      rw [List.drop_zero] at h2
      rw [h2]
      rw [es_length] at h0
      by_cases hm : m = xs.length
      · rw [List.drop_of_length_le (by rw [es_length]; omega), hm]
        simp
      · rw [beq_eq_false_iff_ne.2 (by omega)]
        symm
        rw [beq_eq_false_iff_ne]
        intro e
        have := congrArg List.length (Option.some.inj e)
        rw [List.length_drop, es_length] at this
        simp at this
        omega
  have HC : Hid (Calls Try.prog 14 #[.slice ao xs.length cap, .int .i64 0, .int .i64 0] w fun e w' => e = .returned (.int .i64 (bhI (es xs) 32 0)) ∧ Below w.heap.size w w') := C
  clear C
  generalize bhI (es xs) 32 0 = z at *
  go_enter Try.func6, Try.ntmps6
  go_wp2_with fail
  refine HC.out.mono ?_
  rintro e w1 ⟨rfl, hB⟩
  go_wp2
  go_ret
  exact ⟨by rw [← HE.out trivial]; rfl, hB⟩
end Go.Proofs.Ytkaoobdemaahbaa
