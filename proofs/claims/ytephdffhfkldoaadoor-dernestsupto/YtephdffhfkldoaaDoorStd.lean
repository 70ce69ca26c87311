import Derived.Test.YtephdffhfkldoaaDoorOi
namespace Go.Proofs.YtephdffhfkldoaaDoor
open Go.RowKit

/-- A list of one's own can be read. -/
theorem Lst.row {base : Nat} {w : World} {v : Value} {xs : List X} (h : Lst base w v xs) : ∃ ao cap, v = .slice ao xs.length cap ∧ Row w ao xs ∧ (∀ x ∈ xs, x.a = none → x.c = 0) ∧ xs.length ≤ cap ∧ (ao = none → cap = 0) := by
  have hok : ∀ x ∈ xs, XOk w x ∧ (x.a = none → x.c = 0) := fun x hx => by
    have hd := h.dat x hx
    obtain ⟨r1, r2, r3⟩ := own_rd hd
    have hn := h.num x hx
    refine ⟨⟨r1, r2, r3, by omega, by omega⟩, fun e => ?_⟩
    rcases hd.2 with ⟨h', _⟩ | ⟨g, cap, cur, h', _⟩
    · simp only [xD, Value.slice.injEq] at h'
      exact h'.2.2
    · simp only [xD, Value.slice.injEq] at h'
      rw [e] at h'
      cases h'.1
  rcases h.own.2 with ⟨h', h0⟩ | ⟨g, cap, cur, h', _, _, h1, _⟩
  · refine ⟨none, 0, by rw [h', h0], ⟨.inl (List.length_eq_zero_iff.1 h0), fun x hx => (hok x hx).1⟩, fun x hx => (hok x hx).2, by omega, fun _ => rfl⟩
  · refine ⟨_, _, h', ⟨.inr ⟨g, 0, rfl, ?_, fun j hj => ?_⟩, fun x hx => (hok x hx).1⟩, fun x hx => (hok x hx).2, h1, fun e => by cases e⟩
    · exact (h.own.lt g (by rw [h']; rfl)).2
    · have ho := h.own
      rw [h'] at ho
      have hcell : ∀ i, i < 3 → w.cell? ⟨g, 0 + j * 3 + i, none⟩ = (xC xs[j])[i]? := fun i hi => by
        rw [Nat.zero_add, World.ownsRow.cellAt ho (j * 3 + i) (by omega)]
        have e1 : xs = xs.take j ++ xs[j] :: xs.drop (j + 1) := by rw [← List.drop_eq_getElem_cons hj, List.take_append_drop]
        have e2 : xCs xs = xCs (xs.take j) ++ (xC xs[j] ++ xCs (xs.drop (j + 1))) := by
          conv => lhs; rw [e1]
          rw [xCs_append]
          rfl
        have e3 : (xCs (xs.take j)).length = j * 3 := by rw [xCs_length, List.length_take]; omega
        rw [e2, List.getElem?_append_right (by omega), e3, Nat.add_sub_cancel_left, List.getElem?_append_left (by simp [xC]; omega)]
      exact ⟨hcell 0 (by omega), hcell 1 (by omega), hcell 2 (by omega)⟩

theorem st_p1 : parse [48, 5, 2, 1, 5, 5, 0] = ([⟨48, [], 2⟩, ⟨2, [5], 0⟩, ⟨5, [], 0⟩], 0, 0) := by decide +kernel
theorem st_p2 : prints [⟨48, [], 2⟩, ⟨2, [5], 0⟩, ⟨5, [], 0⟩] = ([48, 5, 2, 1, 5, 5, 0], 0) := by decide +kernel
theorem st_p3 : parse [48, 5, 2, 1, 5, 5] = ([], 80, 0) := by decide +kernel
theorem st_u : uintV ⟨2, [0, 128], 0⟩ = some [128] := by decide +kernel

theorem rd_bl {t : TypeId} {w : World} {b : Nat} {vs : List Value} {l : List UInt8} (h : Bl t w b vs) (hv : vs = l.map B) : Rd w (some ⟨b, 0, none⟩) l := by
  subst hv
  refine .inr ⟨b, 0, rfl, h.lt, fun j hj => ?_⟩
  rw [Nat.zero_add, h.cell j (by simpa using hj), List.getElem_map, getD_eq _ _ hj]

set_option maxRecDepth 100000 in
set_option maxHeartbeats 4000000 in
theorem started_any (w : World) : Calls Tryd.prog 9 #[] w fun e w' => e = .returned (.bool true) ∧ Below w.heap.size w w' := by
  have HR0 : Hid (Rd (w.alloc (Obj.cells #[.int .u8 48, .int .u8 5, .int .u8 2, .int .u8 1, .int .u8 5, .int .u8 5, .int .u8 0] 5)) (some ⟨w.heap.size, 0, none⟩) [48, 5, 2, 1, 5, 5, 0]) := rd_bl (alloc_bl w [.int .u8 48, .int .u8 5, .int .u8 2, .int .u8 1, .int .u8 5, .int .u8 5, .int .u8 0] 5) rfl
  have HB0 : Hid (Below w.heap.size w (w.alloc (Obj.cells #[.int .u8 48, .int .u8 5, .int .u8 2, .int .u8 1, .int .u8 5, .int .u8 5, .int .u8 0] 5))) := alloc_below _ _
  go_enter Tryd.func9, Tryd.ntmps9
  go_wp2_with fail
  generalize (w.alloc (Obj.cells #[.int .u8 48, .int .u8 5, .int .u8 2, .int .u8 1, .int .u8 5, .int .u8 5, .int .u8 0] 5)) = w1 at *
  have C1 : Hid (Calls Tryd.prog 10 #[.slice (some ⟨w.heap.size, 0, none⟩) 7 7] w1 fun e w' => ∃ lv xs, (e = .returned (.tuple #[lv, .int .i64 0, .int .i64 0]) ∧ Below w1.heap.size w1 w') ∧ Lst w1.heap.size w' lv xs ∧ es xs = [⟨48, [], 2⟩, ⟨2, [5], 0⟩, ⟨5, [], 0⟩]) := by
    have := parse_any (some ⟨w.heap.size, 0, none⟩) 7 [48, 5, 2, 1, 5, 5, 0] w1 HR0.out (by simp) (by omega) (fun e => by cases e)
    rw [st_p1] at this
    exact this
  refine C1.out.mono ?_
  rintro e w2 ⟨lv, xs, ⟨rfl, hB2⟩, hL, hes⟩
  have hxl : xs.length = 3 := by have := congrArg List.length hes; rw [es_length] at this; exact this
  obtain ⟨ao, cap, hlv, hRow, hnl, hcp, hnn⟩ := hL.row
  rw [hxl] at hlv
  subst hlv
  have HB2 : Hid (Below w.heap.size w w2) := HB0.out.trans (hB2.mono HB0.out.size)
  have HR2 : Hid (Rd w2 (some ⟨w.heap.size, 0, none⟩) [48, 5, 2, 1, 5, 5, 0]) := HR0.out.below hB2 (Nat.le_refl _)
  have HRow : Hid (Row w2 ao xs) := hRow
  have C2 : Hid (Calls Tryd.prog 11 #[.slice ao 3 cap] w2 fun e w' => ∃ bv, (e = .returned (.tuple #[bv, .int .i64 0]) ∧ Below w2.heap.size w2 w') ∧ w'.ownsRow w2.heap.size 5 1 bv 7 (([48, 5, 2, 1, 5, 5, 0] : List UInt8).map B)) := by
    have := print_any ao cap xs w2 hRow hnl (by omega) (by rw [hes]; decide)
    rw [hxl] at this
    refine this.mono ?_
    intro e w' h
    unfold PrA at h
    rw [hes, st_p2] at h
    exact h
  obtain ⟨x0, xs', hx0, hk0⟩ : ∃ x0 xs', xs = x0 :: xs' ∧ x0.e.kids = 2 := by
    match xs, hes with
    | x0 :: xs', hes =>
      simp only [es, List.map_cons, List.cons.injEq] at hes
      exact ⟨x0, xs', rfl, by rw [hes.1]⟩
  obtain ⟨gl, ol, hao, cK⟩ : ∃ gl ol, ao = some ⟨gl, ol, none⟩ ∧ w2.cell? ⟨gl, ol + 2, none⟩ = some (.int .i64 2) := by
    rcases hRow.at' with h0 | ⟨g, off, e, hg, hc⟩
    · rw [h0] at hxl; simp at hxl
    · refine ⟨g, off, e, ?_⟩
      have := (hc 0 (by omega)).2.2
      subst hx0
      rw [List.getElem_cons_zero, hk0] at this
      simpa using this
  subst hao
  clear C1 HR0 HB0 hB2 hL hes hRow hnl hnn hx0 hk0
  go_wp2_with fail
  refine C2.out.mono ?_
  rintro e w3 ⟨bv, ⟨rfl, hB3⟩, hbv⟩
  obtain ⟨ab, cb, hbvs⟩ := own_slice hbv
  subst hbvs
  have HB3 : Hid (Below w.heap.size w w3) := HB2.out.trans (hB3.mono HB2.out.size)
  have HR3 : Hid (Rd w3 (some ⟨w.heap.size, 0, none⟩) [48, 5, 2, 1, 5, 5, 0]) := HR2.out.below hB3 (Nat.le_refl _)
  have cK3 := cell_but cK fun hg => hB3.block gl hg
  have Hbv3 : Hid (Rd w3 ab [48, 5, 2, 1, 5, 5, 0]) := (own_rd hbv).1
  clear hB3 hbv C2 HB2 HR2 cK HRow
  have C3 : Hid (Calls Tryd.prog 10 #[.slice (some ⟨w.heap.size, 0, none⟩) 6 7] w3 fun e w' => ∃ lv xs, (e = .returned (.tuple #[lv, .int .i64 80, .int .i64 0]) ∧ Below w3.heap.size w3 w') ∧ Lst w3.heap.size w' lv xs ∧ es xs = []) := by
    have := parse_any (some ⟨w.heap.size, 0, none⟩) 7 [48, 5, 2, 1, 5, 5] w3 (HR3.out.take 6) (by simp) (by omega) (fun e => by cases e)
    rw [st_p3] at this
    exact this
  go_wp2_with fail
  refine C3.out.mono ?_
  rintro e w4 ⟨lv4, xs4, ⟨rfl, hB4⟩, hL4, _⟩
  obtain ⟨a4, c4, hlv4, _⟩ := hL4.row
  subst hlv4
  have HB4 : Hid (Below w.heap.size w w4) := HB3.out.trans (hB4.mono HB3.out.size)
  have HR4 : Hid (Rd w4 (some ⟨w.heap.size, 0, none⟩) [48, 5, 2, 1, 5, 5, 0]) := HR3.out.below hB4 (Nat.le_refl _)
  have cK4 := cell_but cK3 fun hg => hB4.block gl hg
  have Hbv4 : Hid (Rd w4 ab [48, 5, 2, 1, 5, 5, 0]) := Hbv3.out.below hB4 (Nat.le_refl _)
  clear hB4 C3 HB3 HR3 cK3 Hbv3 hL4
  have C4 : Hid (Calls Tryd.prog 20 #[.agg #[.int .i64 6, .slice (some ⟨w4.heap.size, 0, none⟩) 2 2, .int .i64 0]] (w4.alloc (Obj.cells #[.int .u8 42, .int .u8 3] 5)) fun e w' => e = .returned (.tuple #[.string ⟨#[49, 46, 50, 46, 51]⟩, .bool true]) ∧ Below (w4.alloc (Obj.cells #[.int .u8 42, .int .u8 3] 5)).heap.size (w4.alloc (Obj.cells #[.int .u8 42, .int .u8 3] 5)) w') :=
    oid_123 w4.heap.size 2 _ (rd_bl (alloc_bl w4 [.int .u8 42, .int .u8 3] 5) rfl) (by omega) (by omega)
  go_wp2_with fail
  refine C4.out.mono ?_
  rintro e w5 ⟨rfl, hB5⟩
  have HB45 : Hid (Below w4.heap.size w4 w5) := (alloc_below w4 _).trans (hB5.mono (alloc_below w4 _).size)
  have HB5 : Hid (Below w.heap.size w w5) := HB4.out.trans (HB45.out.mono HB4.out.size)
  have HR5 : Hid (Rd w5 (some ⟨w.heap.size, 0, none⟩) [48, 5, 2, 1, 5, 5, 0]) := HR4.out.below HB45.out (Nat.le_refl _)
  have cK5 := cell_but cK4 fun hg => HB45.out.block gl hg
  have Hbv5 : Hid (Rd w5 ab [48, 5, 2, 1, 5, 5, 0]) := Hbv4.out.below HB45.out (Nat.le_refl _)
  clear hB5 C4 HB4 HR4 cK4 Hbv4 HB45
  have C5 : Hid (Calls Tryd.prog 17 #[.agg #[.int .i64 2, .slice (some ⟨w5.heap.size, 0, none⟩) 2 2, .int .i64 0]] (w5.alloc (Obj.cells #[.int .u8 0, .int .u8 128] 5)) fun e w' => ∃ v, (e = .returned (.tuple #[v, .bool true]) ∧ Below (w5.alloc (Obj.cells #[.int .u8 0, .int .u8 128] 5)).heap.size (w5.alloc (Obj.cells #[.int .u8 0, .int .u8 128] 5)) w') ∧ w'.ownsRow (w5.alloc (Obj.cells #[.int .u8 0, .int .u8 128] 5)).heap.size 5 1 v 1 (([128] : List UInt8).map B)) := by
    have := uint_any ⟨⟨2, [0, 128], 0⟩, some ⟨w5.heap.size, 0, none⟩, 2⟩ (w5.alloc (Obj.cells #[.int .u8 0, .int .u8 128] 5)) ⟨rd_bl (alloc_bl w5 [.int .u8 0, .int .u8 128] 5) rfl, Nat.le_refl _, by show 2 ≤ 9223372036854775807; decide, by show (-9223372036854775808 : Int) ≤ 0; decide, by show (0 : Int) ≤ 9223372036854775807; decide⟩ (fun e => by cases e) (by simp)
    simp only [st_u] at this
    exact this
  go_wp2_with fail
  refine C5.out.mono ?_
  rintro e w6 ⟨v6, ⟨rfl, hB6⟩, hv6⟩
  obtain ⟨a6, c6, hv6s⟩ := own_slice hv6
  subst hv6s
  have HB56 : Hid (Below w5.heap.size w5 w6) := (alloc_below w5 _).trans (hB6.mono (alloc_below w5 _).size)
  have HB6 : Hid (Below w.heap.size w w6) := HB5.out.trans (HB56.out.mono HB5.out.size)
  have HR6 : Hid (Rd w6 (some ⟨w.heap.size, 0, none⟩) [48, 5, 2, 1, 5, 5, 0]) := HR5.out.below HB56.out (Nat.le_refl _)
  have cK6 := cell_but cK5 fun hg => HB56.out.block gl hg
  have Hbv6 : Hid (Rd w6 ab [48, 5, 2, 1, 5, 5, 0]) := Hbv5.out.below HB56.out (Nat.le_refl _)
  clear hB6 C5 HB5 HR5 cK5 Hbv5 HB56 hv6
  have C6 : Hid (Calls Tryd.prog 13 #[.slice (some ⟨w.heap.size, 0, none⟩) 7 7, .slice ab 7 cb] w6 fun e w' => e = .returned (.bool true) ∧ ∃ q, w' = w6.drewN q) := by
    have := sameBytes_any (some ⟨w.heap.size, 0, none⟩) ab 7 cb [48, 5, 2, 1, 5, 5, 0] [48, 5, 2, 1, 5, 5, 0] w6 HR6.out Hbv6.out (by simp) (by simp)
    rw [decide_eq_true rfl] at this
    exact this
  go_wp2_with fail
  refine C6.out.mono ?_
  rintro e w7 ⟨rfl, q, rfl⟩
  go_wp2
  go_ret
  exact ⟨rfl, below_drewN HB6.out q⟩

end Go.Proofs.YtephdffhfkldoaaDoor
