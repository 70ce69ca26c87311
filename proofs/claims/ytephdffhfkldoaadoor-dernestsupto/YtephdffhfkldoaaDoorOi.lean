import Derived.Test.YtephdffhfkldoaaDoorUn
import Derived.Lib.AppendStr
import Derived.Laws.IdiomStrings
namespace Go.Proofs.YtephdffhfkldoaaDoor
open Go.RowKit

theorem small_1 (w : World) : Calls Tryd.prog 63 #[.int .i64 1] w fun e w' => e = .returned (.string ⟨#[49]⟩) ∧ w' = w := by
  go_enter Tryd.func63, Tryd.ntmps63
  go_wp2
  go_ret
  exact ⟨rfl, rfl⟩
theorem small_2 (w : World) : Calls Tryd.prog 63 #[.int .i64 2] w fun e w' => e = .returned (.string ⟨#[50]⟩) ∧ w' = w := by
  go_enter Tryd.func63, Tryd.ntmps63
  go_wp2
  go_ret
  exact ⟨rfl, rfl⟩
theorem small_3 (w : World) : Calls Tryd.prog 63 #[.int .i64 3] w fun e w' => e = .returned (.string ⟨#[51]⟩) ∧ w' = w := by
  go_enter Tryd.func63, Tryd.ntmps63
  go_wp2
  go_ret
  exact ⟨rfl, rfl⟩

theorem small_d (n : Nat) (h : n = 1 ∨ n = 2 ∨ n = 3) (w : World) : Calls Tryd.prog 63 #[.int .i64 (n : Int)] w fun e w' => e = .returned (.string ⟨#[UInt8.ofNat (48 + n)]⟩) ∧ w' = w := by
  rcases h with rfl | rfl | rfl
  · exact small_1 w
  · exact small_2 w
  · exact small_3 w

set_option maxRecDepth 100000 in
set_option maxHeartbeats 1000000 in
theorem auint_d (n : Nat) (h : n = 1 ∨ n = 2 ∨ n = 3) (base : Nat) (w0 w : World) (v : Value) (acc : List UInt8) (hob : Ob base w0 w v acc) (hb : base ≤ w.heap.size) (hl : acc.length ≤ 1000000) :
    Calls Tryd.prog 53 #[v, .int .u64 (n : Int), .int .i64 10] w fun e w' => ∃ v', e = .returned v' ∧ Ob base w0 w' v' (acc ++ [UInt8.ofNat (48 + n)]) := by
  obtain ⟨i0, hi, hz0, hz1, hz2⟩ := info_parts infoB
  have C := small_d n h w
  have hn : n < 10 := by omega
  generalize UInt8.ofNat (48 + n) = c at *
  have HO : Hid (Ob base w0 w v acc) := hob
  obtain ⟨va, vn, vc, hv⟩ : ∃ a n c, v = .slice a n c := (own_slice hob.own).elim fun a h => h.elim fun c e => ⟨a, _, c, e⟩
  subst hv
  clear hob h
  go_enter Tryd.func53, Tryd.ntmps53
  go_wp2_with fail
  refine C.mono ?_
  rintro e w1 ⟨rfl, rfl⟩
  clear C
  go_wp2_with (at_builtin; refine Go.Lib.wpList_append_own_string _ rfl (.tmp 13) (.tmp 16) 22 9 rfl base 5 i0 Tryd.underlying22 Tryd.underlying9 hi hz0 hz1 hz2 _ acc.length (acc.map B) rfl HO.out.own ⟨#[c]⟩ rfl (by unfold maxLen; show acc.length + 1 ≤ _; omega) (by show acc.length + 1 ≤ _; omega) hb ?_; intro v5 w5 hown5 hgrow5 hnil5)
  go_ret
  refine ⟨_, rfl, ⟨?_, HO.out.bel.grown hgrow5 hb (own_block HO.out.own), HO.out.ku.trans (Ku.of_grown HO.out.own hgrow5)⟩⟩
  rw [List.map_append, List.length_append]
  exact hown5

set_option maxRecDepth 100000 in
set_option maxHeartbeats 1000000 in
theorem suint_d (n : Nat) (h : n = 1 ∨ n = 2 ∨ n = 3) (base : Nat) (w0 w : World) (v : Value) (acc : List UInt8) (hob : Ob base w0 w v acc) (hb : base ≤ w.heap.size) (hl : acc.length ≤ 1000000) :
    Calls Tryd.prog 39 #[v, .int .u64 (n : Int), .int .i64 10] w fun e w' => ∃ v', e = .returned v' ∧ Ob base w0 w' v' (acc ++ [UInt8.ofNat (48 + n)]) := by
  have C := auint_d n h base w0 w v acc hob hb hl
  obtain ⟨va, vn, vc, hv⟩ : ∃ a n c, v = .slice a n c := (own_slice hob.own).elim fun a h => h.elim fun c e => ⟨a, _, c, e⟩
  subst hv
  clear hob h
  go_enter Tryd.func39, Tryd.ntmps39
  go_wp2_with fail
  refine C.mono ?_
  rintro e w1 ⟨v1, rfl, hob1⟩
  obtain ⟨va, vn, vc, hv⟩ : ∃ a n c, v1 = .slice a n c := (own_slice hob1.own).elim fun a h => h.elim fun c e => ⟨a, _, c, e⟩
  subst hv
  go_wp2
  go_ret
  exact ⟨_, rfl, hob1⟩

theorem text_run {w : World} {base : Nat} {v : Value} {l : List UInt8} (h : w.ownsRow base 5 1 v l.length (l.map B)) :
    (convert 22 9 v).run Tryd.prog w = .ok (.string ⟨l.toArray⟩) w := by
  obtain ⟨a, c, hv⟩ := own_slice h
  subst hv
  rcases h.2 with ⟨h', h0⟩ | ⟨g, cap, cur, h', _⟩
  · simp only [Value.slice.injEq] at h'
    obtain ⟨rfl, h3, rfl⟩ := h'
    obtain rfl : l = [] := List.length_eq_zero_iff.1 h0
    exact run_convert_bytes_nil w 22 5 Tryd.underlying22 Tryd.underlying5 0 0 9 Tryd.underlying9
  · simp only [Value.slice.injEq] at h'
    obtain ⟨rfl, h3, rfl⟩ := h'
    refine run_convert_bytes_back w 22 9 5 ⟨g, 0, none⟩ c l Tryd.underlying22 Tryd.underlying5 Tryd.underlying9 fun j hj => ?_
    rw [Addr.add_lit, Nat.zero_add, World.ownsRow.cellAt h j (by omega), List.getElem?_map, List.getElem?_eq_getElem hj]
    rfl

theorem gr_42 : aloneV ⟨6, [42, 3], 0⟩ 6 = true := by decide +kernel

set_option maxRecDepth 100000 in
set_option maxHeartbeats 2000000 in
/-- The identifier of the bytes 2a 03. -/
theorem oid_123 (g cap : Nat) (w : World) (hr : Rd w (some ⟨g, 0, none⟩) [42, 3]) (hc : 2 ≤ cap) (hc2 : cap ≤ 9223372036854775807) :
    Calls Tryd.prog 20 #[.agg #[.int .i64 6, .slice (some ⟨g, 0, none⟩) 2 cap, .int .i64 0]] w fun e w' => e = .returned (.tuple #[.string ⟨#[49, 46, 50, 46, 51]⟩, .bool true]) ∧ Below w.heap.size w w' := by
  have C := fun o => alone_any ⟨⟨6, [42, 3], 0⟩, some ⟨g, 0, none⟩, cap⟩ 6 (w.alloc o) ⟨hr.below (alloc_below _ _) (Nat.le_refl _), hc, hc2, by show (-9223372036854775808 : Int) ≤ 0; decide, by show (0 : Int) ≤ 9223372036854775807; decide⟩
  simp only [xV, xD, gr_42, List.length_cons, List.length_nil] at C
  have HC : Hid (∀ o, Calls Tryd.prog 38 #[.agg #[.int .i64 6, .slice (some ⟨g, 0, none⟩) 2 cap, .int .i64 0], .int .i64 6] (w.alloc o) fun e w' => e = .returned (.bool true) ∧ Below (w.alloc o).heap.size (w.alloc o) w') := C
  have HT : Hid (Bl 35 (w.alloc (Obj.cells #[.int .i64 6, .slice (some ⟨g, 0, none⟩) 2 cap, .int .i64 0] 35)) w.heap.size [.int .i64 6, .slice (some ⟨g, 0, none⟩) 2 cap, .int .i64 0]) := alloc_bl _ _ _
  have HR : Hid (Rd w (some ⟨g, 0, none⟩) [42, 3]) := hr
  clear C hr
  go_enter Tryd.func20, Tryd.ntmps20
  go_wp2_with fail
  refine (HC.out _).mono ?_
  rintro e w1 ⟨rfl, hB⟩
  have HB1 : Hid (Below w.heap.size w w1) := (alloc_below w _).trans (hB.mono (alloc_below w _).size)
  have HT1 : Hid (Bl 35 w1 w.heap.size [.int .i64 6, .slice (some ⟨g, 0, none⟩) 2 cap, .int .i64 0]) := HT.out.below hB HT.out.lt
  have ct1 : w1.cell? ⟨w.heap.size, 1, none⟩ = some (.slice (some ⟨g, 0, none⟩) 2 cap) := HT1.out.cell 1 (by simp)
  have HR1 : Hid (Rd w1 (some ⟨g, 0, none⟩) [42, 3]) := HR.out.below HB1.out (Nat.le_refl _)
  have HO0 : Hid (Ob w1.heap.size w1 w1 (.slice none 0 0) []) := ⟨World.ownsRow_nil _ _ _ _, Below.refl _ _, Ku.refl _⟩
  clear HC hB HT
  go_wp2
  go_loopw [4, 5, 15] (fun s4 s5 s15 wr => s5 = .int .u64 0 ∧ ((s15 = .int .i64 0 ∧ Hid (Ob w1.heap.size w1 wr s4 [])) ∨ (s15 = .int .i64 1 ∧ Hid (Ob w1.heap.size w1 wr s4 [49, 46, 50])) ∨ (s15 = .int .i64 2 ∧ Hid (Ob w1.heap.size w1 wr s4 [49, 46, 50, 46, 51])))) (fun _ _ s _ => 2 - (intOf s).toNat)
  case atStart => exact ⟨rfl, .inl ⟨rfl, HO0⟩⟩
  case round =>
    obtain ⟨rfl, ⟨rfl, HO⟩ | ⟨rfl, HO⟩ | ⟨rfl, HO⟩⟩ := hrel
    · obtain ⟨va, vc, hv⟩ := own_slice HO.out.own
      subst hv
      have HRr : Hid (Rd wr (some ⟨g, 0, none⟩) [42, 3]) := HR1.out.below HO.out.bel (Nat.le_refl _)
      obtain ⟨_, _, e9, _, hcell⟩ := HRr.out.cell (by simp)
      cases e9
      have g0 : wr.cell? ⟨g, 0, none⟩ = some (.int .u8 42) := hcell 0 (by simp)
      have hbs := HO.out.bel.size
      have C1 : Hid (Calls Tryd.prog 39 #[.slice va 0 vc, .int .u64 1, .int .i64 10] wr fun e w' => ∃ v', e = .returned v' ∧ Ob w1.heap.size w1 w' v' [49]) := suint_d 1 (.inl rfl) w1.heap.size w1 wr _ [] HO.out hbs (by simp)
      simp only [List.length_nil]
      have k1 : bits BinOp.and IntKind.u8 42 127 = 42 := by decide +kernel
      have k2 : bits BinOp.or IntKind.u64 0 42 = 42 := by decide +kernel
      clear hcell HR1 HRr
      go_wp2_with fail
      refine C1.out.mono ?_
      rintro e w5 ⟨v5, rfl, hob5⟩
      have hba := hob5.bel.size
      obtain ⟨va5, vc5, hv5⟩ := own_slice hob5.own
      subst hv5
      have HOa : Hid (Ob w1.heap.size w1 w5 (.slice va5 1 vc5) [49]) := hob5
      clear hob5 C1
      simp only [List.length_cons, List.length_nil]
      go_wp2_with (at_builtin; refine append_ob rfl (.tmp 44) (.tmp 45) rfl w1.heap.size _ [49] rfl (HOa.out.alloc hba _) (some ⟨w5.heap.size, 0, none⟩) 1 1 [46] rfl rfl (fun e => by cases e) (rd_lit1 w5 46 (by decide) (by decide)) (by simp) (by rw [alloc_size]; omega) ?_; intro v6 w6 hob6)
      have hb6 := hob6.bel.size
      obtain ⟨va6, vc6, hv6⟩ := own_slice hob6.own
      subst hv6
      have C2 : Hid (Calls Tryd.prog 39 #[.slice va6 2 vc6, .int .u64 2, .int .i64 10] w6 fun e w' => ∃ v', e = .returned v' ∧ Ob w1.heap.size w1 w' v' [49, 46, 50]) := suint_d 2 (by decide) w1.heap.size w1 w6 _ [49, 46] hob6 hb6 (by simp)
      refine C2.out.mono ?_
      rintro e w7 ⟨v7, rfl, hob7⟩
      have HO7 : Hid (Ob w1.heap.size w1 w7 v7 [49, 46, 50]) := hob7
      clear hob7 hob6 C2
      obtain ⟨va7, vn7, vc7, hv7⟩ : ∃ a n c, v7 = .slice a n c := (own_slice HO7.out.own).elim fun a h => h.elim fun c e => ⟨a, _, c, e⟩
      subst hv7
      go_wp2
      go_roundw
      case rel => exact ⟨rfl, .inr (.inl ⟨rfl, HO7⟩)⟩
      case measure => simp [intOf]
    · obtain ⟨va, vc, hv⟩ := own_slice HO.out.own
      subst hv
      have HRr : Hid (Rd wr (some ⟨g, 0, none⟩) [42, 3]) := HR1.out.below HO.out.bel (Nat.le_refl _)
      obtain ⟨_, _, e9, _, hcell⟩ := HRr.out.cell (by simp)
      cases e9
      have g0 : wr.cell? ⟨g, 1, none⟩ = some (.int .u8 3) := hcell 1 (by simp)
      have hba := HO.out.bel.size
      have HOa : Hid (Ob w1.heap.size w1 wr (.slice va 3 vc) [49, 46, 50]) := HO.out
      simp only [List.length_cons, List.length_nil]
      have k1 : bits BinOp.and IntKind.u8 3 127 = 3 := by decide +kernel
      have k2 : bits BinOp.or IntKind.u64 0 3 = 3 := by decide +kernel
      clear hcell HR1 HRr
      go_wp2_with (at_builtin; refine append_ob rfl (.tmp 44) (.tmp 45) rfl w1.heap.size _ [49, 46, 50] rfl (HOa.out.alloc hba _) (some ⟨wr.heap.size, 0, none⟩) 1 1 [46] rfl rfl (fun e => by cases e) (rd_lit1 wr 46 (by decide) (by decide)) (by simp) (by rw [alloc_size]; omega) ?_; intro v6 w6 hob6)
      have hb6 := hob6.bel.size
      obtain ⟨va6, vc6, hv6⟩ := own_slice hob6.own
      subst hv6
      have C2 : Hid (Calls Tryd.prog 39 #[.slice va6 4 vc6, .int .u64 3, .int .i64 10] w6 fun e w' => ∃ v', e = .returned v' ∧ Ob w1.heap.size w1 w' v' [49, 46, 50, 46, 51]) := suint_d 3 (by decide) w1.heap.size w1 w6 _ [49, 46, 50, 46] hob6 hb6 (by simp)
      refine C2.out.mono ?_
      rintro e w7 ⟨v7, rfl, hob7⟩
      have HO7 : Hid (Ob w1.heap.size w1 w7 v7 [49, 46, 50, 46, 51]) := hob7
      clear hob7 hob6 C2
      obtain ⟨va7, vn7, vc7, hv7⟩ : ∃ a n c, v7 = .slice a n c := (own_slice HO7.out.own).elim fun a h => h.elim fun c e => ⟨a, _, c, e⟩
      subst hv7
      go_wp2
      go_roundw
      case rel => exact ⟨rfl, .inr (.inr ⟨rfl, HO7⟩)⟩
      case measure => simp [intOf]
    · obtain ⟨va, vc, hv⟩ := own_slice HO.out.own
      subst hv
      have ht := text_run HO.out.own
      have ht2 : (convert 22 9 (.slice va 5 vc)).run Tryd.prog wr = .ok (.string ⟨#[49, 46, 50, 46, 51]⟩) wr := ht
      simp only [List.length_cons, List.length_nil]
      clear ht
      go_wp2
      go_ret2
      exact ⟨rfl, HB1.out.trans (HO.out.bel.mono HB1.out.size)⟩

end Go.Proofs.YtephdffhfkldoaaDoor
