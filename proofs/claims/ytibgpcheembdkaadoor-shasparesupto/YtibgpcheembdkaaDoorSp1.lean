import Derived.Test.YtibgpcheembdkaaDoorHmU
import Derived.Test.YtibgpcheembdkaaDoorSumsM
import Derived.Test.YtibgpcheembdkaaDoorPlayC
namespace Go.Proofs.YtibgpcheembdkaaDoor
open Go.RowKit

set_option maxRecDepth 100000 in
set_option maxHeartbeats 2000000 in
theorem twice_any (h : Int) (aa : Option Addr) (ca : Nat) (a : List UInt8) (w : World) (T : Tb w) (hr : Rd w aa a) (hca : a.length ≤ ca) (hca2 : ca ≤ 9223372036854775807) (hl : a.length ≤ 1048576) (hh : isH h) :
    Calls Tryd.prog 16 #[.int .i64 h, .slice aa a.length ca] w fun e w' => e = .returned (.bool true) ∧ Below w.heap.size w w' := by
  have HT : Hid (Tb w) := T
  have HR : Hid (Rd w aa a) := hr
  have hsl := siz_le h
  have hg7 : 7 ≤ w.heap.size := by have := cell_lt (T.k 0 (by omega)); omega
  have C1 := roomy_any aa ca a w hr (by omega)
  clear T hr
  go_enter Tryd.func16, Tryd.ntmps16
  go_wp2_with fail
  refine C1.mono ?_
  rintro e w1 ⟨rfl, hc1, hb1⟩
  have HG1 : Hid (Cl w1 w.heap.size ((a ++ List.replicate 9 165).map B)) := hc1
  have HB1 : Hid (Below w.heap.size w w1) := hb1
  have hgl : w.heap.size < w1.heap.size := hc1.lt
  clear C1 hc1 hb1
  generalize hgv : w.heap.size = gv at *
  go_wp2_with fail
  refine (new_any h w1 hh (HT.out.below (by rw [hgv]; exact HB1.out))).mono ?_
  rintro e w2 ⟨rfl, hs2, hb2⟩
  have HS2 : Hid (Sta w2 w1.heap.size h []) := hs2
  have HG2 : Hid (Cl w2 gv ((a ++ List.replicate 9 165).map B)) := HG1.out.below hb2 hgl
  have HB2 : Hid (Below gv w w2) := HB1.out.trans (hb2.mono (by omega))
  clear hs2 hb2 HG1 HB1
  generalize hbv : w1.heap.size = b at *
  have C2 := write_any b h [] a (some ⟨gv, 0, none⟩) (a.length + 9) w2 HS2.out hh (HT.out.below (by rw [hgv]; exact HB2.out)) (by omega) (cl_head HG2.out) (fun x _ e => by cases e; show gv ≠ b; omega) (by omega) (by simp) (by omega) (by omega)
  rw [List.nil_append] at C2
  go_wp2_with fail
  refine C2.mono ?_
  rintro e w3 ⟨rfl, hs3, hb3⟩
  have HS3 : Hid (Sta w3 b h a) := hs3
  have HG3 : Hid (Cl w3 gv (((ivL a).take 0 ++ a.drop 0 ++ List.replicate 9 165).map B)) := hb3.other HG2.out (by omega)
  have HB3 : Hid (Below gv w w3) := HB2.out.trans (hb3.below (by rw [← hgv]; exact HB2.out.size) (by omega))
  clear C2 hs3 hb3 HS2 HG2 HB2
  go_wp2
  go_loopw [7] (fun s ws => ∃ k : Nat, s = .int .i64 (k : Int) ∧ k ≤ a.length ∧ Hid (Cl ws gv (((ivL a).take k ++ a.drop k ++ List.replicate 9 165).map B)) ∧ Hid (But w3 ws gv)) (fun s _ => a.length - (intOf s).toNat)
  case atStart => exact ⟨0, rfl, by omega, HG3, But.refl _ _⟩
  case round =>
    clear HG3
    obtain ⟨k, rfl, hk, hcl, hbut⟩ := hrel
    by_cases hkl : k < a.length
    · have hlen : (((ivL a).take k ++ a.drop k ++ List.replicate 9 165).map B).length = a.length + 9 := by unfold ivL; simp; omega
      have gf := hcl.out.frozen k
      have gx : wr.cell? ⟨gv, k, none⟩ = some (B (a.getD k 0)) := by
        rw [hcl.out.cell k (by omega), List.getElem_map, List.getElem_append_left (by unfold ivL; simp; omega), List.getElem_append_right (by unfold ivL; simp; omega)]
        unfold ivL
        simp [Nat.min_eq_left (Nat.le_of_lt hkl), hkl]
      have Hs : Hid (True → (((ivL a).take k ++ a.drop k ++ List.replicate 9 165).map B).set k (B (255 - a.getD k 0)) = ((ivL a).take (k + 1) ++ a.drop (k + 1) ++ List.replicate 9 165).map B) := fun _ => iv_set a k hkl
      unfold B at gx
      generalize a.getD k 0 = x at *
      have hx := x.toNat_lt
      have Hsub : Hid (True → (.int .u8 (255 - (x.toNat : Int)) : Value) = B (255 - x)) := fun _ => by
        unfold B
        rw [UInt8.toNat_sub_of_le _ _ (by show x.toNat ≤ 255; omega)]
        congr 1
        show _ = ((255 - x.toNat : Nat) : Int)
        omega
      clear hlen
      go_wp2
      refine ⟨⟨k + 1, by go_num, by omega, ?_, hbut.out.set _ _⟩, by simp [intOf]; omega⟩
      have h1 := hcl.out.set k (B (255 - x))
      rw [Hs.out trivial, ← Hsub.out trivial] at h1
      exact h1
    · obtain rfl : k = a.length := by omega
      have HG4 : Hid (Cl wr gv ((ivL a ++ List.replicate 9 165).map B)) := by
        have h1 := hcl.out
        rw [List.take_of_length_le (by unfold ivL; simp), List.drop_of_length_le (Nat.le_refl _), List.append_nil] at h1
        exact h1
      have hil : (ivL a).length = a.length := by unfold ivL; simp
      have HS4 : Hid (Sta wr b h a) := hbut.out.other HS3.out (by omega)
      have HB4 : Hid (Below gv w wr) := HB3.out.trans (hbut.out.below (by rw [← hgv]; exact HB3.out.size) (Nat.le_refl _))
      have C4 := write_any b h a (ivL a) (some ⟨gv, 0, none⟩) (a.length + 9) wr HS4.out hh (HT.out.below (by rw [hgv]; exact HB4.out)) (by omega) (cl_head HG4.out) (fun x _ e => by cases e; show gv ≠ b; omega) (by omega) (by omega) (by omega) (by omega)
      rw [hil] at C4
      have Hil : Hid (True → (ivL a).length = a.length) := fun _ => hil
      clear hcl hbut HS3 HB3 hk hkl hil
      rename World => w4
      go_wp2_with fail
      refine C4.mono ?_
      rintro e w5 ⟨rfl, hs5, hb5⟩
      have HS5 : Hid (Sta w5 b h (a ++ ivL a)) := hs5
      have HG5 : Hid (Cl w5 gv ((ivL a ++ List.replicate 9 165).map B)) := hb5.other HG4.out (by omega)
      have HB5 : Hid (Below gv w w5) := HB4.out.trans (hb5.below (by rw [← hgv]; exact HB4.out.size) (by omega))
      clear C4 hs5 hb5 HS4 HG4 HB4
      have C5 := sum_any b h (a ++ ivL a) w5 HS5.out hh (HT.out.below (by rw [hgv]; exact HB5.out)) (by rw [List.length_append, Hil.out trivial]; omega)
      go_wp2_with fail
      refine C5.mono ?_
      rintro e w6 ⟨g6, rfl, hg6, hc6, hb6⟩
      have HC6 : Hid (Bl 5 w6 g6 ((sumF h (a ++ ivL a)).map B)) := hc6
      have HB6 : Hid (Below gv w w6) := HB5.out.trans (hb6.mono (by rw [← hgv]; exact HB5.out.size))
      have HG6 : Hid (Cl w6 gv ((ivL a ++ List.replicate 9 165).map B)) := HG5.out.below hb6 HG5.out.lt
      clear C5 hc6 hb6 HS5 HG5 HB5
      go_wp2_with fail
      have hp := pts2 w6 23 ⟨aa, ca, a⟩ ⟨some ⟨gv, 0, none⟩, a.length + 9, ivL a⟩ ⟨HR.out.below (by rw [hgv]; exact HB6.out) (Nat.le_refl _), hca, hca2⟩ ⟨cl_head HG6.out, (by show (ivL a).length ≤ a.length + 9; rw [Hil.out trivial]; omega), (by show a.length + 9 ≤ 9223372036854775807; omega)⟩
      have hb3 := alloc_below w6 (.cells #[prV ⟨aa, ca, a⟩, prV ⟨some ⟨gv, 0, none⟩, a.length + 9, ivL a⟩] 23)
      have hsz := alloc_size w6 (.cells #[prV ⟨aa, ca, a⟩, prV ⟨some ⟨gv, 0, none⟩, a.length + 9, ivL a⟩] 23)
      have C6 := ssum_any h (some ⟨w6.heap.size, 0, none⟩) 2 [⟨aa, ca, a⟩, ⟨some ⟨gv, 0, none⟩, a.length + 9, ivL a⟩] _ ((HT.out.below (by rw [hgv]; exact HB6.out)).below hb3) hp (by simp) (by rw [cat2]; show (a ++ ivL a).length < 2305843009213693952; rw [List.length_append, Hil.out trivial]; omega)
      rw [cat2] at C6
      dsimp only [prV] at C6 hb3 hsz
      simp only [Hil.out trivial] at C6 hb3 hsz
      refine C6.mono ?_
      rintro e w7 ⟨a7, rfl, ho7, hb7⟩
      have HB67 : Hid (Below w6.heap.size w6 w7) := hb3.trans (hb7.mono (by rw [hsz]; omega))
      have HB7 : Hid (Below gv w w7) := HB6.out.trans (HB67.out.mono (by rw [← hgv]; exact HB6.out.size))
      have C7 := same_any (some ⟨g6, 0, none⟩) a7 (siz h) (siz h) (sumF h (a ++ ivL a)) (sumF h (a ++ ivL a)) w7 (bl_rd (HC6.out.below HB67.out HC6.out.lt)) ho7.rd (by rw [sumF_length]; omega)
      rw [sumF_length, decide_eq_true rfl] at C7
      clear C6 hp hb3 hsz ho7 hb7 HB67 HC6 HG6 HB6
      go_wp2_with fail
      refine C7.mono ?_
      rintro e w8 ⟨rfl, q, rfl⟩
      have HB8 : Hid (Below gv w (w7.drewN q)) := below_drewN HB7.out q
      clear C7 HB7
      go_wp2
      go_ret
      rw [hgv]
      exact ⟨rfl, HB8.out⟩

theorem kept_ne {w w' : World} {e : TypeId} {v : Value} {n : Nat} {xs : List Value} {r : Option Nat} (h : w.ownsRow 0 e 1 v n xs) (hg : w.grownBy w' r) (hne : ∀ g, v.ownBlock = some g → r ≠ some g) : w'.ownsRow 0 e 1 v n xs := by
  refine h.kept hg ?_
  cases hv : v.ownBlock with
  | none => exact .inl rfl
  | some g => exact .inr (fun e => hne g hv e.symm)

/-- One more byte behind a slice v that began as v0: what was known of v0 stays. -/
theorem more_step {wi wr : World} {v v0 : Value} {n n0 g0 : Nat} {xs x0 : List Value} (y : Value) (hy : y.oneCell' = true) (hown : wr.ownsRow 0 5 1 v n xs) (hown0 : wr.ownsRow 0 5 1 v0 n0 x0) (hn0 : n0 ≤ n) (hv0 : v0.ownBlock = some g0) (hgr : But wi wr g0) (hlt : g0 < wi.heap.size)
    (hblk : v.ownBlock = some g0 ∨ ∃ g, v.ownBlock = some g ∧ wi.heap.size ≤ g) (hb : n ≤ 1000000) :
    ∃ v' w', (Builtin.append_ #[23, 23] 23 #[v, .slice (some ⟨wr.heap.size, 0, none⟩) 1 1]).run Tryd.prog (wr.alloc (.cells #[y] 5)) = .ok v' w' ∧ w'.ownsRow 0 5 1 v' (n + 1) (xs ++ [y]) ∧ w'.ownsRow 0 5 1 v0 n0 x0 ∧ But wi w' g0 ∧ (v'.ownBlock = some g0 ∨ ∃ g, v'.ownBlock = some g ∧ wi.heap.size ≤ g) := by
  obtain ⟨i0, hi, hz0, hz1, hz2⟩ := info_parts infoB
  obtain ⟨v', w', hrun, h1, h2, h3, h4⟩ := append_keep (wr.alloc (.cells #[y] 5)) 23 5 23 i0 (.int .u8 0) 1 Tryd.underlying23 hi hz0 hz1 hz2 rfl v n xs (hown.alloc _) ⟨wr.heap.size, 0, none⟩ y (by rw [World.cell?_alloc_at _ _ _ _ rfl]; rfl) hy (by omega) (by unfold maxLen; omega)
  have ha := alloc_below wr (.cells #[y] 5)
  have hs := hgr.size
  have hsz := alloc_size wr (.cells #[y] 5)
  refine ⟨v', w', hrun, h1, ?_, ⟨?_, ?_, ?_, ?_, fun k hk hne => ?_⟩, ?_⟩
  · rcases hblk with e | ⟨g, e, hg⟩
    · exact h4 v0 n0 x0 hn0 (by rw [hv0, e]) (hown0.alloc _)
    · refine kept_ne (hown0.alloc _) h2 fun g1 hg1 => ?_
      rw [e]
      rw [hv0] at hg1
      cases hg1
      intro e2
      injection e2 with e2
      omega
  · rw [h2.os, ha.os, hgr.os]
  · rw [h2.tape, ha.tape, hgr.tape]
  · rw [h2.output, ha.output, hgr.output]
  · have := h2.size; omega
  · rw [h2.block k (by omega) (fun e => ?_), ha.block k (by omega), hgr.block k hk hne]
    rcases hblk with e1 | ⟨g, e1, hg⟩
    · rw [e1] at e; cases e; exact hne rfl
    · rw [e1] at e; cases e; omega
  · rcases h3 with e | ⟨g, e, hg⟩
    · rcases hblk with e1 | ⟨g, e1, hg⟩
      · exact .inl (e.trans e1)
      · exact .inr ⟨g, e.trans e1, hg⟩
    · exact .inr ⟨g, e, by omega⟩
/-- A slice put behind a list of slices. -/
theorem long_step {wr : World} {vl v : Value} {n : Nat} {xs : List Value} (hv : v.oneCell' = true) (hown : wr.ownsRow 0 23 1 vl n xs) (hn : n ≤ 1000) :
    ∃ v' w', (Builtin.append_ #[34, 34] 34 #[vl, .slice (some ⟨wr.heap.size, 0, none⟩) 1 1]).run Tryd.prog (wr.alloc (.cells #[v] 23)) = .ok v' w' ∧ w'.ownsRow 0 23 1 v' (n + 1) (xs ++ [v]) ∧ wr.grownBy w' vl.ownBlock ∧ (v'.ownBlock = vl.ownBlock ∨ ∃ g, v'.ownBlock = some g ∧ wr.heap.size ≤ g) := by
  obtain ⟨i0, hi, hz0, hz1, hz2⟩ := info_parts infoBs
  have ha : wr.grownBy (wr.alloc (.cells #[v] 23)) vl.ownBlock := World.grownBy_alloc _ _ _
  obtain ⟨v', w', hrun, h1, h2, h3, h4⟩ := append_keep (wr.alloc (.cells #[v] 23)) 34 23 34 i0 (.slice none 0 0) 24 Tryd.underlying34 hi hz0 hz1 hz2 rfl vl n xs (hown.alloc _) ⟨wr.heap.size, 0, none⟩ v (by rw [World.cell?_alloc_at _ _ _ _ rfl]; rfl) hv (by omega) (by unfold maxLen; omega)
  refine ⟨v', w', hrun, h1, grownBy.trans ha h2, ?_⟩
  rcases h3 with e | ⟨g, e, hg⟩
  · exact .inl e
  · have hs2 : (wr.alloc (.cells #[v] 23)).heap.size = wr.heap.size + 1 := by simp
    exact .inr ⟨g, e, by omega⟩
theorem bl_row {w : World} {g n : Nat} {l : List UInt8} (h : Bl 5 w g (l.map B)) (hl : l.length = n) (hn : n ≤ 1000000) : w.ownsRow 0 5 1 (.slice (some ⟨g, 0, none⟩) n n) n (l.map B) := own_row0 (B0 := 0) (.inr ⟨g, rfl, Nat.zero_le _, h⟩) hl hn
theorem row_bl {w : World} {g n : Nat} {l : List UInt8} (h : w.ownsRow 0 5 1 (.slice (some ⟨g, 0, none⟩) n n) n (l.map B)) : Bl 5 w g (l.map B) := by
  rcases h.2 with ⟨hv, _⟩ | ⟨g', cap, cur, hv, hg, hh, hn, hc, hs, ht⟩
  · cases hv
  · cases hv
    unfold Bl
    rw [hh, ← ht, List.take_of_length_le (by rw [Array.length_toList, hs]; omega)]
/-- A grown slice lies elsewhere. -/
theorem grown_new {w : World} {g g' n m c : Nat} {l l' : List UInt8} (h : Bl 5 w g (l.map B)) (hl : l.length = n) (h' : w.ownsRow 0 5 1 (.slice (some ⟨g', 0, none⟩) m c) m (l'.map B)) (hm : n < m) : g' ≠ g := by
  rintro rfl
  rcases h'.2 with ⟨hv, _⟩ | ⟨g2, cap, cur, hv, hg, hh, hn, hc, hs, ht⟩
  · cases hv
  · cases hv
    unfold Bl at h
    rw [h] at hh
    cases hh
    simp at hs
    omega

end Go.Proofs.YtibgpcheembdkaaDoor
