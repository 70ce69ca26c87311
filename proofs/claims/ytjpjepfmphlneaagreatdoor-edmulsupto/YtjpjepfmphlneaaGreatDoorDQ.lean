import Derived.Test.YtjpjepfmphlneaaGreatDoorDP
namespace Go.Proofs.YtjpjepfmphlneaaGreatDoor
open Go.RowKit

set_option maxRecDepth 100000

theorem shTb_below {w w' : World} {n : Nat} (h : Sha.Tb w) (hb : Below n w w') (hn : n = w.heap.size) : Sha.Tb w' := by subst hn; exact h.below hb
set_option maxHeartbeats 4000000 in
theorem verify_key (ap am ag : Option Addr) (cp nm cm ns cs : Nat) (pub : List UInt8) (w : World) (T : Te w) (hp : Rd w ap pub) (hk : ∀ P, onE eP eD P → encL P ≠ pub) :
    Calls Tryz.prog 12 #[.slice ap pub.length cp, .slice am nm cm, .slice ag ns cs] w fun e w' => e = .returned (.int .i64 90) ∧ Below w.heap.size w w' := by
  have C := decode_v ap cp pub w T hp
  clear T hp
  go_enter Tryz.func12, Tryz.ntmps12
  go_wp2_with fail
  refine C.mono ?_
  clear C
  rintro e w1 ⟨hA, hB⟩
  rcases hA with ⟨P, v, h1, h2, _⟩ | ⟨_, rfl⟩
  · exact absurd h2 (hk P h1)
  have HB : Hid (Below w.heap.size w (w1.alloc (.cells #[.slice none 0 0, .slice none 0 0, .bool false] 31))) := hB.alloc hB.size _
  clear hB hk
  go_wp2
  go_ret
  exact ⟨rfl, HB.out⟩
set_option maxHeartbeats 20000000 in
theorem verify_len (ap am ag : Option Addr) (cp cm cs : Nat) (pub msg sig : List UInt8) (w : World) (T : Te w) (TS : Sha.Tb w) (hp : Rd w ap pub) (hm : Rd w am msg) (hs : Rd w ag sig) (hcp : pub.length ≤ cp ∧ cp ≤ 9223372036854775807) (hcm : msg.length ≤ cm ∧ cm ≤ 9223372036854775807) (_hcs : sig.length ≤ cs ∧ cs ≤ 9223372036854775807) (hml : msg.length < 1152921504606846976) (P : Nat × Nat) (oP : onE eP eD P) (hk : encL P = pub) (hl : sig.length ≠ 64) :
    Calls Tryz.prog 12 #[.slice ap pub.length cp, .slice am msg.length cm, .slice ag sig.length cs] w fun e w' => e = .returned (.int .i64 91) ∧ Below w.heap.size w w' := by
  have C := decode_v ap cp pub w T hp
  have HO : Hid (onE eP eD P) := oP
  have HT : Hid (Te w ∧ Sha.Tb w) := ⟨T, TS⟩
  have HRD : Hid (Rd w ap pub ∧ Rd w am msg ∧ Rd w ag sig) := ⟨hp, hm, hs⟩
  have HKk : Hid (encL P = pub ∧ pub.length = 32) := ⟨hk, by rw [← hk]; exact encL_len P⟩
  have HC : Hid ((pub.length ≤ cp ∧ cp ≤ 9223372036854775807) ∧ (msg.length ≤ cm ∧ cm ≤ 9223372036854775807) ∧ msg.length < 1152921504606846976) := ⟨hcp, hcm, hml⟩
  have hz : (((sig.length : Nat) : Int) != 64) = true := by simp; omega
  have hz2 : ¬ ((sig.length : Nat) : Int) = 64 := by omega
  clear T TS hp hm hs oP hk hcp hcm hml
  go_enter Tryz.func12, Tryz.ntmps12
  go_wp2_with fail
  refine C.mono ?_
  clear C
  rintro e w1 ⟨hA, hB⟩
  obtain ⟨v, rfl, hv⟩ : ∃ v, e = .returned (.tuple #[v, .int .i64 0]) ∧ Pe w1 w.heap.size v P := by
    rcases hA with ⟨Q, v, h1, h2, h3, h4⟩ | ⟨h, _⟩
    · rw [encL_inj h1 HO.out (h2.trans HKk.out.1.symm)] at h4
      exact ⟨v, h3, h4⟩
    · exact absurd HKk.out.1 (h P HO.out)
  clear hA
  have HB1 : Hid (Below w.heap.size w w1) := hB
  obtain ⟨x, y, rfl, m1, m2, _⟩ := hv
  obtain ⟨x0, x1, x2, rfl⟩ := m1.nk.sl
  obtain ⟨y0, y1, y2, rfl⟩ := m2.nk.sl
  have HF0 : Hid (Fm w1 (w1.alloc (.cells #[.slice x0 x1 x2, .slice y0 y1 y2, .bool false] 31)) [(31, [.slice x0 x1 x2, .slice y0 y1 y2, .bool false])] [(.slice x0 x1 x2, P.1, 256), (.slice y0 y1 y2, P.2, 256)] []) := ((Fm.nil (w := w1) (A := [(.slice x0 x1 x2, P.1, 256), (.slice y0 y1 y2, P.2, 256)]) (ar_cons m1.nk (ar_cons m2.nk ar_nil))).push (by simp) 31 [.slice x0 x1 x2, .slice y0 y1 y2, .bool false])
  clear m1 m2 hB
  go_wp2
  go_ret
  exact ⟨rfl, HB1.out.trans (HF0.out.bel.mono HB1.out.size)⟩
set_option maxHeartbeats 20000000 in
theorem verify_big (ap am ag : Option Addr) (cp cm cs : Nat) (pub msg sig : List UInt8) (w : World) (T : Te w) (TS : Sha.Tb w) (hp : Rd w ap pub) (hm : Rd w am msg) (hs : Rd w ag sig) (hcp : pub.length ≤ cp ∧ cp ≤ 9223372036854775807) (hcm : msg.length ≤ cm ∧ cm ≤ 9223372036854775807) (hcs : sig.length ≤ cs ∧ cs ≤ 9223372036854775807) (hml : msg.length < 1152921504606846976) (P : Nat × Nat) (oP : onE eP eD P) (hk : encL P = pub) (hl : sig.length = 64) (hS : eL ≤ leN (sig.drop 32)) :
    Calls Tryz.prog 12 #[.slice ap pub.length cp, .slice am msg.length cm, .slice ag sig.length cs] w fun e w' => e = .returned (.int .i64 91) ∧ Below w.heap.size w w' := by
  have C := decode_v ap cp pub w T hp
  have HO : Hid (onE eP eD P) := oP
  have HT : Hid (Te w ∧ Sha.Tb w) := ⟨T, TS⟩
  have HRD : Hid (Rd w ap pub ∧ Rd w am msg ∧ Rd w ag sig) := ⟨hp, hm, hs⟩
  have HKk : Hid (encL P = pub ∧ pub.length = 32) := ⟨hk, by rw [← hk]; exact encL_len P⟩
  have HC : Hid ((pub.length ≤ cp ∧ cp ≤ 9223372036854775807) ∧ (msg.length ≤ cm ∧ cm ≤ 9223372036854775807) ∧ msg.length < 1152921504606846976) := ⟨hcp, hcm, hml⟩
  obtain ⟨g, off, rfl⟩ : ∃ g off : Nat, ag = some ⟨g, off, none⟩ := by
    rcases hs with h | ⟨g, off, e, _⟩
    · subst h; simp at hl
    · exact ⟨g, off, e⟩
  have HF : Hid (Rd w (some ⟨g, off, none⟩) (sig.take 32) ∧ Rd w (some ⟨g, off + 32, none⟩) (sig.drop 32)) := ⟨rd_take hs 32, rd_drop hs 32⟩
  have Hl1 : Hid ((sig.take 32).length = 32) := (by rw [List.length_take, hl]; rfl : (sig.take 32).length = 32)
  have Hl2 : Hid ((sig.drop 32).length = 32) := (by rw [List.length_drop, hl] : (sig.drop 32).length = 32)
  rw [hl] at hcs ⊢
  have hc64 := hcs.1
  have hci : (32 : Int) ≤ (cs : Int) := by omega
  have hci2 : (64 : Int) ≤ (cs : Int) := by omega
  have hcne : ¬ cs = 32 := by omega
  have HCs : Hid (cs ≤ 9223372036854775807) := hcs.2
  clear hcs hl
  have HSS : Hid (eL ≤ leN (sig.drop 32)) := hS
  clear hS
  clear T TS hp hm hs oP hk hcp hcm hml
  go_enter Tryz.func12, Tryz.ntmps12
  go_wp2_with fail
  refine C.mono ?_
  clear C
  rintro e w1 ⟨hA, hB⟩
  obtain ⟨v, rfl, hv⟩ : ∃ v, e = .returned (.tuple #[v, .int .i64 0]) ∧ Pe w1 w.heap.size v P := by
    rcases hA with ⟨Q, v, h1, h2, h3, h4⟩ | ⟨h, _⟩
    · rw [encL_inj h1 HO.out (h2.trans HKk.out.1.symm)] at h4
      exact ⟨v, h3, h4⟩
    · exact absurd HKk.out.1 (h P HO.out)
  clear hA
  have HB1 : Hid (Below w.heap.size w w1) := hB
  obtain ⟨x, y, rfl, m1, m2, _⟩ := hv
  obtain ⟨x0, x1, x2, rfl⟩ := m1.nk.sl
  obtain ⟨y0, y1, y2, rfl⟩ := m2.nk.sl
  have HF0 : Hid (Fm w1 (w1.alloc (.cells #[.slice x0 x1 x2, .slice y0 y1 y2, .bool false] 31)) [(31, [.slice x0 x1 x2, .slice y0 y1 y2, .bool false])] [(.slice x0 x1 x2, P.1, 256), (.slice y0 y1 y2, P.2, 256)] []) := ((Fm.nil (w := w1) (A := [(.slice x0 x1 x2, P.1, 256), (.slice y0 y1 y2, P.2, 256)]) (ar_cons m1.nk (ar_cons m2.nk ar_nil))).push (by simp) 31 [.slice x0 x1 x2, .slice y0 y1 y2, .bool false])
  clear m1 m2 hB
  go_wp2_with fail
  generalize (w1.alloc (.cells #[.slice x0 x1 x2, .slice y0 y1 y2, .bool false] 31)) = w2 at *
  have HF0d : Hid (Fm w1 w2.drew [(31, [.slice x0 x1 x2, .slice y0 y1 y2, .bool false])] [(.slice x0 x1 x2, P.1, 256), (.slice y0 y1 y2, P.2, 256)] []) := HF0.out.drew
  refine wp_region_K 4 (fun (w' : World) => w'.cell? ⟨w1.heap.size, 0, none⟩ = some (.slice x0 x1 x2)) (by kernel_rfl) ?_
  have hHeld : ((fun (w' : World) => w'.cell? ⟨w1.heap.size, 0, none⟩ = some (.slice x0 x1 x2))) (World.drew _) := HF0d.out.cell 0 0 (okb rfl) (okb rfl)
  refine wpAnyK_take0 0 (v := ?v1) rfl (by kernel_rfl) (fun _ _ _ h => h) (Or.inl ⟨by rfl, ?hy1⟩) (fun _ => hHeld) ?_
  case hy1 => (intro w hSw; go_simp; try with_reducible rfl)
  try simp only [Act.put, List.setIfInBounds_toArray, List.set_cons_zero, List.set_cons_succ]
  refine wpAnyK_take0 1 (v := ?v2) rfl (by kernel_rfl) (fun _ _ _ h => h) (Or.inl ⟨by rfl, ?hy2⟩) (fun _ => hHeld) ?_
  case hy2 => (intro w hSw; go_simp; try with_reducible rfl)
  try simp only [Act.put, List.setIfInBounds_toArray, List.set_cons_zero, List.set_cons_succ]
  refine wpAnyK_take0 2 (v := ?v3) rfl (by kernel_rfl) (fun _ _ _ h => h) (Or.inl ⟨by rfl, ?hy3⟩) (fun _ => hHeld) ?_
  case hy3 => (intro w hSw; go_simp; try with_reducible rfl)
  try simp only [Act.put, List.setIfInBounds_toArray, List.set_cons_zero, List.set_cons_succ]
  refine wpAnyK_take0 3 (v := ?v4) rfl (by kernel_rfl) (fun _ _ _ h => h) (Or.inl ⟨by rfl, ?hy4⟩) (fun _ => hHeld) ?_
  case hy4 => (intro w hSw; go_simp; try with_reducible rfl)
  try simp only [Act.put, List.setIfInBounds_toArray, List.set_cons_zero, List.set_cons_succ]
  refine wpAnyK_step 4 rfl (by kernel_rfl) (fun K hK => ?_)
  go_simp
  have C := lowest_v (some ⟨g, off + 32, none⟩) (cs - 32) (sig.drop 32) w2.drew (HF.out.2.below (HB1.out.trans (HF0d.out.bel.mono HB1.out.size)) (Nat.le_refl _)) (by rw [Hl2.out]; decide) (by rw [Hl2.out]; decide)
  rw [Hl2.out] at C
  refine C.mono ?_
  clear C
  rintro e w3 ⟨sv, rfl, h⟩
  obtain ⟨S, HS⟩ : ∃ S, Hid (S = leN (sig.drop 32)) := ⟨_, rfl⟩
  rw [← HS.out] at h
  have HF1 : Hid (Fm w1 w3 [(31, [.slice x0 x1 x2, .slice y0 y1 y2, .bool false])] [(.slice x0 x1 x2, P.1, 256), (.slice y0 y1 y2, P.2, 256)] [(sv, S, 256)]) := HF0d.out.step h
  clear h
  try dsimp only
  refine hK.out _ _ ?hk5 ?_
  case hk5 => exact fun _ => HF1.out.cell 0 0 (okb rfl) (okb rfl)
  have hHeld : ((fun (w' : World) => w'.cell? ⟨w1.heap.size, 0, none⟩ = some (.slice x0 x1 x2))) _ := HF1.out.cell 0 0 (okb rfl) (okb rfl)
  clear hK K
  try simp only [Act.put, List.setIfInBounds_toArray, List.set_cons_zero, List.set_cons_succ]
  refine wpAnyK_take0 5 (v := ?v6) rfl (by kernel_rfl) (fun _ _ _ h => h) (Or.inl ⟨by rfl, ?hy6⟩) (fun _ => hHeld) ?_
  case hy6 => (intro w hSw; go_simp; try with_reducible rfl)
  try simp only [Act.put, List.setIfInBounds_toArray, List.set_cons_zero, List.set_cons_succ]
  refine wpAnyK_take0 6 (v := ?v7) rfl (by kernel_rfl) (fun _ _ _ h => h) (Or.inl ⟨by rfl, ?hy7⟩) (fun _ => hHeld) ?_
  case hy7 => (intro w hSw; go_simp; try with_reducible rfl)
  try simp only [Act.put, List.setIfInBounds_toArray, List.set_cons_zero, List.set_cons_succ]
  refine wpAnyK_done (by kernel_rfl) ?_ _
  go_wp2_with fail
  refine (order_v _ (HT.out.1.below (HB1.out.trans (HF1.out.bel.mono HB1.out.size)) (Nat.le_refl _))).mono ?_
  rintro e w4 ⟨ov, rfl, h⟩
  have HF2 : Hid (Fm w1 w4 [(31, [.slice x0 x1 x2, .slice y0 y1 y2, .bool false])] [(.slice x0 x1 x2, P.1, 256), (.slice y0 y1 y2, P.2, 256)] [(ov, eL, 256), (sv, S, 256)]) := HF1.out.step h
  clear h
  go_wp2_with fail
  refine (vcmp _ _ S eL _ _ _ (HF2.out.got 1 (okb rfl)).1 (HF2.out.got 0 (okb rfl)).1 (by decide) (by decide)).mono ?_
  rintro e w5 ⟨rfl, q, hq⟩
  have HF3 : Hid (Fm w1 w5 [(31, [.slice x0 x1 x2, .slice y0 y1 y2, .bool false])] [(.slice x0 x1 x2, P.1, 256), (.slice y0 y1 y2, P.2, 256)] [(ov, eL, 256), (sv, S, 256)]) := (by rw [hq]; exact HF2.out.drewN q : Fm w1 w5 [(31, [.slice x0 x1 x2, .slice y0 y1 y2, .bool false])] [(.slice x0 x1 x2, P.1, 256), (.slice y0 y1 y2, P.2, 256)] [(ov, eL, 256), (sv, S, 256)])
  clear hq
  have hge : ∃ z : Int, cmp3 ((S : Nat) : Int) ((eL : Nat) : Int) = z ∧ (z = 0 ∨ z = 1) := by
    have h := HS.out
    rcases Nat.lt_or_eq_of_le HSS.out with h2 | h2
    · exact ⟨1, cmp3_gt (Int.ofNat_lt.2 (by omega)), Or.inr rfl⟩
    · exact ⟨0, cmp3_eq (congrArg Int.ofNat (by omega)), Or.inl rfl⟩
  obtain ⟨z, hz, hz2⟩ := hge
  rw [hz]
  clear hz
  rcases hz2 with rfl | rfl
  · go_wp2
    go_ret
    exact ⟨rfl, (HB1.out.trans (HF3.out.bel.mono HB1.out.size))⟩
  · go_wp2
    go_ret
    exact ⟨rfl, (HB1.out.trans (HF3.out.bel.mono HB1.out.size))⟩
set_option maxHeartbeats 20000000 in
theorem verify_ok (ap am ag : Option Addr) (cp cm cs : Nat) (pub msg sig : List UInt8) (w : World) (T : Te w) (TS : Sha.Tb w) (hp : Rd w ap pub) (hm : Rd w am msg) (hs : Rd w ag sig) (hcp : pub.length ≤ cp ∧ cp ≤ 9223372036854775807) (hcm : msg.length ≤ cm ∧ cm ≤ 9223372036854775807) (hcs : sig.length ≤ cs ∧ cs ≤ 9223372036854775807) (hml : msg.length < 1152921504606846976) (P : Nat × Nat) (oP : onE eP eD P) (hk : encL P = pub) (hl : sig.length = 64) (hS : leN (sig.drop 32) < eL) (hR : encL (rV P pub msg sig) = sig.take 32) :
    Calls Tryz.prog 12 #[.slice ap pub.length cp, .slice am msg.length cm, .slice ag sig.length cs] w fun e w' => e = .returned (.int .i64 0) ∧ Below w.heap.size w w' := by
  have C := decode_v ap cp pub w T hp
  have HO : Hid (onE eP eD P) := oP
  have HT : Hid (Te w ∧ Sha.Tb w) := ⟨T, TS⟩
  have HRD : Hid (Rd w ap pub ∧ Rd w am msg ∧ Rd w ag sig) := ⟨hp, hm, hs⟩
  have HKk : Hid (encL P = pub ∧ pub.length = 32) := ⟨hk, by rw [← hk]; exact encL_len P⟩
  have HC : Hid ((pub.length ≤ cp ∧ cp ≤ 9223372036854775807) ∧ (msg.length ≤ cm ∧ cm ≤ 9223372036854775807) ∧ msg.length < 1152921504606846976) := ⟨hcp, hcm, hml⟩
  obtain ⟨g, off, rfl⟩ : ∃ g off : Nat, ag = some ⟨g, off, none⟩ := by
    rcases hs with h | ⟨g, off, e, _⟩
    · subst h; simp at hl
    · exact ⟨g, off, e⟩
  have HF : Hid (Rd w (some ⟨g, off, none⟩) (sig.take 32) ∧ Rd w (some ⟨g, off + 32, none⟩) (sig.drop 32)) := ⟨rd_take hs 32, rd_drop hs 32⟩
  have Hl1 : Hid ((sig.take 32).length = 32) := (by rw [List.length_take, hl]; rfl : (sig.take 32).length = 32)
  have Hl2 : Hid ((sig.drop 32).length = 32) := (by rw [List.length_drop, hl] : (sig.drop 32).length = 32)
  rw [hl] at hcs ⊢
  have hc64 := hcs.1
  have hci : (32 : Int) ≤ (cs : Int) := by omega
  have hci2 : (64 : Int) ≤ (cs : Int) := by omega
  have hcne : ¬ cs = 32 := by omega
  have HCs : Hid (cs ≤ 9223372036854775807) := hcs.2
  clear hcs hl
  have HSS : Hid (leN (sig.drop 32) < eL) := hS
  have HRR : Hid (encL (rV P pub msg sig) = sig.take 32) := hR
  clear hS hR
  clear T TS hp hm hs oP hk hcp hcm hml
  go_enter Tryz.func12, Tryz.ntmps12
  go_wp2_with fail
  refine C.mono ?_
  clear C
  rintro e w1 ⟨hA, hB⟩
  obtain ⟨v, rfl, hv⟩ : ∃ v, e = .returned (.tuple #[v, .int .i64 0]) ∧ Pe w1 w.heap.size v P := by
    rcases hA with ⟨Q, v, h1, h2, h3, h4⟩ | ⟨h, _⟩
    · rw [encL_inj h1 HO.out (h2.trans HKk.out.1.symm)] at h4
      exact ⟨v, h3, h4⟩
    · exact absurd HKk.out.1 (h P HO.out)
  clear hA
  have HB1 : Hid (Below w.heap.size w w1) := hB
  obtain ⟨x, y, rfl, m1, m2, _⟩ := hv
  obtain ⟨x0, x1, x2, rfl⟩ := m1.nk.sl
  obtain ⟨y0, y1, y2, rfl⟩ := m2.nk.sl
  have HF0 : Hid (Fm w1 (w1.alloc (.cells #[.slice x0 x1 x2, .slice y0 y1 y2, .bool false] 31)) [(31, [.slice x0 x1 x2, .slice y0 y1 y2, .bool false])] [(.slice x0 x1 x2, P.1, 256), (.slice y0 y1 y2, P.2, 256)] []) := ((Fm.nil (w := w1) (A := [(.slice x0 x1 x2, P.1, 256), (.slice y0 y1 y2, P.2, 256)]) (ar_cons m1.nk (ar_cons m2.nk ar_nil))).push (by simp) 31 [.slice x0 x1 x2, .slice y0 y1 y2, .bool false])
  clear m1 m2 hB
  go_wp2_with fail
  generalize (w1.alloc (.cells #[.slice x0 x1 x2, .slice y0 y1 y2, .bool false] 31)) = w2 at *
  have HF0d : Hid (Fm w1 w2.drew [(31, [.slice x0 x1 x2, .slice y0 y1 y2, .bool false])] [(.slice x0 x1 x2, P.1, 256), (.slice y0 y1 y2, P.2, 256)] []) := HF0.out.drew
  refine wp_region_K 4 (fun (w' : World) => w'.cell? ⟨w1.heap.size, 0, none⟩ = some (.slice x0 x1 x2)) (by kernel_rfl) ?_
  have hHeld : ((fun (w' : World) => w'.cell? ⟨w1.heap.size, 0, none⟩ = some (.slice x0 x1 x2))) (World.drew _) := HF0d.out.cell 0 0 (okb rfl) (okb rfl)
  refine wpAnyK_take0 0 (v := ?v8) rfl (by kernel_rfl) (fun _ _ _ h => h) (Or.inl ⟨by rfl, ?hy8⟩) (fun _ => hHeld) ?_
  case hy8 => (intro w hSw; go_simp; try with_reducible rfl)
  try simp only [Act.put, List.setIfInBounds_toArray, List.set_cons_zero, List.set_cons_succ]
  refine wpAnyK_take0 1 (v := ?v9) rfl (by kernel_rfl) (fun _ _ _ h => h) (Or.inl ⟨by rfl, ?hy9⟩) (fun _ => hHeld) ?_
  case hy9 => (intro w hSw; go_simp; try with_reducible rfl)
  try simp only [Act.put, List.setIfInBounds_toArray, List.set_cons_zero, List.set_cons_succ]
  refine wpAnyK_take0 2 (v := ?v10) rfl (by kernel_rfl) (fun _ _ _ h => h) (Or.inl ⟨by rfl, ?hy10⟩) (fun _ => hHeld) ?_
  case hy10 => (intro w hSw; go_simp; try with_reducible rfl)
  try simp only [Act.put, List.setIfInBounds_toArray, List.set_cons_zero, List.set_cons_succ]
  refine wpAnyK_take0 3 (v := ?v11) rfl (by kernel_rfl) (fun _ _ _ h => h) (Or.inl ⟨by rfl, ?hy11⟩) (fun _ => hHeld) ?_
  case hy11 => (intro w hSw; go_simp; try with_reducible rfl)
  try simp only [Act.put, List.setIfInBounds_toArray, List.set_cons_zero, List.set_cons_succ]
  refine wpAnyK_step 4 rfl (by kernel_rfl) (fun K hK => ?_)
  go_simp
  have C := lowest_v (some ⟨g, off + 32, none⟩) (cs - 32) (sig.drop 32) w2.drew (HF.out.2.below (HB1.out.trans (HF0d.out.bel.mono HB1.out.size)) (Nat.le_refl _)) (by rw [Hl2.out]; decide) (by rw [Hl2.out]; decide)
  rw [Hl2.out] at C
  refine C.mono ?_
  clear C
  rintro e w3 ⟨sv, rfl, h⟩
  obtain ⟨S, HS⟩ : ∃ S, Hid (S = leN (sig.drop 32)) := ⟨_, rfl⟩
  rw [← HS.out] at h
  have HF1 : Hid (Fm w1 w3 [(31, [.slice x0 x1 x2, .slice y0 y1 y2, .bool false])] [(.slice x0 x1 x2, P.1, 256), (.slice y0 y1 y2, P.2, 256)] [(sv, S, 256)]) := HF0d.out.step h
  clear h
  try dsimp only
  refine hK.out _ _ ?hk12 ?_
  case hk12 => exact fun _ => HF1.out.cell 0 0 (okb rfl) (okb rfl)
  have hHeld : ((fun (w' : World) => w'.cell? ⟨w1.heap.size, 0, none⟩ = some (.slice x0 x1 x2))) _ := HF1.out.cell 0 0 (okb rfl) (okb rfl)
  clear hK K
  try simp only [Act.put, List.setIfInBounds_toArray, List.set_cons_zero, List.set_cons_succ]
  refine wpAnyK_take0 5 (v := ?v13) rfl (by kernel_rfl) (fun _ _ _ h => h) (Or.inl ⟨by rfl, ?hy13⟩) (fun _ => hHeld) ?_
  case hy13 => (intro w hSw; go_simp; try with_reducible rfl)
  try simp only [Act.put, List.setIfInBounds_toArray, List.set_cons_zero, List.set_cons_succ]
  refine wpAnyK_take0 6 (v := ?v14) rfl (by kernel_rfl) (fun _ _ _ h => h) (Or.inl ⟨by rfl, ?hy14⟩) (fun _ => hHeld) ?_
  case hy14 => (intro w hSw; go_simp; try with_reducible rfl)
  try simp only [Act.put, List.setIfInBounds_toArray, List.set_cons_zero, List.set_cons_succ]
  refine wpAnyK_done (by kernel_rfl) ?_ _
  go_wp2_with fail
  refine (order_v _ (HT.out.1.below (HB1.out.trans (HF1.out.bel.mono HB1.out.size)) (Nat.le_refl _))).mono ?_
  rintro e w4 ⟨ov, rfl, h⟩
  have HF2 : Hid (Fm w1 w4 [(31, [.slice x0 x1 x2, .slice y0 y1 y2, .bool false])] [(.slice x0 x1 x2, P.1, 256), (.slice y0 y1 y2, P.2, 256)] [(ov, eL, 256), (sv, S, 256)]) := HF1.out.step h
  clear h
  go_wp2_with fail
  refine (vcmp _ _ S eL _ _ _ (HF2.out.got 1 (okb rfl)).1 (HF2.out.got 0 (okb rfl)).1 (by decide) (by decide)).mono ?_
  rintro e w5 ⟨rfl, q, hq⟩
  have HF3 : Hid (Fm w1 w5 [(31, [.slice x0 x1 x2, .slice y0 y1 y2, .bool false])] [(.slice x0 x1 x2, P.1, 256), (.slice y0 y1 y2, P.2, 256)] [(ov, eL, 256), (sv, S, 256)]) := (by rw [hq]; exact HF2.out.drewN q : Fm w1 w5 [(31, [.slice x0 x1 x2, .slice y0 y1 y2, .bool false])] [(.slice x0 x1 x2, P.1, 256), (.slice y0 y1 y2, P.2, 256)] [(ov, eL, 256), (sv, S, 256)])
  clear hq
  rw [cmp3_lt (show ((S : Nat) : Int) < ((eL : Nat) : Int) from Int.ofNat_lt.2 (by rw [HS.out]; exact HSS.out))]
  have hB5 := (HB1.out.trans (HF3.out.bel.mono HB1.out.size))
  have hbb := alloc_below w5 (.cells #[.slice (some ⟨g, off, none⟩) 32 cs, .slice ap pub.length cp, .slice am msg.length cm] 22)
  have hpt := parts3 w5 ⟨some ⟨g, off, none⟩, cs, sig.take 32⟩ ⟨ap, cp, pub⟩ ⟨am, cm, msg⟩ ⟨HF.out.1.below hB5 (Nat.le_refl _), by show (sig.take 32).length ≤ cs; have := Hl1.out; omega, HCs.out⟩ ⟨HRD.out.1.below hB5 (Nat.le_refl _), HC.out.1⟩ ⟨HRD.out.2.1.below hB5 (Nat.le_refl _), HC.out.2.1⟩
  unfold Sha.prV at hpt
  rw [Hl1.out] at hpt
  have hT5 : Sha.Tb w5 := shTb_below HT.out.2 hB5 rfl
  have CQ := Sha.ssum_any 3 (some ⟨w5.heap.size, 0, none⟩) 3 [⟨some ⟨g, off, none⟩, cs, sig.take 32⟩, ⟨ap, cp, pub⟩, ⟨am, cm, msg⟩] (w5.alloc (.cells #[.slice (some ⟨g, off, none⟩) 32 cs, .slice ap pub.length cp, .slice am msg.length cm] 22)) (hT5.below hbb) hpt (by simp) (by have h1 := Hl1.out; have h2 := HKk.out.2; have h3 := HC.out.2.2; simp [Sha.cat] at h1 ⊢; omega)
  rw [show Sha.cat [⟨some ⟨g, off, none⟩, cs, sig.take 32⟩, ⟨ap, cp, pub⟩, ⟨am, cm, msg⟩] = sig.take 32 ++ pub ++ msg by simp [Sha.cat]] at CQ
  replace CQ : Calls Tryz.prog 42 #[.int .i64 3, .slice (some ⟨w5.heap.size, 0, none⟩) 3 3] (w5.alloc (.cells #[.slice (some ⟨g, off, none⟩) 32 cs, .slice ap pub.length cp, .slice am msg.length cm] 22)) fun e w' => ∃ a, e = .returned (.slice a 64 64) ∧ Sha.Own w' (w5.alloc (.cells #[.slice (some ⟨g, off, none⟩) 32 cs, .slice ap pub.length cp, .slice am msg.length cm] 22)).heap.size a (Sha.sumF 3 (sig.take 32 ++ pub ++ msg)) ∧ Below (w5.alloc (.cells #[.slice (some ⟨g, off, none⟩) 32 cs, .slice ap pub.length cp, .slice am msg.length cm] 22)).heap.size (w5.alloc (.cells #[.slice (some ⟨g, off, none⟩) 32 cs, .slice ap pub.length cp, .slice am msg.length cm] 22)) w' := CQ
  have HL : Hid ((Sha.sumF 3 (sig.take 32 ++ pub ++ msg)).length = 64) := Sha.sumF_length 3 _
  have HF4 : Hid (Fm w1 (w5.alloc (.cells #[.slice (some ⟨g, off, none⟩) 32 cs, .slice ap pub.length cp, .slice am msg.length cm] 22)) [(31, [.slice x0 x1 x2, .slice y0 y1 y2, .bool false])] [(.slice x0 x1 x2, P.1, 256), (.slice y0 y1 y2, P.2, 256)] [(ov, eL, 256), (sv, S, 256)]) := HF3.out.below hbb
  clear hpt hbb hT5 hB5
  go_wp2_with fail
  generalize (w5.alloc (.cells #[.slice (some ⟨g, off, none⟩) 32 cs, .slice ap pub.length cp, .slice am msg.length cm] 22)) = w6 at *
  refine CQ.mono ?_
  clear CQ
  rintro e w7 ⟨da, rfl, ho, hq⟩
  have HF5 : Hid (Fm w1 w7 [(31, [.slice x0 x1 x2, .slice y0 y1 y2, .bool false])] [(.slice x0 x1 x2, P.1, 256), (.slice y0 y1 y2, P.2, 256)] [(ov, eL, 256), (sv, S, 256)]) := HF4.out.below hq
  have HD : Hid (Rd w7 da (Sha.sumF 3 (sig.take 32 ++ pub ++ msg))) := ho.rd
  clear ho hq
  have C := lowest_v da 64 _ w7 HD.out (by rw [HL.out]; decide) (by rw [HL.out]; decide)
  rw [HL.out] at C
  go_wp2_with fail
  refine C.mono ?_
  clear C
  rintro e w8 ⟨hv, rfl, h⟩
  obtain ⟨HN, HHN⟩ : ∃ N, Hid (N = leN (Sha.sumF 3 (sig.take 32 ++ pub ++ msg))) := ⟨_, rfl⟩
  rw [← HHN.out] at h
  have HF6 : Hid (Fm w1 w8 [(31, [.slice x0 x1 x2, .slice y0 y1 y2, .bool false])] [(.slice x0 x1 x2, P.1, 256), (.slice y0 y1 y2, P.2, 256)] [(hv, HN, 512), (ov, eL, 256), (sv, S, 256)]) := HF5.out.step h
  clear h
  go_wp2_with fail
  refine (order_v _ (HT.out.1.below (HB1.out.trans (HF6.out.bel.mono HB1.out.size)) (Nat.le_refl _))).mono ?_
  rintro e w9 ⟨ov2, rfl, h⟩
  have HF7 : Hid (Fm w1 w9 [(31, [.slice x0 x1 x2, .slice y0 y1 y2, .bool false])] [(.slice x0 x1 x2, P.1, 256), (.slice y0 y1 y2, P.2, 256)] [(ov2, eL, 256), (hv, HN, 512), (ov, eL, 256), (sv, S, 256)]) := HF6.out.step h
  clear h
  go_wp2_with fail
  refine (ediv_v _ _ HN 512 _ (HF7.out.got 1 (okb rfl)) (HF7.out.got 0 (okb rfl))).mono ?_
  rintro e w10 ⟨qv, kv, rfl, ⟨q0', q1', q2', rfl⟩, h⟩
  obtain ⟨KK, HK⟩ : ∃ K, Hid (K = HN % eL) := ⟨_, rfl⟩
  rw [← HK.out] at h
  have HF8 : Hid (Fm w1 w10 [(31, [.slice x0 x1 x2, .slice y0 y1 y2, .bool false])] [(.slice x0 x1 x2, P.1, 256), (.slice y0 y1 y2, P.2, 256)] [(kv, KK, 256), (ov2, eL, 256), (hv, HN, 512), (ov, eL, 256), (sv, S, 256)]) := HF7.out.step h
  clear h
  obtain ⟨k0, k1, k2, rfl⟩ := (HF8.out.got 0 (okb rfl)).sl
  obtain ⟨s0, s1, s2, rfl⟩ := (HF8.out.got 4 (okb rfl)).sl
  go_wp2_with fail
  have HF8d : Hid (Fm w1 w10.drew [(31, [.slice x0 x1 x2, .slice y0 y1 y2, .bool false])] [(.slice x0 x1 x2, P.1, 256), (.slice y0 y1 y2, P.2, 256)] [(.slice k0 k1 k2, KK, 256), (ov2, eL, 256), (hv, HN, 512), (ov, eL, 256), (.slice s0 s1 s2, S, 256)]) := HF8.out.drew
  refine wp_region_K 9 (fun (w' : World) => w'.cell? ⟨w1.heap.size, 0, none⟩ = some (.slice x0 x1 x2) ∧ w'.cell? ⟨w1.heap.size, 1, none⟩ = some (.slice y0 y1 y2) ∧ w'.cell? ⟨w1.heap.size, 2, none⟩ = some (.bool false)) (by kernel_rfl) ?_
  have hHeld : ((fun (w' : World) => w'.cell? ⟨w1.heap.size, 0, none⟩ = some (.slice x0 x1 x2) ∧ w'.cell? ⟨w1.heap.size, 1, none⟩ = some (.slice y0 y1 y2) ∧ w'.cell? ⟨w1.heap.size, 2, none⟩ = some (.bool false))) (World.drew _) := ⟨HF8d.out.cell 0 0 (okb rfl) (okb rfl), HF8d.out.cell 0 1 (okb rfl) (okb rfl), HF8d.out.cell 0 2 (okb rfl) (okb rfl)⟩
  refine wpAnyK_take0 0 (v := ?v15) rfl (by kernel_rfl) (fun _ _ _ h => h) (Or.inl ⟨by rfl, ?hy15⟩) (fun _ => hHeld) ?_
  case hy15 => (intro w hSw; go_simp; try with_reducible rfl)
  try simp only [Act.put, List.setIfInBounds_toArray, List.set_cons_zero, List.set_cons_succ]
  refine wpAnyK_take0 1 (v := ?v16) rfl (by kernel_rfl) (fun _ _ _ h => h) (Or.inl ⟨by rfl, ?hy16⟩) (fun _ => hHeld) ?_
  case hy16 => (intro w hSw; go_simp; try with_reducible rfl)
  try simp only [Act.put, List.setIfInBounds_toArray, List.set_cons_zero, List.set_cons_succ]
  refine wpAnyK_take 4 [5, 6, 7, 8, 9] (v := ?v17) rfl (by kernel_rfl) (fun _ _ _ h => h) (Or.inl ⟨by rfl, ?hy17⟩) hHeld ?_
  case hy17 => (intro w hSw; (try dsimp only at hSw); go_simp; try with_reducible rfl)
  try simp only [Act.put, List.setIfInBounds_toArray, List.set_cons_zero, List.set_cons_succ]
  refine wpAnyK_step 2 rfl (by kernel_rfl) (fun K hK => ?_)
  go_simp
  refine (base_v _ (HT.out.1.below (HB1.out.trans (HF8d.out.bel.mono HB1.out.size)) (Nat.le_refl _))).mono ?_
  rintro e w11 ⟨bv', rfl, hm, hB⟩
  have HF9 : Hid (Fm w1 w11 [(31, [.slice x0 x1 x2, .slice y0 y1 y2, .bool false])] [(.slice x0 x1 x2, P.1, 256), (.slice y0 y1 y2, P.2, 256)] [(.slice k0 k1 k2, KK, 256), (ov2, eL, 256), (hv, HN, 512), (ov, eL, 256), (.slice s0 s1 s2, S, 256)]) := HF8d.out.below hB
  obtain ⟨bx, bY, rfl, b1, b2, _⟩ := hm
  have HBs : Hid (Nk w11 bx eX 256 ∧ Nk w11 bY eY 256) := ⟨b1.nk, b2.nk⟩
  clear b1 b2 hB
  try dsimp only
  refine hK.out _ _ ?hk18 ?_
  case hk18 => exact fun _ => ⟨HF9.out.cell 0 0 (okb rfl) (okb rfl), HF9.out.cell 0 1 (okb rfl) (okb rfl), HF9.out.cell 0 2 (okb rfl) (okb rfl)⟩
  have hHeld : ((fun (w' : World) => w'.cell? ⟨w1.heap.size, 0, none⟩ = some (.slice x0 x1 x2) ∧ w'.cell? ⟨w1.heap.size, 1, none⟩ = some (.slice y0 y1 y2) ∧ w'.cell? ⟨w1.heap.size, 2, none⟩ = some (.bool false))) _ := ⟨HF9.out.cell 0 0 (okb rfl) (okb rfl), HF9.out.cell 0 1 (okb rfl) (okb rfl), HF9.out.cell 0 2 (okb rfl) (okb rfl)⟩
  clear hK K
  try simp only [Act.put, List.setIfInBounds_toArray, List.set_cons_zero, List.set_cons_succ]
  refine wpAnyK_step 3 rfl (by kernel_rfl) (fun K hK => ?_)
  go_simp
  refine (asRatio_v _ _ eX eY _ (HT.out.1.below (HB1.out.trans (HF9.out.bel.mono HB1.out.size)) (Nat.le_refl _)) HBs.out.1 HBs.out.2).mono ?_
  rintro e w12 ⟨q1, rfl, hm, hB⟩
  have HF10 : Hid (Fm w1 w12 [(31, [.slice x0 x1 x2, .slice y0 y1 y2, .bool false])] [(.slice x0 x1 x2, P.1, 256), (.slice y0 y1 y2, P.2, 256)] [(.slice k0 k1 k2, KK, 256), (ov2, eL, 256), (hv, HN, 512), (ov, eL, 256), (.slice s0 s1 s2, S, 256)]) := HF9.out.below hB
  have HQ1 : Hid (Q4 w12 q1 qB) := hm.q4
  clear hm hB HBs
  try dsimp only
  refine hK.out _ _ ?hk19 ?_
  case hk19 => exact fun _ => ⟨HF10.out.cell 0 0 (okb rfl) (okb rfl), HF10.out.cell 0 1 (okb rfl) (okb rfl), HF10.out.cell 0 2 (okb rfl) (okb rfl)⟩
  have hHeld : ((fun (w' : World) => w'.cell? ⟨w1.heap.size, 0, none⟩ = some (.slice x0 x1 x2) ∧ w'.cell? ⟨w1.heap.size, 1, none⟩ = some (.slice y0 y1 y2) ∧ w'.cell? ⟨w1.heap.size, 2, none⟩ = some (.bool false))) _ := ⟨HF10.out.cell 0 0 (okb rfl) (okb rfl), HF10.out.cell 0 1 (okb rfl) (okb rfl), HF10.out.cell 0 2 (okb rfl) (okb rfl)⟩
  clear hK K
  try simp only [Act.put, List.setIfInBounds_toArray, List.set_cons_zero, List.set_cons_succ]
  refine wpAnyK_step 5 rfl (by kernel_rfl) (fun K hK => ?_)
  go_simp
  refine (opposite_v _ _ P.1 P.2 _ (HT.out.1.below (HB1.out.trans (HF10.out.bel.mono HB1.out.size)) (Nat.le_refl _)) (HF10.out.arg 0 (okb rfl)) (HF10.out.arg 1 (okb rfl))).mono ?_
  rintro e w13 ⟨nv', rfl, hn, hB⟩
  rw [neg_eq HO.out.1] at hn
  have HF11 : Hid (Fm w1 w13 [(31, [.slice x0 x1 x2, .slice y0 y1 y2, .bool false])] [(.slice x0 x1 x2, P.1, 256), (.slice y0 y1 y2, P.2, 256)] [(.slice k0 k1 k2, KK, 256), (ov2, eL, 256), (hv, HN, 512), (ov, eL, 256), (.slice s0 s1 s2, S, 256)]) := HF10.out.below hB
  have HQ2 : Hid (Q4 w13 q1 qB ∧ Nk w13 nv' ((eP - P.1) % eP) 256) := ⟨HQ1.out.below hB (Nat.le_refl _), hn⟩
  clear hn hB HQ1
  try dsimp only
  refine hK.out _ _ ?hk20 ?_
  case hk20 => exact fun _ => ⟨HF11.out.cell 0 0 (okb rfl) (okb rfl), HF11.out.cell 0 1 (okb rfl) (okb rfl), HF11.out.cell 0 2 (okb rfl) (okb rfl)⟩
  have hHeld : ((fun (w' : World) => w'.cell? ⟨w1.heap.size, 0, none⟩ = some (.slice x0 x1 x2) ∧ w'.cell? ⟨w1.heap.size, 1, none⟩ = some (.slice y0 y1 y2) ∧ w'.cell? ⟨w1.heap.size, 2, none⟩ = some (.bool false))) _ := ⟨HF11.out.cell 0 0 (okb rfl) (okb rfl), HF11.out.cell 0 1 (okb rfl) (okb rfl), HF11.out.cell 0 2 (okb rfl) (okb rfl)⟩
  clear hK K
  try simp only [Act.put, List.setIfInBounds_toArray, List.set_cons_zero, List.set_cons_succ]
  refine wpAnyK_step 6 rfl (by kernel_rfl) (fun K hK => ?_)
  go_simp
  refine (asRatio_v _ _ ((eP - P.1) % eP) P.2 _ (HT.out.1.below (HB1.out.trans (HF11.out.bel.mono HB1.out.size)) (Nat.le_refl _)) HQ2.out.2 (HF11.out.arg 1 (okb rfl))).mono ?_
  rintro e w14 ⟨q2, rfl, hm, hB⟩
  have HF12 : Hid (Fm w1 w14 [(31, [.slice x0 x1 x2, .slice y0 y1 y2, .bool false])] [(.slice x0 x1 x2, P.1, 256), (.slice y0 y1 y2, P.2, 256)] [(.slice k0 k1 k2, KK, 256), (ov2, eL, 256), (hv, HN, 512), (ov, eL, 256), (.slice s0 s1 s2, S, 256)]) := HF11.out.below hB
  have HQ3 : Hid (Q4 w14 q1 qB ∧ Q4 w14 q2 _) := ⟨HQ2.out.1.below hB (Nat.le_refl _), hm.q4⟩
  clear hm hB HQ2
  try dsimp only
  refine hK.out _ _ ?hk21 ?_
  case hk21 => exact fun _ => ⟨HF12.out.cell 0 0 (okb rfl) (okb rfl), HF12.out.cell 0 1 (okb rfl) (okb rfl), HF12.out.cell 0 2 (okb rfl) (okb rfl)⟩
  have hHeld : ((fun (w' : World) => w'.cell? ⟨w1.heap.size, 0, none⟩ = some (.slice x0 x1 x2) ∧ w'.cell? ⟨w1.heap.size, 1, none⟩ = some (.slice y0 y1 y2) ∧ w'.cell? ⟨w1.heap.size, 2, none⟩ = some (.bool false))) _ := ⟨HF12.out.cell 0 0 (okb rfl) (okb rfl), HF12.out.cell 0 1 (okb rfl) (okb rfl), HF12.out.cell 0 2 (okb rfl) (okb rfl)⟩
  clear hK K
  try simp only [Act.put, List.setIfInBounds_toArray, List.set_cons_zero, List.set_cons_succ]
  refine wpAnyK_step 7 rfl (by kernel_rfl) (fun K hK => ?_)
  go_simp
  refine (ladder_v _ _ _ _ S KK _ _ _ (HT.out.1.below (HB1.out.trans (HF12.out.bel.mono HB1.out.size)) (Nat.le_refl _)) ((HF12.out.got 4 (okb rfl)).le (okb rfl)) ((HF12.out.got 0 (okb rfl)).le (okb rfl)) HQ3.out.1 HQ3.out.2).mono ?_
  rintro e w15 ⟨q3, rfl, hm, hB⟩
  have HF13 : Hid (Fm w1 w15 [(31, [.slice x0 x1 x2, .slice y0 y1 y2, .bool false])] [(.slice x0 x1 x2, P.1, 256), (.slice y0 y1 y2, P.2, 256)] [(.slice k0 k1 k2, KK, 256), (ov2, eL, 256), (hv, HN, 512), (ov, eL, 256), (.slice s0 s1 s2, S, 256)]) := HF12.out.below hB
  have HQ4 : Hid (Q4 w15 q3 _) := hm.q4
  clear hm hB HQ3
  have HR : Hid (Rq eP (ldq eP eD qB ⟨(eP - P.1) % eP, P.2, 1, (eP - P.1) % eP * P.2 % eP⟩ (pq eP eD qB ⟨(eP - P.1) % eP, P.2, 1, (eP - P.1) % eP * P.2 % eP⟩) (max (bl S) (bl KK)) S KK) (rV P pub msg sig)) := (by
    have h := lad_joint qB_is (Rq.of (by decide +kernel) (ew.non HO.out)) onB (ew.non HO.out) S KK
    rw [HS.out, HK.out, HHN.out] at h ⊢
    exact h)
  try dsimp only
  refine hK.out _ _ ?hk22 ?_
  case hk22 => exact fun _ => ⟨HF13.out.cell 0 0 (okb rfl) (okb rfl), HF13.out.cell 0 1 (okb rfl) (okb rfl), HF13.out.cell 0 2 (okb rfl) (okb rfl)⟩
  have hHeld : ((fun (w' : World) => w'.cell? ⟨w1.heap.size, 0, none⟩ = some (.slice x0 x1 x2) ∧ w'.cell? ⟨w1.heap.size, 1, none⟩ = some (.slice y0 y1 y2) ∧ w'.cell? ⟨w1.heap.size, 2, none⟩ = some (.bool false))) _ := ⟨HF13.out.cell 0 0 (okb rfl) (okb rfl), HF13.out.cell 0 1 (okb rfl) (okb rfl), HF13.out.cell 0 2 (okb rfl) (okb rfl)⟩
  clear hK K
  try simp only [Act.put, List.setIfInBounds_toArray, List.set_cons_zero, List.set_cons_succ]
  refine wpAnyK_step 8 rfl (by kernel_rfl) (fun K hK => ?_)
  go_simp
  refine (point_v _ _ _ (HT.out.1.below (HB1.out.trans (HF13.out.bel.mono HB1.out.size)) (Nat.le_refl _)) HQ4.out HR.out.n HR.out.z).mono ?_
  rintro e w16 ⟨q4, J, hJ, rfl, hm, hB⟩
  rw [rq_point HR.out (rV_on HO.out pub msg sig) hJ] at hm
  have HF14 : Hid (Fm w1 w16 [(31, [.slice x0 x1 x2, .slice y0 y1 y2, .bool false])] [(.slice x0 x1 x2, P.1, 256), (.slice y0 y1 y2, P.2, 256)] [(.slice k0 k1 k2, KK, 256), (ov2, eL, 256), (hv, HN, 512), (ov, eL, 256), (.slice s0 s1 s2, S, 256)]) := HF13.out.below hB
  obtain ⟨px, py, rfl, b1, b2, _⟩ := hm
  have HPx : Hid (Nk w16 px (rV P pub msg sig).1 256 ∧ Nk w16 py (rV P pub msg sig).2 256) := ⟨b1.nk, b2.nk⟩
  clear b1 b2 hB hJ HQ4 HR
  try dsimp only
  refine hK.out _ _ ?hk23 ?_
  case hk23 => exact fun _ => ⟨HF14.out.cell 0 0 (okb rfl) (okb rfl), HF14.out.cell 0 1 (okb rfl) (okb rfl), HF14.out.cell 0 2 (okb rfl) (okb rfl)⟩
  have hHeld : ((fun (w' : World) => w'.cell? ⟨w1.heap.size, 0, none⟩ = some (.slice x0 x1 x2) ∧ w'.cell? ⟨w1.heap.size, 1, none⟩ = some (.slice y0 y1 y2) ∧ w'.cell? ⟨w1.heap.size, 2, none⟩ = some (.bool false))) _ := ⟨HF14.out.cell 0 0 (okb rfl) (okb rfl), HF14.out.cell 0 1 (okb rfl) (okb rfl), HF14.out.cell 0 2 (okb rfl) (okb rfl)⟩
  clear hK K
  try simp only [Act.put, List.setIfInBounds_toArray, List.set_cons_zero, List.set_cons_succ]
  refine wpAnyK_step 9 rfl (by kernel_rfl) (fun K hK => ?_)
  go_simp
  refine (encode_v _ _ (rV P pub msg sig).1 (rV P pub msg sig).2 false _ (HT.out.1.below (HB1.out.trans (HF14.out.bel.mono HB1.out.size)) (Nat.le_refl _)) HPx.out.1.1 HPx.out.2.1 ((onV_iff _ _ _).2 ⟨rfl, rV_on HO.out pub msg sig⟩)).mono ?_
  rintro e w17 ⟨⟨ev, rfl, hO⟩, hB⟩
  have HF15 : Hid (Fm w1 w17 [(31, [.slice x0 x1 x2, .slice y0 y1 y2, .bool false])] [(.slice x0 x1 x2, P.1, 256), (.slice y0 y1 y2, P.2, 256)] [(.slice k0 k1 k2, KK, 256), (ov2, eL, 256), (hv, HN, 512), (ov, eL, 256), (.slice s0 s1 s2, S, 256)]) := HF14.out.below hB
  have HE : Hid (Owb w17 w16.heap.size ev (encL (rV P pub msg sig))) := hO
  clear hO hB HPx
  try dsimp only
  refine hK.out _ _ ?hk24 ?_
  case hk24 => exact fun _ => ⟨HF15.out.cell 0 0 (okb rfl) (okb rfl), HF15.out.cell 0 1 (okb rfl) (okb rfl), HF15.out.cell 0 2 (okb rfl) (okb rfl)⟩
  have hHeld : ((fun (w' : World) => w'.cell? ⟨w1.heap.size, 0, none⟩ = some (.slice x0 x1 x2) ∧ w'.cell? ⟨w1.heap.size, 1, none⟩ = some (.slice y0 y1 y2) ∧ w'.cell? ⟨w1.heap.size, 2, none⟩ = some (.bool false))) _ := ⟨HF15.out.cell 0 0 (okb rfl) (okb rfl), HF15.out.cell 0 1 (okb rfl) (okb rfl), HF15.out.cell 0 2 (okb rfl) (okb rfl)⟩
  clear hK K
  try simp only [Act.put, List.setIfInBounds_toArray, List.set_cons_zero, List.set_cons_succ]
  refine wpAnyK_take0 10 (v := ?v25) rfl (by kernel_rfl) (fun _ _ _ h => h) (Or.inl ⟨by rfl, ?hy25⟩) (fun _ => hHeld) ?_
  case hy25 => (intro w hSw; go_simp; try with_reducible rfl)
  try simp only [Act.put, List.setIfInBounds_toArray, List.set_cons_zero, List.set_cons_succ]
  refine wpAnyK_take0 11 (v := ?v26) rfl (by kernel_rfl) (fun _ _ _ h => h) (Or.inl ⟨by rfl, ?hy26⟩) (fun _ => hHeld) ?_
  case hy26 => (intro w hSw; go_simp; try with_reducible rfl)
  try simp only [Act.put, List.setIfInBounds_toArray, List.set_cons_zero, List.set_cons_succ]
  refine wpAnyK_take0 12 (v := ?v27) rfl (by kernel_rfl) (fun _ _ _ h => h) (Or.inl ⟨by rfl, ?hy27⟩) (fun _ => hHeld) ?_
  case hy27 => (intro w hSw; go_simp; try with_reducible rfl)
  try simp only [Act.put, List.setIfInBounds_toArray, List.set_cons_zero, List.set_cons_succ]
  refine wpAnyK_take0 13 (v := ?v28) rfl (by kernel_rfl) (fun _ _ _ h => h) (Or.inl ⟨by rfl, ?hy28⟩) (fun _ => hHeld) ?_
  case hy28 => (intro w hSw; go_simp; try with_reducible rfl)
  try simp only [Act.put, List.setIfInBounds_toArray, List.set_cons_zero, List.set_cons_succ]
  refine wpAnyK_take0 14 (v := ?v29) rfl (by kernel_rfl) (fun _ _ _ h => h) (Or.inl ⟨by rfl, ?hy29⟩) (fun _ => hHeld) ?_
  case hy29 => (intro w hSw; go_simp; try with_reducible rfl)
  try simp only [Act.put, List.setIfInBounds_toArray, List.set_cons_zero, List.set_cons_succ]
  refine wpAnyK_done (by kernel_rfl) ?_ _
  obtain ⟨ea, ec, rfl, _, _, _, _, hre, _⟩ := own_rdE HE.out
  have C := equal_any ea (some ⟨g, off, none⟩) ec cs _ (sig.take 32) w17 hre (HF.out.1.below (HB1.out.trans (HF15.out.bel.mono HB1.out.size)) (Nat.le_refl _))
  rw [encL_len, Hl1.out, decide_eq_true HRR.out] at C
  rw [encL_len]
  clear hre
  go_wp2_with fail
  refine C.mono ?_
  clear C
  rintro e w17 ⟨rfl, rfl⟩
  go_wp2
  go_ret
  exact ⟨rfl, HB1.out.trans (HF15.out.bel.mono HB1.out.size)⟩
set_option maxHeartbeats 20000000 in
theorem verify_no (ap am ag : Option Addr) (cp cm cs : Nat) (pub msg sig : List UInt8) (w : World) (T : Te w) (TS : Sha.Tb w) (hp : Rd w ap pub) (hm : Rd w am msg) (hs : Rd w ag sig) (hcp : pub.length ≤ cp ∧ cp ≤ 9223372036854775807) (hcm : msg.length ≤ cm ∧ cm ≤ 9223372036854775807) (hcs : sig.length ≤ cs ∧ cs ≤ 9223372036854775807) (hml : msg.length < 1152921504606846976) (P : Nat × Nat) (oP : onE eP eD P) (hk : encL P = pub) (hl : sig.length = 64) (hS : leN (sig.drop 32) < eL) (hR : encL (rV P pub msg sig) ≠ sig.take 32) :
    Calls Tryz.prog 12 #[.slice ap pub.length cp, .slice am msg.length cm, .slice ag sig.length cs] w fun e w' => e = .returned (.int .i64 91) ∧ Below w.heap.size w w' := by
  have C := decode_v ap cp pub w T hp
  have HO : Hid (onE eP eD P) := oP
  have HT : Hid (Te w ∧ Sha.Tb w) := ⟨T, TS⟩
  have HRD : Hid (Rd w ap pub ∧ Rd w am msg ∧ Rd w ag sig) := ⟨hp, hm, hs⟩
  have HKk : Hid (encL P = pub ∧ pub.length = 32) := ⟨hk, by rw [← hk]; exact encL_len P⟩
  have HC : Hid ((pub.length ≤ cp ∧ cp ≤ 9223372036854775807) ∧ (msg.length ≤ cm ∧ cm ≤ 9223372036854775807) ∧ msg.length < 1152921504606846976) := ⟨hcp, hcm, hml⟩
  obtain ⟨g, off, rfl⟩ : ∃ g off : Nat, ag = some ⟨g, off, none⟩ := by
    rcases hs with h | ⟨g, off, e, _⟩
    · subst h; simp at hl
    · exact ⟨g, off, e⟩
  have HF : Hid (Rd w (some ⟨g, off, none⟩) (sig.take 32) ∧ Rd w (some ⟨g, off + 32, none⟩) (sig.drop 32)) := ⟨rd_take hs 32, rd_drop hs 32⟩
  have Hl1 : Hid ((sig.take 32).length = 32) := (by rw [List.length_take, hl]; rfl : (sig.take 32).length = 32)
  have Hl2 : Hid ((sig.drop 32).length = 32) := (by rw [List.length_drop, hl] : (sig.drop 32).length = 32)
  rw [hl] at hcs ⊢
  have hc64 := hcs.1
  have hci : (32 : Int) ≤ (cs : Int) := by omega
  have hci2 : (64 : Int) ≤ (cs : Int) := by omega
  have hcne : ¬ cs = 32 := by omega
  have HCs : Hid (cs ≤ 9223372036854775807) := hcs.2
  clear hcs hl
  have HSS : Hid (leN (sig.drop 32) < eL) := hS
  have HRR : Hid (encL (rV P pub msg sig) ≠ sig.take 32) := hR
  clear hS hR
  clear T TS hp hm hs oP hk hcp hcm hml
  go_enter Tryz.func12, Tryz.ntmps12
  go_wp2_with fail
  refine C.mono ?_
  clear C
  rintro e w1 ⟨hA, hB⟩
  obtain ⟨v, rfl, hv⟩ : ∃ v, e = .returned (.tuple #[v, .int .i64 0]) ∧ Pe w1 w.heap.size v P := by
    rcases hA with ⟨Q, v, h1, h2, h3, h4⟩ | ⟨h, _⟩
    · rw [encL_inj h1 HO.out (h2.trans HKk.out.1.symm)] at h4
      exact ⟨v, h3, h4⟩
    · exact absurd HKk.out.1 (h P HO.out)
  clear hA
  have HB1 : Hid (Below w.heap.size w w1) := hB
  obtain ⟨x, y, rfl, m1, m2, _⟩ := hv
  obtain ⟨x0, x1, x2, rfl⟩ := m1.nk.sl
  obtain ⟨y0, y1, y2, rfl⟩ := m2.nk.sl
  have HF0 : Hid (Fm w1 (w1.alloc (.cells #[.slice x0 x1 x2, .slice y0 y1 y2, .bool false] 31)) [(31, [.slice x0 x1 x2, .slice y0 y1 y2, .bool false])] [(.slice x0 x1 x2, P.1, 256), (.slice y0 y1 y2, P.2, 256)] []) := ((Fm.nil (w := w1) (A := [(.slice x0 x1 x2, P.1, 256), (.slice y0 y1 y2, P.2, 256)]) (ar_cons m1.nk (ar_cons m2.nk ar_nil))).push (by simp) 31 [.slice x0 x1 x2, .slice y0 y1 y2, .bool false])
  clear m1 m2 hB
  go_wp2_with fail
  generalize (w1.alloc (.cells #[.slice x0 x1 x2, .slice y0 y1 y2, .bool false] 31)) = w2 at *
  have HF0d : Hid (Fm w1 w2.drew [(31, [.slice x0 x1 x2, .slice y0 y1 y2, .bool false])] [(.slice x0 x1 x2, P.1, 256), (.slice y0 y1 y2, P.2, 256)] []) := HF0.out.drew
  refine wp_region_K 4 (fun (w' : World) => w'.cell? ⟨w1.heap.size, 0, none⟩ = some (.slice x0 x1 x2)) (by kernel_rfl) ?_
  have hHeld : ((fun (w' : World) => w'.cell? ⟨w1.heap.size, 0, none⟩ = some (.slice x0 x1 x2))) (World.drew _) := HF0d.out.cell 0 0 (okb rfl) (okb rfl)
  refine wpAnyK_take0 0 (v := ?v30) rfl (by kernel_rfl) (fun _ _ _ h => h) (Or.inl ⟨by rfl, ?hy30⟩) (fun _ => hHeld) ?_
  case hy30 => (intro w hSw; go_simp; try with_reducible rfl)
  try simp only [Act.put, List.setIfInBounds_toArray, List.set_cons_zero, List.set_cons_succ]
  refine wpAnyK_take0 1 (v := ?v31) rfl (by kernel_rfl) (fun _ _ _ h => h) (Or.inl ⟨by rfl, ?hy31⟩) (fun _ => hHeld) ?_
  case hy31 => (intro w hSw; go_simp; try with_reducible rfl)
  try simp only [Act.put, List.setIfInBounds_toArray, List.set_cons_zero, List.set_cons_succ]
  refine wpAnyK_take0 2 (v := ?v32) rfl (by kernel_rfl) (fun _ _ _ h => h) (Or.inl ⟨by rfl, ?hy32⟩) (fun _ => hHeld) ?_
  case hy32 => (intro w hSw; go_simp; try with_reducible rfl)
  try simp only [Act.put, List.setIfInBounds_toArray, List.set_cons_zero, List.set_cons_succ]
  refine wpAnyK_take0 3 (v := ?v33) rfl (by kernel_rfl) (fun _ _ _ h => h) (Or.inl ⟨by rfl, ?hy33⟩) (fun _ => hHeld) ?_
  case hy33 => (intro w hSw; go_simp; try with_reducible rfl)
  try simp only [Act.put, List.setIfInBounds_toArray, List.set_cons_zero, List.set_cons_succ]
  refine wpAnyK_step 4 rfl (by kernel_rfl) (fun K hK => ?_)
  go_simp
  have C := lowest_v (some ⟨g, off + 32, none⟩) (cs - 32) (sig.drop 32) w2.drew (HF.out.2.below (HB1.out.trans (HF0d.out.bel.mono HB1.out.size)) (Nat.le_refl _)) (by rw [Hl2.out]; decide) (by rw [Hl2.out]; decide)
  rw [Hl2.out] at C
  refine C.mono ?_
  clear C
  rintro e w3 ⟨sv, rfl, h⟩
  obtain ⟨S, HS⟩ : ∃ S, Hid (S = leN (sig.drop 32)) := ⟨_, rfl⟩
  rw [← HS.out] at h
  have HF1 : Hid (Fm w1 w3 [(31, [.slice x0 x1 x2, .slice y0 y1 y2, .bool false])] [(.slice x0 x1 x2, P.1, 256), (.slice y0 y1 y2, P.2, 256)] [(sv, S, 256)]) := HF0d.out.step h
  clear h
  try dsimp only
  refine hK.out _ _ ?hk34 ?_
  case hk34 => exact fun _ => HF1.out.cell 0 0 (okb rfl) (okb rfl)
  have hHeld : ((fun (w' : World) => w'.cell? ⟨w1.heap.size, 0, none⟩ = some (.slice x0 x1 x2))) _ := HF1.out.cell 0 0 (okb rfl) (okb rfl)
  clear hK K
  try simp only [Act.put, List.setIfInBounds_toArray, List.set_cons_zero, List.set_cons_succ]
  refine wpAnyK_take0 5 (v := ?v35) rfl (by kernel_rfl) (fun _ _ _ h => h) (Or.inl ⟨by rfl, ?hy35⟩) (fun _ => hHeld) ?_
  case hy35 => (intro w hSw; go_simp; try with_reducible rfl)
  try simp only [Act.put, List.setIfInBounds_toArray, List.set_cons_zero, List.set_cons_succ]
  refine wpAnyK_take0 6 (v := ?v36) rfl (by kernel_rfl) (fun _ _ _ h => h) (Or.inl ⟨by rfl, ?hy36⟩) (fun _ => hHeld) ?_
  case hy36 => (intro w hSw; go_simp; try with_reducible rfl)
  try simp only [Act.put, List.setIfInBounds_toArray, List.set_cons_zero, List.set_cons_succ]
  refine wpAnyK_done (by kernel_rfl) ?_ _
  go_wp2_with fail
  refine (order_v _ (HT.out.1.below (HB1.out.trans (HF1.out.bel.mono HB1.out.size)) (Nat.le_refl _))).mono ?_
  rintro e w4 ⟨ov, rfl, h⟩
  have HF2 : Hid (Fm w1 w4 [(31, [.slice x0 x1 x2, .slice y0 y1 y2, .bool false])] [(.slice x0 x1 x2, P.1, 256), (.slice y0 y1 y2, P.2, 256)] [(ov, eL, 256), (sv, S, 256)]) := HF1.out.step h
  clear h
  go_wp2_with fail
  refine (vcmp _ _ S eL _ _ _ (HF2.out.got 1 (okb rfl)).1 (HF2.out.got 0 (okb rfl)).1 (by decide) (by decide)).mono ?_
  rintro e w5 ⟨rfl, q, hq⟩
  have HF3 : Hid (Fm w1 w5 [(31, [.slice x0 x1 x2, .slice y0 y1 y2, .bool false])] [(.slice x0 x1 x2, P.1, 256), (.slice y0 y1 y2, P.2, 256)] [(ov, eL, 256), (sv, S, 256)]) := (by rw [hq]; exact HF2.out.drewN q : Fm w1 w5 [(31, [.slice x0 x1 x2, .slice y0 y1 y2, .bool false])] [(.slice x0 x1 x2, P.1, 256), (.slice y0 y1 y2, P.2, 256)] [(ov, eL, 256), (sv, S, 256)])
  clear hq
  rw [cmp3_lt (show ((S : Nat) : Int) < ((eL : Nat) : Int) from Int.ofNat_lt.2 (by rw [HS.out]; exact HSS.out))]
  have hB5 := (HB1.out.trans (HF3.out.bel.mono HB1.out.size))
  have hbb := alloc_below w5 (.cells #[.slice (some ⟨g, off, none⟩) 32 cs, .slice ap pub.length cp, .slice am msg.length cm] 22)
  have hpt := parts3 w5 ⟨some ⟨g, off, none⟩, cs, sig.take 32⟩ ⟨ap, cp, pub⟩ ⟨am, cm, msg⟩ ⟨HF.out.1.below hB5 (Nat.le_refl _), by show (sig.take 32).length ≤ cs; have := Hl1.out; omega, HCs.out⟩ ⟨HRD.out.1.below hB5 (Nat.le_refl _), HC.out.1⟩ ⟨HRD.out.2.1.below hB5 (Nat.le_refl _), HC.out.2.1⟩
  unfold Sha.prV at hpt
  rw [Hl1.out] at hpt
  have hT5 : Sha.Tb w5 := shTb_below HT.out.2 hB5 rfl
  have CQ := Sha.ssum_any 3 (some ⟨w5.heap.size, 0, none⟩) 3 [⟨some ⟨g, off, none⟩, cs, sig.take 32⟩, ⟨ap, cp, pub⟩, ⟨am, cm, msg⟩] (w5.alloc (.cells #[.slice (some ⟨g, off, none⟩) 32 cs, .slice ap pub.length cp, .slice am msg.length cm] 22)) (hT5.below hbb) hpt (by simp) (by have h1 := Hl1.out; have h2 := HKk.out.2; have h3 := HC.out.2.2; simp [Sha.cat] at h1 ⊢; omega)
  rw [show Sha.cat [⟨some ⟨g, off, none⟩, cs, sig.take 32⟩, ⟨ap, cp, pub⟩, ⟨am, cm, msg⟩] = sig.take 32 ++ pub ++ msg by simp [Sha.cat]] at CQ
  replace CQ : Calls Tryz.prog 42 #[.int .i64 3, .slice (some ⟨w5.heap.size, 0, none⟩) 3 3] (w5.alloc (.cells #[.slice (some ⟨g, off, none⟩) 32 cs, .slice ap pub.length cp, .slice am msg.length cm] 22)) fun e w' => ∃ a, e = .returned (.slice a 64 64) ∧ Sha.Own w' (w5.alloc (.cells #[.slice (some ⟨g, off, none⟩) 32 cs, .slice ap pub.length cp, .slice am msg.length cm] 22)).heap.size a (Sha.sumF 3 (sig.take 32 ++ pub ++ msg)) ∧ Below (w5.alloc (.cells #[.slice (some ⟨g, off, none⟩) 32 cs, .slice ap pub.length cp, .slice am msg.length cm] 22)).heap.size (w5.alloc (.cells #[.slice (some ⟨g, off, none⟩) 32 cs, .slice ap pub.length cp, .slice am msg.length cm] 22)) w' := CQ
  have HL : Hid ((Sha.sumF 3 (sig.take 32 ++ pub ++ msg)).length = 64) := Sha.sumF_length 3 _
  have HF4 : Hid (Fm w1 (w5.alloc (.cells #[.slice (some ⟨g, off, none⟩) 32 cs, .slice ap pub.length cp, .slice am msg.length cm] 22)) [(31, [.slice x0 x1 x2, .slice y0 y1 y2, .bool false])] [(.slice x0 x1 x2, P.1, 256), (.slice y0 y1 y2, P.2, 256)] [(ov, eL, 256), (sv, S, 256)]) := HF3.out.below hbb
  clear hpt hbb hT5 hB5
  go_wp2_with fail
  generalize (w5.alloc (.cells #[.slice (some ⟨g, off, none⟩) 32 cs, .slice ap pub.length cp, .slice am msg.length cm] 22)) = w6 at *
  refine CQ.mono ?_
  clear CQ
  rintro e w7 ⟨da, rfl, ho, hq⟩
  have HF5 : Hid (Fm w1 w7 [(31, [.slice x0 x1 x2, .slice y0 y1 y2, .bool false])] [(.slice x0 x1 x2, P.1, 256), (.slice y0 y1 y2, P.2, 256)] [(ov, eL, 256), (sv, S, 256)]) := HF4.out.below hq
  have HD : Hid (Rd w7 da (Sha.sumF 3 (sig.take 32 ++ pub ++ msg))) := ho.rd
  clear ho hq
  have C := lowest_v da 64 _ w7 HD.out (by rw [HL.out]; decide) (by rw [HL.out]; decide)
  rw [HL.out] at C
  go_wp2_with fail
  refine C.mono ?_
  clear C
  rintro e w8 ⟨hv, rfl, h⟩
  obtain ⟨HN, HHN⟩ : ∃ N, Hid (N = leN (Sha.sumF 3 (sig.take 32 ++ pub ++ msg))) := ⟨_, rfl⟩
  rw [← HHN.out] at h
  have HF6 : Hid (Fm w1 w8 [(31, [.slice x0 x1 x2, .slice y0 y1 y2, .bool false])] [(.slice x0 x1 x2, P.1, 256), (.slice y0 y1 y2, P.2, 256)] [(hv, HN, 512), (ov, eL, 256), (sv, S, 256)]) := HF5.out.step h
  clear h
  go_wp2_with fail
  refine (order_v _ (HT.out.1.below (HB1.out.trans (HF6.out.bel.mono HB1.out.size)) (Nat.le_refl _))).mono ?_
  rintro e w9 ⟨ov2, rfl, h⟩
  have HF7 : Hid (Fm w1 w9 [(31, [.slice x0 x1 x2, .slice y0 y1 y2, .bool false])] [(.slice x0 x1 x2, P.1, 256), (.slice y0 y1 y2, P.2, 256)] [(ov2, eL, 256), (hv, HN, 512), (ov, eL, 256), (sv, S, 256)]) := HF6.out.step h
  clear h
  go_wp2_with fail
  refine (ediv_v _ _ HN 512 _ (HF7.out.got 1 (okb rfl)) (HF7.out.got 0 (okb rfl))).mono ?_
  rintro e w10 ⟨qv, kv, rfl, ⟨q0', q1', q2', rfl⟩, h⟩
  obtain ⟨KK, HK⟩ : ∃ K, Hid (K = HN % eL) := ⟨_, rfl⟩
  rw [← HK.out] at h
  have HF8 : Hid (Fm w1 w10 [(31, [.slice x0 x1 x2, .slice y0 y1 y2, .bool false])] [(.slice x0 x1 x2, P.1, 256), (.slice y0 y1 y2, P.2, 256)] [(kv, KK, 256), (ov2, eL, 256), (hv, HN, 512), (ov, eL, 256), (sv, S, 256)]) := HF7.out.step h
  clear h
  obtain ⟨k0, k1, k2, rfl⟩ := (HF8.out.got 0 (okb rfl)).sl
  obtain ⟨s0, s1, s2, rfl⟩ := (HF8.out.got 4 (okb rfl)).sl
  go_wp2_with fail
  have HF8d : Hid (Fm w1 w10.drew [(31, [.slice x0 x1 x2, .slice y0 y1 y2, .bool false])] [(.slice x0 x1 x2, P.1, 256), (.slice y0 y1 y2, P.2, 256)] [(.slice k0 k1 k2, KK, 256), (ov2, eL, 256), (hv, HN, 512), (ov, eL, 256), (.slice s0 s1 s2, S, 256)]) := HF8.out.drew
  refine wp_region_K 9 (fun (w' : World) => w'.cell? ⟨w1.heap.size, 0, none⟩ = some (.slice x0 x1 x2) ∧ w'.cell? ⟨w1.heap.size, 1, none⟩ = some (.slice y0 y1 y2) ∧ w'.cell? ⟨w1.heap.size, 2, none⟩ = some (.bool false)) (by kernel_rfl) ?_
  have hHeld : ((fun (w' : World) => w'.cell? ⟨w1.heap.size, 0, none⟩ = some (.slice x0 x1 x2) ∧ w'.cell? ⟨w1.heap.size, 1, none⟩ = some (.slice y0 y1 y2) ∧ w'.cell? ⟨w1.heap.size, 2, none⟩ = some (.bool false))) (World.drew _) := ⟨HF8d.out.cell 0 0 (okb rfl) (okb rfl), HF8d.out.cell 0 1 (okb rfl) (okb rfl), HF8d.out.cell 0 2 (okb rfl) (okb rfl)⟩
  refine wpAnyK_take0 0 (v := ?v37) rfl (by kernel_rfl) (fun _ _ _ h => h) (Or.inl ⟨by rfl, ?hy37⟩) (fun _ => hHeld) ?_
  case hy37 => (intro w hSw; go_simp; try with_reducible rfl)
  try simp only [Act.put, List.setIfInBounds_toArray, List.set_cons_zero, List.set_cons_succ]
  refine wpAnyK_take0 1 (v := ?v38) rfl (by kernel_rfl) (fun _ _ _ h => h) (Or.inl ⟨by rfl, ?hy38⟩) (fun _ => hHeld) ?_
  case hy38 => (intro w hSw; go_simp; try with_reducible rfl)
  try simp only [Act.put, List.setIfInBounds_toArray, List.set_cons_zero, List.set_cons_succ]
  refine wpAnyK_take 4 [5, 6, 7, 8, 9] (v := ?v39) rfl (by kernel_rfl) (fun _ _ _ h => h) (Or.inl ⟨by rfl, ?hy39⟩) hHeld ?_
  case hy39 => (intro w hSw; (try dsimp only at hSw); go_simp; try with_reducible rfl)
  try simp only [Act.put, List.setIfInBounds_toArray, List.set_cons_zero, List.set_cons_succ]
  refine wpAnyK_step 2 rfl (by kernel_rfl) (fun K hK => ?_)
  go_simp
  refine (base_v _ (HT.out.1.below (HB1.out.trans (HF8d.out.bel.mono HB1.out.size)) (Nat.le_refl _))).mono ?_
  rintro e w11 ⟨bv', rfl, hm, hB⟩
  have HF9 : Hid (Fm w1 w11 [(31, [.slice x0 x1 x2, .slice y0 y1 y2, .bool false])] [(.slice x0 x1 x2, P.1, 256), (.slice y0 y1 y2, P.2, 256)] [(.slice k0 k1 k2, KK, 256), (ov2, eL, 256), (hv, HN, 512), (ov, eL, 256), (.slice s0 s1 s2, S, 256)]) := HF8d.out.below hB
  obtain ⟨bx, bY, rfl, b1, b2, _⟩ := hm
  have HBs : Hid (Nk w11 bx eX 256 ∧ Nk w11 bY eY 256) := ⟨b1.nk, b2.nk⟩
  clear b1 b2 hB
  try dsimp only
  refine hK.out _ _ ?hk40 ?_
  case hk40 => exact fun _ => ⟨HF9.out.cell 0 0 (okb rfl) (okb rfl), HF9.out.cell 0 1 (okb rfl) (okb rfl), HF9.out.cell 0 2 (okb rfl) (okb rfl)⟩
  have hHeld : ((fun (w' : World) => w'.cell? ⟨w1.heap.size, 0, none⟩ = some (.slice x0 x1 x2) ∧ w'.cell? ⟨w1.heap.size, 1, none⟩ = some (.slice y0 y1 y2) ∧ w'.cell? ⟨w1.heap.size, 2, none⟩ = some (.bool false))) _ := ⟨HF9.out.cell 0 0 (okb rfl) (okb rfl), HF9.out.cell 0 1 (okb rfl) (okb rfl), HF9.out.cell 0 2 (okb rfl) (okb rfl)⟩
  clear hK K
  try simp only [Act.put, List.setIfInBounds_toArray, List.set_cons_zero, List.set_cons_succ]
  refine wpAnyK_step 3 rfl (by kernel_rfl) (fun K hK => ?_)
  go_simp
  refine (asRatio_v _ _ eX eY _ (HT.out.1.below (HB1.out.trans (HF9.out.bel.mono HB1.out.size)) (Nat.le_refl _)) HBs.out.1 HBs.out.2).mono ?_
  rintro e w12 ⟨q1, rfl, hm, hB⟩
  have HF10 : Hid (Fm w1 w12 [(31, [.slice x0 x1 x2, .slice y0 y1 y2, .bool false])] [(.slice x0 x1 x2, P.1, 256), (.slice y0 y1 y2, P.2, 256)] [(.slice k0 k1 k2, KK, 256), (ov2, eL, 256), (hv, HN, 512), (ov, eL, 256), (.slice s0 s1 s2, S, 256)]) := HF9.out.below hB
  have HQ1 : Hid (Q4 w12 q1 qB) := hm.q4
  clear hm hB HBs
  try dsimp only
  refine hK.out _ _ ?hk41 ?_
  case hk41 => exact fun _ => ⟨HF10.out.cell 0 0 (okb rfl) (okb rfl), HF10.out.cell 0 1 (okb rfl) (okb rfl), HF10.out.cell 0 2 (okb rfl) (okb rfl)⟩
  have hHeld : ((fun (w' : World) => w'.cell? ⟨w1.heap.size, 0, none⟩ = some (.slice x0 x1 x2) ∧ w'.cell? ⟨w1.heap.size, 1, none⟩ = some (.slice y0 y1 y2) ∧ w'.cell? ⟨w1.heap.size, 2, none⟩ = some (.bool false))) _ := ⟨HF10.out.cell 0 0 (okb rfl) (okb rfl), HF10.out.cell 0 1 (okb rfl) (okb rfl), HF10.out.cell 0 2 (okb rfl) (okb rfl)⟩
  clear hK K
  try simp only [Act.put, List.setIfInBounds_toArray, List.set_cons_zero, List.set_cons_succ]
  refine wpAnyK_step 5 rfl (by kernel_rfl) (fun K hK => ?_)
  go_simp
  refine (opposite_v _ _ P.1 P.2 _ (HT.out.1.below (HB1.out.trans (HF10.out.bel.mono HB1.out.size)) (Nat.le_refl _)) (HF10.out.arg 0 (okb rfl)) (HF10.out.arg 1 (okb rfl))).mono ?_
  rintro e w13 ⟨nv', rfl, hn, hB⟩
  rw [neg_eq HO.out.1] at hn
  have HF11 : Hid (Fm w1 w13 [(31, [.slice x0 x1 x2, .slice y0 y1 y2, .bool false])] [(.slice x0 x1 x2, P.1, 256), (.slice y0 y1 y2, P.2, 256)] [(.slice k0 k1 k2, KK, 256), (ov2, eL, 256), (hv, HN, 512), (ov, eL, 256), (.slice s0 s1 s2, S, 256)]) := HF10.out.below hB
  have HQ2 : Hid (Q4 w13 q1 qB ∧ Nk w13 nv' ((eP - P.1) % eP) 256) := ⟨HQ1.out.below hB (Nat.le_refl _), hn⟩
  clear hn hB HQ1
  try dsimp only
  refine hK.out _ _ ?hk42 ?_
  case hk42 => exact fun _ => ⟨HF11.out.cell 0 0 (okb rfl) (okb rfl), HF11.out.cell 0 1 (okb rfl) (okb rfl), HF11.out.cell 0 2 (okb rfl) (okb rfl)⟩
  have hHeld : ((fun (w' : World) => w'.cell? ⟨w1.heap.size, 0, none⟩ = some (.slice x0 x1 x2) ∧ w'.cell? ⟨w1.heap.size, 1, none⟩ = some (.slice y0 y1 y2) ∧ w'.cell? ⟨w1.heap.size, 2, none⟩ = some (.bool false))) _ := ⟨HF11.out.cell 0 0 (okb rfl) (okb rfl), HF11.out.cell 0 1 (okb rfl) (okb rfl), HF11.out.cell 0 2 (okb rfl) (okb rfl)⟩
  clear hK K
  try simp only [Act.put, List.setIfInBounds_toArray, List.set_cons_zero, List.set_cons_succ]
  refine wpAnyK_step 6 rfl (by kernel_rfl) (fun K hK => ?_)
  go_simp
  refine (asRatio_v _ _ ((eP - P.1) % eP) P.2 _ (HT.out.1.below (HB1.out.trans (HF11.out.bel.mono HB1.out.size)) (Nat.le_refl _)) HQ2.out.2 (HF11.out.arg 1 (okb rfl))).mono ?_
  rintro e w14 ⟨q2, rfl, hm, hB⟩
  have HF12 : Hid (Fm w1 w14 [(31, [.slice x0 x1 x2, .slice y0 y1 y2, .bool false])] [(.slice x0 x1 x2, P.1, 256), (.slice y0 y1 y2, P.2, 256)] [(.slice k0 k1 k2, KK, 256), (ov2, eL, 256), (hv, HN, 512), (ov, eL, 256), (.slice s0 s1 s2, S, 256)]) := HF11.out.below hB
  have HQ3 : Hid (Q4 w14 q1 qB ∧ Q4 w14 q2 _) := ⟨HQ2.out.1.below hB (Nat.le_refl _), hm.q4⟩
  clear hm hB HQ2
  try dsimp only
  refine hK.out _ _ ?hk43 ?_
  case hk43 => exact fun _ => ⟨HF12.out.cell 0 0 (okb rfl) (okb rfl), HF12.out.cell 0 1 (okb rfl) (okb rfl), HF12.out.cell 0 2 (okb rfl) (okb rfl)⟩
  have hHeld : ((fun (w' : World) => w'.cell? ⟨w1.heap.size, 0, none⟩ = some (.slice x0 x1 x2) ∧ w'.cell? ⟨w1.heap.size, 1, none⟩ = some (.slice y0 y1 y2) ∧ w'.cell? ⟨w1.heap.size, 2, none⟩ = some (.bool false))) _ := ⟨HF12.out.cell 0 0 (okb rfl) (okb rfl), HF12.out.cell 0 1 (okb rfl) (okb rfl), HF12.out.cell 0 2 (okb rfl) (okb rfl)⟩
  clear hK K
  try simp only [Act.put, List.setIfInBounds_toArray, List.set_cons_zero, List.set_cons_succ]
  refine wpAnyK_step 7 rfl (by kernel_rfl) (fun K hK => ?_)
  go_simp
  refine (ladder_v _ _ _ _ S KK _ _ _ (HT.out.1.below (HB1.out.trans (HF12.out.bel.mono HB1.out.size)) (Nat.le_refl _)) ((HF12.out.got 4 (okb rfl)).le (okb rfl)) ((HF12.out.got 0 (okb rfl)).le (okb rfl)) HQ3.out.1 HQ3.out.2).mono ?_
  rintro e w15 ⟨q3, rfl, hm, hB⟩
  have HF13 : Hid (Fm w1 w15 [(31, [.slice x0 x1 x2, .slice y0 y1 y2, .bool false])] [(.slice x0 x1 x2, P.1, 256), (.slice y0 y1 y2, P.2, 256)] [(.slice k0 k1 k2, KK, 256), (ov2, eL, 256), (hv, HN, 512), (ov, eL, 256), (.slice s0 s1 s2, S, 256)]) := HF12.out.below hB
  have HQ4 : Hid (Q4 w15 q3 _) := hm.q4
  clear hm hB HQ3
  have HR : Hid (Rq eP (ldq eP eD qB ⟨(eP - P.1) % eP, P.2, 1, (eP - P.1) % eP * P.2 % eP⟩ (pq eP eD qB ⟨(eP - P.1) % eP, P.2, 1, (eP - P.1) % eP * P.2 % eP⟩) (max (bl S) (bl KK)) S KK) (rV P pub msg sig)) := (by
    have h := lad_joint qB_is (Rq.of (by decide +kernel) (ew.non HO.out)) onB (ew.non HO.out) S KK
    rw [HS.out, HK.out, HHN.out] at h ⊢
    exact h)
  try dsimp only
  refine hK.out _ _ ?hk44 ?_
  case hk44 => exact fun _ => ⟨HF13.out.cell 0 0 (okb rfl) (okb rfl), HF13.out.cell 0 1 (okb rfl) (okb rfl), HF13.out.cell 0 2 (okb rfl) (okb rfl)⟩
  have hHeld : ((fun (w' : World) => w'.cell? ⟨w1.heap.size, 0, none⟩ = some (.slice x0 x1 x2) ∧ w'.cell? ⟨w1.heap.size, 1, none⟩ = some (.slice y0 y1 y2) ∧ w'.cell? ⟨w1.heap.size, 2, none⟩ = some (.bool false))) _ := ⟨HF13.out.cell 0 0 (okb rfl) (okb rfl), HF13.out.cell 0 1 (okb rfl) (okb rfl), HF13.out.cell 0 2 (okb rfl) (okb rfl)⟩
  clear hK K
  try simp only [Act.put, List.setIfInBounds_toArray, List.set_cons_zero, List.set_cons_succ]
  refine wpAnyK_step 8 rfl (by kernel_rfl) (fun K hK => ?_)
  go_simp
  refine (point_v _ _ _ (HT.out.1.below (HB1.out.trans (HF13.out.bel.mono HB1.out.size)) (Nat.le_refl _)) HQ4.out HR.out.n HR.out.z).mono ?_
  rintro e w16 ⟨q4, J, hJ, rfl, hm, hB⟩
  rw [rq_point HR.out (rV_on HO.out pub msg sig) hJ] at hm
  have HF14 : Hid (Fm w1 w16 [(31, [.slice x0 x1 x2, .slice y0 y1 y2, .bool false])] [(.slice x0 x1 x2, P.1, 256), (.slice y0 y1 y2, P.2, 256)] [(.slice k0 k1 k2, KK, 256), (ov2, eL, 256), (hv, HN, 512), (ov, eL, 256), (.slice s0 s1 s2, S, 256)]) := HF13.out.below hB
  obtain ⟨px, py, rfl, b1, b2, _⟩ := hm
  have HPx : Hid (Nk w16 px (rV P pub msg sig).1 256 ∧ Nk w16 py (rV P pub msg sig).2 256) := ⟨b1.nk, b2.nk⟩
  clear b1 b2 hB hJ HQ4 HR
  try dsimp only
  refine hK.out _ _ ?hk45 ?_
  case hk45 => exact fun _ => ⟨HF14.out.cell 0 0 (okb rfl) (okb rfl), HF14.out.cell 0 1 (okb rfl) (okb rfl), HF14.out.cell 0 2 (okb rfl) (okb rfl)⟩
  have hHeld : ((fun (w' : World) => w'.cell? ⟨w1.heap.size, 0, none⟩ = some (.slice x0 x1 x2) ∧ w'.cell? ⟨w1.heap.size, 1, none⟩ = some (.slice y0 y1 y2) ∧ w'.cell? ⟨w1.heap.size, 2, none⟩ = some (.bool false))) _ := ⟨HF14.out.cell 0 0 (okb rfl) (okb rfl), HF14.out.cell 0 1 (okb rfl) (okb rfl), HF14.out.cell 0 2 (okb rfl) (okb rfl)⟩
  clear hK K
  try simp only [Act.put, List.setIfInBounds_toArray, List.set_cons_zero, List.set_cons_succ]
  refine wpAnyK_step 9 rfl (by kernel_rfl) (fun K hK => ?_)
  go_simp
  refine (encode_v _ _ (rV P pub msg sig).1 (rV P pub msg sig).2 false _ (HT.out.1.below (HB1.out.trans (HF14.out.bel.mono HB1.out.size)) (Nat.le_refl _)) HPx.out.1.1 HPx.out.2.1 ((onV_iff _ _ _).2 ⟨rfl, rV_on HO.out pub msg sig⟩)).mono ?_
  rintro e w17 ⟨⟨ev, rfl, hO⟩, hB⟩
  have HF15 : Hid (Fm w1 w17 [(31, [.slice x0 x1 x2, .slice y0 y1 y2, .bool false])] [(.slice x0 x1 x2, P.1, 256), (.slice y0 y1 y2, P.2, 256)] [(.slice k0 k1 k2, KK, 256), (ov2, eL, 256), (hv, HN, 512), (ov, eL, 256), (.slice s0 s1 s2, S, 256)]) := HF14.out.below hB
  have HE : Hid (Owb w17 w16.heap.size ev (encL (rV P pub msg sig))) := hO
  clear hO hB HPx
  try dsimp only
  refine hK.out _ _ ?hk46 ?_
  case hk46 => exact fun _ => ⟨HF15.out.cell 0 0 (okb rfl) (okb rfl), HF15.out.cell 0 1 (okb rfl) (okb rfl), HF15.out.cell 0 2 (okb rfl) (okb rfl)⟩
  have hHeld : ((fun (w' : World) => w'.cell? ⟨w1.heap.size, 0, none⟩ = some (.slice x0 x1 x2) ∧ w'.cell? ⟨w1.heap.size, 1, none⟩ = some (.slice y0 y1 y2) ∧ w'.cell? ⟨w1.heap.size, 2, none⟩ = some (.bool false))) _ := ⟨HF15.out.cell 0 0 (okb rfl) (okb rfl), HF15.out.cell 0 1 (okb rfl) (okb rfl), HF15.out.cell 0 2 (okb rfl) (okb rfl)⟩
  clear hK K
  try simp only [Act.put, List.setIfInBounds_toArray, List.set_cons_zero, List.set_cons_succ]
  refine wpAnyK_take0 10 (v := ?v47) rfl (by kernel_rfl) (fun _ _ _ h => h) (Or.inl ⟨by rfl, ?hy47⟩) (fun _ => hHeld) ?_
  case hy47 => (intro w hSw; go_simp; try with_reducible rfl)
  try simp only [Act.put, List.setIfInBounds_toArray, List.set_cons_zero, List.set_cons_succ]
  refine wpAnyK_take0 11 (v := ?v48) rfl (by kernel_rfl) (fun _ _ _ h => h) (Or.inl ⟨by rfl, ?hy48⟩) (fun _ => hHeld) ?_
  case hy48 => (intro w hSw; go_simp; try with_reducible rfl)
  try simp only [Act.put, List.setIfInBounds_toArray, List.set_cons_zero, List.set_cons_succ]
  refine wpAnyK_take0 12 (v := ?v49) rfl (by kernel_rfl) (fun _ _ _ h => h) (Or.inl ⟨by rfl, ?hy49⟩) (fun _ => hHeld) ?_
  case hy49 => (intro w hSw; go_simp; try with_reducible rfl)
  try simp only [Act.put, List.setIfInBounds_toArray, List.set_cons_zero, List.set_cons_succ]
  refine wpAnyK_take0 13 (v := ?v50) rfl (by kernel_rfl) (fun _ _ _ h => h) (Or.inl ⟨by rfl, ?hy50⟩) (fun _ => hHeld) ?_
  case hy50 => (intro w hSw; go_simp; try with_reducible rfl)
  try simp only [Act.put, List.setIfInBounds_toArray, List.set_cons_zero, List.set_cons_succ]
  refine wpAnyK_take0 14 (v := ?v51) rfl (by kernel_rfl) (fun _ _ _ h => h) (Or.inl ⟨by rfl, ?hy51⟩) (fun _ => hHeld) ?_
  case hy51 => (intro w hSw; go_simp; try with_reducible rfl)
  try simp only [Act.put, List.setIfInBounds_toArray, List.set_cons_zero, List.set_cons_succ]
  refine wpAnyK_done (by kernel_rfl) ?_ _
  obtain ⟨ea, ec, rfl, _, _, _, _, hre, _⟩ := own_rdE HE.out
  have C := equal_any ea (some ⟨g, off, none⟩) ec cs _ (sig.take 32) w17 hre (HF.out.1.below (HB1.out.trans (HF15.out.bel.mono HB1.out.size)) (Nat.le_refl _))
  rw [encL_len, Hl1.out, decide_eq_false HRR.out] at C
  rw [encL_len]
  clear hre
  go_wp2_with fail
  refine C.mono ?_
  clear C
  rintro e w17 ⟨rfl, rfl⟩
  go_wp2
  go_ret
  exact ⟨rfl, HB1.out.trans (HF15.out.bel.mono HB1.out.size)⟩
open Classical in
/-- What Verify answers under a key that is a point. -/
noncomputable def verC (P : Nat × Nat) (pub msg sig : List UInt8) : Int := if Holds13 P pub msg sig then 0 else 91
theorem verify_v (ap am ag : Option Addr) (cp cm cs : Nat) (pub msg sig : List UInt8) (w : World) (T : Te w) (TS : Sha.Tb w) (hp : Rd w ap pub) (hm : Rd w am msg) (hs : Rd w ag sig) (hcp : pub.length ≤ cp ∧ cp ≤ 9223372036854775807) (hcm : msg.length ≤ cm ∧ cm ≤ 9223372036854775807) (hcs : sig.length ≤ cs ∧ cs ≤ 9223372036854775807) (hml : msg.length < 1152921504606846976) (P : Nat × Nat) (oP : onE eP eD P) (hk : encL P = pub) :
    Calls Tryz.prog 12 #[.slice ap pub.length cp, .slice am msg.length cm, .slice ag sig.length cs] w fun e w' => e = .returned (.int .i64 (verC P pub msg sig)) ∧ Below w.heap.size w w' := by
  unfold verC
  by_cases hl : sig.length = 64
  · by_cases hS : leN (sig.drop 32) < eL
    · by_cases hR : encL (rV P pub msg sig) = sig.take 32
      · rw [if_pos ⟨hl, hS, hR⟩]
        exact verify_ok ap am ag cp cm cs pub msg sig w T TS hp hm hs hcp hcm hcs hml P oP hk hl hS hR
      · rw [if_neg (fun h => hR h.2.2)]
        exact verify_no ap am ag cp cm cs pub msg sig w T TS hp hm hs hcp hcm hcs hml P oP hk hl hS hR
    · rw [if_neg (fun h => hS h.2.1)]
      exact verify_big ap am ag cp cm cs pub msg sig w T TS hp hm hs hcp hcm hcs hml P oP hk hl (by omega)
  · rw [if_neg (fun h => hl h.1)]
    exact verify_len ap am ag cp cm cs pub msg sig w T TS hp hm hs hcp hcm hcs hml P oP hk hl
end Go.Proofs.YtjpjepfmphlneaaGreatDoor
