import Derived.Test.YtoclnmjljilfdaaDoorRSum
import Derived.Test.YtoclnmjljilfdaaDoorSumsM
namespace Go.Proofs.YtoclnmjljilfdaaDoor
open Go.RowKit

theorem cat_iv_len (rs : List (Nat × List UInt8)) (i : Nat) : (cat ((ivs rs i).map rP)).length = (cat (rs.map rP)).length := by
  unfold cat
  rw [List.length_flatMap, List.length_flatMap, List.map_map, List.map_map]
  unfold ivs
  rw [List.map_append, List.map_map]
  have : (((fun a : Prt => a.l.length) ∘ rP) ∘ ivR) = (fun a : Prt => a.l.length) ∘ rP := by
    funext r
    simp [rP, ivR, ivL]
  rw [this, ← List.map_append, List.take_append_drop]
theorem row_cell {w : World} {base n gc : Nat} {ga : Option Addr} {rs : List (Nat × List UInt8)} (h : w.ownsRow base 23 1 (.slice ga n gc) n (rs.map rV)) (i : Nat) (hi : i < rs.length) : ∃ g : Nat, ga = some ⟨g, 0, none⟩ ∧ w.cell? ⟨g, i, none⟩ = some (rV rs[i]) := by
  have hl : rs.length = n := by have := h.1; simpa using this
  rcases h.2 with ⟨hv, hn⟩ | ⟨g, cap, cur, hv, hg, hh, r⟩
  · omega
  · cases hv
    refine ⟨g, rfl, ?_⟩
    have h1 := h.cells (g := g) rfl i (rV rs[i]) (by simp [hi])
    rw [Addr.add_mid, Nat.zero_add] at h1
    exact h1

set_option maxRecDepth 100000 in
set_option maxHeartbeats 4000000 in
theorem sums_core (h : Int) (pa : Option Addr) (pc : Nat) (ps : List Prt) (w : World) (T : Tb w) (R : Rt w) (hp : Pts w pa ps) (hnil : ∀ p ∈ ps, p.a = none → p.l.length = 0 ∧ p.c = 0) (hn : ps.length ≤ 1048576) (hm : (cat ps).length ≤ 1048576) (hm1 : ∀ p ∈ ps, p.l.length ≤ 1048576) :
    Calls Tryd.prog 7 #[.int .i64 h, .slice pa ps.length pc] w fun e w' => e = .returned (.bool true) ∧ Below w.heap.size w w' := by
  have HT : Hid (Tb w) := T
  have HRt : Hid (Rt w) := R
  have HP : Hid (Pts w pa ps) := hp
  have HN : Hid (∀ p ∈ ps, p.a = none → p.l.length = 0 ∧ p.c = 0) := hnil
  have HM1 : Hid (∀ p ∈ ps, p.l.length ≤ 1048576) := hm1
  have hsl := siz_le h
  have hg7 : 7 ≤ w.heap.size := by have := cell_lt (T.k 0 (by omega)); omega
  have C1 := rooms_any pa pc w.heap.size ps w rfl hp (by omega) (fun p hp => by have := hm1 p hp; omega)
  clear T R hp hnil hm1
  go_enter Tryd.func7, Tryd.ntmps7
  go_wp2_with fail
  refine C1.mono ?_
  rintro e w1 ⟨v, rs, rfl, hrs, hown, hRM, hb1⟩
  have hrl : rs.length = ps.length := by have := congrArg List.length hrs; simpa using this
  have HRl : Hid (∀ r ∈ rs, r.2.length ≤ 100000000) := fun r hr => by
    have h1 : r.2 ∈ rs.map (·.2) := List.mem_map.2 ⟨r, hr, rfl⟩
    rw [hrs] at h1
    obtain ⟨p, hp, e⟩ := List.mem_map.1 h1
    have := HM1.out p hp
    rw [e] at this
    omega
  obtain ⟨ga, gc, hv, hpts⟩ := own_pts (ps := rs.map rP) (by rw [rP_V, List.length_map, hrl]; exact hown) (rP_ok hRM HRl.out)
  rw [List.length_map, hrl] at hv
  subst hv
  have Hcat : Hid (True → cat (rs.map rP) = cat ps) := fun _ => cat_rP rs ps hrs
  have HO1 : Hid (w1.ownsRow w.heap.size 23 1 (.slice ga ps.length gc) ps.length (rs.map rV)) := hown
  have HM : Hid (RM w1 w.heap.size (ivs rs 0)) := by rw [ivs_zero]; exact hRM
  have HB1 : Hid (Below w.heap.size w w1) := hb1
  have C2 := ssum_any h ga gc (rs.map rP) w1 (HT.out.below hb1) hpts (by rw [List.length_map]; omega) (by rw [Hcat.out trivial]; omega)
  rw [List.length_map, hrl, Hcat.out trivial] at C2
  have Hrs : Hid (True → rs.map (·.2) = ps.map (·.l)) := fun _ => hrs
  have Hrl : Hid (True → rs.length = ps.length) := fun _ => hrl
  clear C1 hown hRM hb1 hrs hpts hrl
  go_wp2_with fail
  refine C2.mono ?_
  rintro e w2 ⟨a2, rfl, ho2, hb2⟩
  have HO2 : Hid (w2.ownsRow w.heap.size 23 1 (.slice ga ps.length gc) ps.length (rs.map rV)) := own_below HO1.out hb2 (Nat.le_refl _)
  have HM2 : Hid (RM w2 w.heap.size (ivs rs 0)) := HM.out.below hb2 (Nat.le_refl _)
  have HB2 : Hid (Below w.heap.size w w2) := HB1.out.trans (hb2.mono HB1.out.size)
  have HS2 : Hid (Rd w2 a2 (sumF h (cat ps))) := ho2.rd
  have C3 := whole_any pa pc w2.heap.size ps w2 rfl ⟨HP.out.1.imp id fun ⟨g, off, e, hc⟩ => ⟨g, off, e, fun j hj => cell_but (hc j hj) fun h3 => HB2.out.block g h3⟩, fun p hp => (HP.out.2 p hp).below HB2.out (Nat.le_refl _)⟩ HN.out (by omega) (by omega)
  clear C2 ho2 hb2 HO1 HM HB1
  go_wp2_with fail
  refine C3.mono ?_
  rintro e w3 ⟨v3, rfl, ho3, hb3⟩
  obtain ⟨a3, c3, rfl, _, hc3, hm3, hn3, hr3, hbl3⟩ := own_rd ho3
  have HO3 : Hid (w3.ownsRow w.heap.size 23 1 (.slice ga ps.length gc) ps.length (rs.map rV)) := own_below HO2.out hb3 (Nat.le_refl _)
  have HM3 : Hid (RM w3 w.heap.size (ivs rs 0)) := HM2.out.below hb3 (Nat.le_refl _)
  have HB3 : Hid (Below w.heap.size w w3) := HB2.out.trans (hb3.mono HB2.out.size)
  have HS3 : Hid (Rd w3 a2 (sumF h (cat ps))) := HS2.out.below hb3 (Nat.le_refl _)
  have C4 := rsum_any h a3 c3 (cat ps) w3 (HRt.out.below HB3.out (Nat.le_refl _)) hr3 hn3 (by omega)
  clear C3 ho3 hb3 HO2 HM2 HB2 HS2 hr3 hn3 hbl3 hc3 hm3
  go_wp2_with fail
  refine C4.mono ?_
  rintro e w4 ⟨a4, c4, rfl, hc4, hm4, hn4, hr4, hbl4, hb4⟩
  have HO4 : Hid (w4.ownsRow w.heap.size 23 1 (.slice ga ps.length gc) ps.length (rs.map rV)) := own_below HO3.out hb4 (Nat.le_refl _)
  have HM4 : Hid (RM w4 w.heap.size (ivs rs 0)) := HM3.out.below hb4 (Nat.le_refl _)
  have HB4 : Hid (Below w.heap.size w w4) := HB3.out.trans (hb4.mono HB3.out.size)
  have C5 := same_any a2 a4 (siz h) c4 (sumF h (cat ps)) (sumF h (cat ps)) w4 (HS3.out.below hb4 (Nat.le_refl _)) hr4 (by rw [sumF_length]; omega)
  rw [sumF_length, decide_eq_true rfl] at C5
  clear C4 hb4 HO3 HM3 HB3 HS3 hr4 hn4 hbl4 hc4 hm4
  go_wp2_with fail
  refine C5.mono ?_
  rintro e w5 ⟨rfl, q, rfl⟩
  have HO5 : Hid ((w4.drewN q).ownsRow w.heap.size 23 1 (.slice ga ps.length gc) ps.length (rs.map rV)) := own_drewN HO4.out q
  have HM5 : Hid (RM (w4.drewN q) w.heap.size (ivs rs 0)) := HM4.out
  have HB5 : Hid (Below w.heap.size w (w4.drewN q)) := below_drewN HB4.out q
  clear C5 HO4 HM4 HB4
  generalize w4.drewN q = w5 at *
  go_wp2_with fail
  refine (size_any h w5).mono ?_
  rintro e w6 ⟨rfl, hw6⟩
  subst w6
  go_wp2_with fail
  refine (rsize_any h w5).mono ?_
  rintro e w6 ⟨rfl, hw6⟩
  subst w6
  go_wp2_with fail
  refine (block_any h w5).mono ?_
  rintro e w6 ⟨rfl, hw6⟩
  subst w6
  go_wp2_with fail
  refine (rblock_any h w5).mono ?_
  rintro e w6 ⟨rfl, hw6⟩
  subst w6
  go_wp2
  go_loopw [7] (fun s ws => ∃ i : Nat, s = .int .i64 (i : Int) ∧ i ≤ ps.length ∧ Hid (ws.ownsRow w.heap.size 23 1 (.slice ga ps.length gc) ps.length (rs.map rV)) ∧ Hid (RM ws w.heap.size (ivs rs i)) ∧ Hid (Below w.heap.size w ws)) (fun s _ => ps.length - (intOf s).toNat)
  case atStart => exact ⟨0, rfl, by omega, HO5, HM5, HB5⟩
  case round =>
    clear HO5 HM5 HB5
    obtain ⟨i, rfl, hi, hown, hRM, hbel⟩ := hrel
    by_cases hlt : i < ps.length
    · have hri : i < rs.length := by rw [Hrl.out trivial]; exact hlt
      obtain ⟨gb, rfl, gv⟩ := row_cell hown.out i hri
      have hl : rs[i].2 = ps[i].l := by
        have := congrArg (fun l => l[i]?) (Hrs.out trivial)
        simpa [List.getElem?_map, List.getElem?_eq_getElem hri, List.getElem?_eq_getElem hlt] using this
      have hiv : (ivs rs i)[i]'(by rw [ivs_length]; exact hri) = rs[i] := ivs_get rs i hri
      have hmem : rs[i] ∈ ivs rs i := by rw [← hiv]; exact List.getElem_mem _
      have hcl := (hRM.out.2 _ hmem).2
      have hge := (hRM.out.2 _ hmem).1
      have hneR : (Value.slice (some ⟨gb, 0, none⟩) ps.length gc).ownBlock ≠ some rs[i].1 := by
        rcases own_ne hown.out hcl with h | h
        · exact h
        · rw [h] at hri; simp at hri
      have hne : gb ≠ rs[i].1 := fun e => hneR (by rw [← e]; rfl)
      obtain ⟨h1, h2⟩ := HP.out
      have hpk := h2 ps[i] (List.getElem_mem hlt)
      have hmk := HM1.out ps[i] (List.getElem_mem hlt)
      obtain ⟨g, off, rfl, hc⟩ : ∃ g off : Nat, pa = some ⟨g, off, none⟩ ∧ ∀ j, (hj : j < ps.length) → w.cell? ⟨g, off + j, none⟩ = some (prV ps[j]) := by
        rcases h1 with h1 | h1
        · subst h1; simp at hlt
        · exact h1
      have gk : wr.cell? ⟨g, off + i, none⟩ = some (prV ps[i]) := cell_but (hc i hlt) fun h3 => hbel.out.block g h3
      have HC : Hid (∀ q, Calls Tryd.prog 27 #[.slice (some ⟨rs[i].1, 0, none⟩) ps[i].l.length (ps[i].l.length + 9), .slice ps[i].a ps[i].l.length ps[i].c] (wr.drewN q) fun e w' => e = .returned (.bool true) ∧ ∃ q2, w' = (wr.drewN q).drewN q2) := fun q => spared_any rs[i].1 ps[i].c ps[i].l.length ps[i].a ps[i].l (wr.drewN q) rfl (by rw [← hl]; exact hcl) ((hpk.1.below hbel.out (Nat.le_refl _)).drewN q) (by omega)
      have Hsu : Hid (True → ivs rs (i + 1) = (ivs rs i).set i (rs[i].1, ivL ps[i].l)) := fun _ => by rw [ivs_succ rs i hri]; unfold ivR; rw [hl]
      have Hset : Hid (∀ w', But wr w' rs[i].1 → Cl w' rs[i].1 ((ivL ps[i].l ++ List.replicate 9 165).map B) → RM w' w.heap.size ((ivs rs i).set i (rs[i].1, ivL ps[i].l))) := fun w' hb hc => by
        have := hRM.out.set i (by rw [ivs_length]; exact hri) (ivL ps[i].l) (w' := w') (by rw [hiv]; exact hb) (by rw [hiv]; exact hc)
        rw [hiv] at this
        exact this
      rw [hl] at hcl
      unfold rV at gv
      rw [hl] at gv
      unfold prV at gk
      have HCL : Hid (Cl wr rs[i].1 (((ivL ps[i].l).take 0 ++ ps[i].l.drop 0 ++ List.replicate 9 165).map B)) := by
        rw [List.take_zero, List.nil_append, List.drop_zero]; exact hcl
      have HneR : Hid ((Value.slice (some ⟨gb, 0, none⟩) ps.length gc).ownBlock ≠ some rs[i].1) := hneR
      clear hc h1 h2 hpk hiv hmem hcl hl hRM hneR
      generalize rs[i].1 = b at *
      generalize ps[i] = p at *
      go_wp2
      go_quiet (exact Calls.quiet_of (HC.out _))
      have HO6 : Hid ((wr.drewN nq).ownsRow w.heap.size 23 1 (.slice (some ⟨gb, 0, none⟩) ps.length gc) ps.length (rs.map rV)) := own_drewN hown.out _
      have HCL6 : Hid (Cl (wr.drewN nq) b (((ivL p.l).take 0 ++ p.l.drop 0 ++ List.replicate 9 165).map B)) := HCL.out
      have HB6 : Hid (Below w.heap.size w (wr.drewN nq)) := below_drewN hbel.out _
      have Hset6 : Hid (∀ w', But (wr.drewN nq) w' b → Cl w' b ((ivL p.l ++ List.replicate 9 165).map B) → RM w' w.heap.size ((ivs rs i).set i (b, ivL p.l))) := fun w' hb hc => Hset.out w' ⟨hb.os, hb.tape, hb.output, hb.size, hb.block⟩ hc
      have gv6 : Hid ((wr.drewN nq).cell? ⟨gb, i, none⟩ = some (.slice (some ⟨b, 0, none⟩) p.l.length (p.l.length + 9))) := gv
      clear HC HCL hown hbel Hset gv gk
      generalize wr.drewN nq = w7 at *
      go_wp2
      go_loopw [8] (fun s ws => ∃ k : Nat, s = .int .i64 (k : Int) ∧ k ≤ p.l.length ∧ Hid (Cl ws b (((ivL p.l).take k ++ p.l.drop k ++ List.replicate 9 165).map B)) ∧ Hid (But w7 ws b)) (fun s _ => p.l.length - (intOf s).toNat)
      case atStart => exact ⟨0, rfl, by omega, HCL6, But.refl _ _⟩
      case round =>
        clear HCL6
        obtain ⟨k, rfl, hk, hcl, hbut⟩ := hrel
        have gv7 : wr.cell? ⟨gb, i, none⟩ = some (.slice (some ⟨b, 0, none⟩) p.l.length (p.l.length + 9)) := cell_but gv6.out fun hg => hbut.out.block gb hg hne
        by_cases hkl : k < p.l.length
        · have hlen : (((ivL p.l).take k ++ p.l.drop k ++ List.replicate 9 165).map B).length = p.l.length + 9 := by unfold ivL; simp; omega
          have gf := hcl.out.frozen k
          have gx : wr.cell? ⟨b, k, none⟩ = some (B (p.l.getD k 0)) := by
            rw [hcl.out.cell k (by omega), List.getElem_map, List.getElem_append_left (by unfold ivL; simp; omega), List.getElem_append_right (by unfold ivL; simp; omega)]
            unfold ivL
            simp [Nat.min_eq_left (Nat.le_of_lt hkl), hkl]
          have Hs : Hid (True → (((ivL p.l).take k ++ p.l.drop k ++ List.replicate 9 165).map B).set k (B (255 - p.l.getD k 0)) = ((ivL p.l).take (k + 1) ++ p.l.drop (k + 1) ++ List.replicate 9 165).map B) := fun _ => iv_set p.l k hkl
          unfold B at gx
          generalize p.l.getD k 0 = x at *
          have hx := x.toNat_lt
          have Hsub : Hid (True → (.int .u8 (255 - (x.toNat : Int)) : Value) = B (255 - x)) := fun _ => by
            unfold B
            rw [UInt8.toNat_sub_of_le _ _ (by show x.toNat ≤ 255; omega)]
            congr 1
            show _ = ((255 - x.toNat : Nat) : Int)
            omega
          clear hlen
          go_wp2
          refine wp_region_tail 14 (by kernel_rfl) (by kernel_rfl) ?_
          simp only [List.take_succ_cons, List.take_zero, List.drop_succ_cons, List.drop_zero]
          repeat (first | go_big_quiet_skip | (go_big_quiet_want; go_big_quiet_op; go_big_quiet_on))
          refine wpQuiet_nil ?_
          go_wp2
          refine ⟨⟨k + 1, by go_num, by omega, ?_, (hbut.out.drewN 1).set _ _⟩, by simp [intOf]; omega⟩
          have h1 := hcl.out.set k (B (255 - x))
          rw [Hs.out trivial, ← Hsub.out trivial] at h1
          exact h1
        · obtain rfl : k = p.l.length := by omega
          have HCL7 : Hid (Cl wr b ((ivL p.l ++ List.replicate 9 165).map B)) := by
            have h1 := hcl.out
            rw [List.take_of_length_le (by unfold ivL; simp), List.drop_of_length_le (Nat.le_refl _), List.append_nil] at h1
            exact h1
          have HM7 : Hid (RM wr w.heap.size (ivs rs (i + 1))) := by rw [Hsu.out trivial]; exact Hset6.out wr hbut.out HCL7.out
          have HO7 : Hid (wr.ownsRow w.heap.size 23 1 (.slice (some ⟨gb, 0, none⟩) ps.length gc) ps.length (rs.map rV)) := own_but' HO6.out hbut.out HneR.out
          have HB7 : Hid (Below w.heap.size w wr) := HB6.out.trans (hbut.out.below HB6.out.size hge)
          clear hcl hbut HCL7 hk hkl
          go_wp2
          exact ⟨⟨i + 1, by go_num, by omega, HO7, HM7, HB7⟩, by simp [intOf]; omega⟩
    · obtain rfl : i = ps.length := by omega
      have HRl8 : Hid (∀ r ∈ ivs rs ps.length, r.2.length ≤ 100000000) := fun r hr => by
        unfold ivs at hr
        rcases List.mem_append.1 hr with hr | hr
        · obtain ⟨r2, hr2, rfl⟩ := List.mem_map.1 hr
          have := HRl.out r2 (List.mem_of_mem_take hr2)
          unfold ivR ivL
          simpa using this
        · exact HRl.out r (List.mem_of_mem_drop hr)
      have hl8 : (ivs rs ps.length).length = ps.length := by rw [ivs_length]; exact Hrl.out trivial
      obtain ⟨ga', gc', hv', hpts⟩ := own_pts (ps := (ivs rs ps.length).map rP) (by rw [rP_V, List.length_map, hl8, ivs_map]; exact hown.out) (rP_ok hRM.out HRl8.out)
      rw [List.length_map, hl8] at hv'
      cases hv'
      have hcl8 : (cat ((ivs rs ps.length).map rP)).length ≤ 1048576 := by rw [cat_iv_len, Hcat.out trivial]; exact hm
      have HPT : Hid (Pts wr ga ((ivs rs ps.length).map rP)) := hpts
      have C6 := whole_any ga gc wr.heap.size ((ivs rs ps.length).map rP) wr rfl hpts (rP_nil _) (by rw [List.length_map, hl8]; omega) (by omega)
      rw [List.length_map, hl8] at C6
      have Hl8 : Hid (True → (ivs rs ps.length).length = ps.length) := fun _ => hl8
      clear hpts hl8 hown hRM
      generalize hXX : ivs rs ps.length = XX at *
      generalize hXC : cat (XX.map rP) = XC at *
      have HXC : Hid (True → cat (XX.map rP) = XC) := fun _ => hXC
      clear hXX hXC
      go_wp2_with fail
      refine C6.mono ?_
      rintro e w8 ⟨v8, rfl, ho8, hb8⟩
      obtain ⟨a8, c8, rfl, _, hc8, hm8, hn8, hr8, hbl8⟩ := own_rd ho8
      have HB8 : Hid (Below w.heap.size w w8) := hbel.out.trans (hb8.mono hbel.out.size)
      have HPT8 : Hid (Pts w8 ga (XX.map rP)) := ⟨HPT.out.1.imp id fun ⟨g, off, e, hc⟩ => ⟨g, off, e, fun j hj => cell_but (hc j hj) fun h3 => hb8.block g h3⟩, fun p hp => (HPT.out.2 p hp).below hb8 (Nat.le_refl _)⟩
      have C7 := rsum_any h a8 c8 XC w8 (HRt.out.below HB8.out (Nat.le_refl _)) hr8 hn8 (by omega)
      clear C6 ho8 hb8 hr8 hn8 hbl8 HPT hbel hc8 hm8
      go_wp2_with fail
      refine C7.mono ?_
      rintro e w9 ⟨a9, c9, rfl, hc9, hm9, hn9, hr9, hbl9, hb9⟩
      have HB9 : Hid (Below w.heap.size w w9) := HB8.out.trans (hb9.mono HB8.out.size)
      have HPT9 : Hid (Pts w9 ga (XX.map rP)) := ⟨HPT8.out.1.imp id fun ⟨g, off, e, hc⟩ => ⟨g, off, e, fun j hj => cell_but (hc j hj) fun h3 => hb9.block g h3⟩, fun p hp => (HPT8.out.2 p hp).below hb9 (Nat.le_refl _)⟩
      have HR9 : Hid (Rd w9 a9 (sumF h XC)) := hr9
      have C8 := ssum_any h ga gc (XX.map rP) w9 (HT.out.below HB9.out) HPT9.out (by rw [List.length_map, Hl8.out trivial]; omega) (by rw [HXC.out trivial]; omega)
      rw [List.length_map, Hl8.out trivial, HXC.out trivial] at C8
      clear C7 hb9 hr9 hn9 hbl9 HPT8 HPT9 HB8 hc9 hm9
      go_wp2_with fail
      refine C8.mono ?_
      rintro e wA ⟨aA, rfl, hoA, hbA⟩
      have HBA : Hid (Below w.heap.size w wA) := HB9.out.trans (hbA.mono HB9.out.size)
      have C9 := same_any aA a9 (siz h) c9 (sumF h XC) (sumF h XC) wA hoA.rd (HR9.out.below hbA (Nat.le_refl _)) (by rw [sumF_length]; omega)
      rw [sumF_length, decide_eq_true rfl] at C9
      clear C8 hoA hbA HB9 HR9
      go_wp2_with fail
      refine C9.mono ?_
      rintro e wB ⟨rfl, q, rfl⟩
      have HBB : Hid (Below w.heap.size w (wA.drewN q)) := below_drewN HBA.out q
      clear C9 HBA
      go_wp2
      go_ret
      exact ⟨rfl, HBB.out⟩

end Go.Proofs.YtoclnmjljilfdaaDoor
