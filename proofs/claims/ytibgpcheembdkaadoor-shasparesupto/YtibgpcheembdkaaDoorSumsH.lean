import Derived.Test.YtibgpcheembdkaaDoorRefA
import Derived.Test.YtibgpcheembdkaaDoorRefF
namespace Go.Proofs.YtibgpcheembdkaaDoor
open Go.RowKit

theorem rsize_any (h : Int) (w : World) : Calls Tryd.prog 26 #[.int .i64 h] w fun e w' => e = .returned (.int .i64 (siz h)) ∧ w' = w := by
  by_cases h1 : h = 1
  · subst h1
    go_enter Tryd.func26, Tryd.ntmps26
    go_wp2
    go_ret
    exact ⟨rfl, rfl⟩
  by_cases h2 : h = 2
  · subst h2
    go_enter Tryd.func26, Tryd.ntmps26
    go_wp2
    go_ret
    exact ⟨rfl, rfl⟩
  by_cases h3 : h = 3
  · subst h3
    go_enter Tryd.func26, Tryd.ntmps26
    go_wp2
    go_ret
    exact ⟨rfl, rfl⟩
  have hb : Hid (siz h = 0) := by show _ = _; unfold siz; rw [if_neg h1, if_neg h2, if_neg h3]
  go_enter Tryd.func26, Tryd.ntmps26
  go_wp2
  go_ret
  rw [hb.out]
  exact ⟨rfl, rfl⟩
theorem rblock_any (h : Int) (w : World) : Calls Tryd.prog 30 #[.int .i64 h] w fun e w' => e = .returned (.int .i64 (blk h)) ∧ w' = w := by
  by_cases h1 : h = 1
  · subst h1
    go_enter Tryd.func30, Tryd.ntmps30
    go_wp2
    go_ret
    exact ⟨rfl, rfl⟩
  by_cases h2 : h = 2
  · subst h2
    go_enter Tryd.func30, Tryd.ntmps30
    go_wp2
    go_ret
    exact ⟨rfl, rfl⟩
  by_cases h3 : h = 3
  · subst h3
    go_enter Tryd.func30, Tryd.ntmps30
    go_wp2
    go_ret
    exact ⟨rfl, rfl⟩
  have hb : Hid (blk h = 0) := by show _ = _; unfold blk; rw [if_neg h1, if_neg h2, if_neg h3]
  go_enter Tryd.func30, Tryd.ntmps30
  go_wp2
  go_ret
  rw [hb.out]
  exact ⟨rfl, rfl⟩

set_option maxRecDepth 100000 in
set_option maxHeartbeats 1000000 in
theorem whole_any (pa : Option Addr) (pc B0 : Nat) (ps : List Prt) (w : World) (hB : B0 = w.heap.size) (hp : Pts w pa ps) (hnil : ∀ p ∈ ps, p.a = none → p.l.length = 0 ∧ p.c = 0) (hn : ps.length ≤ 10000000) (hm : (cat ps).length ≤ 100000000) :
    Calls Tryd.prog 29 #[.slice pa ps.length pc] w fun e w' => ∃ v, e = .returned v ∧ w'.ownsRow B0 5 1 v (cat ps).length ((cat ps).map B) ∧ Below B0 w w' := by
  obtain ⟨i0, hi, hz0, hz1, hz2⟩ := info_parts infoB
  have HP : Hid (Pts w pa ps) := hp
  have HN : Hid (∀ p ∈ ps, p.a = none → p.l.length = 0 ∧ p.c = 0) := hnil
  have HO0 : Hid (w.ownsRow B0 5 1 (.slice none 0 0) (cat (ps.take 0)).length ((cat (ps.take 0)).map B)) := World.ownsRow_nil _ _ _ _
  clear hp hnil
  go_enter Tryd.func29, Tryd.ntmps29
  go_wp2
  go_loopw [3, 4] (fun s s4 ws => ∃ k : Nat, s4 = .int .i64 (k : Int) ∧ k ≤ ps.length ∧ Hid (ws.ownsRow B0 5 1 s (cat (ps.take k)).length ((cat (ps.take k)).map B)) ∧ Hid (Below B0 w ws)) (fun _ s _ => ps.length - (intOf s).toNat)
  case atStart => exact ⟨0, rfl, by omega, HO0, Below.refl _ _⟩
  case round =>
    clear HO0
    obtain ⟨k, rfl, hk, hown, hbel⟩ := hrel
    have hs2 : B0 ≤ wr.heap.size := by have := hbel.out.size; omega
    by_cases hlt : k < ps.length
    · have Ht : Hid (True → cat (ps.take (k + 1)) = cat (ps.take k) ++ ps[k].l) := fun _ => cat_take ps k hlt
      have hl1 := cat_take_le ps k
      have hl2 := cat_take_le ps (k + 1)
      rw [Ht.out trivial, List.length_append] at hl2
      obtain ⟨h1, h2⟩ := HP.out
      have hpk := h2 ps[k] (List.getElem_mem hlt)
      have Hnk : Hid (ps[k].a = none → ps[k].l.length = 0 ∧ ps[k].c = 0) := HN.out ps[k] (List.getElem_mem hlt)
      obtain ⟨g, off, rfl, hc⟩ : ∃ g off : Nat, pa = some ⟨g, off, none⟩ ∧ ∀ j, (hj : j < ps.length) → w.cell? ⟨g, off + j, none⟩ = some (prV ps[j]) := by
        rcases h1 with h1 | h1
        · subst h1; simp at hlt
        · exact h1
      have gk : wr.cell? ⟨g, off + k, none⟩ = some (prV ps[k]) := cell_but (hc k hlt) fun h3 => hbel.out.block g (by omega)
      have HRk : Hid (Rd wr ps[k].a ps[k].l) := hpk.1.below hbel.out (by omega)
      unfold prV at gk
      clear hc h1 h2 hpk
      generalize ps[k] = p at *
      obtain ⟨av, cv, rfl⟩ := own_len hown.out
      go_wp2_with (at_builtin; refine append_rd rfl (.tmp 11) (.tmp 15) rfl B0 i0 hi hz0 hz1 hz2 _ (cat (ps.take k)).length (cat (ps.take k)) rfl hown.out p.a p.l.length p.c p.l (by simp [Act.eval]) rfl Hnk.out HRk.out (by omega) (by omega) ?_; intro v5 w5 hown5 hgrow5)
      have HO3 : Hid (w5.ownsRow B0 5 1 v5 (cat (ps.take (k + 1))).length ((cat (ps.take (k + 1))).map B)) := by
        rw [Ht.out trivial, List.length_append]
        exact hown5
      have HB3 : Hid (Below B0 w w5) := hbel.out.trans ((Below.refl _ _).grown hgrow5 (by omega) (own_block hown.out))
      clear hown5 hgrow5 Ht
      go_wp2
      exact ⟨⟨k + 1, by go_num, by omega, HO3, HB3⟩, by simp [intOf]; omega⟩
    · obtain rfl : k = ps.length := by omega
      have HO4 : Hid (wr.ownsRow B0 5 1 u3 (cat ps).length ((cat ps).map B)) := by have := hown.out; rw [List.take_length] at this; exact this
      clear hown
      go_wp2
      go_ret
      exact ⟨_, rfl, HO4.out, hbel.out⟩

/-- Parts that were copied with room behind them: where they lie, and their bytes. -/
def rV (r : Nat × List UInt8) : Value := .slice (some ⟨r.1, 0, none⟩) r.2.length (r.2.length + 9)
def RM (w : World) (B0 : Nat) (rs : List (Nat × List UInt8)) : Prop := (rs.map (·.1)).Nodup ∧ ∀ r ∈ rs, B0 ≤ r.1 ∧ Cl w r.1 ((r.2 ++ List.replicate 9 165).map B)
theorem RM.below {w w' : World} {B0 n : Nat} {rs : List (Nat × List UInt8)} (h : RM w B0 rs) (hb : Below n w w') (hn : w.heap.size ≤ n) : RM w' B0 rs :=
  ⟨h.1, fun r hr => ⟨(h.2 r hr).1, (h.2 r hr).2.below hb (by have := (h.2 r hr).2.lt; omega)⟩⟩

/-- A row of slices is no list of bytes. -/
theorem own_ne {w : World} {base n g : Nat} {v : Value} {rs : List (Nat × List UInt8)} {l : List UInt8} (h : w.ownsRow base 23 1 v n (rs.map rV)) (hc : Cl w g ((l ++ List.replicate 9 165).map B)) : v.ownBlock ≠ some g ∨ rs = [] := by
  rcases h.2 with ⟨rfl, hn⟩ | ⟨g', cap, cur, rfl, hg, hh, hn, hm, hs, ht⟩
  · exact .inl (fun e => by cases e)
  · by_cases hr : rs = []
    · exact .inr hr
    · refine .inl fun e => ?_
      have e2 : g' = g := by cases e; rfl
      subst e2
      have hlen : 0 < rs.length := List.length_pos_iff.2 hr
      have h1 := h.cells (g := g') rfl 0 (rV rs[0]) (by simp [hlen])
      have h2 := hc.cell 0 (by simp)
      rw [Addr.add_mid] at h1
      rw [h2] at h1
      have h3 := Option.some.inj h1
      rw [List.getElem_map] at h3
      unfold rV B at h3
      cases h3

set_option maxRecDepth 100000 in
set_option maxHeartbeats 1000000 in
theorem rooms_any (pa : Option Addr) (pc B0 : Nat) (ps : List Prt) (w : World) (hB : B0 = w.heap.size) (hp : Pts w pa ps) (hn : ps.length ≤ 10000000) (hm : ∀ p ∈ ps, p.l.length ≤ 100000000) :
    Calls Tryd.prog 28 #[.slice pa ps.length pc] w fun e w' => ∃ v rs, e = .returned v ∧ rs.map (·.2) = ps.map (·.l) ∧ w'.ownsRow B0 23 1 v ps.length (rs.map rV) ∧ RM w' B0 rs ∧ Below B0 w w' := by
  obtain ⟨i0, hi, hz0, hz1, hz2⟩ := info_parts infoBs
  have HP : Hid (Pts w pa ps) := hp
  have HM : Hid (∀ p ∈ ps, p.l.length ≤ 100000000) := hm
  have HO0 : Hid (w.ownsRow B0 23 1 (.slice none 0 0) 0 (([] : List (Nat × List UInt8)).map rV)) := World.ownsRow_nil _ _ _ _
  clear hp hm
  go_enter Tryd.func28, Tryd.ntmps28
  go_wp2
  go_loopw [3, 4] (fun s s4 ws => ∃ (k : Nat) (rs : List (Nat × List UInt8)), s4 = .int .i64 (k : Int) ∧ k ≤ ps.length ∧ Hid (True → rs.map (·.2) = (ps.take k).map (·.l)) ∧ Hid (ws.ownsRow B0 23 1 s k (rs.map rV)) ∧ Hid (RM ws B0 rs) ∧ Hid (Below B0 w ws)) (fun _ s _ => ps.length - (intOf s).toNat)
  case atStart => exact ⟨0, [], rfl, by omega, fun _ => rfl, HO0, ⟨by simp, fun r hr => by cases hr⟩, Below.refl _ _⟩
  case round =>
    clear HO0
    obtain ⟨k, rs, rfl, hk, Hrs, hown, HRM, hbel⟩ := hrel
    have hs2 : B0 ≤ wr.heap.size := by have := hbel.out.size; omega
    by_cases hlt : k < ps.length
    · have Hpk : Hid (True → (ps.take (k + 1)).map (·.l) = (ps.take k).map (·.l) ++ [ps[k].l]) := fun _ => by rw [List.take_succ_eq_append_getElem hlt, List.map_append]; rfl
      obtain ⟨h1, h2⟩ := HP.out
      have hpk := h2 ps[k] (List.getElem_mem hlt)
      have hmk := HM.out ps[k] (List.getElem_mem hlt)
      obtain ⟨g, off, rfl, hc⟩ : ∃ g off : Nat, pa = some ⟨g, off, none⟩ ∧ ∀ j, (hj : j < ps.length) → w.cell? ⟨g, off + j, none⟩ = some (prV ps[j]) := by
        rcases h1 with h1 | h1
        · subst h1; simp at hlt
        · exact h1
      have gk : wr.cell? ⟨g, off + k, none⟩ = some (prV ps[k]) := cell_but (hc k hlt) fun h3 => hbel.out.block g (by omega)
      have C1 := roomy_any ps[k].a ps[k].c ps[k].l wr (hpk.1.below hbel.out (by omega)) hmk
      unfold prV at gk
      clear hc h1 h2 hpk
      generalize ps[k] = p at *
      have hrl : rs.length = k := by have := hown.out.1; simpa using this
      obtain ⟨av, cv, rfl⟩ : ∃ a c, u3 = .slice a k c := by
        rcases hown.out.2 with ⟨rfl, h0⟩ | ⟨g', cap, cur, rfl, _⟩
        · exact ⟨none, 0, by rw [h0]⟩
        · exact ⟨_, _, rfl⟩
      go_wp2_with fail
      refine C1.mono ?_
      rintro e w1 ⟨rfl, hc1, hb1⟩
      have HO1 : Hid (w1.ownsRow B0 23 1 (.slice av k cv) k (rs.map rV)) := own_below hown.out hb1 (Nat.le_refl _)
      have HRM1 : Hid (RM w1 B0 rs) := HRM.out.below hb1 (Nat.le_refl _)
      have HC1 : Hid (Cl w1 wr.heap.size ((p.l ++ List.replicate 9 165).map B)) := hc1
      have HB1 : Hid (Below B0 w w1) := hbel.out.trans (hb1.mono hs2)
      have Hlt : Hid (∀ r ∈ rs, r.1 < wr.heap.size) := fun r hr => (HRM.out.2 r hr).2.lt
      have hs1 : wr.heap.size < w1.heap.size := hc1.lt
      have Hob : Hid (∀ b, (Value.slice av k cv).ownBlock = some b → b < wr.heap.size) := fun b hb => (hown.out.lt b hb).2
      clear C1 hc1 hb1 hown HRM hbel
      go_wp2_with (at_builtin; refine wpList_append_own_wide _ rfl (.tmp 11) (.tmp 17) 34 rfl B0 23 i0 (.slice none 0 0) 1 24 Tryd.underlying34 hi hz0 hz1 hz2 rfl (by decide) _ k _ rfl (HO1.out.alloc _) ⟨w1.heap.size, 0, none⟩ 1 1 [.slice (some ⟨wr.heap.size, 0, none⟩) p.l.length (p.l.length + 9)] rfl rfl (by intro t u ht; match t, ht with | 0, ht => simp at ht; subst ht; simp [Addr.add]) (by intro u hu; simp at hu; subst hu; rfl) (by unfold maxLen; omega) (by omega) (by simp; omega) ?_; intro v5 w5 hown5 hgrow5 _)
      have hba := alloc_below w1 (.cells #[.slice (some ⟨wr.heap.size, 0, none⟩) p.l.length (p.l.length + 9)] 23)
      have HO5 : Hid (w5.ownsRow B0 23 1 v5 (k + 1) ((rs ++ [(wr.heap.size, p.l)]).map rV)) := by
        rw [List.map_append]
        exact hown5
      have HB5 : Hid (Below B0 w w5) := HB1.out.trans ((hba.mono (by omega)).grown hgrow5 (by rw [alloc_size]; omega) (own_block HO1.out))
      have HRM5 : Hid (RM w5 B0 (rs ++ [(wr.heap.size, p.l)])) := by
        refine ⟨?_, fun r hr => ?_⟩
        · rw [List.map_append, List.nodup_append]
          refine ⟨HRM1.out.1, by simp, fun a ha b hb e => ?_⟩
          obtain ⟨r, hr, rfl⟩ := List.mem_map.1 ha
          have := Hlt.out r hr
          simp at hb
          omega
        · have hcl : ∀ (g : Nat) (l : List UInt8), Cl w1 g ((l ++ List.replicate 9 165).map B) → (Value.slice av k cv).ownBlock ≠ some g → Cl w5 g ((l ++ List.replicate 9 165).map B) := fun g l hc hne => by
            obtain ⟨t, ht⟩ := hc
            have hg : g < w1.heap.size := Cl.lt ⟨t, ht⟩
            refine ⟨t, ?_⟩
            rw [hgrow5.block g (by rw [alloc_size]; omega) (fun e => hne e.symm), hba.block g hg]
            exact ht
          rcases List.mem_append.1 hr with hr | hr
          · refine ⟨(HRM1.out.2 r hr).1, hcl _ _ (HRM1.out.2 r hr).2 ?_⟩
            rcases own_ne HO1.out (HRM1.out.2 r hr).2 with h | h
            · exact h
            · subst h; cases hr
          · obtain rfl := List.mem_singleton.1 hr
            exact ⟨hs2, hcl _ _ HC1.out (fun e => by have := Hob.out _ e; simp at this)⟩
      have Hrs5 : Hid (True → (rs ++ [(wr.heap.size, p.l)]).map (·.2) = (ps.take (k + 1)).map (·.l)) := fun _ => by
        rw [Hpk.out trivial, List.map_append, Hrs.out trivial]; rfl
      clear hown5 hgrow5 hba HO1 HRM1 HC1 HB1 Hlt Hrs Hpk
      go_wp2
      exact ⟨⟨k + 1, _, by go_num, by omega, Hrs5, HO5, HRM5, HB5⟩, by simp [intOf]; omega⟩
    · obtain rfl : k = ps.length := by omega
      have Hrs4 : Hid (True → rs.map (·.2) = ps.map (·.l)) := fun _ => by have := Hrs.out trivial; rw [List.take_length] at this; exact this
      clear Hrs
      go_wp2
      go_ret
      exact ⟨_, rs, rfl, Hrs4.out trivial, hown.out, HRM.out, hbel.out⟩

end Go.Proofs.YtibgpcheembdkaaDoor
