import Derived.Test.YtcdcfgkgighmhaaGreatDoorSg
import Derived.Test.YtcdcfgkgighmhaaGreatDoorDcWh
import Derived.Laws.ResultCell
namespace Go.Proofs.YtcdcfgkgighmhaaGreatDoor
open Go.RowKit Go.Shelf

/-- The open ones' row has grown by one; has one less. -/
theorem RS.open {B : Nat} {w w' : World} {b : Nat} {t : List UInt8} {s : JS} {nv ov v' : Value} {mb : Nat} {c q : Int} {i : Nat} (h : RS B w b t s nv ov mb c q)
    (ho : w'.ownsRow B 3 1 v' (s.opn.length + 1) (s.opn.map iV ++ [iV i])) (hg : w.grownBy w' ov.ownBlock) : RS B (w'.setCell ⟨b, 4, none⟩ v') b t { s with opn := s.opn ++ [i] } nv v' mb c q := by
  have hnb : ov.ownBlock ≠ some b := block_apart h.opn h.rb hne_ir
  have hr2 : RB w' b t s.pos ⟨.int .i64 (s.aw : Int), nv, ov, .string ⟨s.key.toArray⟩, .map (some mb)⟩ c q := bl_grown h.rb hg hnb
  have hno : ∀ g, nv.ownBlock = some g → ov.ownBlock ≠ some g := fun g hg => kinds_apart h.nod h.opn hne_ni hg
  refine ⟨h.lo, h.mlo, ?_, hr2.s4 v', ?_, ?_, ?_⟩
  · have := hg.size; have := h.blo; simp; omega
  · have a2 : nv.ownBlock ≠ some b := block_apart h.nod h.rb hne_nr
    refine own_keep h.nod fun g hgo => ?_
    rw [heap_setCell_other w' _ g _ (fun e => a2 (by rw [hgo]; exact congrArg some e))]
    exact hg.block g (h.nod.lt g hgo).2 (fun e => hno g hgo e.symm)
  · show (w'.setCell _ _).ownsRow B 3 1 v' (s.opn ++ [i]).length ((s.opn ++ [i]).map iV)
    rw [List.length_append, List.map_append]
    have a3 : v'.ownBlock ≠ some b := block_apart ho hr2 hne_ir
    exact own_keep ho fun g hgv => heap_setCell_other w' _ g _ (fun e => a3 (by rw [hgv]; exact congrArg some e))
  · have hmb : mb ≠ b := h.met.ne_bl h.rb
    refine h.met.keep ?_
    rw [heap_setCell_other w' ⟨b, 4, none⟩ mb _ hmb]
    exact hg.block mb h.met.lt (fun e => h.met.ne_own h.opn e.symm)
theorem RS.open_below {B : Nat} {w w' : World} {b : Nat} {t : List UInt8} {s : JS} {nv ov v' : Value} {mb : Nat} {c q : Int} (h : RS B w b t s nv ov mb c q) (hg : w.grownBy w' ov.ownBlock) : Below B w (w'.setCell ⟨b, 4, none⟩ v') :=
  Below.setCell (Below.grown (Below.refl _ _) hg h.blo (own_block h.opn)) h.lo _
theorem RS.shut {B : Nat} {w : World} {b : Nat} {t : List UInt8} {s : JS} {nv : Value} {g cap : Nat} {mb : Nat} {c q : Int} {xs : List Nat} {i : Nat} (h : RS B w b t s nv (.slice (some ⟨g, 0, none⟩) (xs.length + 1) cap) mb c q) (ho : s.opn = xs ++ [i]) :
    RS B (w.setCell ⟨b, 4, none⟩ (.slice (some ⟨g, 0, none⟩) xs.length cap)) b t { s with opn := xs } nv (.slice (some ⟨g, 0, none⟩) xs.length cap) mb c q := by
  have hb : But w (w.setCell ⟨b, 4, none⟩ (.slice (some ⟨g, 0, none⟩) xs.length cap)) b := (But.refl _ _).set _ _
  have h1 := h.opn
  rw [ho, List.length_append, List.map_append] at h1
  have h2 : w.ownsRow B 3 1 (.slice (some ⟨g, 0, none⟩) xs.length cap) xs.length (xs.map iV) := own_short (n := xs.length) (y := iV i) h1
  refine ⟨h.lo, h.mlo, by simpa using h.blo, h.rb.s4 _, own_but h.nod h.rb hne_nr hb, own_but h2 h.rb hne_ir hb, h.met.keep (hb.block mb h.met.lt (h.met.ne_bl h.rb))⟩

set_option maxRecDepth 100000 in
set_option maxHeartbeats 4000000 in
theorem close_any {B : Nat} {w : World} {b : Nat} {t : List UInt8} {s : JS} {nv ov : Value} {mb : Nat} {c q : Int} (h : RS B w b t s nv ov mb c q) (hne : s.opn ≠ []) (hop : ∀ i ∈ s.opn, i < s.nodes.length) (hol : s.opn.length ≤ 32) (hnl : s.nodes.length ≤ 1000000000) :
    Calls Tryz.prog 56 #[.pointer (some ⟨b, 0, none⟩)] w fun e w' => e = .returned (.bool true) ∧ Below B w w' ∧ ∃ ov', RS B w' b t (closeF s) nv ov' mb c q := by
  obtain ⟨xs, i, hox⟩ := snoc_of hne
  obtain ⟨g, cap, rfl, hcap, _⟩ := h.last hox
  have HC : Hid (closeF s = endF { s with opn := xs }) := by show _ = _; unfold closeF; rw [hox, List.dropLast_concat]
  have c4 := h.rb.c4
  have f4 := h.rb.fz 4
  have HB1 : Hid (Below B w ((w.drewN 1).setCell ⟨b, 4, none⟩ (.slice (some ⟨g, 0, none⟩) xs.length cap))) := Below.setCell (below_drewN (Below.refl _ _) 1) h.lo _
  have HR1 : Hid (RS B ((w.drewN 1).setCell ⟨b, 4, none⟩ (.slice (some ⟨g, 0, none⟩) xs.length cap)) b t { s with opn := xs } nv (.slice (some ⟨g, 0, none⟩) xs.length cap) mb c q) := (h.drewN 1).shut hox
  have HOP : Hid (∀ i ∈ xs, i < s.nodes.length) := fun j hj => hop j (by rw [hox]; simp [hj])
  have hxl : xs.length ≤ 31 := by rw [hox] at hol; simp at hol; omega
  have hxc : xs.length ≤ cap := by omega
  have C := ended_any HR1.out HOP.out (by show xs.length ≤ 32; omega) (by show s.nodes.length ≤ _; omega)
  have H : Hid (RS B w b t s nv (.slice (some ⟨g, 0, none⟩) (xs.length + 1) cap) mb c q) := h
  clear h hox hop hne hol
  go_enter Tryz.func56, Tryz.ntmps56
  go_wp2
  refine wp_region_tail 14 (by kernel_rfl) (by kernel_rfl) ?_
  simp only [List.take_succ_cons, List.take_zero, List.drop_succ_cons, List.drop_zero]
  repeat (first | go_big_quiet_skip | (go_big_quiet_want; go_big_quiet_op; go_big_quiet_on))
  refine wpQuiet_nil ?_
  go_wp2_with fail
  refine C.mono ?_
  rintro e wE ⟨rfl, hBE, hRE⟩
  go_wp2
  go_ret
  rw [HC.out]
  exact ⟨rfl, HB1.out.trans (HR1.out.bel hBE), _, hRE⟩

set_option maxHeartbeats 1000000 in
theorem mark_any {B : Nat} {w : World} {b : Nat} {t : List UInt8} {s : JS} {nv ov : Value} {mb : Nat} {c q : Int} (sg : UInt8) (a : Nat) (h : RS B w b t s nv ov mb c q) (hp : s.pos ≤ t.length) (ht : t.length ≤ 1073741824) :
    Calls Tryz.prog 59 #[.pointer (some ⟨b, 0, none⟩), .string { data := #[sg] }, .int .i64 (a : Int)] w fun e w' => Below B w w' ∧
      (∀ s', markF t sg a s = .go s' → e = .returned (.bool true) ∧ RS B w' b t s' nv ov mb c q) ∧
      (∀ c' p', markF t sg a s = .bad c' p' → e = .returned (.bool false) ∧ ∃ s2, RS B w' b t s2 nv ov mb c' p') := by
  have C : Calls Tryz.prog 42 #[.pointer (some ⟨b, 0, none⟩), .string { data := #[sg] }] w fun e w' => e = .returned (.bool (tk t [sg] s.pos)) ∧ But w w' b ∧ RB w' b t (stp (tk t [sg] s.pos) s.pos) ⟨.int .i64 (s.aw : Int), nv, ov, .string ⟨s.key.toArray⟩, .map (some mb)⟩ c q := take_any w b t [sg] s.pos _ c q h.rb hp ht
  have H : Hid (RS B w b t s nv ov mb c q) := h
  clear h
  cases htk : tk t [sg] s.pos
  · rw [htk] at C
    have HM : Hid (markF t sg a s = .bad 31 s.pos) := by show _ = _; unfold markF; rw [htk]; rfl
    clear htk
    go_enter Tryz.func59, Tryz.ntmps59
    go_wp2_with fail
    refine C.mono ?_
    clear C
    rintro e w1 ⟨rfl, hB1, hR1⟩
    have HS1 : Hid (RS B w1 b t s nv ov mb c q) := H.out.but hB1 hR1 rfl rfl rfl
    have HB1 : Hid (Below B w w1) := H.out.bel hB1
    have C2 := wrong_any w1 b t s.pos _ c q HS1.out.rb
    clear hB1 hR1
    go_wp2_with fail
    refine C2.mono ?_
    rintro e w2 ⟨rfl, hB2, hR2⟩
    go_wp2
    go_ret
    refine ⟨HB1.out.trans (HS1.out.bel hB2), ?_, ?_⟩
    · intro s' e; rw [HM.out] at e; cases e
    · intro c' p' e; rw [HM.out] at e; cases e; exact ⟨rfl, s, HS1.out.but hB2 hR2 rfl rfl rfl⟩
  · rw [htk] at C
    have HM : Hid (markF t sg a s = .go { s with pos := s.pos + 1, aw := a }) := by show _ = _; unfold markF; rw [htk]; rfl
    clear htk
    go_enter Tryz.func59, Tryz.ntmps59
    go_wp2_with fail
    refine C.mono ?_
    clear C
    rintro e w1 ⟨rfl, hB1, hR1⟩
    have HS1 : Hid (RS B w1 b t { s with pos := s.pos + 1 } nv ov mb c q) := H.out.but hB1 hR1 rfl rfl rfl
    have HB1 : Hid (Below B w w1) := H.out.bel hB1
    have c2 := HS1.out.rb.c2
    have f2 := HS1.out.rb.fz 2
    simp only at c2
    have HS2 : Hid (RS B (w1.setCell ⟨b, 2, none⟩ (.int .i64 (a : Int))) b t { s with pos := s.pos + 1, aw := a } nv ov mb c q) := HS1.out.but ((But.refl _ _).set _ _) (by have := HS1.out.rb.s2 (.int .i64 (a : Int)); exact this) rfl rfl rfl
    have HB2 : Hid (Below B w (w1.setCell ⟨b, 2, none⟩ (.int .i64 (a : Int)))) := HB1.out.trans (HS1.out.bel ((But.refl _ _).set _ _))
    clear hB1 hR1
    go_wp2
    go_ret
    refine ⟨HB2.out, ?_, ?_⟩
    · intro s' e; rw [HM.out] at e; cases e; exact ⟨rfl, HS2.out⟩
    · intro c' p' e; rw [HM.out] at e; cases e

end Go.Proofs.YtcdcfgkgighmhaaGreatDoor
