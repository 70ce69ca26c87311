import Derived.Test.YtcdcfgkgighmhaaGreatDoorSl
namespace Go.Proofs.YtcdcfgkgighmhaaGreatDoor
open Go.RowKit Go.Shelf

theorem runF_end {t : List UInt8} {n : Nat} {s : JS} (h : skp t blanksS s.pos = t.length) : runF t (n + 1) s = if s.aw = 7 then .go { s with pos := t.length } else .bad 31 t.length := by
  unfold runF
  simp only
  rw [if_pos h, h]
theorem runF_word {t : List UInt8} {n : Nat} {s : JS} (h : skp t blanksS s.pos ≠ t.length) : runF t (n + 1) s = match wordF t { s with pos := skp t blanksS s.pos } with
    | .bad c q => .bad c q
    | .go s' => runF t n s' := by
  conv => lhs; unfold runF
  simp only
  rw [if_neg h]
  rfl

set_option maxRecDepth 100000 in
set_option maxHeartbeats 8000000 in
theorem read_any {B : Nat} {w : World} {b : Nat} {t : List UInt8} {s : JS} {nv ov : Value} {mb : Nat} {c q : Int} (n : Nat) (h : RS B w b t s nv ov mb c q) (hG : GL B w) (hok : OKs s) (hp : s.pos ≤ t.length) (ht : t.length ≤ 1000000) (hn : t.length < n + s.pos) :
    Calls Tryz.prog 29 #[.pointer (some ⟨b, 0, none⟩)] w fun e w' => Below B w w' ∧
      (∀ s', runF t n s = .go s' → e = .returned (.bool true) ∧ ∃ nv' ov', RS B w' b t s' nv' ov' mb c q) ∧
      (∀ c' p', runF t n s = .bad c' p' → e = .returned (.bool false) ∧ Bd w' b c' p') := by
  obtain ⟨R, hR⟩ : ∃ R, runF t n s = R := ⟨_, rfl⟩
  rw [hR]
  have HE : Hid (runF t n s = R) := hR
  have H0 : Hid (RS B w b t s nv ov mb c q) := h
  have HG0 : Hid (GL B w) := hG
  have HOK0 : Hid (OKs s) := hok
  clear hR h hG hok
  go_enter Tryz.func29, Tryz.ntmps29
  go_wp2
  go_loopg [] n (fun gk wx => ∃ s nv ov, s.pos ≤ t.length ∧ t.length < gk + s.pos ∧ Below B w wx ∧ RS B wx b t s nv ov mb c q ∧ GL B wx ∧ OKs s ∧ runF t gk s = R)
  case atStart => exact ⟨s, nv, ov, hp, hn, Below.refl _ _, H0.out, HG0.out, HOK0.out, HE.out⟩
  case round =>
    clear H0 HG0 HOK0 HE hn hp
    obtain ⟨s, nv, ov, hp, hgk, hb, hr, hg, ho, he⟩ := hrel
    obtain ⟨g', rfl⟩ : ∃ g', gk = g' + 1 := ⟨gk - 1, by omega⟩
    obtain ⟨E, hE⟩ : ∃ E, skp t blanksS s.pos = E := ⟨_, rfl⟩
    have hEl : E ≤ t.length := by rw [← hE]; exact skp_le _ _ _ hp
    have hEg : s.pos ≤ E := by rw [← hE]; exact skp_ge _ _ _
    have HEE : Hid (skp t blanksS s.pos = E) := hE
    have HR1 : Hid (runF t (g' + 1) s = R) := he
    have HO1 : Hid (OKs s) := ho
    have HB1 : Hid (Below B w wr) := hb
    have HS1 : Hid (RS B wr b t s nv ov mb c q) := hr
    have HG1 : Hid (GL B wr) := hg
    clear he ho hb hr hg hE
    go_wp2
    go_loopg [] (t.length + 1) (fun gj wx => ∃ k : Nat, k ≤ t.length ∧ s.pos ≤ k ∧ t.length + 1 ≤ gj + k ∧ skp t blanksS k = E ∧ Below B w wx ∧ RS B wx b t { s with pos := k } nv ov mb c q ∧ GL B wx)
    case atStart => exact ⟨s.pos, hp, Nat.le_refl _, by omega, HEE.out, HB1.out, HS1.out, HG1.out⟩
    case round =>
      obtain ⟨k, hk, hsk, hgj, hke, hb, hr, hg⟩ := hrel
      have HB2 : Hid (Below B w wr) := hb
      have HS2 : Hid (RS B wr b t { s with pos := k } nv ov mb c q) := hr
      have HG2 : Hid (GL B wr) := hg
      have HKE : Hid (skp t blanksS k = E) := hke
      have C : Calls Tryz.prog 42 #[.pointer (some ⟨b, 0, none⟩), .string { data := #[32, 9, 10, 13] }] wr fun e w' => e = .returned (.bool (tk t blanksS k)) ∧ But wr w' b ∧ RB w' b t (stp (tk t blanksS k) k) ⟨.int .i64 (s.aw : Int), nv, ov, .string ⟨s.key.toArray⟩, .map (some mb)⟩ c q := take_any wr b t blanksS k _ c q hr.rb hk (by omega)
      clear HB1 HS1 HG1 hb hr hg hke
      cases htk : tk t blanksS k
      · rw [htk] at C
        have hkE : E = k := by rw [← HKE.out]; exact skp_stop htk
        clear htk
        subst hkE
        go_wp2_with fail
        refine C.mono ?_
        clear C
        rintro e w1 ⟨rfl, hB1, hR1⟩
        have HS3 : Hid (RS B w1 b t { s with pos := E } nv ov mb c q) := HS2.out.but hB1 hR1 rfl rfl rfl
        have HB3 : Hid (Below B w w1) := HB2.out.trans (HS2.out.bel hB1)
        have HG3 : Hid (GL B w1) := HG2.out.below (HS2.out.bel hB1)
        have c0 := HS3.out.rb.c0
        have c1 := HS3.out.rb.c1
        have c2 := HS3.out.rb.c2
        simp only at c1 c2
        clear hB1 hR1 HB2 HS2 HG2 HKE
        by_cases hend : E = t.length
        · have hendb : ((E : Int) == (t.length : Int)) = true := by simp; omega
          have HZ : Hid ((if s.aw = 7 then Rs.go { s with pos := t.length } else Rs.bad 31 t.length) = R) := by show _ = _; rw [← HR1.out, runF_end (by rw [HEE.out]; exact hend)]
          have HEN : Hid (E = t.length) := hend
          clear hend HR1
          by_cases h7 : s.aw = 7
          · have h7b : ((s.aw : Int) == 7) = true := by simp; omega
            have HZ2 : Hid (R = .go { s with pos := t.length }) := by show _ = _; rw [← HZ.out, if_pos h7]
            clear HZ h7
            go_wp2
            go_quiet (fail)
            go_wp2
            go_ret
            refine ⟨below_drewN HB3.out _, ?_, ?_⟩
            · intro s' e; rw [HZ2.out] at e; cases e; exact ⟨rfl, _, _, by have := HS3.out.drewN (n := nq); rw [HEN.out] at this; exact this⟩
            · intro c' p' e; rw [HZ2.out] at e; cases e
          · have h7b : ((s.aw : Int) == 7) = false := by simp; omega
            have HZ2 : Hid (R = .bad 31 t.length) := by show _ = _; rw [← HZ.out, if_neg h7]
            have CW : Hid (∀ n, Calls Tryz.prog 43 #[.pointer (some ⟨b, 0, none⟩)] (w1.drewN n) fun e w' => e = .returned (.bool false) ∧ But (w1.drewN n) w' b ∧ RB w' b t E ⟨.int .i64 (s.aw : Int), nv, ov, .string ⟨s.key.toArray⟩, .map (some mb)⟩ 31 E) := fun n => wrong_any _ b t E _ c q (HS3.out.drewN n).rb
            clear HZ h7
            go_wp2
            go_quiet (fail)
            go_wp2_with fail
            refine (CW.out _).mono ?_
            rintro e w2 ⟨rfl, hB2, hR2⟩
            have HB4 : Hid (Below B w w2) := (below_drewN HB3.out _).trans (hB2.below HS3.out.blo HS3.out.lo)
            clear hB2
            go_wp2
            go_ret
            refine ⟨HB4.out, ?_, ?_⟩
            · intro s' e; rw [HZ2.out] at e; cases e
            · intro c' p' e; rw [HZ2.out] at e; cases e; exact ⟨rfl, by have := hR2.bd; rw [HEN.out] at this; exact this⟩
        · have hendb : ((E : Int) == (t.length : Int)) = false := by simp; omega
          have hElt : E < t.length := by omega
          have HZ : Hid ((match wordF t { s with pos := E } with
            | .bad c q => Rs.bad c q
            | .go s' => runF t g' s') = R) := by show _ = _; rw [← HR1.out, runF_word (by rw [HEE.out]; exact hend), HEE.out]
          have HOE : Hid (OKs { s with pos := E }) := HO1.out.at hEg
          have CWD : Hid (∀ n, Calls Tryz.prog 44 #[.pointer (some ⟨b, 0, none⟩)] (w1.drewN n) fun e w' => Below B (w1.drewN n) w' ∧
            (∀ s', wordF t { s with pos := E } = .go s' → e = .returned (.bool true) ∧ ∃ nv' ov', RS B w' b t s' nv' ov' mb c q) ∧
            (∀ c' p', wordF t { s with pos := E } = .bad c' p' → e = .returned (.bool false) ∧ Bd w' b c' p')) := fun n => word_any (HS3.out.drewN n) (HG3.out.below (below_drewN (Below.refl _ _) n)) HOE.out hElt ht
          clear hend HR1
          cases hwd : wordF t { s with pos := E } with
          | bad c1 q1 =>
            have HZ2 : Hid (R = .bad c1 q1) := by show _ = _; rw [← HZ.out, hwd]
            rw [hwd] at CWD
            clear HZ hwd
            go_wp2
            go_quiet (fail)
            go_wp2_with fail
            refine (CWD.out _).mono ?_
            rintro e w2 ⟨hB2, _, h2⟩
            obtain ⟨rfl, hbd⟩ := h2 c1 q1 rfl
            have HB4 : Hid (Below B w w2) := (below_drewN HB3.out _).trans hB2
            clear hB2 h2
            go_wp2
            go_ret
            refine ⟨HB4.out, ?_, ?_⟩
            · intro s' e; rw [HZ2.out] at e; cases e
            · intro c' p' e; rw [HZ2.out] at e; cases e; exact ⟨rfl, hbd⟩
          | go s' =>
            have HZ2 : Hid (runF t g' s' = R) := by show _ = _; rw [← HZ.out, hwd]
            have hpos := wordF_pos (s := { s with pos := E }) hElt hwd
            have hpos1 : E < s'.pos := hpos.1
            have hpos2 := hpos.2
            have HO2 : Hid (OKs s') := wordF_ok (s := { s with pos := E }) hElt HOE.out hwd
            rw [hwd] at CWD
            clear HZ hwd hpos
            go_wp2
            go_quiet (fail)
            go_wp2_with fail
            refine (CWD.out _).mono ?_
            rintro e w2 ⟨hB2, h2, _⟩
            obtain ⟨rfl, nv', ov', hR2⟩ := h2 s' rfl
            have HB4 : Hid (Below B w w2) := (below_drewN HB3.out _).trans hB2
            have HG4 : Hid (GL B w2) := (HG3.out.below (below_drewN (Below.refl _ _) _)).below hB2
            have HS4 : Hid (RS B w2 b t s' nv' ov' mb c q) := hR2
            clear hB2 h2 hR2
            go_wp2
            go_roundg g'
            case measure => omega
            case rel => exact ⟨s', nv', ov', hpos2, by omega, HB4.out, HS4.out, HG4.out, HO2.out, HZ2.out⟩
      · rw [htk] at C
        have hlt := tk_lt htk
        have HK2 : Hid (skp t blanksS (k + 1) = E) := by show _ = _; rw [← skp_step htk]; exact HKE.out
        obtain ⟨gj', rfl⟩ : ∃ gj', gk = gj' + 1 := ⟨gk - 1, by omega⟩
        clear htk
        go_wp2_with fail
        refine C.mono ?_
        clear C
        rintro e w1 ⟨rfl, hB1, hR1⟩
        have HS3 : Hid (RS B w1 b t { s with pos := k + 1 } nv ov mb c q) := HS2.out.but hB1 hR1 rfl rfl rfl
        have HB3 : Hid (Below B w w1) := HB2.out.trans (HS2.out.bel hB1)
        have HG3 : Hid (GL B w1) := HG2.out.below (HS2.out.bel hB1)
        clear hB1 hR1
        go_wp2
        go_roundg gj'
        case measure => omega
        case rel => exact ⟨k + 1, hlt, by omega, by omega, HK2.out, HB3.out, HS3.out, HG3.out⟩

end Go.Proofs.YtcdcfgkgighmhaaGreatDoor
