import Derived.Test.YtjpjepfmphlneaaGreatDoorGD
namespace Go.Proofs.YtjpjepfmphlneaaGreatDoor
open Go.RowKit

set_option maxRecDepth 100000

theorem one_S {P : Nat × Nat} {pub msg f s t : List UInt8} (hP : onE eP eD P) (hf : f.length = 32) (h1 : Holds13 P pub msg (f ++ s)) (h2 : Holds13 P pub msg (f ++ t)) : s = t := by
  obtain ⟨l1, s1, e1⟩ := h1
  obtain ⟨l2, s2, e2⟩ := h2
  have d : ∀ u : List UInt8, (f ++ u).drop 32 = u := fun u => List.drop_left' hf
  have k : ∀ u : List UInt8, (f ++ u).take 32 = f := fun u => List.take_left' hf
  have o1 := rV_on hP pub msg (f ++ s)
  have o2 := rV_on hP pub msg (f ++ t)
  have e := encL_inj o1 o2 (by rw [e1, e2, k, k])
  unfold rV at e
  rw [d, d, k, k] at e
  rw [d] at s1 s2
  have q := ew.mon (ew.non hP) (kV f pub msg)
  rw [ew.comm (ew.mon onB _) q, ew.comm (ew.mon onB _) q] at e
  have e3 := ew.left q (ew.mon onB _) (ew.mon onB _) e
  have e4 := minj s1 s2 e3
  have n1 : s.length = 32 := by rw [List.length_append, hf] at l1; omega
  have n2 : t.length = 32 := by rw [List.length_append, hf] at l2; omega
  rw [← leB_leN s, ← leB_leN t, n1, n2, e4]
/-- What Verify answers of any bytes. -/
theorem verify_any (ap am ag : Option Addr) (cp cm cs : Nat) (pub msg sig : List UInt8) (w : World) (T : Te w) (TS : Sha.Tb w) (hp : Rd w ap pub) (hm : Rd w am msg) (hs : Rd w ag sig) (hcp : pub.length ≤ cp ∧ cp ≤ 9223372036854775807) (hcm : msg.length ≤ cm ∧ cm ≤ 9223372036854775807) (hcs : sig.length ≤ cs ∧ cs ≤ 9223372036854775807) (hml : msg.length < 1152921504606846976) :
    Calls Tryz.prog 12 #[.slice ap pub.length cp, .slice am msg.length cm, .slice ag sig.length cs] w fun e w' => (∃ z, e = .returned (.int .i64 z) ∧ ((z = 90 ∧ ∀ P, onE eP eD P → encL P ≠ pub) ∨ ∃ P, onE eP eD P ∧ encL P = pub ∧ z = verC P pub msg sig)) ∧ Below w.heap.size w w' := by
  by_cases h : ∃ P, onE eP eD P ∧ encL P = pub
  · obtain ⟨P, h1, h2⟩ := h
    refine (verify_v ap am ag cp cm cs pub msg sig w T TS hp hm hs hcp hcm hcs hml P h1 h2).mono ?_
    rintro e w' ⟨rfl, hB⟩
    exact ⟨⟨_, rfl, .inr ⟨P, h1, h2, rfl⟩⟩, hB⟩
  · have h' : ∀ P, onE eP eD P → encL P ≠ pub := fun P h1 h2 => h ⟨P, h1, h2⟩
    refine (verify_key ap am ag cp msg.length cm sig.length cs pub w T hp h').mono ?_
    rintro e w' ⟨rfl, hB⟩
    exact ⟨⟨_, rfl, .inl ⟨rfl, h'⟩⟩, hB⟩
theorem verC_cases (P : Nat × Nat) (pub msg sig : List UInt8) : (verC P pub msg sig = 0 ∧ Holds13 P pub msg sig) ∨ (verC P pub msg sig = 91 ∧ ¬ Holds13 P pub msg sig) := by
  unfold verC
  by_cases h : Holds13 P pub msg sig
  · rw [if_pos h]; exact .inl ⟨rfl, h⟩
  · rw [if_neg h]; exact .inr ⟨rfl, h⟩
/-- A slice over a row of one's own, by its parts. -/
theorem owb_open {w : World} {base : Nat} {v : Value} {l : List UInt8} (h : Owb w base v l) : ∃ ao cap, v = .slice ao l.length cap ∧ (l.length ≤ cap ∧ cap ≤ 9223372036854775807) ∧ (ao = none → l.length = 0 ∧ cap = 0) ∧ Rd w ao l := by
  obtain ⟨ao, cap, e, h1, h2, h3, h4, h5, _⟩ := own_rdE h
  exact ⟨ao, cap, e, ⟨h2, h3⟩, h4, h5⟩
set_option maxHeartbeats 40000000 in
theorem edOne_core (ap am af au av : Option Addr) (cp cm cf cu cv : Nat) (pub msg fst s1 s2 : List UInt8) (w : World) (T : Te w) (TS : Sha.Tb w) (hrp : Rd w ap pub) (hcp : pub.length ≤ cp ∧ cp ≤ 9223372036854775807) (hnp : ap = none → pub.length = 0 ∧ cp = 0) (hlp : pub.length ≤ 1048576) (hrm : Rd w am msg) (hcm : msg.length ≤ cm ∧ cm ≤ 9223372036854775807) (hnm : am = none → msg.length = 0 ∧ cm = 0) (hlm : msg.length ≤ 1048576) (hrf : Rd w af fst) (hcf : fst.length ≤ cf ∧ cf ≤ 9223372036854775807) (hnf : af = none → fst.length = 0 ∧ cf = 0) (hlf : fst.length ≤ 1048576) (hru : Rd w au s1) (hcu : s1.length ≤ cu ∧ cu ≤ 9223372036854775807) (hnu : au = none → s1.length = 0 ∧ cu = 0) (hlu : s1.length ≤ 1048576) (hrv : Rd w av s2) (hcv : s2.length ≤ cv ∧ cv ≤ 9223372036854775807) (hnv : av = none → s2.length = 0 ∧ cv = 0) (hlv : s2.length ≤ 1048576) :
    Calls Tryz.prog 3 #[.slice ap pub.length cp, .slice am msg.length cm, .slice af fst.length cf, .slice au s1.length cu, .slice av s2.length cv] w fun e w' => e = .returned (.bool true) ∧ Below w.heap.size w w' := by
  obtain ⟨i, hi, hz, hsize, hby⟩ := info_u8
  have HT : Hid (Te w ∧ Sha.Tb w) := ⟨T, TS⟩
  clear T TS
  have HB0 : Hid (Below w.heap.size w w) := Below.refl _ _
  have Hrp0 : Hid (Rd w ap pub) := hrp
  have Hcp : Hid ((pub.length ≤ cp ∧ cp ≤ 9223372036854775807) ∧ (ap = none → pub.length = 0 ∧ cp = 0) ∧ pub.length ≤ 1048576) := ⟨hcp, hnp, hlp⟩
  have Hrm0 : Hid (Rd w am msg) := hrm
  have Hcm : Hid ((msg.length ≤ cm ∧ cm ≤ 9223372036854775807) ∧ (am = none → msg.length = 0 ∧ cm = 0) ∧ msg.length ≤ 1048576) := ⟨hcm, hnm, hlm⟩
  have Hrf0 : Hid (Rd w af fst) := hrf
  have Hcf : Hid ((fst.length ≤ cf ∧ cf ≤ 9223372036854775807) ∧ (af = none → fst.length = 0 ∧ cf = 0) ∧ fst.length ≤ 1048576) := ⟨hcf, hnf, hlf⟩
  have Hru0 : Hid (Rd w au s1) := hru
  have Hcu : Hid ((s1.length ≤ cu ∧ cu ≤ 9223372036854775807) ∧ (au = none → s1.length = 0 ∧ cu = 0) ∧ s1.length ≤ 1048576) := ⟨hcu, hnu, hlu⟩
  have Hrv0 : Hid (Rd w av s2) := hrv
  have Hcv : Hid ((s2.length ≤ cv ∧ cv ≤ 9223372036854775807) ∧ (av = none → s2.length = 0 ∧ cv = 0) ∧ s2.length ≤ 1048576) := ⟨hcv, hnv, hlv⟩
  clear hrp hcp hnp hlp hrm hcm hnm hlm hrf hcf hnf hlf hru hcu hnu hlu hrv hcv hnv hlv
  go_enter Tryz.func3, Tryz.ntmps3
  go_wp2_with fail
  refine (awake13_v _ (HT.out.1.below HB0.out (Nat.le_refl _)) (HT.out.2.below HB0.out)).mono ?_
  rintro e w1 ⟨rfl, hB⟩
  have HB1 : Hid (Below w.heap.size w w1) := HB0.out.trans (hB.mono HB0.out.size)
  have Hrp1 : Hid (Rd w1 ap pub) := Hrp0.out.below hB (Nat.le_refl _)
  have Hrm1 : Hid (Rd w1 am msg) := Hrm0.out.below hB (Nat.le_refl _)
  have Hrf1 : Hid (Rd w1 af fst) := Hrf0.out.below hB (Nat.le_refl _)
  have Hru1 : Hid (Rd w1 au s1) := Hru0.out.below hB (Nat.le_refl _)
  have Hrv1 : Hid (Rd w1 av s2) := Hrv0.out.below hB (Nat.le_refl _)
  clear hB
  by_cases hf : fst.length = 32
  · have Hf : Hid (fst.length = 32) := hf
    have hz1 : ((fst.length : Nat) : Int) = 32 := by omega
    have hz3 : (((fst.length : Nat) : Int) != 32) = false := by simpa using hz1
    clear hf
    go_wp2_with (at_builtin; refine append_rdE rfl (.tmp 23) (.tmp 24) rfl w1.heap.size i hi hz hsize hby (.slice none 0 0) 0 [] rfl (Owb.nil w1 w1.heap.size) af fst.length cf fst rfl rfl Hcf.out.2.1 Hrf1.out (by have h1 := Hcf.out.2.2; omega) (Nat.le_refl _) ?_)
    intro vx1 w2 ho hg
    have HAp : Hid (Below w1.heap.size w1 w2) := (Below.refl _ _).grown hg (Nat.le_refl _) (fun k hk => by cases hk)
    have HOp : Hid (Owb w2 w1.heap.size vx1 fst) := (by unfold Owb; simpa using ho : Owb _ _ _ _)
    clear ho hg
    go_wp2_with (at_builtin; refine append_rdE rfl (.tmp 26) (.tmp 27) rfl w1.heap.size i hi hz hsize hby vx1 fst.length fst rfl HOp.out au s1.length cu s1 rfl rfl Hcu.out.2.1 (Hru1.out.below HAp.out (Nat.le_refl _)) (by have h1 := Hcf.out.2.2; have h2 := Hcu.out.2.2; omega) HAp.out.size ?_)
    intro vx w3 ho hg
    have hB : Below w1.heap.size w1 w3 := HAp.out.grown hg HAp.out.size (fun k hk => (HOp.out.lt k hk).1)
    have hO : Owb w3 w1.heap.size vx (fst ++ s1) := by unfold Owb; rw [List.length_append, List.map_append]; exact ho
    have HB2 : Hid (Below w.heap.size w w3) := HB1.out.trans (hB.mono HB1.out.size)
    have Hrp2 : Hid (Rd w3 ap pub) := Hrp1.out.below hB (Nat.le_refl _)
    have Hrm2 : Hid (Rd w3 am msg) := Hrm1.out.below hB (Nat.le_refl _)
    have Hrf2 : Hid (Rd w3 af fst) := Hrf1.out.below hB (Nat.le_refl _)
    have Hru2 : Hid (Rd w3 au s1) := Hru1.out.below hB (Nat.le_refl _)
    have Hrv2 : Hid (Rd w3 av s2) := Hrv1.out.below hB (Nat.le_refl _)
    obtain ⟨lx, Hlx⟩ : ∃ l, Hid (l = fst ++ s1) := ⟨_, rfl⟩
    rw [← Hlx.out] at hO
    obtain ⟨ax, cx, rfl, hcx, hnx, hrx⟩ := owb_open hO
    have Hcx : Hid ((lx.length ≤ cx ∧ cx ≤ 9223372036854775807)) := hcx
    have Hrx0 : Hid (Rd w3 ax lx) := hrx
    clear ho hg hB hO HAp HOp hcx hnx hrx
    go_wp2_with (at_builtin; refine append_rdE rfl (.tmp 29) (.tmp 30) rfl w3.heap.size i hi hz hsize hby (.slice none 0 0) 0 [] rfl (Owb.nil w3 w3.heap.size) af fst.length cf fst rfl rfl Hcf.out.2.1 Hrf2.out (by have h1 := Hcf.out.2.2; omega) (Nat.le_refl _) ?_)
    intro vy1 w4 ho hg
    have HAp : Hid (Below w3.heap.size w3 w4) := (Below.refl _ _).grown hg (Nat.le_refl _) (fun k hk => by cases hk)
    have HOp : Hid (Owb w4 w3.heap.size vy1 fst) := (by unfold Owb; simpa using ho : Owb _ _ _ _)
    clear ho hg
    go_wp2_with (at_builtin; refine append_rdE rfl (.tmp 32) (.tmp 33) rfl w3.heap.size i hi hz hsize hby vy1 fst.length fst rfl HOp.out av s2.length cv s2 rfl rfl Hcv.out.2.1 (Hrv2.out.below HAp.out (Nat.le_refl _)) (by have h1 := Hcf.out.2.2; have h2 := Hcv.out.2.2; omega) HAp.out.size ?_)
    intro vy w5 ho hg
    have hB : Below w3.heap.size w3 w5 := HAp.out.grown hg HAp.out.size (fun k hk => (HOp.out.lt k hk).1)
    have hO : Owb w5 w3.heap.size vy (fst ++ s2) := by unfold Owb; rw [List.length_append, List.map_append]; exact ho
    have HB3 : Hid (Below w.heap.size w w5) := HB2.out.trans (hB.mono HB2.out.size)
    have Hrp3 : Hid (Rd w5 ap pub) := Hrp2.out.below hB (Nat.le_refl _)
    have Hrm3 : Hid (Rd w5 am msg) := Hrm2.out.below hB (Nat.le_refl _)
    have Hrf3 : Hid (Rd w5 af fst) := Hrf2.out.below hB (Nat.le_refl _)
    have Hru3 : Hid (Rd w5 au s1) := Hru2.out.below hB (Nat.le_refl _)
    have Hrv3 : Hid (Rd w5 av s2) := Hrv2.out.below hB (Nat.le_refl _)
    have Hrx1 : Hid (Rd w5 ax lx) := Hrx0.out.below hB (Nat.le_refl _)
    obtain ⟨ly, Hly⟩ : ∃ l, Hid (l = fst ++ s2) := ⟨_, rfl⟩
    rw [← Hly.out] at hO
    obtain ⟨ay, cy, rfl, hcy, hny, hry⟩ := owb_open hO
    have Hcy : Hid ((ly.length ≤ cy ∧ cy ≤ 9223372036854775807)) := hcy
    have Hry0 : Hid (Rd w5 ay ly) := hry
    clear ho hg hB hO HAp HOp hcy hny hry
    go_wp2_with fail
    refine (verify_any ap am ax cp cm cx pub msg (lx) _ (HT.out.1.below HB3.out (Nat.le_refl _)) (HT.out.2.below HB3.out) Hrp3.out Hrm3.out Hrx1.out Hcp.out.1 Hcm.out.1 Hcx.out (by have := Hcm.out.2.2; omega)).mono ?_
    rintro e w6 ⟨⟨z1, rfl, hz1⟩, hB⟩
    have HB4 : Hid (Below w.heap.size w w6) := HB3.out.trans (hB.mono HB3.out.size)
    have Hrp4 : Hid (Rd w6 ap pub) := Hrp3.out.below hB (Nat.le_refl _)
    have Hrm4 : Hid (Rd w6 am msg) := Hrm3.out.below hB (Nat.le_refl _)
    have Hrf4 : Hid (Rd w6 af fst) := Hrf3.out.below hB (Nat.le_refl _)
    have Hru4 : Hid (Rd w6 au s1) := Hru3.out.below hB (Nat.le_refl _)
    have Hrv4 : Hid (Rd w6 av s2) := Hrv3.out.below hB (Nat.le_refl _)
    have Hrx2 : Hid (Rd w6 ax lx) := Hrx1.out.below hB (Nat.le_refl _)
    have Hry1 : Hid (Rd w6 ay ly) := Hry0.out.below hB (Nat.le_refl _)
    have Hz1 : Hid (_ ∨ _) := hz1
    clear hB hz1
    go_wp2_with fail
    refine (verify_any ap am ay cp cm cy pub msg (ly) _ (HT.out.1.below HB4.out (Nat.le_refl _)) (HT.out.2.below HB4.out) Hrp4.out Hrm4.out Hry1.out Hcp.out.1 Hcm.out.1 Hcy.out (by have := Hcm.out.2.2; omega)).mono ?_
    rintro e w7 ⟨⟨z2, rfl, hz2⟩, hB⟩
    have HB5 : Hid (Below w.heap.size w w7) := HB4.out.trans (hB.mono HB4.out.size)
    have Hrp5 : Hid (Rd w7 ap pub) := Hrp4.out.below hB (Nat.le_refl _)
    have Hrm5 : Hid (Rd w7 am msg) := Hrm4.out.below hB (Nat.le_refl _)
    have Hrf5 : Hid (Rd w7 af fst) := Hrf4.out.below hB (Nat.le_refl _)
    have Hru5 : Hid (Rd w7 au s1) := Hru4.out.below hB (Nat.le_refl _)
    have Hrv5 : Hid (Rd w7 av s2) := Hrv4.out.below hB (Nat.le_refl _)
    have Hrx3 : Hid (Rd w7 ax lx) := Hrx2.out.below hB (Nat.le_refl _)
    have Hry2 : Hid (Rd w7 ay ly) := Hry1.out.below hB (Nat.le_refl _)
    have Hz2 : Hid (_ ∨ _) := hz2
    clear hB hz2
    by_cases q1 : z1 = 0
    · by_cases q2 : z2 = 0
      · have HE : Hid (lx = ly) := (by
          rcases Hz1.out with ⟨h, _⟩ | ⟨P, p1, p2, p3⟩
          · omega
          rcases Hz2.out with ⟨h, _⟩ | ⟨Q, u1, u2, u3⟩
          · omega
          obtain rfl := encL_inj u1 p1 (u2.trans p2.symm)
          rw [Hlx.out, Hly.out] at *
          rcases verC_cases Q pub msg (fst ++ s1) with ⟨_, d1⟩ | ⟨d1, _⟩
          · rcases verC_cases Q pub msg (fst ++ s2) with ⟨_, d2⟩ | ⟨d2, _⟩
            · rw [one_S u1 Hf.out d1 d2]; exact rfl
            · omega
          · omega)
        subst q1 q2
        clear Hz1 Hz2
        have C := sameBytes_any ax ay cx cy lx ly _ Hrx3.out Hry2.out (Nat.le_trans Hcx.out.1 Hcx.out.2) (Nat.le_trans Hcy.out.1 Hcy.out.2)
        rw [decide_eq_true HE.out] at C
        go_wp2_with fail
        refine C.mono ?_
        clear C
        rintro e wz ⟨rfl, q, rfl⟩
        go_wp2
        go_ret
        exact ⟨rfl, below_drewN HB5.out q⟩
      · have hb : (z2 != 0) = true := by simpa using q2
        clear Hz1 Hz2
        subst q1
        go_wp2
        go_ret
        exact ⟨rfl, HB5.out⟩
    · have hb : (z1 != 0) = true := by simpa using q1
      clear Hz1 Hz2
      go_wp2
      go_ret
      exact ⟨rfl, HB5.out⟩
  · have hz1 : ((fst.length : Nat) : Int) ≠ 32 := by omega
    have hz2 : (((fst.length : Nat) : Int) != 32) = true := by simpa using hz1
    go_wp2_with fail
    refine (awake13_v _ (HT.out.1.below HB1.out (Nat.le_refl _)) (HT.out.2.below HB1.out)).mono ?_
    rintro e w2 ⟨rfl, hB⟩
    have HB2 : Hid (Below w.heap.size w w2) := HB1.out.trans (hB.mono HB1.out.size)
    have Hrp2 : Hid (Rd w2 ap pub) := Hrp1.out.below hB (Nat.le_refl _)
    have Hrm2 : Hid (Rd w2 am msg) := Hrm1.out.below hB (Nat.le_refl _)
    have Hrf2 : Hid (Rd w2 af fst) := Hrf1.out.below hB (Nat.le_refl _)
    have Hru2 : Hid (Rd w2 au s1) := Hru1.out.below hB (Nat.le_refl _)
    have Hrv2 : Hid (Rd w2 av s2) := Hrv1.out.below hB (Nat.le_refl _)
    clear hB
    go_wp2
    go_ret
    exact ⟨rfl, HB2.out⟩
end Go.Proofs.YtjpjepfmphlneaaGreatDoor
