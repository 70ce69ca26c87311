import Derived.Test.YtcdcfgkgighmhaaGreatDoorSj
namespace Go.Proofs.YtcdcfgkgighmhaaGreatDoor
open Go.RowKit Go.Shelf

theorem u8_lit {d : UInt8} {n : Nat} (_hn : n < 256) (h : d ≠ UInt8.ofNat n) : ((d.toNat : Int) == (n : Int)) = false := by
  have : d.toNat ≠ n := fun e => h (by rw [← e]; simp)
  simp; omega

set_option maxRecDepth 100000 in
set_option maxHeartbeats 8000000 in
theorem value_any {B : Nat} {w : World} {b : Nat} {t : List UInt8} {s : JS} {nv ov : Value} {mb : Nat} {c q : Int} (h : RS B w b t s nv ov mb c q) (hG : GL B w) (hok : OKs s) (hp : s.pos < t.length) (ht : t.length ≤ 1000000) :
    Calls Tryz.prog 57 #[.pointer (some ⟨b, 0, none⟩)] w fun e w' => Below B w w' ∧
      (∀ s', valueF t s = .go s' → e = .returned (.bool true) ∧ ∃ nv' ov', RS B w' b t s' nv' ov' mb c q) ∧
      (∀ c' p', valueF t s = .bad c' p' → e = .returned (.bool false) ∧ Bd w' b c' p') := by
  obtain ⟨R, hR⟩ : ∃ R, valueF t s = R := ⟨_, rfl⟩
  rw [hR]
  have HE : Hid (valueF t s = R) := hR
  have c0 := h.rb.c0
  have c1 := h.rb.c1
  obtain ⟨d, hd⟩ : ∃ d, t.getD s.pos 0 = d := ⟨_, rfl⟩
  have gx : (⟨t.toArray⟩ : ByteArray)[s.pos]'(by show s.pos < t.toArray.size; simpa using hp) = d := by
    rw [← hd]; show t.toArray[s.pos] = _; simp [List.getD_eq_getElem?_getD, hp]
  have Hd : Hid (t.getD s.pos 0 = d) := hd
  have hdl : d.toNat < 256 := d.toNat_lt
  have H : Hid (RS B w b t s nv ov mb c q) := h
  have HG : Hid (GL B w) := hG
  have HOK : Hid (OKs s) := hok
  have hcnt := hok.cnt
  have HD : Hid (∀ n, RS B (w.drewN n) b t s nv ov mb c q) := fun n => h.drewN n
  have HADD : Hid (∀ (wq : World) (s2 : JS) (n : Nd), s2.opn = s.opn → s2.nodes = s.nodes → RS B wq b t s2 nv ov mb c q → Calls Tryz.prog 67 #[.pointer (some ⟨b, 0, none⟩), .agg #[.int .i64 n.kind, .string ⟨n.key.toArray⟩, .string ⟨n.text.toArray⟩, .bool n.whole, .int .i64 n.int, .int .i64 n.kids]] wq fun e w' => e = .returned (.bool true) ∧ Below B wq w' ∧ ∃ nv', RS B w' b t (addF n s2) nv' ov mb c q) := fun wq s2 n e1 e2 hq => add_any n hq (by rw [e1, e2]; exact hok.op) (by rw [e1]; exact hok.len) (by rw [e2]; omega) (by rw [e2]; exact hok.kid)
  clear hR hd h hG hok
  by_cases h123 : d = 123
  · subst h123
    have Hz : Hid (beginF 7 2 s = R) := by show _ = _; rw [← HE.out]; unfold valueF; simp only; rw [Hd.out]; rfl
    have C := fun n => begin_any 7 2 (HD.out n) HOK.out (by omega) (by omega)
    rw [Hz.out] at C
    have HC : Hid (∀ n, Calls Tryz.prog 65 #[.pointer (some ⟨b, 0, none⟩), .int .i64 7, .int .i64 2] (w.drewN n) fun e w' => Below B (w.drewN n) w' ∧ (∀ s', R = .go s' → e = .returned (.bool true) ∧ ∃ nv' ov', RS B w' b t s' nv' ov' mb c q) ∧ (∀ c' p', R = .bad c' p' → e = .returned (.bool false) ∧ ∃ s2, RS B w' b t s2 nv ov mb c' p')) := C
    clear HE C Hz
    go_enter Tryz.func57, Tryz.ntmps57
    go_wp2
    go_quiet (fail)
    go_wp2_with fail
    refine (HC.out _).mono ?_
    rintro e w1 ⟨hB1, h1, h2⟩
    have HP1 : Hid (∀ s', R = .go s' → e = .returned (.bool true) ∧ ∃ nv' ov', RS B w1 b t s' nv' ov' mb c q) := h1
    have HP2 : Hid (∀ c' p', R = .bad c' p' → e = .returned (.bool false) ∧ ∃ s2, RS B w1 b t s2 nv ov mb c' p') := h2
    have HB1 : Hid (Below B w w1) := ⟨hB1.os, hB1.tape, hB1.output, hB1.size, hB1.block⟩
    clear h1 h2 hB1
    cases hRR : R with
    | go s' =>
      obtain ⟨rfl, hx⟩ := HP1.out s' hRR
      have HX : Hid (∃ nv' ov', RS B w1 b t s' nv' ov' mb c q) := hx
      have HRR : Hid (R = .go s') := hRR
      clear HP1 HP2 hRR hx
      go_wp2
      go_ret
      refine ⟨HB1.out, ?_, ?_⟩
      · intro s' e; rw [HRR.out] at e; cases e; exact ⟨rfl, HX.out⟩
      · intro c' p' e; rw [HRR.out] at e; cases e
    | bad c' p' =>
      obtain ⟨rfl, s2, hx⟩ := HP2.out c' p' hRR
      have HX : Hid (Bd w1 b c' p') := hx.rb.bd
      have HRR : Hid (R = .bad c' p') := hRR
      clear HP1 HP2 hRR hx
      go_wp2
      go_ret
      refine ⟨HB1.out, ?_, ?_⟩
      · intro s' e; rw [HRR.out] at e; cases e
      · intro c' p' e; rw [HRR.out] at e; cases e; exact ⟨rfl, HX.out⟩
  · have n123 : ((d.toNat : Int) == 123) = false := u8_lit (n := 123) (by omega) h123
    by_cases h91 : d = 91
    · subst h91
      have Hz : Hid (beginF 6 0 s = R) := by show _ = _; rw [← HE.out]; unfold valueF; simp only; rw [Hd.out]; rfl
      have C := fun n => begin_any 6 0 (HD.out n) HOK.out (by omega) (by omega)
      rw [Hz.out] at C
      have HC : Hid (∀ n, Calls Tryz.prog 65 #[.pointer (some ⟨b, 0, none⟩), .int .i64 6, .int .i64 0] (w.drewN n) fun e w' => Below B (w.drewN n) w' ∧ (∀ s', R = .go s' → e = .returned (.bool true) ∧ ∃ nv' ov', RS B w' b t s' nv' ov' mb c q) ∧ (∀ c' p', R = .bad c' p' → e = .returned (.bool false) ∧ ∃ s2, RS B w' b t s2 nv ov mb c' p')) := C
      clear HE C Hz
      go_enter Tryz.func57, Tryz.ntmps57
      go_wp2
      go_quiet (fail)
      go_wp2_with fail
      refine (HC.out _).mono ?_
      rintro e w1 ⟨hB1, h1, h2⟩
      have HP1 : Hid (∀ s', R = .go s' → e = .returned (.bool true) ∧ ∃ nv' ov', RS B w1 b t s' nv' ov' mb c q) := h1
      have HP2 : Hid (∀ c' p', R = .bad c' p' → e = .returned (.bool false) ∧ ∃ s2, RS B w1 b t s2 nv ov mb c' p') := h2
      have HB1 : Hid (Below B w w1) := ⟨hB1.os, hB1.tape, hB1.output, hB1.size, hB1.block⟩
      clear h1 h2 hB1
      cases hRR : R with
      | go s' =>
        obtain ⟨rfl, hx⟩ := HP1.out s' hRR
        have HX : Hid (∃ nv' ov', RS B w1 b t s' nv' ov' mb c q) := hx
        have HRR : Hid (R = .go s') := hRR
        clear HP1 HP2 hRR hx
        go_wp2
        go_ret
        refine ⟨HB1.out, ?_, ?_⟩
        · intro s' e; rw [HRR.out] at e; cases e; exact ⟨rfl, HX.out⟩
        · intro c' p' e; rw [HRR.out] at e; cases e
      | bad c' p' =>
        obtain ⟨rfl, s2, hx⟩ := HP2.out c' p' hRR
        have HX : Hid (Bd w1 b c' p') := hx.rb.bd
        have HRR : Hid (R = .bad c' p') := hRR
        clear HP1 HP2 hRR hx
        go_wp2
        go_ret
        refine ⟨HB1.out, ?_, ?_⟩
        · intro s' e; rw [HRR.out] at e; cases e
        · intro c' p' e; rw [HRR.out] at e; cases e; exact ⟨rfl, HX.out⟩
    · have n91 : ((d.toNat : Int) == 91) = false := u8_lit (n := 91) (by omega) h91
      by_cases h34 : d = 34
      · subst h34
        have C := fun n => quoted_any (w.drewN n) b t s.pos _ c q (HD.out n).rb (HG.out.u8.drewN n) hp (by omega)
        cases hq : quoF t (t.length + 1) (s.pos + 1) [] with
        | bad c1 q1 =>
          have Hz : Hid (R = .bad c1 q1) := by show _ = _; rw [← HE.out]; unfold valueF; simp only; rw [Hd.out]; show (match quoF t (t.length + 1) (s.pos + 1) [] with | .ok l p => Rs.go (addF { nd0 5 with text := l } { s with pos := p }) | .bad c p => Rs.bad c p) = _; rw [hq]
          rw [hq] at C
          have HC : Hid (∀ n, Calls Tryz.prog 66 #[.pointer (some ⟨b, 0, none⟩)] (w.drewN n) fun e w' => But (w.drewN n) w' b ∧ (∀ (l9 : List UInt8) (p' : Nat), Lx.bad c1 q1 = .ok l9 p' → e = .returned (.tuple #[.string ⟨l9.toArray⟩, .bool true]) ∧ RB w' b t p' ⟨.int .i64 (s.aw : Int), nv, ov, .string ⟨s.key.toArray⟩, .map (some mb)⟩ c q) ∧ (∀ c' p', Lx.bad c1 q1 = .bad c' p' → e = .returned (.tuple #[.string ⟨#[]⟩, .bool false]) ∧ ∃ p2, RB w' b t p2 ⟨.int .i64 (s.aw : Int), nv, ov, .string ⟨s.key.toArray⟩, .map (some mb)⟩ c' p')) := C
          clear hq HE C
          go_enter Tryz.func57, Tryz.ntmps57
          go_wp2
          go_quiet (fail)
          go_wp2_with fail
          refine (HC.out _).mono ?_
          rintro e w1 ⟨hB1, _, h1⟩
          obtain ⟨rfl, p2, hR1⟩ := h1 c1 q1 rfl
          clear h1
          have HB1 : Hid (Below B w w1) := (((But.refl w b).drewN _).trans hB1).below H.out.blo H.out.lo
          clear hB1
          go_wp2
          go_ret
          refine ⟨HB1.out, ?_, ?_⟩
          · intro s' e; rw [Hz.out] at e; cases e
          · intro c' p' e; rw [Hz.out] at e; cases e; exact ⟨rfl, hR1.bd⟩
        | ok l p1 =>
          have Hz : Hid (R = .go (addF { nd0 5 with text := l } { s with pos := p1 })) := by show _ = _; rw [← HE.out]; unfold valueF; simp only; rw [Hd.out]; show (match quoF t (t.length + 1) (s.pos + 1) [] with | .ok l p => Rs.go (addF { nd0 5 with text := l } { s with pos := p }) | .bad c p => Rs.bad c p) = _; rw [hq]
          rw [hq] at C
          have HC : Hid (∀ n, Calls Tryz.prog 66 #[.pointer (some ⟨b, 0, none⟩)] (w.drewN n) fun e w' => But (w.drewN n) w' b ∧ (∀ (l9 : List UInt8) (p' : Nat), Lx.ok l p1 = .ok l9 p' → e = .returned (.tuple #[.string ⟨l9.toArray⟩, .bool true]) ∧ RB w' b t p' ⟨.int .i64 (s.aw : Int), nv, ov, .string ⟨s.key.toArray⟩, .map (some mb)⟩ c q) ∧ (∀ c' p', Lx.ok l p1 = .bad c' p' → e = .returned (.tuple #[.string ⟨#[]⟩, .bool false]) ∧ ∃ p2, RB w' b t p2 ⟨.int .i64 (s.aw : Int), nv, ov, .string ⟨s.key.toArray⟩, .map (some mb)⟩ c' p')) := C
          clear hq HE C
          go_enter Tryz.func57, Tryz.ntmps57
          go_wp2
          go_quiet (fail)
          go_wp2_with fail
          refine (HC.out _).mono ?_
          rintro e w1 ⟨hB1, h1, _⟩
          obtain ⟨rfl, hR1⟩ := h1 l p1 rfl
          clear h1
          have HS1 : Hid (RS B w1 b t { s with pos := p1 } nv ov mb c q) := H.out.but (((But.refl w b).drewN _).trans hB1) hR1 rfl rfl rfl
          have HB1 : Hid (Below B w w1) := (((But.refl w b).drewN _).trans hB1).below H.out.blo H.out.lo
          clear hB1 hR1 HC
          have C2 := HADD.out w1 { s with pos := p1 } { nd0 5 with text := l } rfl rfl HS1.out
          have HB2 : Hid (Below B w w1) := HB1.out
          go_wp2_with fail
          refine C2.mono ?_
          rintro e w3 ⟨rfl, hB3, nv', hR3⟩
          go_wp2
          go_ret
          refine ⟨HB2.out.trans hB3, ?_, ?_⟩
          · intro s' e; rw [Hz.out] at e; cases e; exact ⟨rfl, _, _, hR3⟩
          · intro c' p' e; rw [Hz.out] at e; cases e
      · have n34 : ((d.toNat : Int) == 34) = false := u8_lit (n := 34) (by omega) h34
        by_cases h110 : d = 110
        · subst h110
          have C := fun n => literal_any (w.drewN n) b t [110, 117, 108, 108] s.pos _ c q (HD.out n).rb (by omega) (by omega) (by simp)
          cases hq : litF t [110, 117, 108, 108] s.pos with
          | bad c1 q1 =>
            have Hz : Hid (R = .bad c1 q1) := by show _ = _; rw [← HE.out]; unfold valueF; simp only; rw [Hd.out]; show litS t [110, 117, 108, 108] 1 s = _; unfold litS; rw [hq]
            rw [hq] at C
            have HC : Hid (∀ n, Calls Tryz.prog 68 #[.pointer (some ⟨b, 0, none⟩), .string { data := #[110, 117, 108, 108] }] (w.drewN n) fun e w' => But (w.drewN n) w' b ∧ (∀ u p', Lx.bad c1 q1 = .ok u p' → e = .returned (.bool true) ∧ RB w' b t p' ⟨.int .i64 (s.aw : Int), nv, ov, .string ⟨s.key.toArray⟩, .map (some mb)⟩ c q) ∧ (∀ c' p', Lx.bad c1 q1 = .bad c' p' → e = .returned (.bool false) ∧ ∃ p2, RB w' b t p2 ⟨.int .i64 (s.aw : Int), nv, ov, .string ⟨s.key.toArray⟩, .map (some mb)⟩ c' p')) := C
            clear hq HE C
            go_enter Tryz.func57, Tryz.ntmps57
            go_wp2
            go_quiet (fail)
            go_wp2_with fail
            refine (HC.out _).mono ?_
            rintro e w1 ⟨hB1, _, h1⟩
            obtain ⟨rfl, p2, hR1⟩ := h1 c1 q1 rfl
            clear h1
            have HB1 : Hid (Below B w w1) := (((But.refl w b).drewN _).trans hB1).below H.out.blo H.out.lo
            clear hB1
            go_wp2
            go_ret
            refine ⟨HB1.out, ?_, ?_⟩
            · intro s' e; rw [Hz.out] at e; cases e
            · intro c' p' e; rw [Hz.out] at e; cases e; exact ⟨rfl, hR1.bd⟩
          | ok u p1 =>
            have Hz : Hid (R = .go (addF (nd0 1) { s with pos := p1 })) := by show _ = _; rw [← HE.out]; unfold valueF; simp only; rw [Hd.out]; show litS t [110, 117, 108, 108] 1 s = _; unfold litS; rw [hq]
            rw [hq] at C
            have HC : Hid (∀ n, Calls Tryz.prog 68 #[.pointer (some ⟨b, 0, none⟩), .string { data := #[110, 117, 108, 108] }] (w.drewN n) fun e w' => But (w.drewN n) w' b ∧ (∀ u p', Lx.ok u p1 = .ok u p' → e = .returned (.bool true) ∧ RB w' b t p' ⟨.int .i64 (s.aw : Int), nv, ov, .string ⟨s.key.toArray⟩, .map (some mb)⟩ c q) ∧ (∀ c' p', Lx.ok u p1 = .bad c' p' → e = .returned (.bool false) ∧ ∃ p2, RB w' b t p2 ⟨.int .i64 (s.aw : Int), nv, ov, .string ⟨s.key.toArray⟩, .map (some mb)⟩ c' p')) := C
            clear hq HE C
            go_enter Tryz.func57, Tryz.ntmps57
            go_wp2
            go_quiet (fail)
            go_wp2_with fail
            refine (HC.out _).mono ?_
            rintro e w1 ⟨hB1, h1, _⟩
            obtain ⟨rfl, hR1⟩ := h1 u p1 rfl
            clear h1
            have HS1 : Hid (RS B w1 b t { s with pos := p1 } nv ov mb c q) := H.out.but (((But.refl w b).drewN _).trans hB1) hR1 rfl rfl rfl
            have HB1 : Hid (Below B w w1) := (((But.refl w b).drewN _).trans hB1).below H.out.blo H.out.lo
            clear hB1 hR1 HC
            have C2 := HADD.out w1 { s with pos := p1 } (nd0 1) rfl rfl HS1.out
            have HB2 : Hid (Below B w w1) := HB1.out
            go_wp2_with fail
            refine C2.mono ?_
            rintro e w3 ⟨rfl, hB3, nv', hR3⟩
            go_wp2
            go_ret
            refine ⟨HB2.out.trans hB3, ?_, ?_⟩
            · intro s' e; rw [Hz.out] at e; cases e; exact ⟨rfl, _, _, hR3⟩
            · intro c' p' e; rw [Hz.out] at e; cases e
        · have n110 : ((d.toNat : Int) == 110) = false := u8_lit (n := 110) (by omega) h110
          by_cases h102 : d = 102
          · subst h102
            have C := fun n => literal_any (w.drewN n) b t [102, 97, 108, 115, 101] s.pos _ c q (HD.out n).rb (by omega) (by omega) (by simp)
            cases hq : litF t [102, 97, 108, 115, 101] s.pos with
            | bad c1 q1 =>
              have Hz : Hid (R = .bad c1 q1) := by show _ = _; rw [← HE.out]; unfold valueF; simp only; rw [Hd.out]; show litS t [102, 97, 108, 115, 101] 2 s = _; unfold litS; rw [hq]
              rw [hq] at C
              have HC : Hid (∀ n, Calls Tryz.prog 68 #[.pointer (some ⟨b, 0, none⟩), .string { data := #[102, 97, 108, 115, 101] }] (w.drewN n) fun e w' => But (w.drewN n) w' b ∧ (∀ u p', Lx.bad c1 q1 = .ok u p' → e = .returned (.bool true) ∧ RB w' b t p' ⟨.int .i64 (s.aw : Int), nv, ov, .string ⟨s.key.toArray⟩, .map (some mb)⟩ c q) ∧ (∀ c' p', Lx.bad c1 q1 = .bad c' p' → e = .returned (.bool false) ∧ ∃ p2, RB w' b t p2 ⟨.int .i64 (s.aw : Int), nv, ov, .string ⟨s.key.toArray⟩, .map (some mb)⟩ c' p')) := C
              clear hq HE C
              go_enter Tryz.func57, Tryz.ntmps57
              go_wp2
              go_quiet (fail)
              go_wp2_with fail
              refine (HC.out _).mono ?_
              rintro e w1 ⟨hB1, _, h1⟩
              obtain ⟨rfl, p2, hR1⟩ := h1 c1 q1 rfl
              clear h1
              have HB1 : Hid (Below B w w1) := (((But.refl w b).drewN _).trans hB1).below H.out.blo H.out.lo
              clear hB1
              go_wp2
              go_ret
              refine ⟨HB1.out, ?_, ?_⟩
              · intro s' e; rw [Hz.out] at e; cases e
              · intro c' p' e; rw [Hz.out] at e; cases e; exact ⟨rfl, hR1.bd⟩
            | ok u p1 =>
              have Hz : Hid (R = .go (addF (nd0 2) { s with pos := p1 })) := by show _ = _; rw [← HE.out]; unfold valueF; simp only; rw [Hd.out]; show litS t [102, 97, 108, 115, 101] 2 s = _; unfold litS; rw [hq]
              rw [hq] at C
              have HC : Hid (∀ n, Calls Tryz.prog 68 #[.pointer (some ⟨b, 0, none⟩), .string { data := #[102, 97, 108, 115, 101] }] (w.drewN n) fun e w' => But (w.drewN n) w' b ∧ (∀ u p', Lx.ok u p1 = .ok u p' → e = .returned (.bool true) ∧ RB w' b t p' ⟨.int .i64 (s.aw : Int), nv, ov, .string ⟨s.key.toArray⟩, .map (some mb)⟩ c q) ∧ (∀ c' p', Lx.ok u p1 = .bad c' p' → e = .returned (.bool false) ∧ ∃ p2, RB w' b t p2 ⟨.int .i64 (s.aw : Int), nv, ov, .string ⟨s.key.toArray⟩, .map (some mb)⟩ c' p')) := C
              clear hq HE C
              go_enter Tryz.func57, Tryz.ntmps57
              go_wp2
              go_quiet (fail)
              go_wp2_with fail
              refine (HC.out _).mono ?_
              rintro e w1 ⟨hB1, h1, _⟩
              obtain ⟨rfl, hR1⟩ := h1 u p1 rfl
              clear h1
              have HS1 : Hid (RS B w1 b t { s with pos := p1 } nv ov mb c q) := H.out.but (((But.refl w b).drewN _).trans hB1) hR1 rfl rfl rfl
              have HB1 : Hid (Below B w w1) := (((But.refl w b).drewN _).trans hB1).below H.out.blo H.out.lo
              clear hB1 hR1 HC
              have C2 := HADD.out w1 { s with pos := p1 } (nd0 2) rfl rfl HS1.out
              have HB2 : Hid (Below B w w1) := HB1.out
              go_wp2_with fail
              refine C2.mono ?_
              rintro e w3 ⟨rfl, hB3, nv', hR3⟩
              go_wp2
              go_ret
              refine ⟨HB2.out.trans hB3, ?_, ?_⟩
              · intro s' e; rw [Hz.out] at e; cases e; exact ⟨rfl, _, _, hR3⟩
              · intro c' p' e; rw [Hz.out] at e; cases e
          · have n102 : ((d.toNat : Int) == 102) = false := u8_lit (n := 102) (by omega) h102
            by_cases h116 : d = 116
            · subst h116
              have C := fun n => literal_any (w.drewN n) b t [116, 114, 117, 101] s.pos _ c q (HD.out n).rb (by omega) (by omega) (by simp)
              cases hq : litF t [116, 114, 117, 101] s.pos with
              | bad c1 q1 =>
                have Hz : Hid (R = .bad c1 q1) := by show _ = _; rw [← HE.out]; unfold valueF; simp only; rw [Hd.out]; show litS t [116, 114, 117, 101] 3 s = _; unfold litS; rw [hq]
                rw [hq] at C
                have HC : Hid (∀ n, Calls Tryz.prog 68 #[.pointer (some ⟨b, 0, none⟩), .string { data := #[116, 114, 117, 101] }] (w.drewN n) fun e w' => But (w.drewN n) w' b ∧ (∀ u p', Lx.bad c1 q1 = .ok u p' → e = .returned (.bool true) ∧ RB w' b t p' ⟨.int .i64 (s.aw : Int), nv, ov, .string ⟨s.key.toArray⟩, .map (some mb)⟩ c q) ∧ (∀ c' p', Lx.bad c1 q1 = .bad c' p' → e = .returned (.bool false) ∧ ∃ p2, RB w' b t p2 ⟨.int .i64 (s.aw : Int), nv, ov, .string ⟨s.key.toArray⟩, .map (some mb)⟩ c' p')) := C
                clear hq HE C
                go_enter Tryz.func57, Tryz.ntmps57
                go_wp2
                go_quiet (fail)
                go_wp2_with fail
                refine (HC.out _).mono ?_
                rintro e w1 ⟨hB1, _, h1⟩
                obtain ⟨rfl, p2, hR1⟩ := h1 c1 q1 rfl
                clear h1
                have HB1 : Hid (Below B w w1) := (((But.refl w b).drewN _).trans hB1).below H.out.blo H.out.lo
                clear hB1
                go_wp2
                go_ret
                refine ⟨HB1.out, ?_, ?_⟩
                · intro s' e; rw [Hz.out] at e; cases e
                · intro c' p' e; rw [Hz.out] at e; cases e; exact ⟨rfl, hR1.bd⟩
              | ok u p1 =>
                have Hz : Hid (R = .go (addF (nd0 3) { s with pos := p1 })) := by show _ = _; rw [← HE.out]; unfold valueF; simp only; rw [Hd.out]; show litS t [116, 114, 117, 101] 3 s = _; unfold litS; rw [hq]
                rw [hq] at C
                have HC : Hid (∀ n, Calls Tryz.prog 68 #[.pointer (some ⟨b, 0, none⟩), .string { data := #[116, 114, 117, 101] }] (w.drewN n) fun e w' => But (w.drewN n) w' b ∧ (∀ u p', Lx.ok u p1 = .ok u p' → e = .returned (.bool true) ∧ RB w' b t p' ⟨.int .i64 (s.aw : Int), nv, ov, .string ⟨s.key.toArray⟩, .map (some mb)⟩ c q) ∧ (∀ c' p', Lx.ok u p1 = .bad c' p' → e = .returned (.bool false) ∧ ∃ p2, RB w' b t p2 ⟨.int .i64 (s.aw : Int), nv, ov, .string ⟨s.key.toArray⟩, .map (some mb)⟩ c' p')) := C
                clear hq HE C
                go_enter Tryz.func57, Tryz.ntmps57
                go_wp2
                go_quiet (fail)
                go_wp2_with fail
                refine (HC.out _).mono ?_
                rintro e w1 ⟨hB1, h1, _⟩
                obtain ⟨rfl, hR1⟩ := h1 u p1 rfl
                clear h1
                have HS1 : Hid (RS B w1 b t { s with pos := p1 } nv ov mb c q) := H.out.but (((But.refl w b).drewN _).trans hB1) hR1 rfl rfl rfl
                have HB1 : Hid (Below B w w1) := (((But.refl w b).drewN _).trans hB1).below H.out.blo H.out.lo
                clear hB1 hR1 HC
                have C2 := HADD.out w1 { s with pos := p1 } (nd0 3) rfl rfl HS1.out
                have HB2 : Hid (Below B w w1) := HB1.out
                go_wp2_with fail
                refine C2.mono ?_
                rintro e w3 ⟨rfl, hB3, nv', hR3⟩
                go_wp2
                go_ret
                refine ⟨HB2.out.trans hB3, ?_, ?_⟩
                · intro s' e; rw [Hz.out] at e; cases e; exact ⟨rfl, _, _, hR3⟩
                · intro c' p' e; rw [Hz.out] at e; cases e
            · have n116 : ((d.toNat : Int) == 116) = false := u8_lit (n := 116) (by omega) h116
              have C := fun n => number_any (w.drewN n) b t s.pos _ c q (HD.out n).rb (by omega) (by omega)
              cases hq : numL t s.pos with
              | bad c1 q1 =>
                have Hz : Hid (R = .bad c1 q1) := by show _ = _; rw [← HE.out]; unfold valueF; simp only; rw [Hd.out, if_neg h123, if_neg h91, if_neg h34, if_neg h110, if_neg h102, if_neg h116, hq]
                rw [hq] at C
                have HC : Hid (∀ n, Calls Tryz.prog 69 #[.pointer (some ⟨b, 0, none⟩)] (w.drewN n) fun e w' => But (w.drewN n) w' b ∧ (∀ u p', Lx.bad c1 q1 = .ok u p' → e = .returned (.tuple #[.string ⟨(sgl t s.pos p').toArray⟩, .bool true]) ∧ RB w' b t p' ⟨.int .i64 (s.aw : Int), nv, ov, .string ⟨s.key.toArray⟩, .map (some mb)⟩ c q) ∧ (∀ c' p', Lx.bad c1 q1 = .bad c' p' → e = .returned (.tuple #[.string ⟨#[]⟩, .bool false]) ∧ ∃ p2, RB w' b t p2 ⟨.int .i64 (s.aw : Int), nv, ov, .string ⟨s.key.toArray⟩, .map (some mb)⟩ c' p')) := C
                clear hq HE C
                go_enter Tryz.func57, Tryz.ntmps57
                go_wp2
                go_quiet (fail)
                go_wp2_with fail
                refine (HC.out _).mono ?_
                rintro e w1 ⟨hB1, _, h1⟩
                obtain ⟨rfl, p2, hR1⟩ := h1 c1 q1 rfl
                clear h1
                have HB1 : Hid (Below B w w1) := (((But.refl w b).drewN _).trans hB1).below H.out.blo H.out.lo
                clear hB1
                go_wp2
                go_ret
                refine ⟨HB1.out, ?_, ?_⟩
                · intro s' e; rw [Hz.out] at e; cases e
                · intro c' p' e; rw [Hz.out] at e; cases e; exact ⟨rfl, hR1.bd⟩
              | ok u p1 =>
                have Hz : Hid (R = .go (addF (numN (sgl t s.pos p1)) { s with pos := p1 })) := by show _ = _; rw [← HE.out]; unfold valueF; simp only; rw [Hd.out, if_neg h123, if_neg h91, if_neg h34, if_neg h110, if_neg h102, if_neg h116, hq]
                rw [hq] at C
                have HC : Hid (∀ n, Calls Tryz.prog 69 #[.pointer (some ⟨b, 0, none⟩)] (w.drewN n) fun e w' => But (w.drewN n) w' b ∧ (∀ u p', Lx.ok u p1 = .ok u p' → e = .returned (.tuple #[.string ⟨(sgl t s.pos p').toArray⟩, .bool true]) ∧ RB w' b t p' ⟨.int .i64 (s.aw : Int), nv, ov, .string ⟨s.key.toArray⟩, .map (some mb)⟩ c q) ∧ (∀ c' p', Lx.ok u p1 = .bad c' p' → e = .returned (.tuple #[.string ⟨#[]⟩, .bool false]) ∧ ∃ p2, RB w' b t p2 ⟨.int .i64 (s.aw : Int), nv, ov, .string ⟨s.key.toArray⟩, .map (some mb)⟩ c' p')) := C
                have hpl := numL_ok hq
                clear hq HE C
                go_enter Tryz.func57, Tryz.ntmps57
                go_wp2
                go_quiet (fail)
                go_wp2_with fail
                refine (HC.out _).mono ?_
                rintro e w1 ⟨hB1, h1, _⟩
                obtain ⟨rfl, hR1⟩ := h1 u p1 rfl
                clear h1
                have HS1 : Hid (RS B w1 b t { s with pos := p1 } nv ov mb c q) := H.out.but (((But.refl w b).drewN _).trans hB1) hR1 rfl rfl rfl
                have HB1 : Hid (Below B w w1) := (((But.refl w b).drewN _).trans hB1).below H.out.blo H.out.lo
                clear hB1 hR1 HC
                have CN := numberNode_any (B := B) (sgl t s.pos p1) w1 (by have := sgl_le t s.pos p1; omega) (HG.out.below HB1.out) HS1.out.blo
                obtain ⟨NN, hNN⟩ : ∃ NN, NN = numN (sgl t s.pos p1) := ⟨_, rfl⟩
                rw [← hNN] at CN Hz
                clear hNN
                go_wp2_with fail
                refine CN.mono ?_
                rintro e w2 ⟨rfl, hB2⟩
                have C2 := HADD.out w2 { s with pos := p1 } NN rfl rfl (HS1.out.below hB2)
                have HB2 : Hid (Below B w w2) := HB1.out.trans (hB2.mono HS1.out.blo)
                clear hB2
                go_wp2_with fail
                refine C2.mono ?_
                rintro e w3 ⟨rfl, hB3, nv', hR3⟩
                go_wp2
                go_ret
                refine ⟨HB2.out.trans hB3, ?_, ?_⟩
                · intro s' e; rw [Hz.out] at e; cases e; exact ⟨rfl, _, _, hR3⟩
                · intro c' p' e; rw [Hz.out] at e; cases e

end Go.Proofs.YtcdcfgkgighmhaaGreatDoor
