import Derived.Test.YtidmjojlhcgedaaTg
namespace Go.Proofs.Ytidmjojlhcgedaa
open Go.RowKit Go.Maps
set_option maxRecDepth 100000

theorem rtake_big (B0 gm : Nat) (b : Bk) (nm : List UInt8) (u now : Int) (w : World) (h : Mq w B0 gm b) (_ : B0 ≤ w.heap.size) (h1 : 1024 < nm.length) :
    Calls Try.prog 47 #[.pointer (some ⟨gm, 0, none⟩), .string ⟨nm.toArray⟩, .int .i64 u, .int .i64 now] w fun e w' => e = .returned (.int .i64 10) ∧ Mq w' B0 gm b ∧ Below B0 w w' ∧ Md w w' := by
  have hH : Hid (Mq w B0 gm b) := h
  clear h
  go_enter Try.func47, Try.ntmps47
  go_wp2_with fail
  go_ret
  exact ⟨rfl, hH.out, Below.refl _ _, Md.refl _⟩
theorem rtake_back (B0 gm : Nat) (b : Bk) (nm : List UInt8) (u now : Int) (w : World) (h : Mq w B0 gm b) (_ : B0 ≤ w.heap.size) (h1 : ¬ 1024 < nm.length) (h2 : b.has = true ∧ now < b.clk) :
    Calls Try.prog 47 #[.pointer (some ⟨gm, 0, none⟩), .string ⟨nm.toArray⟩, .int .i64 u, .int .i64 now] w fun e w' => e = .returned (.int .i64 162) ∧ Mq w' B0 gm b ∧ Below B0 w w' ∧ Md w w' := by
  have hH : Hid (Mq w B0 gm b) := h
  obtain ⟨v, l, hr, _⟩ := h
  have c0 := hr.cells.cell 0 (by simp)
  have c1 := hr.cells.cell 1 (by simp)
  simp only [List.getElem_cons_zero, List.getElem_cons_succ] at c0 c1
  obtain ⟨q1, q2⟩ := h2
  rw [q1] at c0
  have q : decide (now < b.clk) = true := by simpa using q2
  clear hr
  go_enter Try.func47, Try.ntmps47
  go_wp2_with fail
  go_ret
  exact ⟨rfl, hH.out, Below.refl _ _, Md.refl _⟩

/-- The clock is set. -/
theorem Mr.clock {w : World} {B0 gm : Nat} {has : Bool} {clk now : Int} {v : Value} {l : List En} (h : Mr w B0 gm has clk v l) (hB0 : B0 ≤ w.heap.size) :
    Mr ((w.setCell ⟨gm, 0, none⟩ (.bool true)).setCell ⟨gm, 1, none⟩ (.int .i64 now)) B0 gm true now v l ∧ Below B0 w ((w.setCell ⟨gm, 0, none⟩ (.bool true)).setCell ⟨gm, 1, none⟩ (.int .i64 now)) ∧ Md w ((w.setCell ⟨gm, 0, none⟩ (.bool true)).setCell ⟨gm, 1, none⟩ (.int .i64 now)) := by
  have hc : Chf (fun k => k = gm) w ((w.setCell ⟨gm, 0, none⟩ (.bool true)).setCell ⟨gm, 1, none⟩ (.int .i64 now)) := Chf.set (f := fun k => k = gm) (Chf.set (f := fun k => k = gm) (Chf.refl _ w) (.inl rfl) _) (.inl rfl) _
  refine ⟨⟨(h.cells.set 0 _).set 1 _, h.own.chf hc (h.own.nm h.cells), h.low⟩, hc.below hB0 (fun k hk => by rw [hk]; exact h.low), Md.of_chf hc (fun k hk _ => .inl ?_)⟩
  subst hk
  exact ⟨_, _, h.cells⟩
/-- The list is set. -/
theorem Mr.list {w : World} {B0 gm : Nat} {has : Bool} {clk : Int} {v v' : Value} {l l' : List En} (h : Mr w B0 gm has clk v l) (hB0 : B0 ≤ w.heap.size) (ho : Oq w B0 v' l') :
    Mr (w.setCell ⟨gm, 2, none⟩ v') B0 gm has clk v' l' ∧ Below B0 w (w.setCell ⟨gm, 2, none⟩ v') ∧ Md w (w.setCell ⟨gm, 2, none⟩ v') := by
  have hc : Chf (fun k => k = gm) w (w.setCell ⟨gm, 2, none⟩ v') := Chf.set (f := fun k => k = gm) (Chf.refl _ w) (.inl rfl) _
  refine ⟨⟨h.cells.set 2 _, ho.chf hc (ho.nm h.cells), h.low⟩, hc.below hB0 (fun k hk => by rw [hk]; exact h.low), Md.of_chf hc (fun k hk _ => .inl ?_)⟩
  subst hk
  exact ⟨_, _, h.cells⟩
/-- The list grows. -/
theorem Mr.grown {w w' : World} {B0 gm : Nat} {has : Bool} {clk : Int} {v v' : Value} {l l' : List En} (h : Mr w B0 gm has clk v l) (hB0 : B0 ≤ w.heap.size) (hc : Chf (fun k => v.ownBlock = some k) w w') (ho : Oq w' B0 v' l') :
    Mr (w'.setCell ⟨gm, 2, none⟩ v') B0 gm has clk v' l' ∧ Below B0 w (w'.setCell ⟨gm, 2, none⟩ v') ∧ Md w (w'.setCell ⟨gm, 2, none⟩ v') := by
  have hne : ¬ v.ownBlock = some gm := fun e => h.own.nm h.cells gm e rfl
  have hcl : Bl 74 w' gm [.bool has, .int .i64 clk, v] := h.cells.chf hc hne
  have h2 : Chf (fun k => k = gm) w' (w'.setCell ⟨gm, 2, none⟩ v') := Chf.set (f := fun k => k = gm) (Chf.refl _ w') (.inl rfl) _
  refine ⟨⟨hcl.set 2 _, ho.chf h2 (ho.nm hcl), h.low⟩, (hc.below hB0 h.own.low).trans (h2.below (Nat.le_trans hB0 hc.size) (fun k hk => by rw [hk]; exact h.low)), (Md.of_chf hc (fun k hk _ => .inr ?_)).trans (Md.of_chf h2 (fun k hk _ => .inl ?_))⟩
  · obtain ⟨cs, e⟩ := h.own.typ k hk
    exact ⟨_, _, e⟩
  · subst hk
    exact ⟨_, _, hcl⟩

set_option maxHeartbeats 2000000 in
theorem rtake_late (B0 gm : Nat) (b : Bk) (nm : List UInt8) (u now : Int) (w : World) (h : Mq w B0 gm b) (hB0 : B0 ≤ w.heap.size) (hk : BkOk b) (hN : I64 now) (h1 : ¬ 1024 < nm.length) (h2 : ¬ (b.has = true ∧ now < b.clk)) (h3 : u < now) :
    Calls Try.prog 47 #[.pointer (some ⟨gm, 0, none⟩), .string ⟨nm.toArray⟩, .int .i64 u, .int .i64 now] w fun e w' => e = .returned (.int .i64 134) ∧ Mq w' B0 gm ⟨true, now, livF now b.L⟩ ∧ Below B0 w w' ∧ Md w w' := by
  obtain ⟨v, l, hr, hp⟩ := h
  obtain ⟨ao, cap, rfl, _⟩ := hr.mok
  have hR : Hid (Mr w B0 gm b.has b.clk (.slice ao l.length cap) l) := hr
  have hlen : Hid (l.length ≤ 100000000) := by show _ ≤ _; have := hp.length_eq; have := hk.len; omega
  have hnd : Hid ((l.map (·.1)).Nodup) := perm_nodup hp hk.srt
  have hsrt : Hid (Srt (livF now b.L)) := hk.srt.liv now
  have hprm : Hid ((livF now b.L).Perm (livF now l)) := (hp.filter _).symm
  have hok : Hid (BkOk ⟨true, now, livF now b.L⟩) := ⟨hk.srt.liv now, fun p hp => hk.nm p (mem_livF.1 hp).1, fun p hp => ⟨(mem_livF.1 hp).2, (hk.ends p (mem_livF.1 hp).1).2⟩, Nat.le_trans (livF_le _ _) hk.len, hN, fun e => by cases e⟩
  have c0 := hr.cells.cell 0 (by simp)
  have c1 := hr.cells.cell 1 (by simp)
  simp only [List.getElem_cons_zero, List.getElem_cons_succ] at c0 c1
  have f0 := hr.cells.frozen 0
  have f1 := hr.cells.frozen 1
  have q3 : decide (u < now) = true := by simpa using h3
  clear hr hp hk
  obtain ⟨hs, hhs⟩ : ∃ x, b.has = x := ⟨_, rfl⟩
  rw [hhs] at hR c0 h2
  clear hhs
  cases hs with
  | false =>
    clear h2
    go_enter Try.func47, Try.ntmps47
    go_upto_region 7 with fail
    have hS1 := hR.out.clock (now := now) hB0
    obtain ⟨w1, hw1⟩ : ∃ w1, (w.setCell ⟨gm, 0, none⟩ (.bool true)).setCell ⟨gm, 1, none⟩ (.int .i64 now) = w1 := ⟨_, rfl⟩
    rw [hw1] at hS1 ⊢
    have hR1 : Hid (Mr w1 B0 gm true now (.slice ao l.length cap) l) := hS1.1
    have hb1 : Hid (Below B0 w w1) := hS1.2.1
    have hm1 : Hid (Md w w1) := hS1.2.2
    clear hw1 hS1 hR
    clear c0 c1
    go_wp2_with fail
    refine (rkept_any gm true now ao cap l (livF now b.L) w1 hR1.out.mok' hlen.out hnd.out hsrt.out hprm.out).mono ?_
    rintro e w2 ⟨v2, rfl, hO2', hb2'⟩
    obtain ⟨a2, c2, e2, _⟩ := hO2'.rd
    obtain ⟨n, hn⟩ : ∃ n, (livF now b.L).length = n := ⟨_, rfl⟩
    rw [hn] at e2
    have hnh : Hid ((livF now b.L).length = n) := hn
    clear hn
    subst e2
    have hO2 : Hid (Oq w2 B0 (.slice a2 n c2) (livF now b.L)) := hO2'.base (Nat.le_trans hB0 hb1.out.size)
    have hR2 : Hid (Mr w2 B0 gm true now (.slice ao l.length cap) l) := hR1.out.below hb2' (Nat.le_refl _)
    have hb2 : Hid (Below B0 w w2) := hb1.out.trans (hb2'.mono (Nat.le_trans hB0 hb1.out.size))
    have hm2 : Hid (Md w w2) := hm1.out.trans (Md.of_below hb2')
    clear hO2' hb2' hR1 hb1 hm1
    have s2 := hR2.out.cells.cell 2 (by simp)
    simp only [List.getElem_cons_zero, List.getElem_cons_succ] at s2
    have f2 := hR2.out.cells.frozen 2
    have hS3h : Hid (Mr (w2.setCell ⟨gm, 2, none⟩ (.slice a2 n c2)) B0 gm true now (.slice a2 n c2) (livF now b.L) ∧ Below B0 w2 (w2.setCell ⟨gm, 2, none⟩ (.slice a2 n c2)) ∧ Md w2 (w2.setCell ⟨gm, 2, none⟩ (.slice a2 n c2))) := hR2.out.list (Nat.le_trans hB0 hb2.out.size) hO2.out
    clear hO2
    go_upto_region 8 with fail
    have hS3 := hS3h.out
    obtain ⟨w3, hw3⟩ : ∃ w3, w2.setCell ⟨gm, 2, none⟩ (.slice a2 n c2) = w3 := ⟨_, rfl⟩
    rw [hw3] at hS3 ⊢
    have hR3 : Hid (Mr w3 B0 gm true now (.slice a2 n c2) (livF now b.L)) := hS3.1
    have hb3 : Hid (Below B0 w w3) := hb2.out.trans hS3.2.1
    have hm3 : Hid (Md w w3) := hm2.out.trans hS3.2.2
    clear hw3 hS3 hS3h hR2 hb2 hm2 s2 f2
    go_wp2_with fail
    go_ret
    exact ⟨rfl, ⟨_, _, hR3.out, .refl _⟩, hb3.out, hm3.out⟩
  | true =>
    have q : decide (now < b.clk) = false := by simpa using h2
    clear h2
    go_enter Try.func47, Try.ntmps47
    go_upto_region 7 with fail
    have hS1 := hR.out.clock (now := now) hB0
    obtain ⟨w1, hw1⟩ : ∃ w1, (w.setCell ⟨gm, 0, none⟩ (.bool true)).setCell ⟨gm, 1, none⟩ (.int .i64 now) = w1 := ⟨_, rfl⟩
    rw [hw1] at hS1 ⊢
    have hR1 : Hid (Mr w1 B0 gm true now (.slice ao l.length cap) l) := hS1.1
    have hb1 : Hid (Below B0 w w1) := hS1.2.1
    have hm1 : Hid (Md w w1) := hS1.2.2
    clear hw1 hS1 hR
    clear c0 c1
    go_wp2_with fail
    refine (rkept_any gm true now ao cap l (livF now b.L) w1 hR1.out.mok' hlen.out hnd.out hsrt.out hprm.out).mono ?_
    rintro e w2 ⟨v2, rfl, hO2', hb2'⟩
    obtain ⟨a2, c2, e2, _⟩ := hO2'.rd
    obtain ⟨n, hn⟩ : ∃ n, (livF now b.L).length = n := ⟨_, rfl⟩
    rw [hn] at e2
    have hnh : Hid ((livF now b.L).length = n) := hn
    clear hn
    subst e2
    have hO2 : Hid (Oq w2 B0 (.slice a2 n c2) (livF now b.L)) := hO2'.base (Nat.le_trans hB0 hb1.out.size)
    have hR2 : Hid (Mr w2 B0 gm true now (.slice ao l.length cap) l) := hR1.out.below hb2' (Nat.le_refl _)
    have hb2 : Hid (Below B0 w w2) := hb1.out.trans (hb2'.mono (Nat.le_trans hB0 hb1.out.size))
    have hm2 : Hid (Md w w2) := hm1.out.trans (Md.of_below hb2')
    clear hO2' hb2' hR1 hb1 hm1
    have s2 := hR2.out.cells.cell 2 (by simp)
    simp only [List.getElem_cons_zero, List.getElem_cons_succ] at s2
    have f2 := hR2.out.cells.frozen 2
    have hS3h : Hid (Mr (w2.setCell ⟨gm, 2, none⟩ (.slice a2 n c2)) B0 gm true now (.slice a2 n c2) (livF now b.L) ∧ Below B0 w2 (w2.setCell ⟨gm, 2, none⟩ (.slice a2 n c2)) ∧ Md w2 (w2.setCell ⟨gm, 2, none⟩ (.slice a2 n c2))) := hR2.out.list (Nat.le_trans hB0 hb2.out.size) hO2.out
    clear hO2
    go_upto_region 8 with fail
    have hS3 := hS3h.out
    obtain ⟨w3, hw3⟩ : ∃ w3, w2.setCell ⟨gm, 2, none⟩ (.slice a2 n c2) = w3 := ⟨_, rfl⟩
    rw [hw3] at hS3 ⊢
    have hR3 : Hid (Mr w3 B0 gm true now (.slice a2 n c2) (livF now b.L)) := hS3.1
    have hb3 : Hid (Below B0 w w3) := hb2.out.trans hS3.2.1
    have hm3 : Hid (Md w w3) := hm2.out.trans hS3.2.2
    clear hw3 hS3 hS3h hR2 hb2 hm2 s2 f2
    go_wp2_with fail
    go_ret
    exact ⟨rfl, ⟨_, _, hR3.out, .refl _⟩, hb3.out, hm3.out⟩

set_option maxHeartbeats 2000000 in
theorem rtake_twice (B0 gm : Nat) (b : Bk) (nm : List UInt8) (u now : Int) (w : World) (h : Mq w B0 gm b) (hB0 : B0 ≤ w.heap.size) (hk : BkOk b) (hN : I64 now) (h1 : ¬ 1024 < nm.length) (h2 : ¬ (b.has = true ∧ now < b.clk)) (h3 : ¬ u < now) (h4 : hasF nm (livF now b.L) = true) :
    Calls Try.prog 47 #[.pointer (some ⟨gm, 0, none⟩), .string ⟨nm.toArray⟩, .int .i64 u, .int .i64 now] w fun e w' => e = .returned (.int .i64 160) ∧ Mq w' B0 gm ⟨true, now, livF now b.L⟩ ∧ Below B0 w w' ∧ Md w w' := by
  obtain ⟨v, l, hr, hp⟩ := h
  obtain ⟨ao, cap, rfl, _⟩ := hr.mok
  have hR : Hid (Mr w B0 gm b.has b.clk (.slice ao l.length cap) l) := hr
  have hlen : Hid (l.length ≤ 100000000) := by show _ ≤ _; have := hp.length_eq; have := hk.len; omega
  have hnd : Hid ((l.map (·.1)).Nodup) := perm_nodup hp hk.srt
  have hsrt : Hid (Srt (livF now b.L)) := hk.srt.liv now
  have hprm : Hid ((livF now b.L).Perm (livF now l)) := (hp.filter _).symm
  have hok : Hid (BkOk ⟨true, now, livF now b.L⟩) := ⟨hk.srt.liv now, fun p hp => hk.nm p (mem_livF.1 hp).1, fun p hp => ⟨(mem_livF.1 hp).2, (hk.ends p (mem_livF.1 hp).1).2⟩, Nat.le_trans (livF_le _ _) hk.len, hN, fun e => by cases e⟩
  have c0 := hr.cells.cell 0 (by simp)
  have c1 := hr.cells.cell 1 (by simp)
  simp only [List.getElem_cons_zero, List.getElem_cons_succ] at c0 c1
  have f0 := hr.cells.frozen 0
  have f1 := hr.cells.frozen 1
  have q3 : decide (u < now) = false := by simpa using h3
  have q4 : Hid (hasF nm (livF now b.L) = true) := h4
  clear h4
  clear hr hp hk
  obtain ⟨hs, hhs⟩ : ∃ x, b.has = x := ⟨_, rfl⟩
  rw [hhs] at hR c0 h2
  clear hhs
  cases hs with
  | false =>
    clear h2
    go_enter Try.func47, Try.ntmps47
    go_upto_region 7 with fail
    have hS1 := hR.out.clock (now := now) hB0
    obtain ⟨w1, hw1⟩ : ∃ w1, (w.setCell ⟨gm, 0, none⟩ (.bool true)).setCell ⟨gm, 1, none⟩ (.int .i64 now) = w1 := ⟨_, rfl⟩
    rw [hw1] at hS1 ⊢
    have hR1 : Hid (Mr w1 B0 gm true now (.slice ao l.length cap) l) := hS1.1
    have hb1 : Hid (Below B0 w w1) := hS1.2.1
    have hm1 : Hid (Md w w1) := hS1.2.2
    clear hw1 hS1 hR
    clear c0 c1
    go_wp2_with fail
    refine (rkept_any gm true now ao cap l (livF now b.L) w1 hR1.out.mok' hlen.out hnd.out hsrt.out hprm.out).mono ?_
    rintro e w2 ⟨v2, rfl, hO2', hb2'⟩
    obtain ⟨a2, c2, e2, _⟩ := hO2'.rd
    obtain ⟨n, hn⟩ : ∃ n, (livF now b.L).length = n := ⟨_, rfl⟩
    rw [hn] at e2
    have hnh : Hid ((livF now b.L).length = n) := hn
    clear hn
    subst e2
    have hO2 : Hid (Oq w2 B0 (.slice a2 n c2) (livF now b.L)) := hO2'.base (Nat.le_trans hB0 hb1.out.size)
    have hR2 : Hid (Mr w2 B0 gm true now (.slice ao l.length cap) l) := hR1.out.below hb2' (Nat.le_refl _)
    have hb2 : Hid (Below B0 w w2) := hb1.out.trans (hb2'.mono (Nat.le_trans hB0 hb1.out.size))
    have hm2 : Hid (Md w w2) := hm1.out.trans (Md.of_below hb2')
    clear hO2' hb2' hR1 hb1 hm1
    have s2 := hR2.out.cells.cell 2 (by simp)
    simp only [List.getElem_cons_zero, List.getElem_cons_succ] at s2
    have f2 := hR2.out.cells.frozen 2
    have hS3h : Hid (Mr (w2.setCell ⟨gm, 2, none⟩ (.slice a2 n c2)) B0 gm true now (.slice a2 n c2) (livF now b.L) ∧ Below B0 w2 (w2.setCell ⟨gm, 2, none⟩ (.slice a2 n c2)) ∧ Md w2 (w2.setCell ⟨gm, 2, none⟩ (.slice a2 n c2))) := hR2.out.list (Nat.le_trans hB0 hb2.out.size) hO2.out
    clear hO2
    go_upto_region 8 with fail
    have hS3 := hS3h.out
    obtain ⟨w3, hw3⟩ : ∃ w3, w2.setCell ⟨gm, 2, none⟩ (.slice a2 n c2) = w3 := ⟨_, rfl⟩
    rw [hw3] at hS3 ⊢
    have hR3 : Hid (Mr w3 B0 gm true now (.slice a2 n c2) (livF now b.L)) := hS3.1
    have hb3 : Hid (Below B0 w w3) := hb2.out.trans hS3.2.1
    have hm3 : Hid (Md w w3) := hm2.out.trans hS3.2.2
    clear hw3 hS3 hS3h hR2 hb2 hm2 s2 f2
    have HC := rhasq_any B0 gm ⟨true, now, livF now b.L⟩ nm w3 ⟨_, _, hR3.out, .refl _⟩ hok.out
    rw [show hasF nm (⟨true, now, livF now b.L⟩ : Bk).L = true from q4.out] at HC
    go_wp2_with fail
    refine HC.mono ?_
    rintro e w4 ⟨rfl, q, rfl⟩
    clear HC
    go_wp2_with fail
    go_ret
    exact ⟨rfl, ⟨_, _, hR3.out.drewN _, .refl _⟩, below_drewN hb3.out _, hm3.out.drewN _⟩
  | true =>
    have q : decide (now < b.clk) = false := by simpa using h2
    clear h2
    go_enter Try.func47, Try.ntmps47
    go_upto_region 7 with fail
    have hS1 := hR.out.clock (now := now) hB0
    obtain ⟨w1, hw1⟩ : ∃ w1, (w.setCell ⟨gm, 0, none⟩ (.bool true)).setCell ⟨gm, 1, none⟩ (.int .i64 now) = w1 := ⟨_, rfl⟩
    rw [hw1] at hS1 ⊢
    have hR1 : Hid (Mr w1 B0 gm true now (.slice ao l.length cap) l) := hS1.1
    have hb1 : Hid (Below B0 w w1) := hS1.2.1
    have hm1 : Hid (Md w w1) := hS1.2.2
    clear hw1 hS1 hR
    clear c0 c1
    go_wp2_with fail
    refine (rkept_any gm true now ao cap l (livF now b.L) w1 hR1.out.mok' hlen.out hnd.out hsrt.out hprm.out).mono ?_
    rintro e w2 ⟨v2, rfl, hO2', hb2'⟩
    obtain ⟨a2, c2, e2, _⟩ := hO2'.rd
    obtain ⟨n, hn⟩ : ∃ n, (livF now b.L).length = n := ⟨_, rfl⟩
    rw [hn] at e2
    have hnh : Hid ((livF now b.L).length = n) := hn
    clear hn
    subst e2
    have hO2 : Hid (Oq w2 B0 (.slice a2 n c2) (livF now b.L)) := hO2'.base (Nat.le_trans hB0 hb1.out.size)
    have hR2 : Hid (Mr w2 B0 gm true now (.slice ao l.length cap) l) := hR1.out.below hb2' (Nat.le_refl _)
    have hb2 : Hid (Below B0 w w2) := hb1.out.trans (hb2'.mono (Nat.le_trans hB0 hb1.out.size))
    have hm2 : Hid (Md w w2) := hm1.out.trans (Md.of_below hb2')
    clear hO2' hb2' hR1 hb1 hm1
    have s2 := hR2.out.cells.cell 2 (by simp)
    simp only [List.getElem_cons_zero, List.getElem_cons_succ] at s2
    have f2 := hR2.out.cells.frozen 2
    have hS3h : Hid (Mr (w2.setCell ⟨gm, 2, none⟩ (.slice a2 n c2)) B0 gm true now (.slice a2 n c2) (livF now b.L) ∧ Below B0 w2 (w2.setCell ⟨gm, 2, none⟩ (.slice a2 n c2)) ∧ Md w2 (w2.setCell ⟨gm, 2, none⟩ (.slice a2 n c2))) := hR2.out.list (Nat.le_trans hB0 hb2.out.size) hO2.out
    clear hO2
    go_upto_region 8 with fail
    have hS3 := hS3h.out
    obtain ⟨w3, hw3⟩ : ∃ w3, w2.setCell ⟨gm, 2, none⟩ (.slice a2 n c2) = w3 := ⟨_, rfl⟩
    rw [hw3] at hS3 ⊢
    have hR3 : Hid (Mr w3 B0 gm true now (.slice a2 n c2) (livF now b.L)) := hS3.1
    have hb3 : Hid (Below B0 w w3) := hb2.out.trans hS3.2.1
    have hm3 : Hid (Md w w3) := hm2.out.trans hS3.2.2
    clear hw3 hS3 hS3h hR2 hb2 hm2 s2 f2
    have HC := rhasq_any B0 gm ⟨true, now, livF now b.L⟩ nm w3 ⟨_, _, hR3.out, .refl _⟩ hok.out
    rw [show hasF nm (⟨true, now, livF now b.L⟩ : Bk).L = true from q4.out] at HC
    go_wp2_with fail
    refine HC.mono ?_
    rintro e w4 ⟨rfl, q, rfl⟩
    clear HC
    go_wp2_with fail
    go_ret
    exact ⟨rfl, ⟨_, _, hR3.out.drewN _, .refl _⟩, below_drewN hb3.out _, hm3.out.drewN _⟩

set_option maxHeartbeats 2000000 in
theorem rtake_full (B0 gm : Nat) (b : Bk) (nm : List UInt8) (u now : Int) (w : World) (h : Mq w B0 gm b) (hB0 : B0 ≤ w.heap.size) (hk : BkOk b) (hN : I64 now) (h1 : ¬ 1024 < nm.length) (h2 : ¬ (b.has = true ∧ now < b.clk)) (h3 : ¬ u < now) (h4 : hasF nm (livF now b.L) = false) (h5 : 4096 ≤ (livF now b.L).length) :
    Calls Try.prog 47 #[.pointer (some ⟨gm, 0, none⟩), .string ⟨nm.toArray⟩, .int .i64 u, .int .i64 now] w fun e w' => e = .returned (.int .i64 161) ∧ Mq w' B0 gm ⟨true, now, livF now b.L⟩ ∧ Below B0 w w' ∧ Md w w' := by
  obtain ⟨v, l, hr, hp⟩ := h
  obtain ⟨ao, cap, rfl, _⟩ := hr.mok
  have hR : Hid (Mr w B0 gm b.has b.clk (.slice ao l.length cap) l) := hr
  have hlen : Hid (l.length ≤ 100000000) := by show _ ≤ _; have := hp.length_eq; have := hk.len; omega
  have hnd : Hid ((l.map (·.1)).Nodup) := perm_nodup hp hk.srt
  have hsrt : Hid (Srt (livF now b.L)) := hk.srt.liv now
  have hprm : Hid ((livF now b.L).Perm (livF now l)) := (hp.filter _).symm
  have hok : Hid (BkOk ⟨true, now, livF now b.L⟩) := ⟨hk.srt.liv now, fun p hp => hk.nm p (mem_livF.1 hp).1, fun p hp => ⟨(mem_livF.1 hp).2, (hk.ends p (mem_livF.1 hp).1).2⟩, Nat.le_trans (livF_le _ _) hk.len, hN, fun e => by cases e⟩
  have c0 := hr.cells.cell 0 (by simp)
  have c1 := hr.cells.cell 1 (by simp)
  simp only [List.getElem_cons_zero, List.getElem_cons_succ] at c0 c1
  have f0 := hr.cells.frozen 0
  have f1 := hr.cells.frozen 1
  have q3 : decide (u < now) = false := by simpa using h3
  have q4 : Hid (hasF nm (livF now b.L) = false) := h4
  have q5 := h5
  clear h4 h5
  clear hr hp hk
  obtain ⟨hs, hhs⟩ : ∃ x, b.has = x := ⟨_, rfl⟩
  rw [hhs] at hR c0 h2
  clear hhs
  cases hs with
  | false =>
    clear h2
    go_enter Try.func47, Try.ntmps47
    go_upto_region 7 with fail
    have hS1 := hR.out.clock (now := now) hB0
    obtain ⟨w1, hw1⟩ : ∃ w1, (w.setCell ⟨gm, 0, none⟩ (.bool true)).setCell ⟨gm, 1, none⟩ (.int .i64 now) = w1 := ⟨_, rfl⟩
    rw [hw1] at hS1 ⊢
    have hR1 : Hid (Mr w1 B0 gm true now (.slice ao l.length cap) l) := hS1.1
    have hb1 : Hid (Below B0 w w1) := hS1.2.1
    have hm1 : Hid (Md w w1) := hS1.2.2
    clear hw1 hS1 hR
    clear c0 c1
    go_wp2_with fail
    refine (rkept_any gm true now ao cap l (livF now b.L) w1 hR1.out.mok' hlen.out hnd.out hsrt.out hprm.out).mono ?_
    rintro e w2 ⟨v2, rfl, hO2', hb2'⟩
    obtain ⟨a2, c2, e2, _⟩ := hO2'.rd
    obtain ⟨n, hn⟩ : ∃ n, (livF now b.L).length = n := ⟨_, rfl⟩
    rw [hn] at e2
    have hnh : Hid ((livF now b.L).length = n) := hn
    clear hn
    subst e2
    have hO2 : Hid (Oq w2 B0 (.slice a2 n c2) (livF now b.L)) := hO2'.base (Nat.le_trans hB0 hb1.out.size)
    have hR2 : Hid (Mr w2 B0 gm true now (.slice ao l.length cap) l) := hR1.out.below hb2' (Nat.le_refl _)
    have hb2 : Hid (Below B0 w w2) := hb1.out.trans (hb2'.mono (Nat.le_trans hB0 hb1.out.size))
    have hm2 : Hid (Md w w2) := hm1.out.trans (Md.of_below hb2')
    clear hO2' hb2' hR1 hb1 hm1
    have s2 := hR2.out.cells.cell 2 (by simp)
    simp only [List.getElem_cons_zero, List.getElem_cons_succ] at s2
    have f2 := hR2.out.cells.frozen 2
    have hS3h : Hid (Mr (w2.setCell ⟨gm, 2, none⟩ (.slice a2 n c2)) B0 gm true now (.slice a2 n c2) (livF now b.L) ∧ Below B0 w2 (w2.setCell ⟨gm, 2, none⟩ (.slice a2 n c2)) ∧ Md w2 (w2.setCell ⟨gm, 2, none⟩ (.slice a2 n c2))) := hR2.out.list (Nat.le_trans hB0 hb2.out.size) hO2.out
    clear hO2
    go_upto_region 8 with fail
    have hS3 := hS3h.out
    obtain ⟨w3, hw3⟩ : ∃ w3, w2.setCell ⟨gm, 2, none⟩ (.slice a2 n c2) = w3 := ⟨_, rfl⟩
    rw [hw3] at hS3 ⊢
    have hR3 : Hid (Mr w3 B0 gm true now (.slice a2 n c2) (livF now b.L)) := hS3.1
    have hb3 : Hid (Below B0 w w3) := hb2.out.trans hS3.2.1
    have hm3 : Hid (Md w w3) := hm2.out.trans hS3.2.2
    clear hw3 hS3 hS3h hR2 hb2 hm2 s2 f2
    have HC := rhasq_any B0 gm ⟨true, now, livF now b.L⟩ nm w3 ⟨_, _, hR3.out, .refl _⟩ hok.out
    rw [show hasF nm (⟨true, now, livF now b.L⟩ : Bk).L = false from q4.out] at HC
    go_wp2_with fail
    refine HC.mono ?_
    rintro e w4 ⟨rfl, q, rfl⟩
    clear HC
    have LC := rlen_any B0 gm ⟨true, now, livF now b.L⟩ (w3.drewN q) (Mq.drewN ⟨_, _, hR3.out, .refl _⟩ q) hok.out
    rw [show (⟨true, now, livF now b.L⟩ : Bk).L.length = n from hnh.out] at LC
    rw [hnh.out] at q5
    go_wp2_with fail
    refine LC.mono ?_
    rintro e w5 ⟨rfl, hb5'⟩
    have hR5 : Hid (Mr w5 B0 gm true now (.slice a2 n c2) (livF now b.L)) := (hR3.out.drewN q).below hb5' (Nat.le_refl _)
    have hb5 : Hid (Below B0 w w5) := (below_drewN hb3.out q).trans (hb5'.mono (Nat.le_trans hB0 hb3.out.size))
    have hm5 : Hid (Md w w5) := (hm3.out.drewN q).trans (Md.of_below hb5')
    clear LC hb5' hR3 hb3 hm3
    have q6 : decide ((n : Int) ≥ 4096) = true := by simp; omega
    go_wp2_with fail
    go_ret
    exact ⟨rfl, ⟨_, _, hR5.out, .refl _⟩, hb5.out, hm5.out⟩
  | true =>
    have q : decide (now < b.clk) = false := by simpa using h2
    clear h2
    go_enter Try.func47, Try.ntmps47
    go_upto_region 7 with fail
    have hS1 := hR.out.clock (now := now) hB0
    obtain ⟨w1, hw1⟩ : ∃ w1, (w.setCell ⟨gm, 0, none⟩ (.bool true)).setCell ⟨gm, 1, none⟩ (.int .i64 now) = w1 := ⟨_, rfl⟩
    rw [hw1] at hS1 ⊢
    have hR1 : Hid (Mr w1 B0 gm true now (.slice ao l.length cap) l) := hS1.1
    have hb1 : Hid (Below B0 w w1) := hS1.2.1
    have hm1 : Hid (Md w w1) := hS1.2.2
    clear hw1 hS1 hR
    clear c0 c1
    go_wp2_with fail
    refine (rkept_any gm true now ao cap l (livF now b.L) w1 hR1.out.mok' hlen.out hnd.out hsrt.out hprm.out).mono ?_
    rintro e w2 ⟨v2, rfl, hO2', hb2'⟩
    obtain ⟨a2, c2, e2, _⟩ := hO2'.rd
    obtain ⟨n, hn⟩ : ∃ n, (livF now b.L).length = n := ⟨_, rfl⟩
    rw [hn] at e2
    have hnh : Hid ((livF now b.L).length = n) := hn
    clear hn
    subst e2
    have hO2 : Hid (Oq w2 B0 (.slice a2 n c2) (livF now b.L)) := hO2'.base (Nat.le_trans hB0 hb1.out.size)
    have hR2 : Hid (Mr w2 B0 gm true now (.slice ao l.length cap) l) := hR1.out.below hb2' (Nat.le_refl _)
    have hb2 : Hid (Below B0 w w2) := hb1.out.trans (hb2'.mono (Nat.le_trans hB0 hb1.out.size))
    have hm2 : Hid (Md w w2) := hm1.out.trans (Md.of_below hb2')
    clear hO2' hb2' hR1 hb1 hm1
    have s2 := hR2.out.cells.cell 2 (by simp)
    simp only [List.getElem_cons_zero, List.getElem_cons_succ] at s2
    have f2 := hR2.out.cells.frozen 2
    have hS3h : Hid (Mr (w2.setCell ⟨gm, 2, none⟩ (.slice a2 n c2)) B0 gm true now (.slice a2 n c2) (livF now b.L) ∧ Below B0 w2 (w2.setCell ⟨gm, 2, none⟩ (.slice a2 n c2)) ∧ Md w2 (w2.setCell ⟨gm, 2, none⟩ (.slice a2 n c2))) := hR2.out.list (Nat.le_trans hB0 hb2.out.size) hO2.out
    clear hO2
    go_upto_region 8 with fail
    have hS3 := hS3h.out
    obtain ⟨w3, hw3⟩ : ∃ w3, w2.setCell ⟨gm, 2, none⟩ (.slice a2 n c2) = w3 := ⟨_, rfl⟩
    rw [hw3] at hS3 ⊢
    have hR3 : Hid (Mr w3 B0 gm true now (.slice a2 n c2) (livF now b.L)) := hS3.1
    have hb3 : Hid (Below B0 w w3) := hb2.out.trans hS3.2.1
    have hm3 : Hid (Md w w3) := hm2.out.trans hS3.2.2
    clear hw3 hS3 hS3h hR2 hb2 hm2 s2 f2
    have HC := rhasq_any B0 gm ⟨true, now, livF now b.L⟩ nm w3 ⟨_, _, hR3.out, .refl _⟩ hok.out
    rw [show hasF nm (⟨true, now, livF now b.L⟩ : Bk).L = false from q4.out] at HC
    go_wp2_with fail
    refine HC.mono ?_
    rintro e w4 ⟨rfl, q, rfl⟩
    clear HC
    have LC := rlen_any B0 gm ⟨true, now, livF now b.L⟩ (w3.drewN q) (Mq.drewN ⟨_, _, hR3.out, .refl _⟩ q) hok.out
    rw [show (⟨true, now, livF now b.L⟩ : Bk).L.length = n from hnh.out] at LC
    rw [hnh.out] at q5
    go_wp2_with fail
    refine LC.mono ?_
    rintro e w5 ⟨rfl, hb5'⟩
    have hR5 : Hid (Mr w5 B0 gm true now (.slice a2 n c2) (livF now b.L)) := (hR3.out.drewN q).below hb5' (Nat.le_refl _)
    have hb5 : Hid (Below B0 w w5) := (below_drewN hb3.out q).trans (hb5'.mono (Nat.le_trans hB0 hb3.out.size))
    have hm5 : Hid (Md w w5) := (hm3.out.drewN q).trans (Md.of_below hb5')
    clear LC hb5' hR3 hb3 hm3
    have q6 : decide ((n : Int) ≥ 4096) = true := by simp; omega
    go_wp2_with fail
    go_ret
    exact ⟨rfl, ⟨_, _, hR5.out, .refl _⟩, hb5.out, hm5.out⟩

set_option maxHeartbeats 2000000 in
theorem rtake_in (B0 gm : Nat) (b : Bk) (nm : List UInt8) (u now : Int) (w : World) (h : Mq w B0 gm b) (hB0 : B0 ≤ w.heap.size) (hk : BkOk b) (hN : I64 now) (h1 : ¬ 1024 < nm.length) (h2 : ¬ (b.has = true ∧ now < b.clk)) (h3 : ¬ u < now) (h4 : hasF nm (livF now b.L) = false) (h5 : ¬ 4096 ≤ (livF now b.L).length) :
    Calls Try.prog 47 #[.pointer (some ⟨gm, 0, none⟩), .string ⟨nm.toArray⟩, .int .i64 u, .int .i64 now] w fun e w' => e = .returned (.int .i64 0) ∧ Mq w' B0 gm ⟨true, now, insF nm u (livF now b.L)⟩ ∧ Below B0 w w' ∧ Md w w' := by
  obtain ⟨v, l, hr, hp⟩ := h
  obtain ⟨ao, cap, rfl, _⟩ := hr.mok
  have hR : Hid (Mr w B0 gm b.has b.clk (.slice ao l.length cap) l) := hr
  have hlen : Hid (l.length ≤ 100000000) := by show _ ≤ _; have := hp.length_eq; have := hk.len; omega
  have hnd : Hid ((l.map (·.1)).Nodup) := perm_nodup hp hk.srt
  have hsrt : Hid (Srt (livF now b.L)) := hk.srt.liv now
  have hprm : Hid ((livF now b.L).Perm (livF now l)) := (hp.filter _).symm
  have hok : Hid (BkOk ⟨true, now, livF now b.L⟩) := ⟨hk.srt.liv now, fun p hp => hk.nm p (mem_livF.1 hp).1, fun p hp => ⟨(mem_livF.1 hp).2, (hk.ends p (mem_livF.1 hp).1).2⟩, Nat.le_trans (livF_le _ _) hk.len, hN, fun e => by cases e⟩
  have c0 := hr.cells.cell 0 (by simp)
  have c1 := hr.cells.cell 1 (by simp)
  simp only [List.getElem_cons_zero, List.getElem_cons_succ] at c0 c1
  have f0 := hr.cells.frozen 0
  have f1 := hr.cells.frozen 1
  have q3 : decide (u < now) = false := by simpa using h3
  have q4 : Hid (hasF nm (livF now b.L) = false) := h4
  have q5 := h5
  clear h4 h5
  clear hr hp hk
  obtain ⟨hs, hhs⟩ : ∃ x, b.has = x := ⟨_, rfl⟩
  rw [hhs] at hR c0 h2
  clear hhs
  cases hs with
  | false =>
    clear h2
    go_enter Try.func47, Try.ntmps47
    go_upto_region 7 with fail
    have hS1 := hR.out.clock (now := now) hB0
    obtain ⟨w1, hw1⟩ : ∃ w1, (w.setCell ⟨gm, 0, none⟩ (.bool true)).setCell ⟨gm, 1, none⟩ (.int .i64 now) = w1 := ⟨_, rfl⟩
    rw [hw1] at hS1 ⊢
    have hR1 : Hid (Mr w1 B0 gm true now (.slice ao l.length cap) l) := hS1.1
    have hb1 : Hid (Below B0 w w1) := hS1.2.1
    have hm1 : Hid (Md w w1) := hS1.2.2
    clear hw1 hS1 hR
    clear c0 c1
    go_wp2_with fail
    refine (rkept_any gm true now ao cap l (livF now b.L) w1 hR1.out.mok' hlen.out hnd.out hsrt.out hprm.out).mono ?_
    rintro e w2 ⟨v2, rfl, hO2', hb2'⟩
    obtain ⟨a2, c2, e2, _⟩ := hO2'.rd
    obtain ⟨n, hn⟩ : ∃ n, (livF now b.L).length = n := ⟨_, rfl⟩
    rw [hn] at e2
    have hnh : Hid ((livF now b.L).length = n) := hn
    clear hn
    subst e2
    have hO2 : Hid (Oq w2 B0 (.slice a2 n c2) (livF now b.L)) := hO2'.base (Nat.le_trans hB0 hb1.out.size)
    have hR2 : Hid (Mr w2 B0 gm true now (.slice ao l.length cap) l) := hR1.out.below hb2' (Nat.le_refl _)
    have hb2 : Hid (Below B0 w w2) := hb1.out.trans (hb2'.mono (Nat.le_trans hB0 hb1.out.size))
    have hm2 : Hid (Md w w2) := hm1.out.trans (Md.of_below hb2')
    clear hO2' hb2' hR1 hb1 hm1
    have s2 := hR2.out.cells.cell 2 (by simp)
    simp only [List.getElem_cons_zero, List.getElem_cons_succ] at s2
    have f2 := hR2.out.cells.frozen 2
    have hS3h : Hid (Mr (w2.setCell ⟨gm, 2, none⟩ (.slice a2 n c2)) B0 gm true now (.slice a2 n c2) (livF now b.L) ∧ Below B0 w2 (w2.setCell ⟨gm, 2, none⟩ (.slice a2 n c2)) ∧ Md w2 (w2.setCell ⟨gm, 2, none⟩ (.slice a2 n c2))) := hR2.out.list (Nat.le_trans hB0 hb2.out.size) hO2.out
    clear hO2
    go_upto_region 8 with fail
    have hS3 := hS3h.out
    obtain ⟨w3, hw3⟩ : ∃ w3, w2.setCell ⟨gm, 2, none⟩ (.slice a2 n c2) = w3 := ⟨_, rfl⟩
    rw [hw3] at hS3 ⊢
    have hR3 : Hid (Mr w3 B0 gm true now (.slice a2 n c2) (livF now b.L)) := hS3.1
    have hb3 : Hid (Below B0 w w3) := hb2.out.trans hS3.2.1
    have hm3 : Hid (Md w w3) := hm2.out.trans hS3.2.2
    clear hw3 hS3 hS3h hR2 hb2 hm2 s2 f2
    have HC := rhasq_any B0 gm ⟨true, now, livF now b.L⟩ nm w3 ⟨_, _, hR3.out, .refl _⟩ hok.out
    rw [show hasF nm (⟨true, now, livF now b.L⟩ : Bk).L = false from q4.out] at HC
    go_wp2_with fail
    refine HC.mono ?_
    rintro e w4 ⟨rfl, q, rfl⟩
    clear HC
    have LC := rlen_any B0 gm ⟨true, now, livF now b.L⟩ (w3.drewN q) (Mq.drewN ⟨_, _, hR3.out, .refl _⟩ q) hok.out
    rw [show (⟨true, now, livF now b.L⟩ : Bk).L.length = n from hnh.out] at LC
    rw [hnh.out] at q5
    go_wp2_with fail
    refine LC.mono ?_
    rintro e w5 ⟨rfl, hb5'⟩
    have hR5 : Hid (Mr w5 B0 gm true now (.slice a2 n c2) (livF now b.L)) := (hR3.out.drewN q).below hb5' (Nat.le_refl _)
    have hb5 : Hid (Below B0 w w5) := (below_drewN hb3.out q).trans (hb5'.mono (Nat.le_trans hB0 hb3.out.size))
    have hm5 : Hid (Md w w5) := (hm3.out.drewN q).trans (Md.of_below hb5')
    clear LC hb5' hR3 hb3 hm3
    have q6 : decide ((n : Int) ≥ 4096) = false := by simp; omega
    have s2 := hR5.out.cells.cell 2 (by simp)
    simp only [List.getElem_cons_zero, List.getElem_cons_succ] at s2
    have hq5 : (livF now b.L).length ≤ 1000000000 := by rw [hnh.out]; omega
    have hB5 : B0 ≤ w5.heap.size := Nat.le_trans hB0 hb5.out.size
    go_wp2_with (at_builtin; refine append_rq rfl (.tmp 49) (.tmp 53) rfl B0 _ (livF now b.L) (nm, u) rfl hR5.out.own rfl hq5 hB5 ?_; intro v6 w6 h6 hc6; obtain ⟨a6, c6, e6, _⟩ := h6.rd; obtain ⟨n6, hn6⟩ : ∃ n6, (livF now b.L ++ [(nm, u)]).length = n6 := ⟨_, rfl⟩; rw [hn6] at e6; clear hn6; subst e6; have hg6 : Hid (Mr (w6.setCell ⟨gm, 2, none⟩ (.slice a6 n6 c6)) B0 gm true now (.slice a6 n6 c6) (livF now b.L ++ [(nm, u)]) ∧ Below B0 w5 (w6.setCell ⟨gm, 2, none⟩ (.slice a6 n6 c6)) ∧ Md w5 (w6.setCell ⟨gm, 2, none⟩ (.slice a6 n6 c6))) := hR5.out.grown hB5 hc6 h6; have hcl6 := hR5.out.cells.chf hc6 (fun e => hR5.out.own.nm hR5.out.cells gm e rfl); have s6 := hcl6.cell 2 (by simp); have f6 := hcl6.frozen 2; simp only [List.getElem_cons_zero, List.getElem_cons_succ] at s6; clear hcl6 h6 hc6)
    go_ret
    exact ⟨rfl, ⟨_, _, hg6.out.1, (List.perm_append_singleton _ _).trans (ins_perm _ _ _).symm⟩, hb5.out.trans hg6.out.2.1, hm5.out.trans hg6.out.2.2⟩
  | true =>
    have q : decide (now < b.clk) = false := by simpa using h2
    clear h2
    go_enter Try.func47, Try.ntmps47
    go_upto_region 7 with fail
    have hS1 := hR.out.clock (now := now) hB0
    obtain ⟨w1, hw1⟩ : ∃ w1, (w.setCell ⟨gm, 0, none⟩ (.bool true)).setCell ⟨gm, 1, none⟩ (.int .i64 now) = w1 := ⟨_, rfl⟩
    rw [hw1] at hS1 ⊢
    have hR1 : Hid (Mr w1 B0 gm true now (.slice ao l.length cap) l) := hS1.1
    have hb1 : Hid (Below B0 w w1) := hS1.2.1
    have hm1 : Hid (Md w w1) := hS1.2.2
    clear hw1 hS1 hR
    clear c0 c1
    go_wp2_with fail
    refine (rkept_any gm true now ao cap l (livF now b.L) w1 hR1.out.mok' hlen.out hnd.out hsrt.out hprm.out).mono ?_
    rintro e w2 ⟨v2, rfl, hO2', hb2'⟩
    obtain ⟨a2, c2, e2, _⟩ := hO2'.rd
    obtain ⟨n, hn⟩ : ∃ n, (livF now b.L).length = n := ⟨_, rfl⟩
    rw [hn] at e2
    have hnh : Hid ((livF now b.L).length = n) := hn
    clear hn
    subst e2
    have hO2 : Hid (Oq w2 B0 (.slice a2 n c2) (livF now b.L)) := hO2'.base (Nat.le_trans hB0 hb1.out.size)
    have hR2 : Hid (Mr w2 B0 gm true now (.slice ao l.length cap) l) := hR1.out.below hb2' (Nat.le_refl _)
    have hb2 : Hid (Below B0 w w2) := hb1.out.trans (hb2'.mono (Nat.le_trans hB0 hb1.out.size))
    have hm2 : Hid (Md w w2) := hm1.out.trans (Md.of_below hb2')
    clear hO2' hb2' hR1 hb1 hm1
    have s2 := hR2.out.cells.cell 2 (by simp)
    simp only [List.getElem_cons_zero, List.getElem_cons_succ] at s2
    have f2 := hR2.out.cells.frozen 2
    have hS3h : Hid (Mr (w2.setCell ⟨gm, 2, none⟩ (.slice a2 n c2)) B0 gm true now (.slice a2 n c2) (livF now b.L) ∧ Below B0 w2 (w2.setCell ⟨gm, 2, none⟩ (.slice a2 n c2)) ∧ Md w2 (w2.setCell ⟨gm, 2, none⟩ (.slice a2 n c2))) := hR2.out.list (Nat.le_trans hB0 hb2.out.size) hO2.out
    clear hO2
    go_upto_region 8 with fail
    have hS3 := hS3h.out
    obtain ⟨w3, hw3⟩ : ∃ w3, w2.setCell ⟨gm, 2, none⟩ (.slice a2 n c2) = w3 := ⟨_, rfl⟩
    rw [hw3] at hS3 ⊢
    have hR3 : Hid (Mr w3 B0 gm true now (.slice a2 n c2) (livF now b.L)) := hS3.1
    have hb3 : Hid (Below B0 w w3) := hb2.out.trans hS3.2.1
    have hm3 : Hid (Md w w3) := hm2.out.trans hS3.2.2
    clear hw3 hS3 hS3h hR2 hb2 hm2 s2 f2
    have HC := rhasq_any B0 gm ⟨true, now, livF now b.L⟩ nm w3 ⟨_, _, hR3.out, .refl _⟩ hok.out
    rw [show hasF nm (⟨true, now, livF now b.L⟩ : Bk).L = false from q4.out] at HC
    go_wp2_with fail
    refine HC.mono ?_
    rintro e w4 ⟨rfl, q, rfl⟩
    clear HC
    have LC := rlen_any B0 gm ⟨true, now, livF now b.L⟩ (w3.drewN q) (Mq.drewN ⟨_, _, hR3.out, .refl _⟩ q) hok.out
    rw [show (⟨true, now, livF now b.L⟩ : Bk).L.length = n from hnh.out] at LC
    rw [hnh.out] at q5
    go_wp2_with fail
    refine LC.mono ?_
    rintro e w5 ⟨rfl, hb5'⟩
    have hR5 : Hid (Mr w5 B0 gm true now (.slice a2 n c2) (livF now b.L)) := (hR3.out.drewN q).below hb5' (Nat.le_refl _)
    have hb5 : Hid (Below B0 w w5) := (below_drewN hb3.out q).trans (hb5'.mono (Nat.le_trans hB0 hb3.out.size))
    have hm5 : Hid (Md w w5) := (hm3.out.drewN q).trans (Md.of_below hb5')
    clear LC hb5' hR3 hb3 hm3
    have q6 : decide ((n : Int) ≥ 4096) = false := by simp; omega
    have s2 := hR5.out.cells.cell 2 (by simp)
    simp only [List.getElem_cons_zero, List.getElem_cons_succ] at s2
    have hq5 : (livF now b.L).length ≤ 1000000000 := by rw [hnh.out]; omega
    have hB5 : B0 ≤ w5.heap.size := Nat.le_trans hB0 hb5.out.size
    go_wp2_with (at_builtin; refine append_rq rfl (.tmp 49) (.tmp 53) rfl B0 _ (livF now b.L) (nm, u) rfl hR5.out.own rfl hq5 hB5 ?_; intro v6 w6 h6 hc6; obtain ⟨a6, c6, e6, _⟩ := h6.rd; obtain ⟨n6, hn6⟩ : ∃ n6, (livF now b.L ++ [(nm, u)]).length = n6 := ⟨_, rfl⟩; rw [hn6] at e6; clear hn6; subst e6; have hg6 : Hid (Mr (w6.setCell ⟨gm, 2, none⟩ (.slice a6 n6 c6)) B0 gm true now (.slice a6 n6 c6) (livF now b.L ++ [(nm, u)]) ∧ Below B0 w5 (w6.setCell ⟨gm, 2, none⟩ (.slice a6 n6 c6)) ∧ Md w5 (w6.setCell ⟨gm, 2, none⟩ (.slice a6 n6 c6))) := hR5.out.grown hB5 hc6 h6; have hcl6 := hR5.out.cells.chf hc6 (fun e => hR5.out.own.nm hR5.out.cells gm e rfl); have s6 := hcl6.cell 2 (by simp); have f6 := hcl6.frozen 2; simp only [List.getElem_cons_zero, List.getElem_cons_succ] at s6; clear hcl6 h6 hc6)
    go_ret
    exact ⟨rfl, ⟨_, _, hg6.out.1, (List.perm_append_singleton _ _).trans (ins_perm _ _ _).symm⟩, hb5.out.trans hg6.out.2.1, hm5.out.trans hg6.out.2.2⟩

theorem rtake_any (B0 gm : Nat) (b : Bk) (nm : List UInt8) (u now : Int) (w : World) (h : Mq w B0 gm b) (hB0 : B0 ≤ w.heap.size) (hk : BkOk b) (hN : I64 now) :
    Calls Try.prog 47 #[.pointer (some ⟨gm, 0, none⟩), .string ⟨nm.toArray⟩, .int .i64 u, .int .i64 now] w fun e w' => e = .returned (.int .i64 (takeF b nm u now).1) ∧ Mq w' B0 gm (takeF b nm u now).2 ∧ Below B0 w w' ∧ Md w w' := by
  unfold takeF
  by_cases h1 : 1024 < nm.length
  · simp only [if_pos h1]; exact rtake_big B0 gm b nm u now w h hB0 h1
  simp only [if_neg h1]
  by_cases h2 : b.has = true ∧ now < b.clk
  · simp only [if_pos h2]; exact rtake_back B0 gm b nm u now w h hB0 h1 h2
  simp only [if_neg h2]
  by_cases h3 : u < now
  · simp only [if_pos h3]; exact rtake_late B0 gm b nm u now w h hB0 hk hN h1 h2 h3
  simp only [if_neg h3]
  by_cases h4 : hasF nm (livF now b.L) = true
  · simp only [if_pos h4]; exact rtake_twice B0 gm b nm u now w h hB0 hk hN h1 h2 h3 h4
  simp only [if_neg h4]
  by_cases h5 : 4096 ≤ (livF now b.L).length
  · simp only [if_pos h5]; exact rtake_full B0 gm b nm u now w h hB0 hk hN h1 h2 h3 (by simpa using h4) h5
  simp only [if_neg h5]
  exact rtake_in B0 gm b nm u now w h hB0 hk hN h1 h2 h3 (by simpa using h4) h5

end Go.Proofs.Ytidmjojlhcgedaa
