import Derived.Test.YthlfboaidhgnlaaGreatDoorEb
namespace Go.Proofs.YthlfboaidhgnlaaGreatDoor
open Go.RowKit Go.Shelf

set_option maxRecDepth 100000 in
set_option maxHeartbeats 16000000 in
theorem csame_d6 (va1 : Option Addr) (vc1 : Nat) (aa1 : Option Addr) (ac1 : Nat) (va2 : Option Addr) (vc2 : Nat) (aa2 : Option Addr) (ac2 : Nat) (c1 c2 : Cm) (w : World)
    (hv1 : NR w (.slice va1 c1.val.length vc1) c1.val va1 vc1) (ha1 : TR w (.slice aa1 c1.aud.length ac1) c1.aud aa1 ac1) (hv2 : NR w (.slice va2 c2.val.length vc2) c2.val va2 vc2) (ha2 : TR w (.slice aa2 c2.aud.length ac2) c2.aud aa2 ac2) (hl1 : c1.val.length ≤ 1000000000) (hl2 : c1.aud.length ≤ 1000000000000000000) (hiss : c1.iss = c2.iss) (hhIss : c1.hIss = c2.hIss) (hsub : c1.sub = c2.sub) (hhSub : c1.hSub = c2.hSub) (haud : c1.aud = c2.aud) (hhAud : c1.hAud = c2.hAud) (hjti : c1.jti ≠ c2.jti) :
    Calls Tryz.prog 14 #[clV (.slice va1 c1.val.length vc1) (.slice aa1 c1.aud.length ac1) c1, clV (.slice va2 c2.val.length vc2) (.slice aa2 c2.aud.length ac2) c2] w fun e w' => e = .returned (.bool false) ∧ Below w.heap.size w w' := by
  obtain ⟨val1, iss1, hIss1, sub1, hSub1, aud1, hAud1, jti1, hJti1, exp1, nbf1, iat1⟩ := c1
  obtain ⟨val2, iss2, hIss2, sub2, hSub2, aud2, hAud2, jti2, hJti2, exp2, nbf2, iat2⟩ := c2
  unfold clV
  dsimp only at *
  obtain ⟨W, hW⟩ : ∃ W : World, (w.alloc (.cells #[.slice va1 (val1.length) vc1, .string ⟨iss1.toArray⟩, .bool hIss1, .string ⟨sub1.toArray⟩, .bool hSub1, .slice aa1 (aud1.length) ac1, .bool hAud1, .string ⟨jti1.toArray⟩, .bool hJti1, .bool exp1.has, .int .i64 exp1.at_, .bool nbf1.has, .int .i64 nbf1.at_, .bool iat1.has, .int .i64 iat1.at_] 27)).alloc (.cells #[.slice va2 (val2.length) vc2, .string ⟨iss2.toArray⟩, .bool hIss2, .string ⟨sub2.toArray⟩, .bool hSub2, .slice aa2 (aud2.length) ac2, .bool hAud2, .string ⟨jti2.toArray⟩, .bool hJti2, .bool exp2.has, .int .i64 exp2.at_, .bool nbf2.has, .int .i64 nbf2.at_, .bool iat2.has, .int .i64 iat2.at_] 27) = W := ⟨_, rfl⟩
  have x1 := alloc_below w (.cells #[.slice va1 (val1.length) vc1, .string ⟨iss1.toArray⟩, .bool hIss1, .string ⟨sub1.toArray⟩, .bool hSub1, .slice aa1 (aud1.length) ac1, .bool hAud1, .string ⟨jti1.toArray⟩, .bool hJti1, .bool exp1.has, .int .i64 exp1.at_, .bool nbf1.has, .int .i64 nbf1.at_, .bool iat1.has, .int .i64 iat1.at_] 27)
  have x2 := alloc_below (w.alloc (.cells #[.slice va1 (val1.length) vc1, .string ⟨iss1.toArray⟩, .bool hIss1, .string ⟨sub1.toArray⟩, .bool hSub1, .slice aa1 (aud1.length) ac1, .bool hAud1, .string ⟨jti1.toArray⟩, .bool hJti1, .bool exp1.has, .int .i64 exp1.at_, .bool nbf1.has, .int .i64 nbf1.at_, .bool iat1.has, .int .i64 iat1.at_] 27)) (.cells #[.slice va2 (val2.length) vc2, .string ⟨iss2.toArray⟩, .bool hIss2, .string ⟨sub2.toArray⟩, .bool hSub2, .slice aa2 (aud2.length) ac2, .bool hAud2, .string ⟨jti2.toArray⟩, .bool hJti2, .bool exp2.has, .int .i64 exp2.at_, .bool nbf2.has, .int .i64 nbf2.at_, .bool iat2.has, .int .i64 iat2.at_] 27)
  have x3 : Bl 27 _ _ [.slice va1 (val1.length) vc1, .string ⟨iss1.toArray⟩, .bool hIss1, .string ⟨sub1.toArray⟩, .bool hSub1, .slice aa1 (aud1.length) ac1, .bool hAud1, .string ⟨jti1.toArray⟩, .bool hJti1, .bool exp1.has, .int .i64 exp1.at_, .bool nbf1.has, .int .i64 nbf1.at_, .bool iat1.has, .int .i64 iat1.at_] := alloc_bl w [.slice va1 (val1.length) vc1, .string ⟨iss1.toArray⟩, .bool hIss1, .string ⟨sub1.toArray⟩, .bool hSub1, .slice aa1 (aud1.length) ac1, .bool hAud1, .string ⟨jti1.toArray⟩, .bool hJti1, .bool exp1.has, .int .i64 exp1.at_, .bool nbf1.has, .int .i64 nbf1.at_, .bool iat1.has, .int .i64 iat1.at_] 27
  have x4 : Bl 27 _ _ [.slice va2 (val2.length) vc2, .string ⟨iss2.toArray⟩, .bool hIss2, .string ⟨sub2.toArray⟩, .bool hSub2, .slice aa2 (aud2.length) ac2, .bool hAud2, .string ⟨jti2.toArray⟩, .bool hJti2, .bool exp2.has, .int .i64 exp2.at_, .bool nbf2.has, .int .i64 nbf2.at_, .bool iat2.has, .int .i64 iat2.at_] := alloc_bl (w.alloc (.cells #[.slice va1 (val1.length) vc1, .string ⟨iss1.toArray⟩, .bool hIss1, .string ⟨sub1.toArray⟩, .bool hSub1, .slice aa1 (aud1.length) ac1, .bool hAud1, .string ⟨jti1.toArray⟩, .bool hJti1, .bool exp1.has, .int .i64 exp1.at_, .bool nbf1.has, .int .i64 nbf1.at_, .bool iat1.has, .int .i64 iat1.at_] 27)) [.slice va2 (val2.length) vc2, .string ⟨iss2.toArray⟩, .bool hIss2, .string ⟨sub2.toArray⟩, .bool hSub2, .slice aa2 (aud2.length) ac2, .bool hAud2, .string ⟨jti2.toArray⟩, .bool hJti2, .bool exp2.has, .int .i64 exp2.at_, .bool nbf2.has, .int .i64 nbf2.at_, .bool iat2.has, .int .i64 iat2.at_] 27
  have x5 : Bl 27 W w.heap.size [.slice va1 (val1.length) vc1, .string ⟨iss1.toArray⟩, .bool hIss1, .string ⟨sub1.toArray⟩, .bool hSub1, .slice aa1 (aud1.length) ac1, .bool hAud1, .string ⟨jti1.toArray⟩, .bool hJti1, .bool exp1.has, .int .i64 exp1.at_, .bool nbf1.has, .int .i64 nbf1.at_, .bool iat1.has, .int .i64 iat1.at_] := by rw [← hW]; exact x3.below x2 x3.lt
  have x6 : Bl 27 W (w.heap.size + 1) [.slice va2 (val2.length) vc2, .string ⟨iss2.toArray⟩, .bool hIss2, .string ⟨sub2.toArray⟩, .bool hSub2, .slice aa2 (aud2.length) ac2, .bool hAud2, .string ⟨jti2.toArray⟩, .bool hJti2, .bool exp2.has, .int .i64 exp2.at_, .bool nbf2.has, .int .i64 nbf2.at_, .bool iat2.has, .int .i64 iat2.at_] := by rw [alloc_size] at x4; rw [← hW]; exact x4
  have hB : Below w.heap.size w W := by rw [← hW]; exact x1.trans (x2.mono x1.size)
  have HW : Hid ((w.alloc (.cells #[.slice va1 (val1.length) vc1, .string ⟨iss1.toArray⟩, .bool hIss1, .string ⟨sub1.toArray⟩, .bool hSub1, .slice aa1 (aud1.length) ac1, .bool hAud1, .string ⟨jti1.toArray⟩, .bool hJti1, .bool exp1.has, .int .i64 exp1.at_, .bool nbf1.has, .int .i64 nbf1.at_, .bool iat1.has, .int .i64 iat1.at_] 27)).alloc (.cells #[.slice va2 (val2.length) vc2, .string ⟨iss2.toArray⟩, .bool hIss2, .string ⟨sub2.toArray⟩, .bool hSub2, .slice aa2 (aud2.length) ac2, .bool hAud2, .string ⟨jti2.toArray⟩, .bool hJti2, .bool exp2.has, .int .i64 exp2.at_, .bool nbf2.has, .int .i64 nbf2.at_, .bool iat2.has, .int .i64 iat2.at_] 27) = W) := hW
  have HK : Hid (∀ wq, Below W.heap.size W wq → (wq.cell? ⟨w.heap.size, 0, none⟩ = some (.slice va1 (val1.length) vc1) ∧ wq.cell? ⟨w.heap.size, 1, none⟩ = some (.string ⟨iss1.toArray⟩) ∧ wq.cell? ⟨w.heap.size, 2, none⟩ = some (.bool hIss1) ∧ wq.cell? ⟨w.heap.size, 3, none⟩ = some (.string ⟨sub1.toArray⟩) ∧ wq.cell? ⟨w.heap.size, 4, none⟩ = some (.bool hSub1) ∧ wq.cell? ⟨w.heap.size, 5, none⟩ = some (.slice aa1 (aud1.length) ac1) ∧ wq.cell? ⟨w.heap.size, 6, none⟩ = some (.bool hAud1) ∧ wq.cell? ⟨w.heap.size, 7, none⟩ = some (.string ⟨jti1.toArray⟩) ∧ wq.cell? ⟨w.heap.size, 8, none⟩ = some (.bool hJti1) ∧ wq.cell? ⟨w.heap.size, 9, none⟩ = some (.bool exp1.has) ∧ wq.cell? ⟨w.heap.size, 10, none⟩ = some (.int .i64 exp1.at_) ∧ wq.cell? ⟨w.heap.size, 11, none⟩ = some (.bool nbf1.has) ∧ wq.cell? ⟨w.heap.size, 12, none⟩ = some (.int .i64 nbf1.at_) ∧ wq.cell? ⟨w.heap.size, 13, none⟩ = some (.bool iat1.has) ∧ wq.cell? ⟨w.heap.size, 14, none⟩ = some (.int .i64 iat1.at_)) ∧ (wq.cell? ⟨w.heap.size + 1, 0, none⟩ = some (.slice va2 (val2.length) vc2) ∧ wq.cell? ⟨w.heap.size + 1, 1, none⟩ = some (.string ⟨iss2.toArray⟩) ∧ wq.cell? ⟨w.heap.size + 1, 2, none⟩ = some (.bool hIss2) ∧ wq.cell? ⟨w.heap.size + 1, 3, none⟩ = some (.string ⟨sub2.toArray⟩) ∧ wq.cell? ⟨w.heap.size + 1, 4, none⟩ = some (.bool hSub2) ∧ wq.cell? ⟨w.heap.size + 1, 5, none⟩ = some (.slice aa2 (aud2.length) ac2) ∧ wq.cell? ⟨w.heap.size + 1, 6, none⟩ = some (.bool hAud2) ∧ wq.cell? ⟨w.heap.size + 1, 7, none⟩ = some (.string ⟨jti2.toArray⟩) ∧ wq.cell? ⟨w.heap.size + 1, 8, none⟩ = some (.bool hJti2) ∧ wq.cell? ⟨w.heap.size + 1, 9, none⟩ = some (.bool exp2.has) ∧ wq.cell? ⟨w.heap.size + 1, 10, none⟩ = some (.int .i64 exp2.at_) ∧ wq.cell? ⟨w.heap.size + 1, 11, none⟩ = some (.bool nbf2.has) ∧ wq.cell? ⟨w.heap.size + 1, 12, none⟩ = some (.int .i64 nbf2.at_) ∧ wq.cell? ⟨w.heap.size + 1, 13, none⟩ = some (.bool iat2.has) ∧ wq.cell? ⟨w.heap.size + 1, 14, none⟩ = some (.int .i64 iat2.at_))) := fun wq hq => by
    have a := x5.below hq x5.lt
    have b := x6.below hq x6.lt
    exact ⟨⟨a.cell 0 (by simp), a.cell 1 (by simp), a.cell 2 (by simp), a.cell 3 (by simp), a.cell 4 (by simp), a.cell 5 (by simp), a.cell 6 (by simp), a.cell 7 (by simp), a.cell 8 (by simp), a.cell 9 (by simp), a.cell 10 (by simp), a.cell 11 (by simp), a.cell 12 (by simp), a.cell 13 (by simp), a.cell 14 (by simp)⟩, b.cell 0 (by simp), b.cell 1 (by simp), b.cell 2 (by simp), b.cell 3 (by simp), b.cell 4 (by simp), b.cell 5 (by simp), b.cell 6 (by simp), b.cell 7 (by simp), b.cell 8 (by simp), b.cell 9 (by simp), b.cell 10 (by simp), b.cell 11 (by simp), b.cell 12 (by simp), b.cell 13 (by simp), b.cell 14 (by simp)⟩
  have CT := stexts_any aud1 aud2 aa1 aa2 ac1 ac2 W (ha1.below hB (Nat.le_refl _)) (ha2.below hB (Nat.le_refl _)) hl2
  have HCV : Hid (∀ q, Calls Tryz.prog 21 #[.slice va1 val1.length vc1, .slice va2 val2.length vc2] (W.drewN q) fun e w' => e = .returned (.bool (decide (val1 = val2))) ∧ ∃ q', w' = (W.drewN q).drewN q') := fun q => snodes_any _ _ val1 val2 va1 va2 vc1 vc2 (W.drewN q) ((hv1.below hB (Nat.le_refl _)).drewN q) ((hv2.below hB (Nat.le_refl _)).drewN q) hl1
  have HB : Hid (Below w.heap.size w W) := hB
  have hrt := run_tm
  obtain ⟨⟨k0, k1, k2, k3, k4, k5, k6, k7, k8, k9, k10, k11, k12, k13, k14⟩, j0, j1, j2, j3, j4, j5, j6, j7, j8, j9, j10, j11, j12, j13, j14⟩ := HK.out W (Below.refl _ _)
  clear hv1 ha1 hv2 ha2 hW x1 x2 x3 x4 x5 x6 hB
  subst hiss
  subst hhIss
  subst hsub
  subst hhSub
  rw [decide_eq_true haud] at CT
  subst haud
  subst hhAud
  have q0 : (jti1 == jti2) = false := by simpa using hjti
  clear HCV
  clear hjti
  have HF : Hid True := trivial
  go_enter Tryz.func14, Tryz.ntmps14
  go_wp2_with fail
  rw [HW.out]
  clear HW
  refine CT.mono ?_
  clear CT
  rintro e w9 ⟨rfl, q1, rfl⟩
  clear k0 j0 k1 j1 k2 j2 k3 j3 k4 j4 k5 j5 k6 j6 k7 j7 k8 j8 k9 j9 k10 j10 k11 j11 k12 j12 k13 j13 k14 j14
  obtain ⟨⟨k0, k1, k2, k3, k4, k5, k6, k7, k8, k9, k10, k11, k12, k13, k14⟩, j0, j1, j2, j3, j4, j5, j6, j7, j8, j9, j10, j11, j12, j13, j14⟩ := HK.out (W.drewN q1) (below_drewN (Below.refl _ _) q1)
  go_wp2
  go_ret
  exact ⟨rfl, below_drewN HB.out q1⟩

set_option maxRecDepth 100000 in
set_option maxHeartbeats 16000000 in
theorem csame_d7 (va1 : Option Addr) (vc1 : Nat) (aa1 : Option Addr) (ac1 : Nat) (va2 : Option Addr) (vc2 : Nat) (aa2 : Option Addr) (ac2 : Nat) (c1 c2 : Cm) (w : World)
    (hv1 : NR w (.slice va1 c1.val.length vc1) c1.val va1 vc1) (ha1 : TR w (.slice aa1 c1.aud.length ac1) c1.aud aa1 ac1) (hv2 : NR w (.slice va2 c2.val.length vc2) c2.val va2 vc2) (ha2 : TR w (.slice aa2 c2.aud.length ac2) c2.aud aa2 ac2) (hl1 : c1.val.length ≤ 1000000000) (hl2 : c1.aud.length ≤ 1000000000000000000) (hiss : c1.iss = c2.iss) (hhIss : c1.hIss = c2.hIss) (hsub : c1.sub = c2.sub) (hhSub : c1.hSub = c2.hSub) (haud : c1.aud = c2.aud) (hhAud : c1.hAud = c2.hAud) (hjti : c1.jti = c2.jti) (hhJti : c1.hJti ≠ c2.hJti) :
    Calls Tryz.prog 14 #[clV (.slice va1 c1.val.length vc1) (.slice aa1 c1.aud.length ac1) c1, clV (.slice va2 c2.val.length vc2) (.slice aa2 c2.aud.length ac2) c2] w fun e w' => e = .returned (.bool false) ∧ Below w.heap.size w w' := by
  obtain ⟨val1, iss1, hIss1, sub1, hSub1, aud1, hAud1, jti1, hJti1, exp1, nbf1, iat1⟩ := c1
  obtain ⟨val2, iss2, hIss2, sub2, hSub2, aud2, hAud2, jti2, hJti2, exp2, nbf2, iat2⟩ := c2
  unfold clV
  dsimp only at *
  obtain ⟨W, hW⟩ : ∃ W : World, (w.alloc (.cells #[.slice va1 (val1.length) vc1, .string ⟨iss1.toArray⟩, .bool hIss1, .string ⟨sub1.toArray⟩, .bool hSub1, .slice aa1 (aud1.length) ac1, .bool hAud1, .string ⟨jti1.toArray⟩, .bool hJti1, .bool exp1.has, .int .i64 exp1.at_, .bool nbf1.has, .int .i64 nbf1.at_, .bool iat1.has, .int .i64 iat1.at_] 27)).alloc (.cells #[.slice va2 (val2.length) vc2, .string ⟨iss2.toArray⟩, .bool hIss2, .string ⟨sub2.toArray⟩, .bool hSub2, .slice aa2 (aud2.length) ac2, .bool hAud2, .string ⟨jti2.toArray⟩, .bool hJti2, .bool exp2.has, .int .i64 exp2.at_, .bool nbf2.has, .int .i64 nbf2.at_, .bool iat2.has, .int .i64 iat2.at_] 27) = W := ⟨_, rfl⟩
  have x1 := alloc_below w (.cells #[.slice va1 (val1.length) vc1, .string ⟨iss1.toArray⟩, .bool hIss1, .string ⟨sub1.toArray⟩, .bool hSub1, .slice aa1 (aud1.length) ac1, .bool hAud1, .string ⟨jti1.toArray⟩, .bool hJti1, .bool exp1.has, .int .i64 exp1.at_, .bool nbf1.has, .int .i64 nbf1.at_, .bool iat1.has, .int .i64 iat1.at_] 27)
  have x2 := alloc_below (w.alloc (.cells #[.slice va1 (val1.length) vc1, .string ⟨iss1.toArray⟩, .bool hIss1, .string ⟨sub1.toArray⟩, .bool hSub1, .slice aa1 (aud1.length) ac1, .bool hAud1, .string ⟨jti1.toArray⟩, .bool hJti1, .bool exp1.has, .int .i64 exp1.at_, .bool nbf1.has, .int .i64 nbf1.at_, .bool iat1.has, .int .i64 iat1.at_] 27)) (.cells #[.slice va2 (val2.length) vc2, .string ⟨iss2.toArray⟩, .bool hIss2, .string ⟨sub2.toArray⟩, .bool hSub2, .slice aa2 (aud2.length) ac2, .bool hAud2, .string ⟨jti2.toArray⟩, .bool hJti2, .bool exp2.has, .int .i64 exp2.at_, .bool nbf2.has, .int .i64 nbf2.at_, .bool iat2.has, .int .i64 iat2.at_] 27)
  have x3 : Bl 27 _ _ [.slice va1 (val1.length) vc1, .string ⟨iss1.toArray⟩, .bool hIss1, .string ⟨sub1.toArray⟩, .bool hSub1, .slice aa1 (aud1.length) ac1, .bool hAud1, .string ⟨jti1.toArray⟩, .bool hJti1, .bool exp1.has, .int .i64 exp1.at_, .bool nbf1.has, .int .i64 nbf1.at_, .bool iat1.has, .int .i64 iat1.at_] := alloc_bl w [.slice va1 (val1.length) vc1, .string ⟨iss1.toArray⟩, .bool hIss1, .string ⟨sub1.toArray⟩, .bool hSub1, .slice aa1 (aud1.length) ac1, .bool hAud1, .string ⟨jti1.toArray⟩, .bool hJti1, .bool exp1.has, .int .i64 exp1.at_, .bool nbf1.has, .int .i64 nbf1.at_, .bool iat1.has, .int .i64 iat1.at_] 27
  have x4 : Bl 27 _ _ [.slice va2 (val2.length) vc2, .string ⟨iss2.toArray⟩, .bool hIss2, .string ⟨sub2.toArray⟩, .bool hSub2, .slice aa2 (aud2.length) ac2, .bool hAud2, .string ⟨jti2.toArray⟩, .bool hJti2, .bool exp2.has, .int .i64 exp2.at_, .bool nbf2.has, .int .i64 nbf2.at_, .bool iat2.has, .int .i64 iat2.at_] := alloc_bl (w.alloc (.cells #[.slice va1 (val1.length) vc1, .string ⟨iss1.toArray⟩, .bool hIss1, .string ⟨sub1.toArray⟩, .bool hSub1, .slice aa1 (aud1.length) ac1, .bool hAud1, .string ⟨jti1.toArray⟩, .bool hJti1, .bool exp1.has, .int .i64 exp1.at_, .bool nbf1.has, .int .i64 nbf1.at_, .bool iat1.has, .int .i64 iat1.at_] 27)) [.slice va2 (val2.length) vc2, .string ⟨iss2.toArray⟩, .bool hIss2, .string ⟨sub2.toArray⟩, .bool hSub2, .slice aa2 (aud2.length) ac2, .bool hAud2, .string ⟨jti2.toArray⟩, .bool hJti2, .bool exp2.has, .int .i64 exp2.at_, .bool nbf2.has, .int .i64 nbf2.at_, .bool iat2.has, .int .i64 iat2.at_] 27
  have x5 : Bl 27 W w.heap.size [.slice va1 (val1.length) vc1, .string ⟨iss1.toArray⟩, .bool hIss1, .string ⟨sub1.toArray⟩, .bool hSub1, .slice aa1 (aud1.length) ac1, .bool hAud1, .string ⟨jti1.toArray⟩, .bool hJti1, .bool exp1.has, .int .i64 exp1.at_, .bool nbf1.has, .int .i64 nbf1.at_, .bool iat1.has, .int .i64 iat1.at_] := by rw [← hW]; exact x3.below x2 x3.lt
  have x6 : Bl 27 W (w.heap.size + 1) [.slice va2 (val2.length) vc2, .string ⟨iss2.toArray⟩, .bool hIss2, .string ⟨sub2.toArray⟩, .bool hSub2, .slice aa2 (aud2.length) ac2, .bool hAud2, .string ⟨jti2.toArray⟩, .bool hJti2, .bool exp2.has, .int .i64 exp2.at_, .bool nbf2.has, .int .i64 nbf2.at_, .bool iat2.has, .int .i64 iat2.at_] := by rw [alloc_size] at x4; rw [← hW]; exact x4
  have hB : Below w.heap.size w W := by rw [← hW]; exact x1.trans (x2.mono x1.size)
  have HW : Hid ((w.alloc (.cells #[.slice va1 (val1.length) vc1, .string ⟨iss1.toArray⟩, .bool hIss1, .string ⟨sub1.toArray⟩, .bool hSub1, .slice aa1 (aud1.length) ac1, .bool hAud1, .string ⟨jti1.toArray⟩, .bool hJti1, .bool exp1.has, .int .i64 exp1.at_, .bool nbf1.has, .int .i64 nbf1.at_, .bool iat1.has, .int .i64 iat1.at_] 27)).alloc (.cells #[.slice va2 (val2.length) vc2, .string ⟨iss2.toArray⟩, .bool hIss2, .string ⟨sub2.toArray⟩, .bool hSub2, .slice aa2 (aud2.length) ac2, .bool hAud2, .string ⟨jti2.toArray⟩, .bool hJti2, .bool exp2.has, .int .i64 exp2.at_, .bool nbf2.has, .int .i64 nbf2.at_, .bool iat2.has, .int .i64 iat2.at_] 27) = W) := hW
  have HK : Hid (∀ wq, Below W.heap.size W wq → (wq.cell? ⟨w.heap.size, 0, none⟩ = some (.slice va1 (val1.length) vc1) ∧ wq.cell? ⟨w.heap.size, 1, none⟩ = some (.string ⟨iss1.toArray⟩) ∧ wq.cell? ⟨w.heap.size, 2, none⟩ = some (.bool hIss1) ∧ wq.cell? ⟨w.heap.size, 3, none⟩ = some (.string ⟨sub1.toArray⟩) ∧ wq.cell? ⟨w.heap.size, 4, none⟩ = some (.bool hSub1) ∧ wq.cell? ⟨w.heap.size, 5, none⟩ = some (.slice aa1 (aud1.length) ac1) ∧ wq.cell? ⟨w.heap.size, 6, none⟩ = some (.bool hAud1) ∧ wq.cell? ⟨w.heap.size, 7, none⟩ = some (.string ⟨jti1.toArray⟩) ∧ wq.cell? ⟨w.heap.size, 8, none⟩ = some (.bool hJti1) ∧ wq.cell? ⟨w.heap.size, 9, none⟩ = some (.bool exp1.has) ∧ wq.cell? ⟨w.heap.size, 10, none⟩ = some (.int .i64 exp1.at_) ∧ wq.cell? ⟨w.heap.size, 11, none⟩ = some (.bool nbf1.has) ∧ wq.cell? ⟨w.heap.size, 12, none⟩ = some (.int .i64 nbf1.at_) ∧ wq.cell? ⟨w.heap.size, 13, none⟩ = some (.bool iat1.has) ∧ wq.cell? ⟨w.heap.size, 14, none⟩ = some (.int .i64 iat1.at_)) ∧ (wq.cell? ⟨w.heap.size + 1, 0, none⟩ = some (.slice va2 (val2.length) vc2) ∧ wq.cell? ⟨w.heap.size + 1, 1, none⟩ = some (.string ⟨iss2.toArray⟩) ∧ wq.cell? ⟨w.heap.size + 1, 2, none⟩ = some (.bool hIss2) ∧ wq.cell? ⟨w.heap.size + 1, 3, none⟩ = some (.string ⟨sub2.toArray⟩) ∧ wq.cell? ⟨w.heap.size + 1, 4, none⟩ = some (.bool hSub2) ∧ wq.cell? ⟨w.heap.size + 1, 5, none⟩ = some (.slice aa2 (aud2.length) ac2) ∧ wq.cell? ⟨w.heap.size + 1, 6, none⟩ = some (.bool hAud2) ∧ wq.cell? ⟨w.heap.size + 1, 7, none⟩ = some (.string ⟨jti2.toArray⟩) ∧ wq.cell? ⟨w.heap.size + 1, 8, none⟩ = some (.bool hJti2) ∧ wq.cell? ⟨w.heap.size + 1, 9, none⟩ = some (.bool exp2.has) ∧ wq.cell? ⟨w.heap.size + 1, 10, none⟩ = some (.int .i64 exp2.at_) ∧ wq.cell? ⟨w.heap.size + 1, 11, none⟩ = some (.bool nbf2.has) ∧ wq.cell? ⟨w.heap.size + 1, 12, none⟩ = some (.int .i64 nbf2.at_) ∧ wq.cell? ⟨w.heap.size + 1, 13, none⟩ = some (.bool iat2.has) ∧ wq.cell? ⟨w.heap.size + 1, 14, none⟩ = some (.int .i64 iat2.at_))) := fun wq hq => by
    have a := x5.below hq x5.lt
    have b := x6.below hq x6.lt
    exact ⟨⟨a.cell 0 (by simp), a.cell 1 (by simp), a.cell 2 (by simp), a.cell 3 (by simp), a.cell 4 (by simp), a.cell 5 (by simp), a.cell 6 (by simp), a.cell 7 (by simp), a.cell 8 (by simp), a.cell 9 (by simp), a.cell 10 (by simp), a.cell 11 (by simp), a.cell 12 (by simp), a.cell 13 (by simp), a.cell 14 (by simp)⟩, b.cell 0 (by simp), b.cell 1 (by simp), b.cell 2 (by simp), b.cell 3 (by simp), b.cell 4 (by simp), b.cell 5 (by simp), b.cell 6 (by simp), b.cell 7 (by simp), b.cell 8 (by simp), b.cell 9 (by simp), b.cell 10 (by simp), b.cell 11 (by simp), b.cell 12 (by simp), b.cell 13 (by simp), b.cell 14 (by simp)⟩
  have CT := stexts_any aud1 aud2 aa1 aa2 ac1 ac2 W (ha1.below hB (Nat.le_refl _)) (ha2.below hB (Nat.le_refl _)) hl2
  have HCV : Hid (∀ q, Calls Tryz.prog 21 #[.slice va1 val1.length vc1, .slice va2 val2.length vc2] (W.drewN q) fun e w' => e = .returned (.bool (decide (val1 = val2))) ∧ ∃ q', w' = (W.drewN q).drewN q') := fun q => snodes_any _ _ val1 val2 va1 va2 vc1 vc2 (W.drewN q) ((hv1.below hB (Nat.le_refl _)).drewN q) ((hv2.below hB (Nat.le_refl _)).drewN q) hl1
  have HB : Hid (Below w.heap.size w W) := hB
  have hrt := run_tm
  obtain ⟨⟨k0, k1, k2, k3, k4, k5, k6, k7, k8, k9, k10, k11, k12, k13, k14⟩, j0, j1, j2, j3, j4, j5, j6, j7, j8, j9, j10, j11, j12, j13, j14⟩ := HK.out W (Below.refl _ _)
  clear hv1 ha1 hv2 ha2 hW x1 x2 x3 x4 x5 x6 hB
  subst hiss
  subst hhIss
  subst hsub
  subst hhSub
  rw [decide_eq_true haud] at CT
  subst haud
  subst hhAud
  subst hjti
  have q0 : (hJti1 == hJti2) = false := by simpa using hhJti
  clear HCV
  clear hhJti
  have HF : Hid True := trivial
  go_enter Tryz.func14, Tryz.ntmps14
  go_wp2_with fail
  rw [HW.out]
  clear HW
  refine CT.mono ?_
  clear CT
  rintro e w9 ⟨rfl, q1, rfl⟩
  clear k0 j0 k1 j1 k2 j2 k3 j3 k4 j4 k5 j5 k6 j6 k7 j7 k8 j8 k9 j9 k10 j10 k11 j11 k12 j12 k13 j13 k14 j14
  obtain ⟨⟨k0, k1, k2, k3, k4, k5, k6, k7, k8, k9, k10, k11, k12, k13, k14⟩, j0, j1, j2, j3, j4, j5, j6, j7, j8, j9, j10, j11, j12, j13, j14⟩ := HK.out (W.drewN q1) (below_drewN (Below.refl _ _) q1)
  go_wp2
  go_ret
  exact ⟨rfl, below_drewN HB.out q1⟩

set_option maxRecDepth 100000 in
set_option maxHeartbeats 16000000 in
theorem csame_d8 (va1 : Option Addr) (vc1 : Nat) (aa1 : Option Addr) (ac1 : Nat) (va2 : Option Addr) (vc2 : Nat) (aa2 : Option Addr) (ac2 : Nat) (c1 c2 : Cm) (w : World)
    (hv1 : NR w (.slice va1 c1.val.length vc1) c1.val va1 vc1) (ha1 : TR w (.slice aa1 c1.aud.length ac1) c1.aud aa1 ac1) (hv2 : NR w (.slice va2 c2.val.length vc2) c2.val va2 vc2) (ha2 : TR w (.slice aa2 c2.aud.length ac2) c2.aud aa2 ac2) (hl1 : c1.val.length ≤ 1000000000) (hl2 : c1.aud.length ≤ 1000000000000000000) (hiss : c1.iss = c2.iss) (hhIss : c1.hIss = c2.hIss) (hsub : c1.sub = c2.sub) (hhSub : c1.hSub = c2.hSub) (haud : c1.aud = c2.aud) (hhAud : c1.hAud = c2.hAud) (hjti : c1.jti = c2.jti) (hhJti : c1.hJti = c2.hJti) (hexp : c1.exp ≠ c2.exp) :
    Calls Tryz.prog 14 #[clV (.slice va1 c1.val.length vc1) (.slice aa1 c1.aud.length ac1) c1, clV (.slice va2 c2.val.length vc2) (.slice aa2 c2.aud.length ac2) c2] w fun e w' => e = .returned (.bool false) ∧ Below w.heap.size w w' := by
  obtain ⟨val1, iss1, hIss1, sub1, hSub1, aud1, hAud1, jti1, hJti1, exp1, nbf1, iat1⟩ := c1
  obtain ⟨val2, iss2, hIss2, sub2, hSub2, aud2, hAud2, jti2, hJti2, exp2, nbf2, iat2⟩ := c2
  unfold clV
  dsimp only at *
  obtain ⟨W, hW⟩ : ∃ W : World, (w.alloc (.cells #[.slice va1 (val1.length) vc1, .string ⟨iss1.toArray⟩, .bool hIss1, .string ⟨sub1.toArray⟩, .bool hSub1, .slice aa1 (aud1.length) ac1, .bool hAud1, .string ⟨jti1.toArray⟩, .bool hJti1, .bool exp1.has, .int .i64 exp1.at_, .bool nbf1.has, .int .i64 nbf1.at_, .bool iat1.has, .int .i64 iat1.at_] 27)).alloc (.cells #[.slice va2 (val2.length) vc2, .string ⟨iss2.toArray⟩, .bool hIss2, .string ⟨sub2.toArray⟩, .bool hSub2, .slice aa2 (aud2.length) ac2, .bool hAud2, .string ⟨jti2.toArray⟩, .bool hJti2, .bool exp2.has, .int .i64 exp2.at_, .bool nbf2.has, .int .i64 nbf2.at_, .bool iat2.has, .int .i64 iat2.at_] 27) = W := ⟨_, rfl⟩
  have x1 := alloc_below w (.cells #[.slice va1 (val1.length) vc1, .string ⟨iss1.toArray⟩, .bool hIss1, .string ⟨sub1.toArray⟩, .bool hSub1, .slice aa1 (aud1.length) ac1, .bool hAud1, .string ⟨jti1.toArray⟩, .bool hJti1, .bool exp1.has, .int .i64 exp1.at_, .bool nbf1.has, .int .i64 nbf1.at_, .bool iat1.has, .int .i64 iat1.at_] 27)
  have x2 := alloc_below (w.alloc (.cells #[.slice va1 (val1.length) vc1, .string ⟨iss1.toArray⟩, .bool hIss1, .string ⟨sub1.toArray⟩, .bool hSub1, .slice aa1 (aud1.length) ac1, .bool hAud1, .string ⟨jti1.toArray⟩, .bool hJti1, .bool exp1.has, .int .i64 exp1.at_, .bool nbf1.has, .int .i64 nbf1.at_, .bool iat1.has, .int .i64 iat1.at_] 27)) (.cells #[.slice va2 (val2.length) vc2, .string ⟨iss2.toArray⟩, .bool hIss2, .string ⟨sub2.toArray⟩, .bool hSub2, .slice aa2 (aud2.length) ac2, .bool hAud2, .string ⟨jti2.toArray⟩, .bool hJti2, .bool exp2.has, .int .i64 exp2.at_, .bool nbf2.has, .int .i64 nbf2.at_, .bool iat2.has, .int .i64 iat2.at_] 27)
  have x3 : Bl 27 _ _ [.slice va1 (val1.length) vc1, .string ⟨iss1.toArray⟩, .bool hIss1, .string ⟨sub1.toArray⟩, .bool hSub1, .slice aa1 (aud1.length) ac1, .bool hAud1, .string ⟨jti1.toArray⟩, .bool hJti1, .bool exp1.has, .int .i64 exp1.at_, .bool nbf1.has, .int .i64 nbf1.at_, .bool iat1.has, .int .i64 iat1.at_] := alloc_bl w [.slice va1 (val1.length) vc1, .string ⟨iss1.toArray⟩, .bool hIss1, .string ⟨sub1.toArray⟩, .bool hSub1, .slice aa1 (aud1.length) ac1, .bool hAud1, .string ⟨jti1.toArray⟩, .bool hJti1, .bool exp1.has, .int .i64 exp1.at_, .bool nbf1.has, .int .i64 nbf1.at_, .bool iat1.has, .int .i64 iat1.at_] 27
  have x4 : Bl 27 _ _ [.slice va2 (val2.length) vc2, .string ⟨iss2.toArray⟩, .bool hIss2, .string ⟨sub2.toArray⟩, .bool hSub2, .slice aa2 (aud2.length) ac2, .bool hAud2, .string ⟨jti2.toArray⟩, .bool hJti2, .bool exp2.has, .int .i64 exp2.at_, .bool nbf2.has, .int .i64 nbf2.at_, .bool iat2.has, .int .i64 iat2.at_] := alloc_bl (w.alloc (.cells #[.slice va1 (val1.length) vc1, .string ⟨iss1.toArray⟩, .bool hIss1, .string ⟨sub1.toArray⟩, .bool hSub1, .slice aa1 (aud1.length) ac1, .bool hAud1, .string ⟨jti1.toArray⟩, .bool hJti1, .bool exp1.has, .int .i64 exp1.at_, .bool nbf1.has, .int .i64 nbf1.at_, .bool iat1.has, .int .i64 iat1.at_] 27)) [.slice va2 (val2.length) vc2, .string ⟨iss2.toArray⟩, .bool hIss2, .string ⟨sub2.toArray⟩, .bool hSub2, .slice aa2 (aud2.length) ac2, .bool hAud2, .string ⟨jti2.toArray⟩, .bool hJti2, .bool exp2.has, .int .i64 exp2.at_, .bool nbf2.has, .int .i64 nbf2.at_, .bool iat2.has, .int .i64 iat2.at_] 27
  have x5 : Bl 27 W w.heap.size [.slice va1 (val1.length) vc1, .string ⟨iss1.toArray⟩, .bool hIss1, .string ⟨sub1.toArray⟩, .bool hSub1, .slice aa1 (aud1.length) ac1, .bool hAud1, .string ⟨jti1.toArray⟩, .bool hJti1, .bool exp1.has, .int .i64 exp1.at_, .bool nbf1.has, .int .i64 nbf1.at_, .bool iat1.has, .int .i64 iat1.at_] := by rw [← hW]; exact x3.below x2 x3.lt
  have x6 : Bl 27 W (w.heap.size + 1) [.slice va2 (val2.length) vc2, .string ⟨iss2.toArray⟩, .bool hIss2, .string ⟨sub2.toArray⟩, .bool hSub2, .slice aa2 (aud2.length) ac2, .bool hAud2, .string ⟨jti2.toArray⟩, .bool hJti2, .bool exp2.has, .int .i64 exp2.at_, .bool nbf2.has, .int .i64 nbf2.at_, .bool iat2.has, .int .i64 iat2.at_] := by rw [alloc_size] at x4; rw [← hW]; exact x4
  have hB : Below w.heap.size w W := by rw [← hW]; exact x1.trans (x2.mono x1.size)
  have HW : Hid ((w.alloc (.cells #[.slice va1 (val1.length) vc1, .string ⟨iss1.toArray⟩, .bool hIss1, .string ⟨sub1.toArray⟩, .bool hSub1, .slice aa1 (aud1.length) ac1, .bool hAud1, .string ⟨jti1.toArray⟩, .bool hJti1, .bool exp1.has, .int .i64 exp1.at_, .bool nbf1.has, .int .i64 nbf1.at_, .bool iat1.has, .int .i64 iat1.at_] 27)).alloc (.cells #[.slice va2 (val2.length) vc2, .string ⟨iss2.toArray⟩, .bool hIss2, .string ⟨sub2.toArray⟩, .bool hSub2, .slice aa2 (aud2.length) ac2, .bool hAud2, .string ⟨jti2.toArray⟩, .bool hJti2, .bool exp2.has, .int .i64 exp2.at_, .bool nbf2.has, .int .i64 nbf2.at_, .bool iat2.has, .int .i64 iat2.at_] 27) = W) := hW
  have HK : Hid (∀ wq, Below W.heap.size W wq → (wq.cell? ⟨w.heap.size, 0, none⟩ = some (.slice va1 (val1.length) vc1) ∧ wq.cell? ⟨w.heap.size, 1, none⟩ = some (.string ⟨iss1.toArray⟩) ∧ wq.cell? ⟨w.heap.size, 2, none⟩ = some (.bool hIss1) ∧ wq.cell? ⟨w.heap.size, 3, none⟩ = some (.string ⟨sub1.toArray⟩) ∧ wq.cell? ⟨w.heap.size, 4, none⟩ = some (.bool hSub1) ∧ wq.cell? ⟨w.heap.size, 5, none⟩ = some (.slice aa1 (aud1.length) ac1) ∧ wq.cell? ⟨w.heap.size, 6, none⟩ = some (.bool hAud1) ∧ wq.cell? ⟨w.heap.size, 7, none⟩ = some (.string ⟨jti1.toArray⟩) ∧ wq.cell? ⟨w.heap.size, 8, none⟩ = some (.bool hJti1) ∧ wq.cell? ⟨w.heap.size, 9, none⟩ = some (.bool exp1.has) ∧ wq.cell? ⟨w.heap.size, 10, none⟩ = some (.int .i64 exp1.at_) ∧ wq.cell? ⟨w.heap.size, 11, none⟩ = some (.bool nbf1.has) ∧ wq.cell? ⟨w.heap.size, 12, none⟩ = some (.int .i64 nbf1.at_) ∧ wq.cell? ⟨w.heap.size, 13, none⟩ = some (.bool iat1.has) ∧ wq.cell? ⟨w.heap.size, 14, none⟩ = some (.int .i64 iat1.at_)) ∧ (wq.cell? ⟨w.heap.size + 1, 0, none⟩ = some (.slice va2 (val2.length) vc2) ∧ wq.cell? ⟨w.heap.size + 1, 1, none⟩ = some (.string ⟨iss2.toArray⟩) ∧ wq.cell? ⟨w.heap.size + 1, 2, none⟩ = some (.bool hIss2) ∧ wq.cell? ⟨w.heap.size + 1, 3, none⟩ = some (.string ⟨sub2.toArray⟩) ∧ wq.cell? ⟨w.heap.size + 1, 4, none⟩ = some (.bool hSub2) ∧ wq.cell? ⟨w.heap.size + 1, 5, none⟩ = some (.slice aa2 (aud2.length) ac2) ∧ wq.cell? ⟨w.heap.size + 1, 6, none⟩ = some (.bool hAud2) ∧ wq.cell? ⟨w.heap.size + 1, 7, none⟩ = some (.string ⟨jti2.toArray⟩) ∧ wq.cell? ⟨w.heap.size + 1, 8, none⟩ = some (.bool hJti2) ∧ wq.cell? ⟨w.heap.size + 1, 9, none⟩ = some (.bool exp2.has) ∧ wq.cell? ⟨w.heap.size + 1, 10, none⟩ = some (.int .i64 exp2.at_) ∧ wq.cell? ⟨w.heap.size + 1, 11, none⟩ = some (.bool nbf2.has) ∧ wq.cell? ⟨w.heap.size + 1, 12, none⟩ = some (.int .i64 nbf2.at_) ∧ wq.cell? ⟨w.heap.size + 1, 13, none⟩ = some (.bool iat2.has) ∧ wq.cell? ⟨w.heap.size + 1, 14, none⟩ = some (.int .i64 iat2.at_))) := fun wq hq => by
    have a := x5.below hq x5.lt
    have b := x6.below hq x6.lt
    exact ⟨⟨a.cell 0 (by simp), a.cell 1 (by simp), a.cell 2 (by simp), a.cell 3 (by simp), a.cell 4 (by simp), a.cell 5 (by simp), a.cell 6 (by simp), a.cell 7 (by simp), a.cell 8 (by simp), a.cell 9 (by simp), a.cell 10 (by simp), a.cell 11 (by simp), a.cell 12 (by simp), a.cell 13 (by simp), a.cell 14 (by simp)⟩, b.cell 0 (by simp), b.cell 1 (by simp), b.cell 2 (by simp), b.cell 3 (by simp), b.cell 4 (by simp), b.cell 5 (by simp), b.cell 6 (by simp), b.cell 7 (by simp), b.cell 8 (by simp), b.cell 9 (by simp), b.cell 10 (by simp), b.cell 11 (by simp), b.cell 12 (by simp), b.cell 13 (by simp), b.cell 14 (by simp)⟩
  have CT := stexts_any aud1 aud2 aa1 aa2 ac1 ac2 W (ha1.below hB (Nat.le_refl _)) (ha2.below hB (Nat.le_refl _)) hl2
  have HCV : Hid (∀ q, Calls Tryz.prog 21 #[.slice va1 val1.length vc1, .slice va2 val2.length vc2] (W.drewN q) fun e w' => e = .returned (.bool (decide (val1 = val2))) ∧ ∃ q', w' = (W.drewN q).drewN q') := fun q => snodes_any _ _ val1 val2 va1 va2 vc1 vc2 (W.drewN q) ((hv1.below hB (Nat.le_refl _)).drewN q) ((hv2.below hB (Nat.le_refl _)).drewN q) hl1
  have HB : Hid (Below w.heap.size w W) := hB
  have hrt := run_tm
  obtain ⟨⟨k0, k1, k2, k3, k4, k5, k6, k7, k8, k9, k10, k11, k12, k13, k14⟩, j0, j1, j2, j3, j4, j5, j6, j7, j8, j9, j10, j11, j12, j13, j14⟩ := HK.out W (Below.refl _ _)
  clear hv1 ha1 hv2 ha2 hW x1 x2 x3 x4 x5 x6 hB
  subst hiss
  subst hhIss
  subst hsub
  subst hhSub
  rw [decide_eq_true haud] at CT
  subst haud
  subst hhAud
  subst hjti
  subst hhJti
  have q0 : ((exp1.has == exp2.has) && (exp1.at_ == exp2.at_)) = false := by
    rw [Bool.eq_false_iff]
    intro h
    simp only [Bool.and_eq_true, beq_iff_eq] at h
    obtain ⟨p1, p2⟩ := exp1
    obtain ⟨p3, p4⟩ := exp2
    exact hexp (by rw [show p1 = p3 from h.1, show p2 = p4 from h.2])
  clear HCV
  clear hexp
  have HF : Hid True := trivial
  go_enter Tryz.func14, Tryz.ntmps14
  go_wp2_with fail
  rw [HW.out]
  clear HW
  refine CT.mono ?_
  clear CT
  rintro e w9 ⟨rfl, q1, rfl⟩
  clear k0 j0 k1 j1 k2 j2 k3 j3 k4 j4 k5 j5 k6 j6 k7 j7 k8 j8 k9 j9 k10 j10 k11 j11 k12 j12 k13 j13 k14 j14
  obtain ⟨⟨k0, k1, k2, k3, k4, k5, k6, k7, k8, k9, k10, k11, k12, k13, k14⟩, j0, j1, j2, j3, j4, j5, j6, j7, j8, j9, j10, j11, j12, j13, j14⟩ := HK.out (W.drewN q1) (below_drewN (Below.refl _ _) q1)
  go_wp2
  go_ret
  exact ⟨rfl, below_drewN HB.out q1⟩

end Go.Proofs.YthlfboaidhgnlaaGreatDoor
