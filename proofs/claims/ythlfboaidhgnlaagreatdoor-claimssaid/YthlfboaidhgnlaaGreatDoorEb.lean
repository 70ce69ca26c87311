import Derived.Test.YthlfboaidhgnlaaGreatDoorEa
import Derived.Test.YthlfboaidhgnlaaGreatDoorLk
namespace Go.Proofs.YthlfboaidhgnlaaGreatDoor
open Go.RowKit Go.Shelf

set_option maxRecDepth 100000 in
set_option maxHeartbeats 16000000 in
theorem csame_eq (va1 : Option Addr) (vc1 : Nat) (aa1 : Option Addr) (ac1 : Nat) (va2 : Option Addr) (vc2 : Nat) (aa2 : Option Addr) (ac2 : Nat) (c : Cm) (w : World)
    (hv1 : NR w (.slice va1 c.val.length vc1) c.val va1 vc1) (ha1 : TR w (.slice aa1 c.aud.length ac1) c.aud aa1 ac1) (hv2 : NR w (.slice va2 c.val.length vc2) c.val va2 vc2) (ha2 : TR w (.slice aa2 c.aud.length ac2) c.aud aa2 ac2) (hl1 : c.val.length ≤ 1000000000) (hl2 : c.aud.length ≤ 1000000000000000000) :
    Calls Tryz.prog 14 #[clV (.slice va1 c.val.length vc1) (.slice aa1 c.aud.length ac1) c, clV (.slice va2 c.val.length vc2) (.slice aa2 c.aud.length ac2) c] w fun e w' => e = .returned (.bool true) ∧ Below w.heap.size w w' := by
  obtain ⟨val, iss, hIss, sub, hSub, aud, hAud, jti, hJti, exp, nbf, iat⟩ := c
  unfold clV
  dsimp only at *
  obtain ⟨W, hW⟩ : ∃ W : World, (w.alloc (.cells #[.slice va1 (val.length) vc1, .string ⟨iss.toArray⟩, .bool hIss, .string ⟨sub.toArray⟩, .bool hSub, .slice aa1 (aud.length) ac1, .bool hAud, .string ⟨jti.toArray⟩, .bool hJti, .bool exp.has, .int .i64 exp.at_, .bool nbf.has, .int .i64 nbf.at_, .bool iat.has, .int .i64 iat.at_] 27)).alloc (.cells #[.slice va2 (val.length) vc2, .string ⟨iss.toArray⟩, .bool hIss, .string ⟨sub.toArray⟩, .bool hSub, .slice aa2 (aud.length) ac2, .bool hAud, .string ⟨jti.toArray⟩, .bool hJti, .bool exp.has, .int .i64 exp.at_, .bool nbf.has, .int .i64 nbf.at_, .bool iat.has, .int .i64 iat.at_] 27) = W := ⟨_, rfl⟩
  have x1 := alloc_below w (.cells #[.slice va1 (val.length) vc1, .string ⟨iss.toArray⟩, .bool hIss, .string ⟨sub.toArray⟩, .bool hSub, .slice aa1 (aud.length) ac1, .bool hAud, .string ⟨jti.toArray⟩, .bool hJti, .bool exp.has, .int .i64 exp.at_, .bool nbf.has, .int .i64 nbf.at_, .bool iat.has, .int .i64 iat.at_] 27)
  have x2 := alloc_below (w.alloc (.cells #[.slice va1 (val.length) vc1, .string ⟨iss.toArray⟩, .bool hIss, .string ⟨sub.toArray⟩, .bool hSub, .slice aa1 (aud.length) ac1, .bool hAud, .string ⟨jti.toArray⟩, .bool hJti, .bool exp.has, .int .i64 exp.at_, .bool nbf.has, .int .i64 nbf.at_, .bool iat.has, .int .i64 iat.at_] 27)) (.cells #[.slice va2 (val.length) vc2, .string ⟨iss.toArray⟩, .bool hIss, .string ⟨sub.toArray⟩, .bool hSub, .slice aa2 (aud.length) ac2, .bool hAud, .string ⟨jti.toArray⟩, .bool hJti, .bool exp.has, .int .i64 exp.at_, .bool nbf.has, .int .i64 nbf.at_, .bool iat.has, .int .i64 iat.at_] 27)
  have x3 : Bl 27 _ _ [.slice va1 (val.length) vc1, .string ⟨iss.toArray⟩, .bool hIss, .string ⟨sub.toArray⟩, .bool hSub, .slice aa1 (aud.length) ac1, .bool hAud, .string ⟨jti.toArray⟩, .bool hJti, .bool exp.has, .int .i64 exp.at_, .bool nbf.has, .int .i64 nbf.at_, .bool iat.has, .int .i64 iat.at_] := alloc_bl w [.slice va1 (val.length) vc1, .string ⟨iss.toArray⟩, .bool hIss, .string ⟨sub.toArray⟩, .bool hSub, .slice aa1 (aud.length) ac1, .bool hAud, .string ⟨jti.toArray⟩, .bool hJti, .bool exp.has, .int .i64 exp.at_, .bool nbf.has, .int .i64 nbf.at_, .bool iat.has, .int .i64 iat.at_] 27
  have x4 : Bl 27 _ _ [.slice va2 (val.length) vc2, .string ⟨iss.toArray⟩, .bool hIss, .string ⟨sub.toArray⟩, .bool hSub, .slice aa2 (aud.length) ac2, .bool hAud, .string ⟨jti.toArray⟩, .bool hJti, .bool exp.has, .int .i64 exp.at_, .bool nbf.has, .int .i64 nbf.at_, .bool iat.has, .int .i64 iat.at_] := alloc_bl (w.alloc (.cells #[.slice va1 (val.length) vc1, .string ⟨iss.toArray⟩, .bool hIss, .string ⟨sub.toArray⟩, .bool hSub, .slice aa1 (aud.length) ac1, .bool hAud, .string ⟨jti.toArray⟩, .bool hJti, .bool exp.has, .int .i64 exp.at_, .bool nbf.has, .int .i64 nbf.at_, .bool iat.has, .int .i64 iat.at_] 27)) [.slice va2 (val.length) vc2, .string ⟨iss.toArray⟩, .bool hIss, .string ⟨sub.toArray⟩, .bool hSub, .slice aa2 (aud.length) ac2, .bool hAud, .string ⟨jti.toArray⟩, .bool hJti, .bool exp.has, .int .i64 exp.at_, .bool nbf.has, .int .i64 nbf.at_, .bool iat.has, .int .i64 iat.at_] 27
  have x5 : Bl 27 W w.heap.size [.slice va1 (val.length) vc1, .string ⟨iss.toArray⟩, .bool hIss, .string ⟨sub.toArray⟩, .bool hSub, .slice aa1 (aud.length) ac1, .bool hAud, .string ⟨jti.toArray⟩, .bool hJti, .bool exp.has, .int .i64 exp.at_, .bool nbf.has, .int .i64 nbf.at_, .bool iat.has, .int .i64 iat.at_] := by rw [← hW]; exact x3.below x2 x3.lt
  have x6 : Bl 27 W (w.heap.size + 1) [.slice va2 (val.length) vc2, .string ⟨iss.toArray⟩, .bool hIss, .string ⟨sub.toArray⟩, .bool hSub, .slice aa2 (aud.length) ac2, .bool hAud, .string ⟨jti.toArray⟩, .bool hJti, .bool exp.has, .int .i64 exp.at_, .bool nbf.has, .int .i64 nbf.at_, .bool iat.has, .int .i64 iat.at_] := by rw [alloc_size] at x4; rw [← hW]; exact x4
  have hB : Below w.heap.size w W := by rw [← hW]; exact x1.trans (x2.mono x1.size)
  have HW : Hid ((w.alloc (.cells #[.slice va1 (val.length) vc1, .string ⟨iss.toArray⟩, .bool hIss, .string ⟨sub.toArray⟩, .bool hSub, .slice aa1 (aud.length) ac1, .bool hAud, .string ⟨jti.toArray⟩, .bool hJti, .bool exp.has, .int .i64 exp.at_, .bool nbf.has, .int .i64 nbf.at_, .bool iat.has, .int .i64 iat.at_] 27)).alloc (.cells #[.slice va2 (val.length) vc2, .string ⟨iss.toArray⟩, .bool hIss, .string ⟨sub.toArray⟩, .bool hSub, .slice aa2 (aud.length) ac2, .bool hAud, .string ⟨jti.toArray⟩, .bool hJti, .bool exp.has, .int .i64 exp.at_, .bool nbf.has, .int .i64 nbf.at_, .bool iat.has, .int .i64 iat.at_] 27) = W) := hW
  have HK : Hid (∀ wq, Below W.heap.size W wq → (wq.cell? ⟨w.heap.size, 0, none⟩ = some (.slice va1 (val.length) vc1) ∧ wq.cell? ⟨w.heap.size, 1, none⟩ = some (.string ⟨iss.toArray⟩) ∧ wq.cell? ⟨w.heap.size, 2, none⟩ = some (.bool hIss) ∧ wq.cell? ⟨w.heap.size, 3, none⟩ = some (.string ⟨sub.toArray⟩) ∧ wq.cell? ⟨w.heap.size, 4, none⟩ = some (.bool hSub) ∧ wq.cell? ⟨w.heap.size, 5, none⟩ = some (.slice aa1 (aud.length) ac1) ∧ wq.cell? ⟨w.heap.size, 6, none⟩ = some (.bool hAud) ∧ wq.cell? ⟨w.heap.size, 7, none⟩ = some (.string ⟨jti.toArray⟩) ∧ wq.cell? ⟨w.heap.size, 8, none⟩ = some (.bool hJti) ∧ wq.cell? ⟨w.heap.size, 9, none⟩ = some (.bool exp.has) ∧ wq.cell? ⟨w.heap.size, 10, none⟩ = some (.int .i64 exp.at_) ∧ wq.cell? ⟨w.heap.size, 11, none⟩ = some (.bool nbf.has) ∧ wq.cell? ⟨w.heap.size, 12, none⟩ = some (.int .i64 nbf.at_) ∧ wq.cell? ⟨w.heap.size, 13, none⟩ = some (.bool iat.has) ∧ wq.cell? ⟨w.heap.size, 14, none⟩ = some (.int .i64 iat.at_)) ∧ (wq.cell? ⟨w.heap.size + 1, 0, none⟩ = some (.slice va2 (val.length) vc2) ∧ wq.cell? ⟨w.heap.size + 1, 1, none⟩ = some (.string ⟨iss.toArray⟩) ∧ wq.cell? ⟨w.heap.size + 1, 2, none⟩ = some (.bool hIss) ∧ wq.cell? ⟨w.heap.size + 1, 3, none⟩ = some (.string ⟨sub.toArray⟩) ∧ wq.cell? ⟨w.heap.size + 1, 4, none⟩ = some (.bool hSub) ∧ wq.cell? ⟨w.heap.size + 1, 5, none⟩ = some (.slice aa2 (aud.length) ac2) ∧ wq.cell? ⟨w.heap.size + 1, 6, none⟩ = some (.bool hAud) ∧ wq.cell? ⟨w.heap.size + 1, 7, none⟩ = some (.string ⟨jti.toArray⟩) ∧ wq.cell? ⟨w.heap.size + 1, 8, none⟩ = some (.bool hJti) ∧ wq.cell? ⟨w.heap.size + 1, 9, none⟩ = some (.bool exp.has) ∧ wq.cell? ⟨w.heap.size + 1, 10, none⟩ = some (.int .i64 exp.at_) ∧ wq.cell? ⟨w.heap.size + 1, 11, none⟩ = some (.bool nbf.has) ∧ wq.cell? ⟨w.heap.size + 1, 12, none⟩ = some (.int .i64 nbf.at_) ∧ wq.cell? ⟨w.heap.size + 1, 13, none⟩ = some (.bool iat.has) ∧ wq.cell? ⟨w.heap.size + 1, 14, none⟩ = some (.int .i64 iat.at_))) := fun wq hq => by
    have a := x5.below hq x5.lt
    have b := x6.below hq x6.lt
    exact ⟨⟨a.cell 0 (by simp), a.cell 1 (by simp), a.cell 2 (by simp), a.cell 3 (by simp), a.cell 4 (by simp), a.cell 5 (by simp), a.cell 6 (by simp), a.cell 7 (by simp), a.cell 8 (by simp), a.cell 9 (by simp), a.cell 10 (by simp), a.cell 11 (by simp), a.cell 12 (by simp), a.cell 13 (by simp), a.cell 14 (by simp)⟩, b.cell 0 (by simp), b.cell 1 (by simp), b.cell 2 (by simp), b.cell 3 (by simp), b.cell 4 (by simp), b.cell 5 (by simp), b.cell 6 (by simp), b.cell 7 (by simp), b.cell 8 (by simp), b.cell 9 (by simp), b.cell 10 (by simp), b.cell 11 (by simp), b.cell 12 (by simp), b.cell 13 (by simp), b.cell 14 (by simp)⟩
  have CT := stexts_any aud aud aa1 aa2 ac1 ac2 W (ha1.below hB (Nat.le_refl _)) (ha2.below hB (Nat.le_refl _)) hl2
  have HCV : Hid (∀ q, Calls Tryz.prog 21 #[.slice va1 val.length vc1, .slice va2 val.length vc2] (W.drewN q) fun e w' => e = .returned (.bool (decide (val = val))) ∧ ∃ q', w' = (W.drewN q).drewN q') := fun q => snodes_any _ _ val val va1 va2 vc1 vc2 (W.drewN q) ((hv1.below hB (Nat.le_refl _)).drewN q) ((hv2.below hB (Nat.le_refl _)).drewN q) hl1
  have HB : Hid (Below w.heap.size w W) := hB
  have hrt := run_tm
  obtain ⟨⟨k0, k1, k2, k3, k4, k5, k6, k7, k8, k9, k10, k11, k12, k13, k14⟩, j0, j1, j2, j3, j4, j5, j6, j7, j8, j9, j10, j11, j12, j13, j14⟩ := HK.out W (Below.refl _ _)
  clear hv1 ha1 hv2 ha2 hW x1 x2 x3 x4 x5 x6 hB
  rw [decide_eq_true rfl] at CT HCV
  have HF : Hid (True) := trivial
  go_enter Tryz.func14, Tryz.ntmps14
  go_wp2_with fail
  rw [HW.out]
  clear HW
  refine CT.mono ?_
  clear CT
  rintro e w9 ⟨rfl, q1, rfl⟩
  clear k0 j0 k1 j1 k2 j2 k3 j3 k4 j4 k5 j5 k6 j6 k7 j7 k8 j8 k9 j9 k10 j10 k11 j11 k12 j12 k13 j13 k14 j14
  obtain ⟨⟨k0, k1, k2, k3, k4, k5, k6, k7, k8, k9, k10, k11, k12, k13, k14⟩, j0, j1, j2, j3, j4, j5, j6, j7, j8, j9, j10, j11, j12, j13, j14⟩ := HK.out (W.drewN q1) (below_drewN (Below.refl _ _) q1)
  go_wp2_with fail
  refine (HCV.out q1).mono ?_
  rintro e w9 ⟨rfl, q2, rfl⟩
  clear k0 j0 k1 j1 k2 j2 k3 j3 k4 j4 k5 j5 k6 j6 k7 j7 k8 j8 k9 j9 k10 j10 k11 j11 k12 j12 k13 j13 k14 j14
  go_wp2
  go_ret
  exact ⟨rfl, below_drewN HB.out (q1 + q2)⟩

end Go.Proofs.YthlfboaidhgnlaaGreatDoor
