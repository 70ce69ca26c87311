import Derived.Test.YtpfdaclmchcbiaaGreatDoorQD
import Derived.Test.YtpfdaclmchcbiaaGreatDoorOrk
namespace Go.Proofs.YtpfdaclmchcbiaaGreatDoor
open Go.RowKit
set_option maxRecDepth 100000

set_option maxRecDepth 100000 in
set_option maxHeartbeats 16000000 in
theorem ages_any (c : Cm) (va : Option Addr) (vc : Nat) (aa : Option Addr) (ac : Nat) (alg : Int) (tcl : List UInt8) (tno : List UInt8) (thN : Bool) (tac : List UInt8) (thA : Bool) (tco : List UInt8) (thC : Bool) (tag : Int) (thG : Bool) (tle : Int) (now before more : Int) (w : World) (H : LA w c va vc aa ac) (h1 : tac.length ≤ 1000000000) (h2 : tco.length ≤ 1000000000) (hn : now ≤ 9223372036854775807) (hb : before ≤ 9223372036854775807) :
    Calls Tryz.prog 6 #[.agg #[.slice va c.val.length vc, .string ⟨c.iss.toArray⟩, .bool c.hIss, .string ⟨c.sub.toArray⟩, .bool c.hSub, .slice aa c.aud.length ac, .bool c.hAud, .string ⟨c.jti.toArray⟩, .bool c.hJti, .bool c.exp.has, .int .i64 c.exp.at_, .bool c.nbf.has, .int .i64 c.nbf.at_, .bool c.iat.has, .int .i64 c.iat.at_], .int .i64 alg, .agg #[.string ⟨tcl.toArray⟩, .string ⟨tno.toArray⟩, .bool thN, .string ⟨tac.toArray⟩, .bool thA, .string ⟨tco.toArray⟩, .bool thC, .int .i64 tag, .bool thG, .int .i64 tle], .int .i64 now, .int .i64 before, .int .i64 more] w fun e w' => e = .returned (.bool true) ∧ Below w.heap.size w w' := by
  have HQ0 := ((QL.first w [.slice va c.val.length vc, .string ⟨c.iss.toArray⟩, .bool c.hIss, .string ⟨c.sub.toArray⟩, .bool c.hSub, .slice aa c.aud.length ac, .bool c.hAud, .string ⟨c.jti.toArray⟩, .bool c.hJti, .bool c.exp.has, .int .i64 c.exp.at_, .bool c.nbf.has, .int .i64 c.nbf.at_, .bool c.iat.has, .int .i64 c.iat.at_]).push [.string ⟨tcl.toArray⟩, .string ⟨tno.toArray⟩, .bool thN, .string ⟨tac.toArray⟩, .bool thA, .string ⟨tco.toArray⟩, .bool thC, .int .i64 tag, .bool thG, .int .i64 tle])
  obtain ⟨W, hW⟩ : ∃ x, ((w.alloc (.cells #[.slice va c.val.length vc, .string ⟨c.iss.toArray⟩, .bool c.hIss, .string ⟨c.sub.toArray⟩, .bool c.hSub, .slice aa c.aud.length ac, .bool c.hAud, .string ⟨c.jti.toArray⟩, .bool c.hJti, .bool c.exp.has, .int .i64 c.exp.at_, .bool c.nbf.has, .int .i64 c.nbf.at_, .bool c.iat.has, .int .i64 c.iat.at_] 27)).alloc (.cells #[.string ⟨tcl.toArray⟩, .string ⟨tno.toArray⟩, .bool thN, .string ⟨tac.toArray⟩, .bool thA, .string ⟨tco.toArray⟩, .bool thC, .int .i64 tag, .bool thG, .int .i64 tle] 30)) = x := ⟨_, rfl⟩
  have HQ : QL w W [.slice va c.val.length vc, .string ⟨c.iss.toArray⟩, .bool c.hIss, .string ⟨c.sub.toArray⟩, .bool c.hSub, .slice aa c.aud.length ac, .bool c.hAud, .string ⟨c.jti.toArray⟩, .bool c.hJti, .bool c.exp.has, .int .i64 c.exp.at_, .bool c.nbf.has, .int .i64 c.nbf.at_, .bool c.iat.has, .int .i64 c.iat.at_] [(w.heap.size + 1, [.string ⟨tcl.toArray⟩, .string ⟨tno.toArray⟩, .bool thN, .string ⟨tac.toArray⟩, .bool thA, .string ⟨tco.toArray⟩, .bool thC, .int .i64 tag, .bool thG, .int .i64 tle])] := by rw [← hW]; have h := HQ0; simp only [alloc_size] at h; exact h
  have HW : Hid (((w.alloc (.cells #[.slice va c.val.length vc, .string ⟨c.iss.toArray⟩, .bool c.hIss, .string ⟨c.sub.toArray⟩, .bool c.hSub, .slice aa c.aud.length ac, .bool c.hAud, .string ⟨c.jti.toArray⟩, .bool c.hJti, .bool c.exp.has, .int .i64 c.exp.at_, .bool c.nbf.has, .int .i64 c.nbf.at_, .bool c.iat.has, .int .i64 c.iat.at_] 27)).alloc (.cells #[.string ⟨tcl.toArray⟩, .string ⟨tno.toArray⟩, .bool thN, .string ⟨tac.toArray⟩, .bool thA, .string ⟨tco.toArray⟩, .bool thC, .int .i64 tag, .bool thG, .int .i64 tle] 30)) = W) := hW
  have HLq : Hid (∀ wq, Below w.heap.size w wq → LA wq c va vc aa ac) := fun wq hq => H.below hq
  have CA := (HLq.out W HQ.bel).awk
  have HQW : Hid (QL w W [.slice va c.val.length vc, .string ⟨c.iss.toArray⟩, .bool c.hIss, .string ⟨c.sub.toArray⟩, .bool c.hSub, .slice aa c.aud.length ac, .bool c.hAud, .string ⟨c.jti.toArray⟩, .bool c.hJti, .bool c.exp.has, .int .i64 c.exp.at_, .bool c.nbf.has, .int .i64 c.nbf.at_, .bool c.iat.has, .int .i64 c.iat.at_] [(w.heap.size + 1, [.string ⟨tcl.toArray⟩, .string ⟨tno.toArray⟩, .bool thN, .string ⟨tac.toArray⟩, .bool thA, .string ⟨tco.toArray⟩, .bool thC, .int .i64 tag, .bool thG, .int .i64 tle])]) := HQ
  have hwt : ∀ l : List Value, l.length = 10 → (Tryz.prog.info? 30).map (·.size) = some l.length := fun l hl => by rw [hl]; kernel_rfl
  have hcl : ∀ l : List Value, l.length = 15 → (Tryz.prog.info? 27).map (·.size) = some l.length := fun l hl => by rw [hl]; kernel_rfl
  clear HQ0 hW HQ H
  go_enter Tryz.func6, Tryz.ntmps6
  go_upto_region 1 with fail
  rw [HW.out]
  clear HW
  go_wp2_with fail
  refine CA.mono ?_
  clear CA
  rintro e w1 ⟨rfl, hB1⟩
  have HQ1 : Hid (QL w w1 [.slice va c.val.length vc, .string ⟨c.iss.toArray⟩, .bool c.hIss, .string ⟨c.sub.toArray⟩, .bool c.hSub, .slice aa c.aud.length ac, .bool c.hAud, .string ⟨c.jti.toArray⟩, .bool c.hJti, .bool c.exp.has, .int .i64 c.exp.at_, .bool c.nbf.has, .int .i64 c.nbf.at_, .bool c.iat.has, .int .i64 c.iat.at_] [(w.heap.size + 1, [.string ⟨tcl.toArray⟩, .string ⟨tno.toArray⟩, .bool thN, .string ⟨tac.toArray⟩, .bool thA, .string ⟨tco.toArray⟩, .bool thC, .int .i64 tag, .bool thG, .int .i64 tle])]) := HQW.out.below hB1
  have k0 : w1.cell? ⟨w.heap.size, 0, none⟩ = some (.slice va c.val.length vc) := HQ1.out.cl.cell 0 (by simp)
  have CB := (HLq.out w1 HQ1.out.bel).bey
  clear hB1 HQW
  go_wp2_with fail
  refine CB.mono ?_
  clear CB k0
  rintro e w2 ⟨hB2, b, rfl⟩
  have HQ2 : Hid (QL w w2 [.slice va c.val.length vc, .string ⟨c.iss.toArray⟩, .bool c.hIss, .string ⟨c.sub.toArray⟩, .bool c.hSub, .slice aa c.aud.length ac, .bool c.hAud, .string ⟨c.jti.toArray⟩, .bool c.hJti, .bool c.exp.has, .int .i64 c.exp.at_, .bool c.nbf.has, .int .i64 c.nbf.at_, .bool c.iat.has, .int .i64 c.iat.at_] [(w.heap.size + 1, [.string ⟨tcl.toArray⟩, .string ⟨tno.toArray⟩, .bool thN, .string ⟨tac.toArray⟩, .bool thA, .string ⟨tco.toArray⟩, .bool thC, .int .i64 tag, .bool thG, .int .i64 tle])]) := HQ1.out.below hB2
  clear hB2 HQ1
  cases b
  · have k0 : w2.cell? ⟨w.heap.size, 0, none⟩ = some (.slice va c.val.length vc) := HQ2.out.cl.cell 0 (by simp)
    have CS := (HLq.out w2 HQ2.out.bel).shp
    obtain ⟨sh, hsh⟩ : ∃ x, shapedF c.val = x := ⟨_, rfl⟩
    rw [hsh] at CS
    have HSH : Hid (shapedF c.val = sh) := hsh
    clear hsh
    go_wp2_with fail
    refine CS.mono ?_
    clear CS k0
    rintro e w3 ⟨rfl, hB3⟩
    have HQ3 : Hid (QL w w3 [.slice va c.val.length vc, .string ⟨c.iss.toArray⟩, .bool c.hIss, .string ⟨c.sub.toArray⟩, .bool c.hSub, .slice aa c.aud.length ac, .bool c.hAud, .string ⟨c.jti.toArray⟩, .bool c.hJti, .bool c.exp.has, .int .i64 c.exp.at_, .bool c.nbf.has, .int .i64 c.nbf.at_, .bool c.iat.has, .int .i64 c.iat.at_] [(w.heap.size + 1, [.string ⟨tcl.toArray⟩, .string ⟨tno.toArray⟩, .bool thN, .string ⟨tac.toArray⟩, .bool thA, .string ⟨tco.toArray⟩, .bool thC, .int .i64 tag, .bool thG, .int .i64 tle])]) := HQ2.out.below hB3
    clear hB3 HQ2
    cases sh
    · clear HSH
      have CA := (HLq.out _ HQ3.out.bel).awk
      go_wp2_with fail
      refine CA.mono ?_
      clear CA
      rintro e w4 ⟨rfl, hB4⟩
      have HB4 : Hid (Below w.heap.size w w4) := (HQ3.out.below hB4).bel
      clear hB4
      go_wp2
      go_ret
      exact ⟨rfl, HB4.out⟩
    · skip
      obtain ⟨X, hX⟩ : ∃ x, checkQ (mkQ c va vc aa ac alg ⟨tcl, tno, thN, tac, thA, tco, thC, tag, thG, tle⟩ now) = x := ⟨_, rfl⟩
      obtain ⟨Y, hY⟩ : ∃ x, checkQ (mkQ c va vc aa ac alg ⟨tcl, tno, thN, tac, thA, tco, thC, tag, thG, tle⟩ before) = x := ⟨_, rfl⟩
      have HXY : Hid (X = Y ∨ ((X = 0 ∨ X = 153) ∧ (Y = 0 ∨ Y = 153))) := by have h := age_two (mkQ c va vc aa ac alg ⟨tcl, tno, thN, tac, thA, tco, thC, tag, thG, tle⟩ now) before; rw [← hX, ← hY]; exact h
      have HLess : Hid (X = 0 → before ≤ now → Y = 0) := fun h hb => by have h := age_less (mkQ c va vc aa ac alg ⟨tcl, tno, thN, tac, thA, tco, thC, tag, thG, tle⟩ now) before (by rw [hX]; exact h) hb; rw [← hY]; exact h
      have HMore : Hid (X = 0 → ∀ m, tag < m → m ≤ 2147483648 → checkQ (mkQ c va vc aa ac alg ⟨tcl, tno, thN, tac, thA, tco, thC, m, thG, tle⟩ now) = 0) := fun h m h1 h2 => age_more (mkQ c va vc aa ac alg ⟨tcl, tno, thN, tac, thA, tco, thC, tag, thG, tle⟩ now) m (by rw [hX]; exact h) h1 h2
      have HLee : Hid (X = 0 → checkQ (mkQ c va vc aa ac alg ⟨tcl, tno, thN, tac, thA, tco, thC, tag, thG, 600⟩ now) = 0) := fun h => age_lee (mkQ c va vc aa ac alg ⟨tcl, tno, thN, tac, thA, tco, thC, tag, thG, tle⟩ now) (by rw [hX]; exact h)
      have HX : Hid (checkQ (mkQ c va vc aa ac alg ⟨tcl, tno, thN, tac, thA, tco, thC, tag, thG, tle⟩ now) = X) := hX
      have HC1 : Hid (∀ wq, Below w.heap.size w wq → Calls Tryz.prog 10 #[.agg #[.slice va c.val.length vc, .string ⟨c.iss.toArray⟩, .bool c.hIss, .string ⟨c.sub.toArray⟩, .bool c.hSub, .slice aa c.aud.length ac, .bool c.hAud, .string ⟨c.jti.toArray⟩, .bool c.hJti, .bool c.exp.has, .int .i64 c.exp.at_, .bool c.nbf.has, .int .i64 c.nbf.at_, .bool c.iat.has, .int .i64 c.iat.at_], .int .i64 alg, .agg #[.string ⟨tcl.toArray⟩, .string ⟨tno.toArray⟩, .bool thN, .string ⟨tac.toArray⟩, .bool thA, .string ⟨tco.toArray⟩, .bool thC, .int .i64 tag, .bool thG, .int .i64 tle], .int .i64 now] wq fun e w' => e = .returned (.int .i64 X) ∧ Below wq.heap.size wq w') := fun wq hq => by rw [← hX]; exact (HLq.out wq hq).chk alg ⟨tcl, tno, thN, tac, thA, tco, thC, tag, thG, tle⟩ now h1 h2 hn
      have HC2 : Hid (∀ wq, Below w.heap.size w wq → Calls Tryz.prog 10 #[.agg #[.slice va c.val.length vc, .string ⟨c.iss.toArray⟩, .bool c.hIss, .string ⟨c.sub.toArray⟩, .bool c.hSub, .slice aa c.aud.length ac, .bool c.hAud, .string ⟨c.jti.toArray⟩, .bool c.hJti, .bool c.exp.has, .int .i64 c.exp.at_, .bool c.nbf.has, .int .i64 c.nbf.at_, .bool c.iat.has, .int .i64 c.iat.at_], .int .i64 alg, .agg #[.string ⟨tcl.toArray⟩, .string ⟨tno.toArray⟩, .bool thN, .string ⟨tac.toArray⟩, .bool thA, .string ⟨tco.toArray⟩, .bool thC, .int .i64 tag, .bool thG, .int .i64 tle], .int .i64 before] wq fun e w' => e = .returned (.int .i64 Y) ∧ Below wq.heap.size wq w') := fun wq hq => by rw [← hY]; exact (HLq.out wq hq).chk alg ⟨tcl, tno, thN, tac, thA, tco, thC, tag, thG, tle⟩ before h1 h2 hb
      have HCm : Hid (X = 0 → ∀ m, (m = tag ∨ tag < m ∧ m ≤ 2147483648) → ∀ wq, Below w.heap.size w wq → Calls Tryz.prog 10 #[.agg #[.slice va c.val.length vc, .string ⟨c.iss.toArray⟩, .bool c.hIss, .string ⟨c.sub.toArray⟩, .bool c.hSub, .slice aa c.aud.length ac, .bool c.hAud, .string ⟨c.jti.toArray⟩, .bool c.hJti, .bool c.exp.has, .int .i64 c.exp.at_, .bool c.nbf.has, .int .i64 c.nbf.at_, .bool c.iat.has, .int .i64 c.iat.at_], .int .i64 alg, .agg #[.string ⟨tcl.toArray⟩, .string ⟨tno.toArray⟩, .bool thN, .string ⟨tac.toArray⟩, .bool thA, .string ⟨tco.toArray⟩, .bool thC, .int .i64 m, .bool thG, .int .i64 tle], .int .i64 now] wq fun e w' => e = .returned (.int .i64 0) ∧ Below wq.heap.size wq w') := fun h m hm wq hq => by
        have e : checkQ (mkQ c va vc aa ac alg ⟨tcl, tno, thN, tac, thA, tco, thC, m, thG, tle⟩ now) = 0 := by
          rcases hm with rfl | ⟨ha, hb⟩
          · rw [HX.out]; exact h
          · exact HMore.out h m ha hb
        have hk := (HLq.out wq hq).chk alg ⟨tcl, tno, thN, tac, thA, tco, thC, m, thG, tle⟩ now h1 h2 hn
        rw [e] at hk
        exact hk
      have HCu : Hid (X = 0 → ∀ wq, Below w.heap.size w wq → Calls Tryz.prog 10 #[.agg #[.slice va c.val.length vc, .string ⟨c.iss.toArray⟩, .bool c.hIss, .string ⟨c.sub.toArray⟩, .bool c.hSub, .slice aa c.aud.length ac, .bool c.hAud, .string ⟨c.jti.toArray⟩, .bool c.hJti, .bool c.exp.has, .int .i64 c.exp.at_, .bool c.nbf.has, .int .i64 c.nbf.at_, .bool c.iat.has, .int .i64 c.iat.at_], .int .i64 alg, .agg #[.string ⟨tcl.toArray⟩, .string ⟨tno.toArray⟩, .bool thN, .string ⟨tac.toArray⟩, .bool thA, .string ⟨tco.toArray⟩, .bool thC, .int .i64 tag, .bool thG, .int .i64 600], .int .i64 now] wq fun e w' => e = .returned (.int .i64 0) ∧ Below wq.heap.size wq w') := fun h wq hq => by
        have hk := (HLq.out wq hq).chk alg ⟨tcl, tno, thN, tac, thA, tco, thC, tag, thG, 600⟩ now h1 h2 hn
        rw [HLee.out h] at hk
        exact hk
      clear hX hY HX HMore HLee HSH
      have CK1 := HC1.out w3 HQ3.out.bel
      clear HC1
      go_wp2_with (first | (refine wpList_load_mid rfl 27 (.tmp 6) rfl w.heap.size 0 rfl [.slice va c.val.length vc, .string ⟨c.iss.toArray⟩, .bool c.hIss, .string ⟨c.sub.toArray⟩, .bool c.hSub, .slice aa c.aud.length ac, .bool c.hAud, .string ⟨c.jti.toArray⟩, .bool c.hJti, .bool c.exp.has, .int .i64 c.exp.at_, .bool c.nbf.has, .int .i64 c.nbf.at_, .bool c.iat.has, .int .i64 c.iat.at_] _ (bl_rng9 (HQ3.out.cl)) Tryz.underlying27 rfl (hcl _ rfl) ?_) | (refine wpList_load_mid rfl 30 (.tmp 8) rfl (w.heap.size + 1) 0 rfl [.string ⟨tcl.toArray⟩, .string ⟨tno.toArray⟩, .bool thN, .string ⟨tac.toArray⟩, .bool thA, .string ⟨tco.toArray⟩, .bool thC, .int .i64 tag, .bool thG, .int .i64 tle] _ (bl_rng9 (HQ3.out.at 0 rfl)) Tryz.underlying30 rfl (hwt _ rfl) ?_))
      refine CK1.mono ?_
      clear CK1
      rintro e w4 ⟨rfl, hB4⟩
      have HQ4 : Hid (QL w w4 [.slice va c.val.length vc, .string ⟨c.iss.toArray⟩, .bool c.hIss, .string ⟨c.sub.toArray⟩, .bool c.hSub, .slice aa c.aud.length ac, .bool c.hAud, .string ⟨c.jti.toArray⟩, .bool c.hJti, .bool c.exp.has, .int .i64 c.exp.at_, .bool c.nbf.has, .int .i64 c.nbf.at_, .bool c.iat.has, .int .i64 c.iat.at_] [(w.heap.size + 1, [.string ⟨tcl.toArray⟩, .string ⟨tno.toArray⟩, .bool thN, .string ⟨tac.toArray⟩, .bool thA, .string ⟨tco.toArray⟩, .bool thC, .int .i64 tag, .bool thG, .int .i64 tle])]) := HQ3.out.below hB4
      have CK2 := HC2.out w4 HQ4.out.bel
      clear hB4 HQ3 HC2
      go_wp2_with (first | (refine wpList_load_mid rfl 27 (.tmp 6) rfl w.heap.size 0 rfl [.slice va c.val.length vc, .string ⟨c.iss.toArray⟩, .bool c.hIss, .string ⟨c.sub.toArray⟩, .bool c.hSub, .slice aa c.aud.length ac, .bool c.hAud, .string ⟨c.jti.toArray⟩, .bool c.hJti, .bool c.exp.has, .int .i64 c.exp.at_, .bool c.nbf.has, .int .i64 c.nbf.at_, .bool c.iat.has, .int .i64 c.iat.at_] _ (bl_rng9 (HQ4.out.cl)) Tryz.underlying27 rfl (hcl _ rfl) ?_) | (refine wpList_load_mid rfl 30 (.tmp 8) rfl (w.heap.size + 1) 0 rfl [.string ⟨tcl.toArray⟩, .string ⟨tno.toArray⟩, .bool thN, .string ⟨tac.toArray⟩, .bool thA, .string ⟨tco.toArray⟩, .bool thC, .int .i64 tag, .bool thG, .int .i64 tle] _ (bl_rng9 (HQ4.out.at 0 rfl)) Tryz.underlying30 rfl (hwt _ rfl) ?_))
      refine CK2.mono ?_
      clear CK2
      rintro e w5 ⟨rfl, hB5⟩
      have HQ5 : Hid (QL w w5 [.slice va c.val.length vc, .string ⟨c.iss.toArray⟩, .bool c.hIss, .string ⟨c.sub.toArray⟩, .bool c.hSub, .slice aa c.aud.length ac, .bool c.hAud, .string ⟨c.jti.toArray⟩, .bool c.hJti, .bool c.exp.has, .int .i64 c.exp.at_, .bool c.nbf.has, .int .i64 c.nbf.at_, .bool c.iat.has, .int .i64 c.iat.at_] [(w.heap.size + 1, [.string ⟨tcl.toArray⟩, .string ⟨tno.toArray⟩, .bool thN, .string ⟨tac.toArray⟩, .bool thA, .string ⟨tco.toArray⟩, .bool thC, .int .i64 tag, .bool thG, .int .i64 tle])]) := HQ4.out.below hB5
      have HB5 : Hid (Below w.heap.size w w5) := (HQ4.out.below hB5).bel
      clear hB5 HQ4
      by_cases hx0 : X = 0
      · subst hx0
        have hy : Y = 0 ∨ (Y = 153 ∧ ¬ before ≤ now) := by
          rcases HXY.out with h | ⟨_, h | h⟩
          · exact .inl h.symm
          · exact .inl h
          · right
            refine ⟨h, fun hb => ?_⟩
            have := HLess.out rfl hb
            rw [h] at this
            omega
        clear HXY HLess
        have HY : Hid (Y = 0 ∨ (Y = 153 ∧ ¬ before ≤ now)) := hy
        clear hy
        go_upto_region 5 with fail
        go_cut [60] from 41 to 60 (fun s wx => s = .bool false ∧ wx = w5)
        case first =>
          rcases HY.out with rfl | ⟨rfl, _⟩
          · go_wp2_with fail
            go_meet
            exact ⟨rfl, rfl⟩
          · go_wp2_with fail
            go_meet
            exact ⟨rfl, rfl⟩
        case rest =>
        obtain ⟨rfl, rfl⟩ := hcut
        go_upto_region 9 with fail
        go_cut [69] from 63 to 69 (fun s wx => s = .bool false ∧ wx = wc)
        case first =>
          rcases HY.out with rfl | ⟨rfl, hbn⟩
          · obtain ⟨bn, hbn⟩ : ∃ x, decide (before ≤ now) = x := ⟨_, rfl⟩
            cases bn
            · go_wp2_with fail
              go_meet
              exact ⟨rfl, rfl⟩
            · go_wp2_with fail
              go_meet
              exact ⟨rfl, rfl⟩
          · have hbn' : decide (before ≤ now) = false := decide_eq_false (by omega)
            go_wp2_with fail
            go_meet
            exact ⟨rfl, rfl⟩
        case rest =>
        obtain ⟨rfl, rfl⟩ := hcut
        clear HY
        obtain ⟨b3, hb3⟩ : ∃ x, wc.heap.size = x := ⟨_, rfl⟩
        have HLT : Hid (w.heap.size + 1 < b3) := by rw [← hb3]; exact (HQ5.out.at 0 rfl).lt
        obtain ⟨w6, hW6⟩ : ∃ x, wc.alloc (.cells #[.string ⟨tcl.toArray⟩, .string ⟨tno.toArray⟩, .bool thN, .string ⟨tac.toArray⟩, .bool thA, .string ⟨tco.toArray⟩, .bool thC, .int .i64 tag, .bool thG, .int .i64 tle] 30) = x := ⟨_, rfl⟩
        have HQ6 : Hid (QL w w6 [.slice va c.val.length vc, .string ⟨c.iss.toArray⟩, .bool c.hIss, .string ⟨c.sub.toArray⟩, .bool c.hSub, .slice aa c.aud.length ac, .bool c.hAud, .string ⟨c.jti.toArray⟩, .bool c.hJti, .bool c.exp.has, .int .i64 c.exp.at_, .bool c.nbf.has, .int .i64 c.nbf.at_, .bool c.iat.has, .int .i64 c.iat.at_] [(b3, [.string ⟨tcl.toArray⟩, .string ⟨tno.toArray⟩, .bool thN, .string ⟨tac.toArray⟩, .bool thA, .string ⟨tco.toArray⟩, .bool thC, .int .i64 tag, .bool thG, .int .i64 tle]), (w.heap.size + 1, [.string ⟨tcl.toArray⟩, .string ⟨tno.toArray⟩, .bool thN, .string ⟨tac.toArray⟩, .bool thA, .string ⟨tco.toArray⟩, .bool thC, .int .i64 tag, .bool thG, .int .i64 tle])]) := by rw [← hW6, ← hb3]; exact HQ5.out.push _
        have HW6 : Hid (wc.alloc (.cells #[.string ⟨tcl.toArray⟩, .string ⟨tno.toArray⟩, .bool thN, .string ⟨tac.toArray⟩, .bool thA, .string ⟨tco.toArray⟩, .bool thC, .int .i64 tag, .bool thG, .int .i64 tle] 30) = w6) := hW6
        have HB3 : Hid (wc.heap.size = b3) := hb3
        clear hW6 hb3
        go_upto_region 12 with (refine wpList_load_mid rfl 30 (.tmp 8) rfl (w.heap.size + 1) 0 rfl [.string ⟨tcl.toArray⟩, .string ⟨tno.toArray⟩, .bool thN, .string ⟨tac.toArray⟩, .bool thA, .string ⟨tco.toArray⟩, .bool thC, .int .i64 tag, .bool thG, .int .i64 tle] _ (bl_rng9 (HQ5.out.at 0 rfl)) Tryz.underlying30 rfl (hwt _ rfl) ?_)
        rw [HW6.out, HB3.out]
        clear HW6 HB3 HQ5
        obtain ⟨m0, hm0⟩ : ∃ x, (if tag < more ∧ more ≤ 2147483648 then more else tag) = x := ⟨_, rfl⟩
        have HM : Hid ((if tag < more ∧ more ≤ 2147483648 then more else tag) = m0) := hm0
        clear hm0
        have k7 : w6.cell? ⟨w.heap.size + 1, 7, none⟩ = some (.int .i64 tag) := (HQ6.out.at 1 rfl).cell 7 (by simp)
        obtain ⟨mb, hmb⟩ : ∃ x, (decide (tag < more) && decide (more ≤ 2147483648)) = x := ⟨_, rfl⟩
        have HMB : Hid ((decide (tag < more) && decide (more ≤ 2147483648)) = mb) := hmb
        clear hmb
        go_cut [78] from 71 to 78 (fun s wx => s = .bool mb ∧ wx = w6)
        case first =>
          have e := HMB.out
          by_cases q1 : tag < more
          · have d1 : decide (tag < more) = true := decide_eq_true q1
            have d1' : decide (more > tag) = true := decide_eq_true q1
            rw [d1, Bool.true_and] at e
            subst e
            clear HMB HM
            go_wp2_with fail
            go_meet
            exact ⟨rfl, rfl⟩
          · have d1 : decide (tag < more) = false := decide_eq_false q1
            have d1' : decide (more > tag) = false := decide_eq_false q1
            rw [d1, Bool.false_and] at e
            subst e
            clear HMB HM
            go_wp2_with fail
            go_meet
            exact ⟨rfl, rfl⟩
        case rest =>
        obtain ⟨rfl, rfl⟩ := hcut
        clear k7
        have HMm : Hid (m0 = tag ∨ tag < m0 ∧ m0 ≤ 2147483648) := by
          have e := HM.out
          by_cases q : tag < more ∧ more ≤ 2147483648
          · rw [if_pos q] at e
            subst e
            exact .inr q
          · rw [if_neg q] at e
            exact .inl e.symm
        go_upto_if 78 with fail
        go_cut [] from 79 to 80 (fun wx => Hid (QL w wx [.slice va c.val.length vc, .string ⟨c.iss.toArray⟩, .bool c.hIss, .string ⟨c.sub.toArray⟩, .bool c.hSub, .slice aa c.aud.length ac, .bool c.hAud, .string ⟨c.jti.toArray⟩, .bool c.hJti, .bool c.exp.has, .int .i64 c.exp.at_, .bool c.nbf.has, .int .i64 c.nbf.at_, .bool c.iat.has, .int .i64 c.iat.at_] [(b3, [.string ⟨tcl.toArray⟩, .string ⟨tno.toArray⟩, .bool thN, .string ⟨tac.toArray⟩, .bool thA, .string ⟨tco.toArray⟩, .bool thC, .int .i64 m0, .bool thG, .int .i64 tle]), (w.heap.size + 1, [.string ⟨tcl.toArray⟩, .string ⟨tno.toArray⟩, .bool thN, .string ⟨tac.toArray⟩, .bool thA, .string ⟨tco.toArray⟩, .bool thC, .int .i64 tag, .bool thG, .int .i64 tle])]))
        case first =>
          have e := HMB.out
          have em := HM.out
          cases mb
          · have q : ¬ (tag < more ∧ more ≤ 2147483648) := by
              rintro ⟨qa, qb⟩
              rw [decide_eq_true qa, decide_eq_true qb] at e
              cases e
            rw [if_neg q] at em
            have HQ7 : Hid (QL w wc [.slice va c.val.length vc, .string ⟨c.iss.toArray⟩, .bool c.hIss, .string ⟨c.sub.toArray⟩, .bool c.hSub, .slice aa c.aud.length ac, .bool c.hAud, .string ⟨c.jti.toArray⟩, .bool c.hJti, .bool c.exp.has, .int .i64 c.exp.at_, .bool c.nbf.has, .int .i64 c.nbf.at_, .bool c.iat.has, .int .i64 c.iat.at_] [(b3, [.string ⟨tcl.toArray⟩, .string ⟨tno.toArray⟩, .bool thN, .string ⟨tac.toArray⟩, .bool thA, .string ⟨tco.toArray⟩, .bool thC, .int .i64 m0, .bool thG, .int .i64 tle]), (w.heap.size + 1, [.string ⟨tcl.toArray⟩, .string ⟨tno.toArray⟩, .bool thN, .string ⟨tac.toArray⟩, .bool thA, .string ⟨tco.toArray⟩, .bool thC, .int .i64 tag, .bool thG, .int .i64 tle])]) := by rw [← em]; exact HQ6.out
            clear HQ6 HMB HM HMm e em q
            go_wp2
            go_meet
            exact HQ7
          · have q : tag < more ∧ more ≤ 2147483648 := by
              rw [Bool.and_eq_true] at e
              exact ⟨of_decide_eq_true e.1, of_decide_eq_true e.2⟩
            rw [if_pos q] at em
            have kv : wc.cell? ⟨b3, 7, none⟩ = some (.int .i64 tag) := (HQ6.out.at 0 rfl).cell 7 (by simp)
            have fv : wc.frozen? ⟨b3, 7, none⟩ = false := (HQ6.out.at 0 rfl).frozen 7
            have HQ5 := HQ6.out.set (b := b3) (by have := HLT.out; intro p hp; simp only [List.mem_cons, List.not_mem_nil, or_false] at hp; subst hp; dsimp only; omega) 7 (.int .i64 more) rfl
            have HQ7 : Hid (QL w (wc.setCell ⟨b3, 7, none⟩ (.int .i64 more)) [.slice va c.val.length vc, .string ⟨c.iss.toArray⟩, .bool c.hIss, .string ⟨c.sub.toArray⟩, .bool c.hSub, .slice aa c.aud.length ac, .bool c.hAud, .string ⟨c.jti.toArray⟩, .bool c.hJti, .bool c.exp.has, .int .i64 c.exp.at_, .bool c.nbf.has, .int .i64 c.nbf.at_, .bool c.iat.has, .int .i64 c.iat.at_] [(b3, [.string ⟨tcl.toArray⟩, .string ⟨tno.toArray⟩, .bool thN, .string ⟨tac.toArray⟩, .bool thA, .string ⟨tco.toArray⟩, .bool thC, .int .i64 m0, .bool thG, .int .i64 tle]), (w.heap.size + 1, [.string ⟨tcl.toArray⟩, .string ⟨tno.toArray⟩, .bool thN, .string ⟨tac.toArray⟩, .bool thA, .string ⟨tco.toArray⟩, .bool thC, .int .i64 tag, .bool thG, .int .i64 tle])]) := by rw [← em]; exact HQ5
            clear HQ6 HMB HM HMm HQ5 e em q
            go_wp2
            go_meet
            exact HQ7
        case rest =>
        clear HQ6
        have HQ6 := hcut
        clear hcut HM HMB
        obtain ⟨b4, hb4⟩ : ∃ x, wc.heap.size = x := ⟨_, rfl⟩
        have HLT4 : Hid (w.heap.size + 1 < b3 ∧ b3 < b4) := ⟨HLT.out, by rw [← hb4]; exact (HQ6.out.at 0 rfl).lt⟩
        obtain ⟨w8, hw8⟩ : ∃ x, wc.alloc (.cells #[.string ⟨tcl.toArray⟩, .string ⟨tno.toArray⟩, .bool thN, .string ⟨tac.toArray⟩, .bool thA, .string ⟨tco.toArray⟩, .bool thC, .int .i64 tag, .bool thG, .int .i64 tle] 30) = x := ⟨_, rfl⟩
        have hQ8 := HQ6.out.push [.string ⟨tcl.toArray⟩, .string ⟨tno.toArray⟩, .bool thN, .string ⟨tac.toArray⟩, .bool thA, .string ⟨tco.toArray⟩, .bool thC, .int .i64 tag, .bool thG, .int .i64 tle]
        rw [hw8, hb4] at hQ8
        obtain ⟨w9, hw9⟩ : ∃ x, w8.setCell ⟨b4, 9, none⟩ (.int .i64 600) = x := ⟨_, rfl⟩
        have HQ9 : Hid (QL w w9 [.slice va c.val.length vc, .string ⟨c.iss.toArray⟩, .bool c.hIss, .string ⟨c.sub.toArray⟩, .bool c.hSub, .slice aa c.aud.length ac, .bool c.hAud, .string ⟨c.jti.toArray⟩, .bool c.hJti, .bool c.exp.has, .int .i64 c.exp.at_, .bool c.nbf.has, .int .i64 c.nbf.at_, .bool c.iat.has, .int .i64 c.iat.at_] [(b4, [.string ⟨tcl.toArray⟩, .string ⟨tno.toArray⟩, .bool thN, .string ⟨tac.toArray⟩, .bool thA, .string ⟨tco.toArray⟩, .bool thC, .int .i64 tag, .bool thG, .int .i64 600]), (b3, [.string ⟨tcl.toArray⟩, .string ⟨tno.toArray⟩, .bool thN, .string ⟨tac.toArray⟩, .bool thA, .string ⟨tco.toArray⟩, .bool thC, .int .i64 m0, .bool thG, .int .i64 tle]), (w.heap.size + 1, [.string ⟨tcl.toArray⟩, .string ⟨tno.toArray⟩, .bool thN, .string ⟨tac.toArray⟩, .bool thA, .string ⟨tco.toArray⟩, .bool thC, .int .i64 tag, .bool thG, .int .i64 tle])]) := by
          rw [← hw9]
          exact hQ8.set (b := b4) (by have := HLT4.out; intro p hp; simp only [List.mem_cons, List.not_mem_nil, or_false] at hp; rcases hp with rfl | rfl <;> (dsimp only; omega)) 9 (.int .i64 600) rfl
        have HW8 : Hid (wc.alloc (.cells #[.string ⟨tcl.toArray⟩, .string ⟨tno.toArray⟩, .bool thN, .string ⟨tac.toArray⟩, .bool thA, .string ⟨tco.toArray⟩, .bool thC, .int .i64 tag, .bool thG, .int .i64 tle] 30) = w8) := hw8
        have HW9 : Hid (w8.setCell ⟨b4, 9, none⟩ (.int .i64 600) = w9) := hw9
        have HB4 : Hid (wc.heap.size = b4) := hb4
        have kv : w8.cell? ⟨b4, 9, none⟩ = some (.int .i64 tle) := (hQ8.at 0 rfl).cell 9 (by simp)
        have fv : w8.frozen? ⟨b4, 9, none⟩ = false := (hQ8.at 0 rfl).frozen 9
        clear hw8 hw9 hb4 hQ8
        go_upto_region 15 with (refine wpList_load_mid rfl 30 (.tmp 8) rfl (w.heap.size + 1) 0 rfl [.string ⟨tcl.toArray⟩, .string ⟨tno.toArray⟩, .bool thN, .string ⟨tac.toArray⟩, .bool thA, .string ⟨tco.toArray⟩, .bool thC, .int .i64 tag, .bool thG, .int .i64 tle] _ (bl_rng9 (HQ6.out.at 1 rfl)) Tryz.underlying30 rfl (hwt _ rfl) ?_)
        rw [HW8.out, HB4.out]
        clear HW8 HB4
        go_upto_region 16 with fail
        rw [HW9.out]
        clear HW9 kv fv HQ6
        have CK1 := HCm.out (by trivial) m0 HMm.out w9 HQ9.out.bel
        clear HCm
        go_wp2_with (first | (refine wpList_load_mid rfl 27 (.tmp 6) rfl w.heap.size 0 rfl [.slice va c.val.length vc, .string ⟨c.iss.toArray⟩, .bool c.hIss, .string ⟨c.sub.toArray⟩, .bool c.hSub, .slice aa c.aud.length ac, .bool c.hAud, .string ⟨c.jti.toArray⟩, .bool c.hJti, .bool c.exp.has, .int .i64 c.exp.at_, .bool c.nbf.has, .int .i64 c.nbf.at_, .bool c.iat.has, .int .i64 c.iat.at_] _ (bl_rng9 (HQ9.out.cl)) Tryz.underlying27 rfl (hcl _ rfl) ?_) | (refine wpList_load_mid rfl 30 (.tmp 15) rfl (b3) 0 rfl [.string ⟨tcl.toArray⟩, .string ⟨tno.toArray⟩, .bool thN, .string ⟨tac.toArray⟩, .bool thA, .string ⟨tco.toArray⟩, .bool thC, .int .i64 m0, .bool thG, .int .i64 tle] _ (bl_rng9 (HQ9.out.at 1 rfl)) Tryz.underlying30 rfl (hwt _ rfl) ?_))
        refine CK1.mono ?_
        clear CK1
        rintro e wA ⟨rfl, hBA⟩
        have HQA : Hid (QL w wA [.slice va c.val.length vc, .string ⟨c.iss.toArray⟩, .bool c.hIss, .string ⟨c.sub.toArray⟩, .bool c.hSub, .slice aa c.aud.length ac, .bool c.hAud, .string ⟨c.jti.toArray⟩, .bool c.hJti, .bool c.exp.has, .int .i64 c.exp.at_, .bool c.nbf.has, .int .i64 c.nbf.at_, .bool c.iat.has, .int .i64 c.iat.at_] [(b4, [.string ⟨tcl.toArray⟩, .string ⟨tno.toArray⟩, .bool thN, .string ⟨tac.toArray⟩, .bool thA, .string ⟨tco.toArray⟩, .bool thC, .int .i64 tag, .bool thG, .int .i64 600]), (b3, [.string ⟨tcl.toArray⟩, .string ⟨tno.toArray⟩, .bool thN, .string ⟨tac.toArray⟩, .bool thA, .string ⟨tco.toArray⟩, .bool thC, .int .i64 m0, .bool thG, .int .i64 tle]), (w.heap.size + 1, [.string ⟨tcl.toArray⟩, .string ⟨tno.toArray⟩, .bool thN, .string ⟨tac.toArray⟩, .bool thA, .string ⟨tco.toArray⟩, .bool thC, .int .i64 tag, .bool thG, .int .i64 tle])]) := HQ9.out.below hBA
        have CK2 := HCu.out (by trivial) wA HQA.out.bel
        clear hBA HQ9 HCu
        go_wp2_with (first | (refine wpList_load_midZ rfl 27 (.tmp 6) rfl w.heap.size 0 rfl [.slice va c.val.length vc, .string ⟨c.iss.toArray⟩, .bool c.hIss, .string ⟨c.sub.toArray⟩, .bool c.hSub, .slice aa c.aud.length ac, .bool c.hAud, .string ⟨c.jti.toArray⟩, .bool c.hJti, .bool c.exp.has, .int .i64 c.exp.at_, .bool c.nbf.has, .int .i64 c.nbf.at_, .bool c.iat.has, .int .i64 c.iat.at_] _ (bl_rng9 (HQA.out.cl)) Tryz.underlying27 rfl (hcl _ rfl) ?_) | (refine wpList_load_midZ rfl 30 (.tmp 16) rfl (b4) 0 rfl [.string ⟨tcl.toArray⟩, .string ⟨tno.toArray⟩, .bool thN, .string ⟨tac.toArray⟩, .bool thA, .string ⟨tco.toArray⟩, .bool thC, .int .i64 tag, .bool thG, .int .i64 600] _ (bl_rng9 (HQA.out.at 0 rfl)) Tryz.underlying30 rfl (hwt _ rfl) ?_))
        refine CK2.mono ?_
        clear CK2
        rintro e wB ⟨rfl, hBB⟩
        have HBB : Hid (Below w.heap.size w wB) := (HQA.out.below hBB).bel
        clear hBB
        go_wp2
        go_ret
        exact ⟨rfl, HBB.out⟩
      · by_cases hx3 : X = 153
        · subst hx3
          have hy : Y = 0 ∨ Y = 153 := by rcases HXY.out with h | ⟨_, h⟩; exact .inr h.symm; exact h
          clear HXY HLess hx0 HCm HCu
          rcases hy with rfl | rfl
          · go_wp2
            go_ret
            exact ⟨rfl, HB5.out⟩
          · go_wp2
            go_ret
            exact ⟨rfl, HB5.out⟩
        · have hy : X = Y := by rcases HXY.out with h | ⟨h | h, _⟩; exact h; exact absurd h hx0; exact absurd h hx3
          subst hy
          have q1 : (X != 0) = true := by simpa using hx0
          have q2 : (X != X) = false := by simp
          clear HXY HLess hx0 hx3 HCm HCu
          go_wp2
          go_ret
          exact ⟨rfl, HB5.out⟩
  · skip
    have CA := (HLq.out _ HQ2.out.bel).awk
    go_wp2_with fail
    refine CA.mono ?_
    clear CA
    rintro e w4 ⟨rfl, hB4⟩
    have HB4 : Hid (Below w.heap.size w w4) := (HQ2.out.below hB4).bel
    clear hB4
    go_wp2
    go_ret
    exact ⟨rfl, HB4.out⟩

theorem ages_top (c : Cm) (va : Option Addr) (vc : Nat) (aa : Option Addr) (ac : Nat) (alg : Int) (t : Wt) (now before more : Int) (w : World) (H : LA w c va vc aa ac) (h1 : t.access.length ≤ 1000000000) (h2 : t.code.length ≤ 1000000000) (hn : now ≤ 9223372036854775807) (hb : before ≤ 9223372036854775807) :
    Calls Tryz.prog 6 #[clV (.slice va c.val.length vc) (.slice aa c.aud.length ac) c, .int .i64 alg, wtV t, .int .i64 now, .int .i64 before, .int .i64 more] w fun e w' => e = .returned (.bool true) ∧ Below w.heap.size w w' :=
  ages_any c va vc aa ac alg t.client t.nonce t.hasN t.access t.hasA t.code t.hasC t.age t.hasAge t.lee now before more w H h1 h2 hn hb
end Go.Proofs.YtpfdaclmchcbiaaGreatDoor
