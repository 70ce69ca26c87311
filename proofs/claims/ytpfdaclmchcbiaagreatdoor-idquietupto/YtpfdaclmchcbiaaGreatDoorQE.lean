import Derived.Test.YtpfdaclmchcbiaaGreatDoorQD
import Derived.Test.YtpfdaclmchcbiaaGreatDoorOrk
namespace Go.Proofs.YtpfdaclmchcbiaaGreatDoor
open Go.RowKit
set_option maxRecDepth 100000

set_option maxRecDepth 100000 in
set_option maxHeartbeats 16000000 in
theorem quiet_any (c : Cm) (va : Option Addr) (vc : Nat) (aa : Option Addr) (ac : Nat) (alg : Int) (tcl : List UInt8) (tno : List UInt8) (thN : Bool) (tac : List UInt8) (thA : Bool) (tco : List UInt8) (thC : Bool) (tag : Int) (thG : Bool) (tle : Int) (now : Int) (ocl : List UInt8) (ono : List UInt8) (ohN : Bool) (oac : List UInt8) (ohA : Bool) (oco : List UInt8) (ohC : Bool) (oag : Int) (ohG : Bool) (ole : Int) (later : Int) (w : World) (H : LA w c va vc aa ac) (h1 : tac.length ≤ 1000000000) (h2 : tco.length ≤ 1000000000) (h3 : oac.length ≤ 1000000000) (h4 : oco.length ≤ 1000000000) (hn : now ≤ 9223372036854775807) (hl : later ≤ 9223372036854775807) :
    Calls Tryz.prog 5 #[.agg #[.slice va c.val.length vc, .string ⟨c.iss.toArray⟩, .bool c.hIss, .string ⟨c.sub.toArray⟩, .bool c.hSub, .slice aa c.aud.length ac, .bool c.hAud, .string ⟨c.jti.toArray⟩, .bool c.hJti, .bool c.exp.has, .int .i64 c.exp.at_, .bool c.nbf.has, .int .i64 c.nbf.at_, .bool c.iat.has, .int .i64 c.iat.at_], .int .i64 alg, .agg #[.string ⟨tcl.toArray⟩, .string ⟨tno.toArray⟩, .bool thN, .string ⟨tac.toArray⟩, .bool thA, .string ⟨tco.toArray⟩, .bool thC, .int .i64 tag, .bool thG, .int .i64 tle], .int .i64 now, .agg #[.string ⟨ocl.toArray⟩, .string ⟨ono.toArray⟩, .bool ohN, .string ⟨oac.toArray⟩, .bool ohA, .string ⟨oco.toArray⟩, .bool ohC, .int .i64 oag, .bool ohG, .int .i64 ole], .int .i64 later] w fun e w' => e = .returned (.bool true) ∧ Below w.heap.size w w' := by
  have HQ0 := (((QL.first w [.slice va c.val.length vc, .string ⟨c.iss.toArray⟩, .bool c.hIss, .string ⟨c.sub.toArray⟩, .bool c.hSub, .slice aa c.aud.length ac, .bool c.hAud, .string ⟨c.jti.toArray⟩, .bool c.hJti, .bool c.exp.has, .int .i64 c.exp.at_, .bool c.nbf.has, .int .i64 c.nbf.at_, .bool c.iat.has, .int .i64 c.iat.at_]).push [.string ⟨tcl.toArray⟩, .string ⟨tno.toArray⟩, .bool thN, .string ⟨tac.toArray⟩, .bool thA, .string ⟨tco.toArray⟩, .bool thC, .int .i64 tag, .bool thG, .int .i64 tle]).push [.string ⟨ocl.toArray⟩, .string ⟨ono.toArray⟩, .bool ohN, .string ⟨oac.toArray⟩, .bool ohA, .string ⟨oco.toArray⟩, .bool ohC, .int .i64 oag, .bool ohG, .int .i64 ole])
  obtain ⟨W, hW⟩ : ∃ x, (((w.alloc (.cells #[.slice va c.val.length vc, .string ⟨c.iss.toArray⟩, .bool c.hIss, .string ⟨c.sub.toArray⟩, .bool c.hSub, .slice aa c.aud.length ac, .bool c.hAud, .string ⟨c.jti.toArray⟩, .bool c.hJti, .bool c.exp.has, .int .i64 c.exp.at_, .bool c.nbf.has, .int .i64 c.nbf.at_, .bool c.iat.has, .int .i64 c.iat.at_] 27)).alloc (.cells #[.string ⟨tcl.toArray⟩, .string ⟨tno.toArray⟩, .bool thN, .string ⟨tac.toArray⟩, .bool thA, .string ⟨tco.toArray⟩, .bool thC, .int .i64 tag, .bool thG, .int .i64 tle] 30)).alloc (.cells #[.string ⟨ocl.toArray⟩, .string ⟨ono.toArray⟩, .bool ohN, .string ⟨oac.toArray⟩, .bool ohA, .string ⟨oco.toArray⟩, .bool ohC, .int .i64 oag, .bool ohG, .int .i64 ole] 30)) = x := ⟨_, rfl⟩
  have HQ : QL w W [.slice va c.val.length vc, .string ⟨c.iss.toArray⟩, .bool c.hIss, .string ⟨c.sub.toArray⟩, .bool c.hSub, .slice aa c.aud.length ac, .bool c.hAud, .string ⟨c.jti.toArray⟩, .bool c.hJti, .bool c.exp.has, .int .i64 c.exp.at_, .bool c.nbf.has, .int .i64 c.nbf.at_, .bool c.iat.has, .int .i64 c.iat.at_] [(w.heap.size + 2, [.string ⟨ocl.toArray⟩, .string ⟨ono.toArray⟩, .bool ohN, .string ⟨oac.toArray⟩, .bool ohA, .string ⟨oco.toArray⟩, .bool ohC, .int .i64 oag, .bool ohG, .int .i64 ole]), (w.heap.size + 1, [.string ⟨tcl.toArray⟩, .string ⟨tno.toArray⟩, .bool thN, .string ⟨tac.toArray⟩, .bool thA, .string ⟨tco.toArray⟩, .bool thC, .int .i64 tag, .bool thG, .int .i64 tle])] := by rw [← hW]; have h := HQ0; simp only [alloc_size, Nat.add_assoc] at h; exact h
  have HW : Hid ((((w.alloc (.cells #[.slice va c.val.length vc, .string ⟨c.iss.toArray⟩, .bool c.hIss, .string ⟨c.sub.toArray⟩, .bool c.hSub, .slice aa c.aud.length ac, .bool c.hAud, .string ⟨c.jti.toArray⟩, .bool c.hJti, .bool c.exp.has, .int .i64 c.exp.at_, .bool c.nbf.has, .int .i64 c.nbf.at_, .bool c.iat.has, .int .i64 c.iat.at_] 27)).alloc (.cells #[.string ⟨tcl.toArray⟩, .string ⟨tno.toArray⟩, .bool thN, .string ⟨tac.toArray⟩, .bool thA, .string ⟨tco.toArray⟩, .bool thC, .int .i64 tag, .bool thG, .int .i64 tle] 30)).alloc (.cells #[.string ⟨ocl.toArray⟩, .string ⟨ono.toArray⟩, .bool ohN, .string ⟨oac.toArray⟩, .bool ohA, .string ⟨oco.toArray⟩, .bool ohC, .int .i64 oag, .bool ohG, .int .i64 ole] 30)) = W) := hW
  have HLq : Hid (∀ wq, Below w.heap.size w wq → LA wq c va vc aa ac) := fun wq hq => H.below hq
  have CA := (HLq.out W HQ.bel).awk
  have HQW : Hid (QL w W [.slice va c.val.length vc, .string ⟨c.iss.toArray⟩, .bool c.hIss, .string ⟨c.sub.toArray⟩, .bool c.hSub, .slice aa c.aud.length ac, .bool c.hAud, .string ⟨c.jti.toArray⟩, .bool c.hJti, .bool c.exp.has, .int .i64 c.exp.at_, .bool c.nbf.has, .int .i64 c.nbf.at_, .bool c.iat.has, .int .i64 c.iat.at_] [(w.heap.size + 2, [.string ⟨ocl.toArray⟩, .string ⟨ono.toArray⟩, .bool ohN, .string ⟨oac.toArray⟩, .bool ohA, .string ⟨oco.toArray⟩, .bool ohC, .int .i64 oag, .bool ohG, .int .i64 ole]), (w.heap.size + 1, [.string ⟨tcl.toArray⟩, .string ⟨tno.toArray⟩, .bool thN, .string ⟨tac.toArray⟩, .bool thA, .string ⟨tco.toArray⟩, .bool thC, .int .i64 tag, .bool thG, .int .i64 tle])]) := HQ
  have hwt : ∀ l : List Value, l.length = 10 → (Tryz.prog.info? 30).map (·.size) = some l.length := fun l hl => by rw [hl]; kernel_rfl
  have hcl : ∀ l : List Value, l.length = 15 → (Tryz.prog.info? 27).map (·.size) = some l.length := fun l hl => by rw [hl]; kernel_rfl
  clear HQ0 hW HQ H
  go_enter Tryz.func5, Tryz.ntmps5
  go_upto_region 1 with fail
  rw [HW.out]
  clear HW
  go_wp2_with fail
  refine CA.mono ?_
  clear CA
  rintro e w1 ⟨rfl, hB1⟩
  have HQ1 : Hid (QL w w1 [.slice va c.val.length vc, .string ⟨c.iss.toArray⟩, .bool c.hIss, .string ⟨c.sub.toArray⟩, .bool c.hSub, .slice aa c.aud.length ac, .bool c.hAud, .string ⟨c.jti.toArray⟩, .bool c.hJti, .bool c.exp.has, .int .i64 c.exp.at_, .bool c.nbf.has, .int .i64 c.nbf.at_, .bool c.iat.has, .int .i64 c.iat.at_] [(w.heap.size + 2, [.string ⟨ocl.toArray⟩, .string ⟨ono.toArray⟩, .bool ohN, .string ⟨oac.toArray⟩, .bool ohA, .string ⟨oco.toArray⟩, .bool ohC, .int .i64 oag, .bool ohG, .int .i64 ole]), (w.heap.size + 1, [.string ⟨tcl.toArray⟩, .string ⟨tno.toArray⟩, .bool thN, .string ⟨tac.toArray⟩, .bool thA, .string ⟨tco.toArray⟩, .bool thC, .int .i64 tag, .bool thG, .int .i64 tle])]) := HQW.out.below hB1
  have k0 : w1.cell? ⟨w.heap.size, 0, none⟩ = some (.slice va c.val.length vc) := HQ1.out.cl.cell 0 (by simp)
  have CB := (HLq.out w1 HQ1.out.bel).bey
  clear hB1 HQW
  go_wp2_with fail
  refine CB.mono ?_
  clear CB k0
  rintro e w2 ⟨hB2, b, rfl⟩
  have HQ2 : Hid (QL w w2 [.slice va c.val.length vc, .string ⟨c.iss.toArray⟩, .bool c.hIss, .string ⟨c.sub.toArray⟩, .bool c.hSub, .slice aa c.aud.length ac, .bool c.hAud, .string ⟨c.jti.toArray⟩, .bool c.hJti, .bool c.exp.has, .int .i64 c.exp.at_, .bool c.nbf.has, .int .i64 c.nbf.at_, .bool c.iat.has, .int .i64 c.iat.at_] [(w.heap.size + 2, [.string ⟨ocl.toArray⟩, .string ⟨ono.toArray⟩, .bool ohN, .string ⟨oac.toArray⟩, .bool ohA, .string ⟨oco.toArray⟩, .bool ohC, .int .i64 oag, .bool ohG, .int .i64 ole]), (w.heap.size + 1, [.string ⟨tcl.toArray⟩, .string ⟨tno.toArray⟩, .bool thN, .string ⟨tac.toArray⟩, .bool thA, .string ⟨tco.toArray⟩, .bool thC, .int .i64 tag, .bool thG, .int .i64 tle])]) := HQ1.out.below hB2
  clear hB2 HQ1
  cases b
  · have k0 : w2.cell? ⟨w.heap.size, 0, none⟩ = some (.slice va c.val.length vc) := HQ2.out.cl.cell 0 (by simp)
    have CS := (HLq.out w2 HQ2.out.bel).shp
    obtain ⟨sh, hsh⟩ : ∃ x, shapedF c.val = x := ⟨_, rfl⟩
    rw [hsh] at CS
    have HSH : Hid (shapedF c.val = sh) := hsh
    clear hsh
    go_wp2_with fail
    refine CS.mono ?_
    clear CS k0
    rintro e w3 ⟨rfl, hB3⟩
    have HQ3 : Hid (QL w w3 [.slice va c.val.length vc, .string ⟨c.iss.toArray⟩, .bool c.hIss, .string ⟨c.sub.toArray⟩, .bool c.hSub, .slice aa c.aud.length ac, .bool c.hAud, .string ⟨c.jti.toArray⟩, .bool c.hJti, .bool c.exp.has, .int .i64 c.exp.at_, .bool c.nbf.has, .int .i64 c.nbf.at_, .bool c.iat.has, .int .i64 c.iat.at_] [(w.heap.size + 2, [.string ⟨ocl.toArray⟩, .string ⟨ono.toArray⟩, .bool ohN, .string ⟨oac.toArray⟩, .bool ohA, .string ⟨oco.toArray⟩, .bool ohC, .int .i64 oag, .bool ohG, .int .i64 ole]), (w.heap.size + 1, [.string ⟨tcl.toArray⟩, .string ⟨tno.toArray⟩, .bool thN, .string ⟨tac.toArray⟩, .bool thA, .string ⟨tco.toArray⟩, .bool thC, .int .i64 tag, .bool thG, .int .i64 tle])]) := HQ2.out.below hB3
    clear hB3 HQ2
    cases sh
    · clear HSH
      have CA := (HLq.out _ HQ3.out.bel).awk
      go_wp2_with fail
      refine CA.mono ?_
      clear CA
      rintro e w4 ⟨rfl, hB4⟩
      have HB4 : Hid (Below w.heap.size w w4) := (HQ3.out.below hB4).bel
      clear hB4
      go_wp2
      go_ret
      exact ⟨rfl, HB4.out⟩
    · skip
      obtain ⟨b3, hb3⟩ : ∃ x, w3.heap.size = x := ⟨_, rfl⟩
      have HLT : Hid (w.heap.size + 2 < b3) := by rw [← hb3]; exact (HQ3.out.at 0 rfl).lt
      obtain ⟨wc, hW4⟩ : ∃ x, w3.alloc (.cells #[.string ⟨tcl.toArray⟩, .string ⟨tno.toArray⟩, .bool thN, .string ⟨tac.toArray⟩, .bool thA, .string ⟨tco.toArray⟩, .bool thC, .int .i64 tag, .bool thG, .int .i64 tle] 30) = x := ⟨_, rfl⟩
      have HQ4 : Hid (QL w wc [.slice va c.val.length vc, .string ⟨c.iss.toArray⟩, .bool c.hIss, .string ⟨c.sub.toArray⟩, .bool c.hSub, .slice aa c.aud.length ac, .bool c.hAud, .string ⟨c.jti.toArray⟩, .bool c.hJti, .bool c.exp.has, .int .i64 c.exp.at_, .bool c.nbf.has, .int .i64 c.nbf.at_, .bool c.iat.has, .int .i64 c.iat.at_] [(b3, [.string ⟨tcl.toArray⟩, .string ⟨tno.toArray⟩, .bool thN, .string ⟨tac.toArray⟩, .bool thA, .string ⟨tco.toArray⟩, .bool thC, .int .i64 tag, .bool thG, .int .i64 tle]), (w.heap.size + 2, [.string ⟨ocl.toArray⟩, .string ⟨ono.toArray⟩, .bool ohN, .string ⟨oac.toArray⟩, .bool ohA, .string ⟨oco.toArray⟩, .bool ohC, .int .i64 oag, .bool ohG, .int .i64 ole]), (w.heap.size + 1, [.string ⟨tcl.toArray⟩, .string ⟨tno.toArray⟩, .bool thN, .string ⟨tac.toArray⟩, .bool thA, .string ⟨tco.toArray⟩, .bool thC, .int .i64 tag, .bool thG, .int .i64 tle])]) := by rw [← hW4, ← hb3]; exact HQ3.out.push _
      have HW4 : Hid (w3.alloc (.cells #[.string ⟨tcl.toArray⟩, .string ⟨tno.toArray⟩, .bool thN, .string ⟨tac.toArray⟩, .bool thA, .string ⟨tco.toArray⟩, .bool thC, .int .i64 tag, .bool thG, .int .i64 tle] 30) = wc) := hW4
      have HB3 : Hid (w3.heap.size = b3) := hb3
      clear hW4 hb3
      go_upto_region 4 with (refine wpList_load_mid rfl 30 (.tmp 8) rfl (w.heap.size + 1) 0 rfl [.string ⟨tcl.toArray⟩, .string ⟨tno.toArray⟩, .bool thN, .string ⟨tac.toArray⟩, .bool thA, .string ⟨tco.toArray⟩, .bool thC, .int .i64 tag, .bool thG, .int .i64 tle] _ (bl_rng9 (HQ3.out.at 1 rfl)) Tryz.underlying30 rfl (hwt _ rfl) ?_)
      rw [HW4.out, HB3.out]
      clear HW4 HB3 HQ3
      have kf : wc.cell? ⟨w.heap.size + 1, 2, none⟩ = some (.bool thN) := (HQ4.out.at 2 rfl).cell 2 (by simp)
      go_upto_if 32 with fail
      clear kf
      obtain ⟨n0, hn0⟩ : ∃ x, (if thN = true then tno else ono) = x := ⟨_, rfl⟩
      have HN0 : Hid ((if thN = true then tno else ono) = n0) := hn0
      clear hn0
      go_cut [] from 33 to 35 (fun wx => Hid (QL w wx [.slice va c.val.length vc, .string ⟨c.iss.toArray⟩, .bool c.hIss, .string ⟨c.sub.toArray⟩, .bool c.hSub, .slice aa c.aud.length ac, .bool c.hAud, .string ⟨c.jti.toArray⟩, .bool c.hJti, .bool c.exp.has, .int .i64 c.exp.at_, .bool c.nbf.has, .int .i64 c.nbf.at_, .bool c.iat.has, .int .i64 c.iat.at_] [(b3, [.string ⟨tcl.toArray⟩, .string ⟨n0.toArray⟩, .bool thN, .string ⟨tac.toArray⟩, .bool thA, .string ⟨tco.toArray⟩, .bool thC, .int .i64 tag, .bool thG, .int .i64 tle]), (w.heap.size + 2, [.string ⟨ocl.toArray⟩, .string ⟨ono.toArray⟩, .bool ohN, .string ⟨oac.toArray⟩, .bool ohA, .string ⟨oco.toArray⟩, .bool ohC, .int .i64 oag, .bool ohG, .int .i64 ole]), (w.heap.size + 1, [.string ⟨tcl.toArray⟩, .string ⟨tno.toArray⟩, .bool thN, .string ⟨tac.toArray⟩, .bool thA, .string ⟨tco.toArray⟩, .bool thC, .int .i64 tag, .bool thG, .int .i64 tle])]))
      case first =>
        cases thN
        · have ko : wc.cell? ⟨w.heap.size + 2, 1, none⟩ = some (.string ⟨ono.toArray⟩) := (HQ4.out.at 1 rfl).cell 1 (by simp)
          have kv : wc.cell? ⟨b3, 1, none⟩ = some (.string ⟨tno.toArray⟩) := (HQ4.out.at 0 rfl).cell 1 (by simp)
          have fv : wc.frozen? ⟨b3, 1, none⟩ = false := (HQ4.out.at 0 rfl).frozen 1
          have HQ5 := HQ4.out.set (b := b3) (by have := HLT.out; intro p hp; simp only [List.mem_cons, List.not_mem_nil, or_false] at hp; rcases hp with rfl | rfl <;> (dsimp only; omega)) 1 (.string ⟨ono.toArray⟩) rfl
          have e : ono = n0 := HN0.out
          have HQ6 : Hid (QL w (wc.setCell ⟨b3, 1, none⟩ (.string ⟨ono.toArray⟩)) [.slice va c.val.length vc, .string ⟨c.iss.toArray⟩, .bool c.hIss, .string ⟨c.sub.toArray⟩, .bool c.hSub, .slice aa c.aud.length ac, .bool c.hAud, .string ⟨c.jti.toArray⟩, .bool c.hJti, .bool c.exp.has, .int .i64 c.exp.at_, .bool c.nbf.has, .int .i64 c.nbf.at_, .bool c.iat.has, .int .i64 c.iat.at_] [(b3, [.string ⟨tcl.toArray⟩, .string ⟨n0.toArray⟩, .bool false, .string ⟨tac.toArray⟩, .bool thA, .string ⟨tco.toArray⟩, .bool thC, .int .i64 tag, .bool thG, .int .i64 tle]), (w.heap.size + 2, [.string ⟨ocl.toArray⟩, .string ⟨ono.toArray⟩, .bool ohN, .string ⟨oac.toArray⟩, .bool ohA, .string ⟨oco.toArray⟩, .bool ohC, .int .i64 oag, .bool ohG, .int .i64 ole]), (w.heap.size + 1, [.string ⟨tcl.toArray⟩, .string ⟨tno.toArray⟩, .bool false, .string ⟨tac.toArray⟩, .bool thA, .string ⟨tco.toArray⟩, .bool thC, .int .i64 tag, .bool thG, .int .i64 tle])]) := by rw [← e]; exact HQ5
          clear HQ4 HN0 HQ5 e
          go_wp2
          go_meet
          exact HQ6
        · have e : tno = n0 := HN0.out
          have HQ6 : Hid (QL w wc [.slice va c.val.length vc, .string ⟨c.iss.toArray⟩, .bool c.hIss, .string ⟨c.sub.toArray⟩, .bool c.hSub, .slice aa c.aud.length ac, .bool c.hAud, .string ⟨c.jti.toArray⟩, .bool c.hJti, .bool c.exp.has, .int .i64 c.exp.at_, .bool c.nbf.has, .int .i64 c.nbf.at_, .bool c.iat.has, .int .i64 c.iat.at_] [(b3, [.string ⟨tcl.toArray⟩, .string ⟨n0.toArray⟩, .bool true, .string ⟨tac.toArray⟩, .bool thA, .string ⟨tco.toArray⟩, .bool thC, .int .i64 tag, .bool thG, .int .i64 tle]), (w.heap.size + 2, [.string ⟨ocl.toArray⟩, .string ⟨ono.toArray⟩, .bool ohN, .string ⟨oac.toArray⟩, .bool ohA, .string ⟨oco.toArray⟩, .bool ohC, .int .i64 oag, .bool ohG, .int .i64 ole]), (w.heap.size + 1, [.string ⟨tcl.toArray⟩, .string ⟨tno.toArray⟩, .bool true, .string ⟨tac.toArray⟩, .bool thA, .string ⟨tco.toArray⟩, .bool thC, .int .i64 tag, .bool thG, .int .i64 tle])]) := by rw [← e]; exact HQ4.out
          clear HQ4 HN0 e
          go_wp2
          go_meet
          exact HQ6
      case rest =>
      clear HQ4
      have HQ4 := hcut
      clear hcut
      have kf : wc.cell? ⟨w.heap.size + 1, 4, none⟩ = some (.bool thA) := (HQ4.out.at 2 rfl).cell 4 (by simp)
      go_upto_if 38 with fail
      clear kf
      obtain ⟨n1, hn1⟩ : ∃ x, (if thA = true then tac else oac) = x := ⟨_, rfl⟩
      have HN1 : Hid ((if thA = true then tac else oac) = n1) := hn1
      clear hn1
      go_cut [] from 39 to 41 (fun wx => Hid (QL w wx [.slice va c.val.length vc, .string ⟨c.iss.toArray⟩, .bool c.hIss, .string ⟨c.sub.toArray⟩, .bool c.hSub, .slice aa c.aud.length ac, .bool c.hAud, .string ⟨c.jti.toArray⟩, .bool c.hJti, .bool c.exp.has, .int .i64 c.exp.at_, .bool c.nbf.has, .int .i64 c.nbf.at_, .bool c.iat.has, .int .i64 c.iat.at_] [(b3, [.string ⟨tcl.toArray⟩, .string ⟨n0.toArray⟩, .bool thN, .string ⟨n1.toArray⟩, .bool thA, .string ⟨tco.toArray⟩, .bool thC, .int .i64 tag, .bool thG, .int .i64 tle]), (w.heap.size + 2, [.string ⟨ocl.toArray⟩, .string ⟨ono.toArray⟩, .bool ohN, .string ⟨oac.toArray⟩, .bool ohA, .string ⟨oco.toArray⟩, .bool ohC, .int .i64 oag, .bool ohG, .int .i64 ole]), (w.heap.size + 1, [.string ⟨tcl.toArray⟩, .string ⟨tno.toArray⟩, .bool thN, .string ⟨tac.toArray⟩, .bool thA, .string ⟨tco.toArray⟩, .bool thC, .int .i64 tag, .bool thG, .int .i64 tle])]))
      case first =>
        cases thA
        · have ko : wc.cell? ⟨w.heap.size + 2, 3, none⟩ = some (.string ⟨oac.toArray⟩) := (HQ4.out.at 1 rfl).cell 3 (by simp)
          have kv : wc.cell? ⟨b3, 3, none⟩ = some (.string ⟨tac.toArray⟩) := (HQ4.out.at 0 rfl).cell 3 (by simp)
          have fv : wc.frozen? ⟨b3, 3, none⟩ = false := (HQ4.out.at 0 rfl).frozen 3
          have HQ5 := HQ4.out.set (b := b3) (by have := HLT.out; intro p hp; simp only [List.mem_cons, List.not_mem_nil, or_false] at hp; rcases hp with rfl | rfl <;> (dsimp only; omega)) 3 (.string ⟨oac.toArray⟩) rfl
          have e : oac = n1 := HN1.out
          have HQ6 : Hid (QL w (wc.setCell ⟨b3, 3, none⟩ (.string ⟨oac.toArray⟩)) [.slice va c.val.length vc, .string ⟨c.iss.toArray⟩, .bool c.hIss, .string ⟨c.sub.toArray⟩, .bool c.hSub, .slice aa c.aud.length ac, .bool c.hAud, .string ⟨c.jti.toArray⟩, .bool c.hJti, .bool c.exp.has, .int .i64 c.exp.at_, .bool c.nbf.has, .int .i64 c.nbf.at_, .bool c.iat.has, .int .i64 c.iat.at_] [(b3, [.string ⟨tcl.toArray⟩, .string ⟨n0.toArray⟩, .bool thN, .string ⟨n1.toArray⟩, .bool false, .string ⟨tco.toArray⟩, .bool thC, .int .i64 tag, .bool thG, .int .i64 tle]), (w.heap.size + 2, [.string ⟨ocl.toArray⟩, .string ⟨ono.toArray⟩, .bool ohN, .string ⟨oac.toArray⟩, .bool ohA, .string ⟨oco.toArray⟩, .bool ohC, .int .i64 oag, .bool ohG, .int .i64 ole]), (w.heap.size + 1, [.string ⟨tcl.toArray⟩, .string ⟨tno.toArray⟩, .bool thN, .string ⟨tac.toArray⟩, .bool false, .string ⟨tco.toArray⟩, .bool thC, .int .i64 tag, .bool thG, .int .i64 tle])]) := by rw [← e]; exact HQ5
          clear HQ4 HN1 HQ5 e
          go_wp2
          go_meet
          exact HQ6
        · have e : tac = n1 := HN1.out
          have HQ6 : Hid (QL w wc [.slice va c.val.length vc, .string ⟨c.iss.toArray⟩, .bool c.hIss, .string ⟨c.sub.toArray⟩, .bool c.hSub, .slice aa c.aud.length ac, .bool c.hAud, .string ⟨c.jti.toArray⟩, .bool c.hJti, .bool c.exp.has, .int .i64 c.exp.at_, .bool c.nbf.has, .int .i64 c.nbf.at_, .bool c.iat.has, .int .i64 c.iat.at_] [(b3, [.string ⟨tcl.toArray⟩, .string ⟨n0.toArray⟩, .bool thN, .string ⟨n1.toArray⟩, .bool true, .string ⟨tco.toArray⟩, .bool thC, .int .i64 tag, .bool thG, .int .i64 tle]), (w.heap.size + 2, [.string ⟨ocl.toArray⟩, .string ⟨ono.toArray⟩, .bool ohN, .string ⟨oac.toArray⟩, .bool ohA, .string ⟨oco.toArray⟩, .bool ohC, .int .i64 oag, .bool ohG, .int .i64 ole]), (w.heap.size + 1, [.string ⟨tcl.toArray⟩, .string ⟨tno.toArray⟩, .bool thN, .string ⟨tac.toArray⟩, .bool true, .string ⟨tco.toArray⟩, .bool thC, .int .i64 tag, .bool thG, .int .i64 tle])]) := by rw [← e]; exact HQ4.out
          clear HQ4 HN1 e
          go_wp2
          go_meet
          exact HQ6
      case rest =>
      clear HQ4
      have HQ4 := hcut
      clear hcut
      have kf : wc.cell? ⟨w.heap.size + 1, 6, none⟩ = some (.bool thC) := (HQ4.out.at 2 rfl).cell 6 (by simp)
      go_upto_if 44 with fail
      clear kf
      obtain ⟨n2, hn2⟩ : ∃ x, (if thC = true then tco else oco) = x := ⟨_, rfl⟩
      have HN2 : Hid ((if thC = true then tco else oco) = n2) := hn2
      clear hn2
      go_cut [] from 45 to 47 (fun wx => Hid (QL w wx [.slice va c.val.length vc, .string ⟨c.iss.toArray⟩, .bool c.hIss, .string ⟨c.sub.toArray⟩, .bool c.hSub, .slice aa c.aud.length ac, .bool c.hAud, .string ⟨c.jti.toArray⟩, .bool c.hJti, .bool c.exp.has, .int .i64 c.exp.at_, .bool c.nbf.has, .int .i64 c.nbf.at_, .bool c.iat.has, .int .i64 c.iat.at_] [(b3, [.string ⟨tcl.toArray⟩, .string ⟨n0.toArray⟩, .bool thN, .string ⟨n1.toArray⟩, .bool thA, .string ⟨n2.toArray⟩, .bool thC, .int .i64 tag, .bool thG, .int .i64 tle]), (w.heap.size + 2, [.string ⟨ocl.toArray⟩, .string ⟨ono.toArray⟩, .bool ohN, .string ⟨oac.toArray⟩, .bool ohA, .string ⟨oco.toArray⟩, .bool ohC, .int .i64 oag, .bool ohG, .int .i64 ole]), (w.heap.size + 1, [.string ⟨tcl.toArray⟩, .string ⟨tno.toArray⟩, .bool thN, .string ⟨tac.toArray⟩, .bool thA, .string ⟨tco.toArray⟩, .bool thC, .int .i64 tag, .bool thG, .int .i64 tle])]))
      case first =>
        cases thC
        · have ko : wc.cell? ⟨w.heap.size + 2, 5, none⟩ = some (.string ⟨oco.toArray⟩) := (HQ4.out.at 1 rfl).cell 5 (by simp)
          have kv : wc.cell? ⟨b3, 5, none⟩ = some (.string ⟨tco.toArray⟩) := (HQ4.out.at 0 rfl).cell 5 (by simp)
          have fv : wc.frozen? ⟨b3, 5, none⟩ = false := (HQ4.out.at 0 rfl).frozen 5
          have HQ5 := HQ4.out.set (b := b3) (by have := HLT.out; intro p hp; simp only [List.mem_cons, List.not_mem_nil, or_false] at hp; rcases hp with rfl | rfl <;> (dsimp only; omega)) 5 (.string ⟨oco.toArray⟩) rfl
          have e : oco = n2 := HN2.out
          have HQ6 : Hid (QL w (wc.setCell ⟨b3, 5, none⟩ (.string ⟨oco.toArray⟩)) [.slice va c.val.length vc, .string ⟨c.iss.toArray⟩, .bool c.hIss, .string ⟨c.sub.toArray⟩, .bool c.hSub, .slice aa c.aud.length ac, .bool c.hAud, .string ⟨c.jti.toArray⟩, .bool c.hJti, .bool c.exp.has, .int .i64 c.exp.at_, .bool c.nbf.has, .int .i64 c.nbf.at_, .bool c.iat.has, .int .i64 c.iat.at_] [(b3, [.string ⟨tcl.toArray⟩, .string ⟨n0.toArray⟩, .bool thN, .string ⟨n1.toArray⟩, .bool thA, .string ⟨n2.toArray⟩, .bool false, .int .i64 tag, .bool thG, .int .i64 tle]), (w.heap.size + 2, [.string ⟨ocl.toArray⟩, .string ⟨ono.toArray⟩, .bool ohN, .string ⟨oac.toArray⟩, .bool ohA, .string ⟨oco.toArray⟩, .bool ohC, .int .i64 oag, .bool ohG, .int .i64 ole]), (w.heap.size + 1, [.string ⟨tcl.toArray⟩, .string ⟨tno.toArray⟩, .bool thN, .string ⟨tac.toArray⟩, .bool thA, .string ⟨tco.toArray⟩, .bool false, .int .i64 tag, .bool thG, .int .i64 tle])]) := by rw [← e]; exact HQ5
          clear HQ4 HN2 HQ5 e
          go_wp2
          go_meet
          exact HQ6
        · have e : tco = n2 := HN2.out
          have HQ6 : Hid (QL w wc [.slice va c.val.length vc, .string ⟨c.iss.toArray⟩, .bool c.hIss, .string ⟨c.sub.toArray⟩, .bool c.hSub, .slice aa c.aud.length ac, .bool c.hAud, .string ⟨c.jti.toArray⟩, .bool c.hJti, .bool c.exp.has, .int .i64 c.exp.at_, .bool c.nbf.has, .int .i64 c.nbf.at_, .bool c.iat.has, .int .i64 c.iat.at_] [(b3, [.string ⟨tcl.toArray⟩, .string ⟨n0.toArray⟩, .bool thN, .string ⟨n1.toArray⟩, .bool thA, .string ⟨n2.toArray⟩, .bool true, .int .i64 tag, .bool thG, .int .i64 tle]), (w.heap.size + 2, [.string ⟨ocl.toArray⟩, .string ⟨ono.toArray⟩, .bool ohN, .string ⟨oac.toArray⟩, .bool ohA, .string ⟨oco.toArray⟩, .bool ohC, .int .i64 oag, .bool ohG, .int .i64 ole]), (w.heap.size + 1, [.string ⟨tcl.toArray⟩, .string ⟨tno.toArray⟩, .bool thN, .string ⟨tac.toArray⟩, .bool thA, .string ⟨tco.toArray⟩, .bool true, .int .i64 tag, .bool thG, .int .i64 tle])]) := by rw [← e]; exact HQ4.out
          clear HQ4 HN2 e
          go_wp2
          go_meet
          exact HQ6
      case rest =>
      clear HQ4
      have HQ4 := hcut
      clear hcut
      have kf : wc.cell? ⟨w.heap.size + 1, 8, none⟩ = some (.bool thG) := (HQ4.out.at 2 rfl).cell 8 (by simp)
      go_upto_if 50 with fail
      clear kf
      obtain ⟨n3, hn3⟩ : ∃ x, (if thG = true then tag else oag) = x := ⟨_, rfl⟩
      have HN3 : Hid ((if thG = true then tag else oag) = n3) := hn3
      clear hn3
      go_cut [] from 51 to 53 (fun wx => Hid (QL w wx [.slice va c.val.length vc, .string ⟨c.iss.toArray⟩, .bool c.hIss, .string ⟨c.sub.toArray⟩, .bool c.hSub, .slice aa c.aud.length ac, .bool c.hAud, .string ⟨c.jti.toArray⟩, .bool c.hJti, .bool c.exp.has, .int .i64 c.exp.at_, .bool c.nbf.has, .int .i64 c.nbf.at_, .bool c.iat.has, .int .i64 c.iat.at_] [(b3, [.string ⟨tcl.toArray⟩, .string ⟨n0.toArray⟩, .bool thN, .string ⟨n1.toArray⟩, .bool thA, .string ⟨n2.toArray⟩, .bool thC, .int .i64 n3, .bool thG, .int .i64 tle]), (w.heap.size + 2, [.string ⟨ocl.toArray⟩, .string ⟨ono.toArray⟩, .bool ohN, .string ⟨oac.toArray⟩, .bool ohA, .string ⟨oco.toArray⟩, .bool ohC, .int .i64 oag, .bool ohG, .int .i64 ole]), (w.heap.size + 1, [.string ⟨tcl.toArray⟩, .string ⟨tno.toArray⟩, .bool thN, .string ⟨tac.toArray⟩, .bool thA, .string ⟨tco.toArray⟩, .bool thC, .int .i64 tag, .bool thG, .int .i64 tle])]))
      case first =>
        cases thG
        · have ko : wc.cell? ⟨w.heap.size + 2, 7, none⟩ = some (.int .i64 oag) := (HQ4.out.at 1 rfl).cell 7 (by simp)
          have kv : wc.cell? ⟨b3, 7, none⟩ = some (.int .i64 tag) := (HQ4.out.at 0 rfl).cell 7 (by simp)
          have fv : wc.frozen? ⟨b3, 7, none⟩ = false := (HQ4.out.at 0 rfl).frozen 7
          have HQ5 := HQ4.out.set (b := b3) (by have := HLT.out; intro p hp; simp only [List.mem_cons, List.not_mem_nil, or_false] at hp; rcases hp with rfl | rfl <;> (dsimp only; omega)) 7 (.int .i64 oag) rfl
          have e : oag = n3 := HN3.out
          have HQ6 : Hid (QL w (wc.setCell ⟨b3, 7, none⟩ (.int .i64 oag)) [.slice va c.val.length vc, .string ⟨c.iss.toArray⟩, .bool c.hIss, .string ⟨c.sub.toArray⟩, .bool c.hSub, .slice aa c.aud.length ac, .bool c.hAud, .string ⟨c.jti.toArray⟩, .bool c.hJti, .bool c.exp.has, .int .i64 c.exp.at_, .bool c.nbf.has, .int .i64 c.nbf.at_, .bool c.iat.has, .int .i64 c.iat.at_] [(b3, [.string ⟨tcl.toArray⟩, .string ⟨n0.toArray⟩, .bool thN, .string ⟨n1.toArray⟩, .bool thA, .string ⟨n2.toArray⟩, .bool thC, .int .i64 n3, .bool false, .int .i64 tle]), (w.heap.size + 2, [.string ⟨ocl.toArray⟩, .string ⟨ono.toArray⟩, .bool ohN, .string ⟨oac.toArray⟩, .bool ohA, .string ⟨oco.toArray⟩, .bool ohC, .int .i64 oag, .bool ohG, .int .i64 ole]), (w.heap.size + 1, [.string ⟨tcl.toArray⟩, .string ⟨tno.toArray⟩, .bool thN, .string ⟨tac.toArray⟩, .bool thA, .string ⟨tco.toArray⟩, .bool thC, .int .i64 tag, .bool false, .int .i64 tle])]) := by rw [← e]; exact HQ5
          clear HQ4 HN3 HQ5 e
          go_wp2
          go_meet
          exact HQ6
        · have e : tag = n3 := HN3.out
          have HQ6 : Hid (QL w wc [.slice va c.val.length vc, .string ⟨c.iss.toArray⟩, .bool c.hIss, .string ⟨c.sub.toArray⟩, .bool c.hSub, .slice aa c.aud.length ac, .bool c.hAud, .string ⟨c.jti.toArray⟩, .bool c.hJti, .bool c.exp.has, .int .i64 c.exp.at_, .bool c.nbf.has, .int .i64 c.nbf.at_, .bool c.iat.has, .int .i64 c.iat.at_] [(b3, [.string ⟨tcl.toArray⟩, .string ⟨n0.toArray⟩, .bool thN, .string ⟨n1.toArray⟩, .bool thA, .string ⟨n2.toArray⟩, .bool thC, .int .i64 n3, .bool true, .int .i64 tle]), (w.heap.size + 2, [.string ⟨ocl.toArray⟩, .string ⟨ono.toArray⟩, .bool ohN, .string ⟨oac.toArray⟩, .bool ohA, .string ⟨oco.toArray⟩, .bool ohC, .int .i64 oag, .bool ohG, .int .i64 ole]), (w.heap.size + 1, [.string ⟨tcl.toArray⟩, .string ⟨tno.toArray⟩, .bool thN, .string ⟨tac.toArray⟩, .bool thA, .string ⟨tco.toArray⟩, .bool thC, .int .i64 tag, .bool true, .int .i64 tle])]) := by rw [← e]; exact HQ4.out
          clear HQ4 HN3 e
          go_wp2
          go_meet
          exact HQ6
      case rest =>
      clear HQ4
      have HQ4 := hcut
      clear hcut
      have kf : wc.cell? ⟨w.heap.size + 1, 8, none⟩ = some (.bool thG) := (HQ4.out.at 2 rfl).cell 8 (by simp)
      go_upto_if 57 with fail
      clear kf
      obtain ⟨wn, hwn⟩ : ∃ x, (if thG = true then now else later) = x := ⟨_, rfl⟩
      have HWN : Hid ((if thG = true then now else later) = wn) := hwn
      clear hwn
      go_cut [14] from 58 to 58 (fun s wx => s = .int .i64 wn ∧ wx = wc)
      case first =>
        have e := HWN.out
        cases thG
        · rw [if_neg (by simp)] at e
          subst e
          go_wp2
          go_meet
          exact ⟨rfl, rfl⟩
        · rw [if_pos rfl] at e
          subst e
          go_wp2
          go_meet
          exact ⟨rfl, rfl⟩
      case rest =>
      obtain ⟨rfl, rfl⟩ := hcut
      have HE : Hid (checkQ (mkQ c va vc aa ac alg ⟨tcl, n0, thN, n1, thA, n2, thC, n3, thG, tle⟩ wn) = checkQ (mkQ c va vc aa ac alg ⟨tcl, tno, thN, tac, thA, tco, thC, tag, thG, tle⟩ now)) := by
        refine check_quiet rfl rfl rfl rfl rfl rfl rfl rfl rfl (fun h => ?_) (fun h => ?_) (fun h => ?_) (fun h => ⟨?_, ?_⟩)
        · rw [← HN0.out]; exact if_pos h
        · rw [← HN1.out]; exact if_pos h
        · rw [← HN2.out]; exact if_pos h
        · rw [← HN3.out]; exact if_pos h
        · rw [← HWN.out]; exact if_pos h
      have HL : Hid (tac.length ≤ 1000000000 ∧ tco.length ≤ 1000000000 ∧ n1.length ≤ 1000000000 ∧ n2.length ≤ 1000000000 ∧ now ≤ 9223372036854775807 ∧ wn ≤ 9223372036854775807) := by
        have e1 := HN1.out
        have e2 := HN2.out
        have e3 := HWN.out
        refine ⟨h1, h2, ?_, ?_, hn, ?_⟩
        · rw [← e1]; split <;> assumption
        · rw [← e2]; split <;> assumption
        · rw [← e3]; split <;> assumption
      have HC1 : Hid (∀ wq, Below w.heap.size w wq → Calls Tryz.prog 10 #[.agg #[.slice va c.val.length vc, .string ⟨c.iss.toArray⟩, .bool c.hIss, .string ⟨c.sub.toArray⟩, .bool c.hSub, .slice aa c.aud.length ac, .bool c.hAud, .string ⟨c.jti.toArray⟩, .bool c.hJti, .bool c.exp.has, .int .i64 c.exp.at_, .bool c.nbf.has, .int .i64 c.nbf.at_, .bool c.iat.has, .int .i64 c.iat.at_], .int .i64 alg, .agg #[.string ⟨tcl.toArray⟩, .string ⟨tno.toArray⟩, .bool thN, .string ⟨tac.toArray⟩, .bool thA, .string ⟨tco.toArray⟩, .bool thC, .int .i64 tag, .bool thG, .int .i64 tle], .int .i64 now] wq fun e w' => e = .returned (.int .i64 (checkQ (mkQ c va vc aa ac alg ⟨tcl, tno, thN, tac, thA, tco, thC, tag, thG, tle⟩ now))) ∧ Below wq.heap.size wq w') := fun wq hq => (HLq.out wq hq).chk alg ⟨tcl, tno, thN, tac, thA, tco, thC, tag, thG, tle⟩ now HL.out.1 HL.out.2.1 HL.out.2.2.2.2.1
      have HC2 : Hid (∀ wq, Below w.heap.size w wq → Calls Tryz.prog 10 #[.agg #[.slice va c.val.length vc, .string ⟨c.iss.toArray⟩, .bool c.hIss, .string ⟨c.sub.toArray⟩, .bool c.hSub, .slice aa c.aud.length ac, .bool c.hAud, .string ⟨c.jti.toArray⟩, .bool c.hJti, .bool c.exp.has, .int .i64 c.exp.at_, .bool c.nbf.has, .int .i64 c.nbf.at_, .bool c.iat.has, .int .i64 c.iat.at_], .int .i64 alg, .agg #[.string ⟨tcl.toArray⟩, .string ⟨n0.toArray⟩, .bool thN, .string ⟨n1.toArray⟩, .bool thA, .string ⟨n2.toArray⟩, .bool thC, .int .i64 n3, .bool thG, .int .i64 tle], .int .i64 wn] wq fun e w' => e = .returned (.int .i64 (checkQ (mkQ c va vc aa ac alg ⟨tcl, tno, thN, tac, thA, tco, thC, tag, thG, tle⟩ now))) ∧ Below wq.heap.size wq w') := fun wq hq => by
        have h := (HLq.out wq hq).chk alg ⟨tcl, n0, thN, n1, thA, n2, thC, n3, thG, tle⟩ wn HL.out.2.2.1 HL.out.2.2.2.1 HL.out.2.2.2.2.2
        rw [HE.out] at h
        exact h
      clear HN0 HN1 HN2 HN3 HWN HE HL HLq
      generalize checkQ (mkQ c va vc aa ac alg ⟨tcl, tno, thN, tac, thA, tco, thC, tag, thG, tle⟩ now) = r at *
      go_upto_region 15 with fail
      refine wp_region_K 9 (fun wx => QL w wx [.slice va c.val.length vc, .string ⟨c.iss.toArray⟩, .bool c.hIss, .string ⟨c.sub.toArray⟩, .bool c.hSub, .slice aa c.aud.length ac, .bool c.hAud, .string ⟨c.jti.toArray⟩, .bool c.hJti, .bool c.exp.has, .int .i64 c.exp.at_, .bool c.nbf.has, .int .i64 c.nbf.at_, .bool c.iat.has, .int .i64 c.iat.at_] [(b3, [.string ⟨tcl.toArray⟩, .string ⟨n0.toArray⟩, .bool thN, .string ⟨n1.toArray⟩, .bool thA, .string ⟨n2.toArray⟩, .bool thC, .int .i64 n3, .bool thG, .int .i64 tle]), (w.heap.size + 2, [.string ⟨ocl.toArray⟩, .string ⟨ono.toArray⟩, .bool ohN, .string ⟨oac.toArray⟩, .bool ohA, .string ⟨oco.toArray⟩, .bool ohC, .int .i64 oag, .bool ohG, .int .i64 ole]), (w.heap.size + 1, [.string ⟨tcl.toArray⟩, .string ⟨tno.toArray⟩, .bool thN, .string ⟨tac.toArray⟩, .bool thA, .string ⟨tco.toArray⟩, .bool thC, .int .i64 tag, .bool thG, .int .i64 tle])]) (by kernel_rfl) ?_
      have hHeld : ((fun wx => QL w wx [.slice va c.val.length vc, .string ⟨c.iss.toArray⟩, .bool c.hIss, .string ⟨c.sub.toArray⟩, .bool c.hSub, .slice aa c.aud.length ac, .bool c.hAud, .string ⟨c.jti.toArray⟩, .bool c.hJti, .bool c.exp.has, .int .i64 c.exp.at_, .bool c.nbf.has, .int .i64 c.nbf.at_, .bool c.iat.has, .int .i64 c.iat.at_] [(b3, [.string ⟨tcl.toArray⟩, .string ⟨n0.toArray⟩, .bool thN, .string ⟨n1.toArray⟩, .bool thA, .string ⟨n2.toArray⟩, .bool thC, .int .i64 n3, .bool thG, .int .i64 tle]), (w.heap.size + 2, [.string ⟨ocl.toArray⟩, .string ⟨ono.toArray⟩, .bool ohN, .string ⟨oac.toArray⟩, .bool ohA, .string ⟨oco.toArray⟩, .bool ohC, .int .i64 oag, .bool ohG, .int .i64 ole]), (w.heap.size + 1, [.string ⟨tcl.toArray⟩, .string ⟨tno.toArray⟩, .bool thN, .string ⟨tac.toArray⟩, .bool thA, .string ⟨tco.toArray⟩, .bool thC, .int .i64 tag, .bool thG, .int .i64 tle])])) (World.drew _) := QL.below HQ4.out (Below.refl _ _).drew
      refine wpAnyK_take0 1 (v := ?v1) rfl (by kernel_rfl) (fun _ _ _ h => h) (Or.inl ⟨by rfl, ?hy1⟩) (fun _ => hHeld) ?_
      case hy1 => (intro w hSw; go_simp; try with_reducible rfl)
      try simp only [Act.put, List.setIfInBounds_toArray, List.set_cons_zero, List.set_cons_succ]
      refine wpAnyK_take0 3 (v := ?v2) rfl (by kernel_rfl) (fun _ _ _ h => h) (Or.inl ⟨by rfl, ?hy2⟩) (fun _ => hHeld) ?_
      case hy2 => (intro w hSw; go_simp; try with_reducible rfl)
      try simp only [Act.put, List.setIfInBounds_toArray, List.set_cons_zero, List.set_cons_succ]
      refine wpAnyK_take0 6 (v := ?v3) rfl (by kernel_rfl) (fun _ _ _ h => h) (Or.inl ⟨by rfl, ?hy3⟩) (fun _ => hHeld) ?_
      case hy3 => (intro w hSw; go_simp; try with_reducible rfl)
      try simp only [Act.put, List.setIfInBounds_toArray, List.set_cons_zero, List.set_cons_succ]
      refine wpAnyK_take0 8 (v := ?v4) rfl (by kernel_rfl) (fun _ _ _ h => h) (Or.inl ⟨by rfl, ?hy4⟩) (fun _ => hHeld) ?_
      case hy4 => (intro w hSw; go_simp; try with_reducible rfl)
      try simp only [Act.put, List.setIfInBounds_toArray, List.set_cons_zero, List.set_cons_succ]
      refine wpAnyK_take 0 [4, 9] rfl (by kernel_rfl) (fun _ _ _ h => h) (yif_load 27 (.tmp 6) rfl (w.heap.size) 0 rfl [.slice va c.val.length vc, .string ⟨c.iss.toArray⟩, .bool c.hIss, .string ⟨c.sub.toArray⟩, .bool c.hSub, .slice aa c.aud.length ac, .bool c.hAud, .string ⟨c.jti.toArray⟩, .bool c.hJti, .bool c.exp.has, .int .i64 c.exp.at_, .bool c.nbf.has, .int .i64 c.nbf.at_, .bool c.iat.has, .int .i64 c.iat.at_] _ (fun wz hz => bl_rng9 (hz.cl)) Tryz.underlying27 rfl (hcl _ rfl) rfl) hHeld ?_
      try simp only [Act.put, List.setIfInBounds_toArray, List.set_cons_zero, List.set_cons_succ]
      refine wpAnyK_take 2 [4, 9] rfl (by kernel_rfl) (fun _ _ _ h => h) (yif_load 30 (.tmp 8) rfl (w.heap.size + 1) 0 rfl [.string ⟨tcl.toArray⟩, .string ⟨tno.toArray⟩, .bool thN, .string ⟨tac.toArray⟩, .bool thA, .string ⟨tco.toArray⟩, .bool thC, .int .i64 tag, .bool thG, .int .i64 tle] _ (fun wz hz => bl_rng9 (hz.at 2 rfl)) Tryz.underlying30 rfl (hwt _ rfl) rfl) hHeld ?_
      try simp only [Act.put, List.setIfInBounds_toArray, List.set_cons_zero, List.set_cons_succ]
      refine wpAnyK_take 5 [9] rfl (by kernel_rfl) (fun _ _ _ h => h) (yif_load 27 (.tmp 6) rfl (w.heap.size) 0 rfl [.slice va c.val.length vc, .string ⟨c.iss.toArray⟩, .bool c.hIss, .string ⟨c.sub.toArray⟩, .bool c.hSub, .slice aa c.aud.length ac, .bool c.hAud, .string ⟨c.jti.toArray⟩, .bool c.hJti, .bool c.exp.has, .int .i64 c.exp.at_, .bool c.nbf.has, .int .i64 c.nbf.at_, .bool c.iat.has, .int .i64 c.iat.at_] _ (fun wz hz => bl_rng9 (hz.cl)) Tryz.underlying27 rfl (hcl _ rfl) rfl) hHeld ?_
      try simp only [Act.put, List.setIfInBounds_toArray, List.set_cons_zero, List.set_cons_succ]
      refine wpAnyK_take 7 [9] rfl (by kernel_rfl) (fun _ _ _ h => h) (yif_load 30 (.tmp 13) rfl (b3) 0 rfl [.string ⟨tcl.toArray⟩, .string ⟨n0.toArray⟩, .bool thN, .string ⟨n1.toArray⟩, .bool thA, .string ⟨n2.toArray⟩, .bool thC, .int .i64 n3, .bool thG, .int .i64 tle] _ (fun wz hz => bl_rng9 (hz.at 0 rfl)) Tryz.underlying30 rfl (hwt _ rfl) rfl) hHeld ?_
      try simp only [Act.put, List.setIfInBounds_toArray, List.set_cons_zero, List.set_cons_succ]
      refine wpAnyK_step 4 rfl (by kernel_rfl) (fun K hK => ?_)
      go_simp
      refine (HC1.out _ hHeld.bel).mono ?_
      rintro e w5 ⟨rfl, hB5⟩
      dsimp only
      refine hK.out _ _ ?hk9 ?_
      case hk9 => exact fun _ => QL.below hHeld hB5
      have hHeld : ((fun wx => QL w wx [.slice va c.val.length vc, .string ⟨c.iss.toArray⟩, .bool c.hIss, .string ⟨c.sub.toArray⟩, .bool c.hSub, .slice aa c.aud.length ac, .bool c.hAud, .string ⟨c.jti.toArray⟩, .bool c.hJti, .bool c.exp.has, .int .i64 c.exp.at_, .bool c.nbf.has, .int .i64 c.nbf.at_, .bool c.iat.has, .int .i64 c.iat.at_] [(b3, [.string ⟨tcl.toArray⟩, .string ⟨n0.toArray⟩, .bool thN, .string ⟨n1.toArray⟩, .bool thA, .string ⟨n2.toArray⟩, .bool thC, .int .i64 n3, .bool thG, .int .i64 tle]), (w.heap.size + 2, [.string ⟨ocl.toArray⟩, .string ⟨ono.toArray⟩, .bool ohN, .string ⟨oac.toArray⟩, .bool ohA, .string ⟨oco.toArray⟩, .bool ohC, .int .i64 oag, .bool ohG, .int .i64 ole]), (w.heap.size + 1, [.string ⟨tcl.toArray⟩, .string ⟨tno.toArray⟩, .bool thN, .string ⟨tac.toArray⟩, .bool thA, .string ⟨tco.toArray⟩, .bool thC, .int .i64 tag, .bool thG, .int .i64 tle])])) _ := QL.below hHeld hB5
      clear hK K
      try simp only [Act.put, List.setIfInBounds_toArray, List.set_cons_zero, List.set_cons_succ]
      refine wpAnyK_step 9 rfl (by kernel_rfl) (fun K hK => ?_)
      go_simp
      refine (HC2.out _ hHeld.bel).mono ?_
      rintro e w6 ⟨rfl, hB6⟩
      have HB6 : Hid (Below w.heap.size w w6) := (QL.below hHeld hB6).bel
      dsimp only
      refine hK.out _ _ ?hk10 ?_
      case hk10 => exact fun _ => QL.below hHeld hB6
      have hHeld : ((fun wx => QL w wx [.slice va c.val.length vc, .string ⟨c.iss.toArray⟩, .bool c.hIss, .string ⟨c.sub.toArray⟩, .bool c.hSub, .slice aa c.aud.length ac, .bool c.hAud, .string ⟨c.jti.toArray⟩, .bool c.hJti, .bool c.exp.has, .int .i64 c.exp.at_, .bool c.nbf.has, .int .i64 c.nbf.at_, .bool c.iat.has, .int .i64 c.iat.at_] [(b3, [.string ⟨tcl.toArray⟩, .string ⟨n0.toArray⟩, .bool thN, .string ⟨n1.toArray⟩, .bool thA, .string ⟨n2.toArray⟩, .bool thC, .int .i64 n3, .bool thG, .int .i64 tle]), (w.heap.size + 2, [.string ⟨ocl.toArray⟩, .string ⟨ono.toArray⟩, .bool ohN, .string ⟨oac.toArray⟩, .bool ohA, .string ⟨oco.toArray⟩, .bool ohC, .int .i64 oag, .bool ohG, .int .i64 ole]), (w.heap.size + 1, [.string ⟨tcl.toArray⟩, .string ⟨tno.toArray⟩, .bool thN, .string ⟨tac.toArray⟩, .bool thA, .string ⟨tco.toArray⟩, .bool thC, .int .i64 tag, .bool thG, .int .i64 tle])])) _ := QL.below hHeld hB6
      clear hK K
      try simp only [Act.put, List.setIfInBounds_toArray, List.set_cons_zero, List.set_cons_succ]
      refine wpAnyK_take0 10 (v := ?v11) rfl (by kernel_rfl) (fun _ _ _ h => h) (Or.inl ⟨by rfl, ?hy11⟩) (fun _ => hHeld) ?_
      case hy11 => (intro w hSw; go_simp; try with_reducible rfl)
      try simp only [Act.put, List.setIfInBounds_toArray, List.set_cons_zero, List.set_cons_succ]
      refine wpAnyK_take0 11 (v := ?v12) rfl (by kernel_rfl) (fun _ _ _ h => h) (Or.inl ⟨by rfl, ?hy12⟩) (fun _ => hHeld) ?_
      case hy12 => (intro w hSw; go_simp; try with_reducible rfl)
      try simp only [Act.put, List.setIfInBounds_toArray, List.set_cons_zero, List.set_cons_succ]
      refine wpAnyK_done (by kernel_rfl) ?_ _
      go_wp2
      go_ret
      exact ⟨by simp, HB6.out⟩
  · skip
    have CA := (HLq.out _ HQ2.out.bel).awk
    go_wp2_with fail
    refine CA.mono ?_
    clear CA
    rintro e w4 ⟨rfl, hB4⟩
    have HB4 : Hid (Below w.heap.size w w4) := (HQ2.out.below hB4).bel
    clear hB4
    go_wp2
    go_ret
    exact ⟨rfl, HB4.out⟩

theorem quiet_top (c : Cm) (va : Option Addr) (vc : Nat) (aa : Option Addr) (ac : Nat) (alg : Int) (t : Wt) (now : Int) (o : Wt) (later : Int) (w : World) (H : LA w c va vc aa ac) (h1 : t.access.length ≤ 1000000000) (h2 : t.code.length ≤ 1000000000) (h3 : o.access.length ≤ 1000000000) (h4 : o.code.length ≤ 1000000000) (hn : now ≤ 9223372036854775807) (hl : later ≤ 9223372036854775807) :
    Calls Tryz.prog 5 #[clV (.slice va c.val.length vc) (.slice aa c.aud.length ac) c, .int .i64 alg, wtV t, .int .i64 now, wtV o, .int .i64 later] w fun e w' => e = .returned (.bool true) ∧ Below w.heap.size w w' :=
  quiet_any c va vc aa ac alg t.client t.nonce t.hasN t.access t.hasA t.code t.hasC t.age t.hasAge t.lee now o.client o.nonce o.hasN o.access o.hasA o.code o.hasC o.age o.hasAge o.lee later w H h1 h2 h3 h4 hn hl
end Go.Proofs.YtpfdaclmchcbiaaGreatDoor
