import Derived.Test.YtdhfjhdlimmjhaaGreatDoorQJ1
namespace Go.Proofs.YtdhfjhdlimmjhaaGreatDoor
open Go.RowKit Go.Shelf
set_option maxRecDepth 100000

theorem tr_at22 {w : World} {l : List (List UInt8)} {ao : Option Addr} {cap : Nat} (h : TR w (.slice ao l.length cap) l ao cap) (k : Nat) (hk : k < l.length) {u : List UInt8} (hu : l.getD k [] = u) : ∃ g off : Nat, ao = some ⟨g, off, none⟩ ∧ w.cell? ⟨g, off + k, none⟩ = some (.string ⟨u.toArray⟩) := by
  rcases h.cell with h0 | ⟨g, off, e, _, hc⟩
  · rw [h0] at hk; cases hk
  · have := hc k hk
    rw [hu] at this
    exact ⟨g, off, e, this⟩

theorem no_mark22 {B : Nat} {w : World} {g n cap : Nat} {l : List Nd} (h : NO B w (.slice (some ⟨g, 0, none⟩) n cap) (l ++ [mkN])) : w.rangeAt g (l.length * 6) [.int .i64 0, .string ⟨#[]⟩, .string ⟨#[109, 97, 114, 107]⟩, .bool false, .int .i64 0, .int .i64 0] := fun j u hu => by
  obtain ⟨hj, e⟩ := List.getElem?_eq_some_iff.1 hu
  unfold NO at h
  obtain ⟨a, c, e2, _, _⟩ := own_slice h
  cases e2
  refine (own_cell h (l.length * 6 + j) u ?_).1
  rw [nCs_append, List.getElem?_append_right (by rw [nCs_length]; omega), nCs_length, show l.length * 6 + j - l.length * 6 = j by omega]
  exact hu
theorem ot_mark22 {B : Nat} {w : World} {g n cap : Nat} {l : List (List UInt8)} (h : OT B w (.slice (some ⟨g, 0, none⟩) n cap) (l ++ [mkT])) : w.cell? ⟨g, l.length, none⟩ = some (.string ⟨#[109, 97, 114, 107]⟩) := by
  unfold OT at h
  obtain ⟨a, c, e2, _, _⟩ := own_slice h
  cases e2
  refine (own_cell h l.length _ ?_).1
  rw [List.map_append, List.getElem?_append_right (by simp), List.length_map, Nat.sub_self]
  rfl

set_option maxRecDepth 100000 in
set_option maxHeartbeats 32000000 in
theorem ichecks_any (c : Cm) (va : Option Addr) (vc : Nat) (aa : Option Addr) (ac : Nat) (alg : Int) (tcl : List UInt8) (tno : List UInt8) (thN : Bool) (tac : List UInt8) (thA : Bool) (tco : List UInt8) (thC : Bool) (tag : Int) (thG : Bool) (tle : Int) (now : Int) (w : World) (H : LA w c va vc aa ac) (hR : Sha.Rt w) (hvn : va = none → vc = 0) (han : aa = none → ac = 0) (hts : ∀ x ∈ c.val, x.text.length ≤ 1048576 ∧ x.key.length ≤ 1048576) (hml : ∀ x ∈ c.aud, x.length ≤ 1048576) (hln : c.val.length ≤ 1048576) (hla : c.aud.length ≤ 1048576) (h1 : tac.length ≤ 100000000) (h2 : tco.length ≤ 100000000) (hn : now ≤ 9223372036854775807) :
    Calls Tryz.prog 3 #[.agg #[.slice va c.val.length vc, .string ⟨c.iss.toArray⟩, .bool c.hIss, .string ⟨c.sub.toArray⟩, .bool c.hSub, .slice aa c.aud.length ac, .bool c.hAud, .string ⟨c.jti.toArray⟩, .bool c.hJti, .bool c.exp.has, .int .i64 c.exp.at_, .bool c.nbf.has, .int .i64 c.nbf.at_, .bool c.iat.has, .int .i64 c.iat.at_], .int .i64 alg, .agg #[.string ⟨tcl.toArray⟩, .string ⟨tno.toArray⟩, .bool thN, .string ⟨tac.toArray⟩, .bool thA, .string ⟨tco.toArray⟩, .bool thC, .int .i64 tag, .bool thG, .int .i64 tle], .int .i64 now] w fun e w' => e = .returned (.bool true) ∧ Below w.heap.size w w' := by
  obtain ⟨W, hW⟩ : ∃ x, ((w.alloc (.cells #[.slice va c.val.length vc, .string ⟨c.iss.toArray⟩, .bool c.hIss, .string ⟨c.sub.toArray⟩, .bool c.hSub, .slice aa c.aud.length ac, .bool c.hAud, .string ⟨c.jti.toArray⟩, .bool c.hJti, .bool c.exp.has, .int .i64 c.exp.at_, .bool c.nbf.has, .int .i64 c.nbf.at_, .bool c.iat.has, .int .i64 c.iat.at_] 27)).alloc (.cells #[.string ⟨tcl.toArray⟩, .string ⟨tno.toArray⟩, .bool thN, .string ⟨tac.toArray⟩, .bool thA, .string ⟨tco.toArray⟩, .bool thC, .int .i64 tag, .bool thG, .int .i64 tle] 30)) = x := ⟨_, rfl⟩
  have g1 := alloc_below9 w (.cells #[.slice va c.val.length vc, .string ⟨c.iss.toArray⟩, .bool c.hIss, .string ⟨c.sub.toArray⟩, .bool c.hSub, .slice aa c.aud.length ac, .bool c.hAud, .string ⟨c.jti.toArray⟩, .bool c.hJti, .bool c.exp.has, .int .i64 c.exp.at_, .bool c.nbf.has, .int .i64 c.nbf.at_, .bool c.iat.has, .int .i64 c.iat.at_] 27)
  have g2 := alloc_below9 (w.alloc (.cells #[.slice va c.val.length vc, .string ⟨c.iss.toArray⟩, .bool c.hIss, .string ⟨c.sub.toArray⟩, .bool c.hSub, .slice aa c.aud.length ac, .bool c.hAud, .string ⟨c.jti.toArray⟩, .bool c.hJti, .bool c.exp.has, .int .i64 c.exp.at_, .bool c.nbf.has, .int .i64 c.nbf.at_, .bool c.iat.has, .int .i64 c.iat.at_] 27)) (.cells #[.string ⟨tcl.toArray⟩, .string ⟨tno.toArray⟩, .bool thN, .string ⟨tac.toArray⟩, .bool thA, .string ⟨tco.toArray⟩, .bool thC, .int .i64 tag, .bool thG, .int .i64 tle] 30)
  have g3 : Bl 27 _ w.heap.size [.slice va c.val.length vc, .string ⟨c.iss.toArray⟩, .bool c.hIss, .string ⟨c.sub.toArray⟩, .bool c.hSub, .slice aa c.aud.length ac, .bool c.hAud, .string ⟨c.jti.toArray⟩, .bool c.hJti, .bool c.exp.has, .int .i64 c.exp.at_, .bool c.nbf.has, .int .i64 c.nbf.at_, .bool c.iat.has, .int .i64 c.iat.at_] := alloc_bl w [.slice va c.val.length vc, .string ⟨c.iss.toArray⟩, .bool c.hIss, .string ⟨c.sub.toArray⟩, .bool c.hSub, .slice aa c.aud.length ac, .bool c.hAud, .string ⟨c.jti.toArray⟩, .bool c.hJti, .bool c.exp.has, .int .i64 c.exp.at_, .bool c.nbf.has, .int .i64 c.nbf.at_, .bool c.iat.has, .int .i64 c.iat.at_] 27
  have g4 : Bl 30 _ _ [.string ⟨tcl.toArray⟩, .string ⟨tno.toArray⟩, .bool thN, .string ⟨tac.toArray⟩, .bool thA, .string ⟨tco.toArray⟩, .bool thC, .int .i64 tag, .bool thG, .int .i64 tle] := alloc_bl (w.alloc (.cells #[.slice va c.val.length vc, .string ⟨c.iss.toArray⟩, .bool c.hIss, .string ⟨c.sub.toArray⟩, .bool c.hSub, .slice aa c.aud.length ac, .bool c.hAud, .string ⟨c.jti.toArray⟩, .bool c.hJti, .bool c.exp.has, .int .i64 c.exp.at_, .bool c.nbf.has, .int .i64 c.nbf.at_, .bool c.iat.has, .int .i64 c.iat.at_] 27)) [.string ⟨tcl.toArray⟩, .string ⟨tno.toArray⟩, .bool thN, .string ⟨tac.toArray⟩, .bool thA, .string ⟨tco.toArray⟩, .bool thC, .int .i64 tag, .bool thG, .int .i64 tle] 30
  have HBc : Hid (Bl 27 W w.heap.size [.slice va c.val.length vc, .string ⟨c.iss.toArray⟩, .bool c.hIss, .string ⟨c.sub.toArray⟩, .bool c.hSub, .slice aa c.aud.length ac, .bool c.hAud, .string ⟨c.jti.toArray⟩, .bool c.hJti, .bool c.exp.has, .int .i64 c.exp.at_, .bool c.nbf.has, .int .i64 c.nbf.at_, .bool c.iat.has, .int .i64 c.iat.at_]) := by rw [← hW]; exact g3.below g2 g3.lt
  have HBw : Hid (Bl 30 W (w.heap.size + 1) [.string ⟨tcl.toArray⟩, .string ⟨tno.toArray⟩, .bool thN, .string ⟨tac.toArray⟩, .bool thA, .string ⟨tco.toArray⟩, .bool thC, .int .i64 tag, .bool thG, .int .i64 tle]) := by rw [alloc_size] at g4; rw [← hW]; exact g4
  have HBW : Hid (Below w.heap.size w W) := by rw [← hW]; exact g1.trans (g2.mono g1.size)
  have HW : Hid (((w.alloc (.cells #[.slice va c.val.length vc, .string ⟨c.iss.toArray⟩, .bool c.hIss, .string ⟨c.sub.toArray⟩, .bool c.hSub, .slice aa c.aud.length ac, .bool c.hAud, .string ⟨c.jti.toArray⟩, .bool c.hJti, .bool c.exp.has, .int .i64 c.exp.at_, .bool c.nbf.has, .int .i64 c.nbf.at_, .bool c.iat.has, .int .i64 c.iat.at_] 27)).alloc (.cells #[.string ⟨tcl.toArray⟩, .string ⟨tno.toArray⟩, .bool thN, .string ⟨tac.toArray⟩, .bool thA, .string ⟨tco.toArray⟩, .bool thC, .int .i64 tag, .bool thG, .int .i64 tle] 30)) = W) := hW
  have HLq : Hid (∀ wq, Below w.heap.size w wq → LA wq c va vc aa ac) := fun wq hq => H.below hq
  have HTq : Hid (∀ wq, Below w.heap.size w wq → TR wq (.slice aa c.aud.length ac) c.aud aa ac) := fun wq hq => (H.below hq).tr
  have HRq : Hid (∀ wq, Below w.heap.size w wq → Sha.Rt wq) := fun wq hq => hR.below hq (Nat.le_refl _)
  have HLQ : Hid (∀ wq, Below w.heap.size w wq → GL wq.heap.size wq ∧ Sha.Tb wq ∧ Sha.Rt wq) := fun wq hq => ⟨(H.below hq).gl, (H.below hq).tb, hR.below hq (Nat.le_refl _)⟩
  have HLN : Hid (c.val.length ≤ 100000000 ∧ c.aud.length ≤ 100000000 ∧ tac.length ≤ 100000000 ∧ tco.length ≤ 100000000 ∧ now ≤ 9223372036854775807) := ⟨by omega, by omega, h1, h2, hn⟩
  have HVN : Hid ((va = none → vc = 0) ∧ (aa = none → ac = 0)) := ⟨hvn, han⟩
  have HTS : Hid (∀ x ∈ c.val, x.text.length ≤ 1048576 ∧ x.key.length ≤ 1048576) := hts
  have HTS1 : Hid (∀ x ∈ c.val, x.text.length ≤ 100000000 ∧ x.key.length ≤ 100000000) := H.ts
  have HIT1 : Hid (∀ x ∈ c.val, I64 x.int) := H.it
  have HTS2 : Hid (∀ x ∈ c.val.map turnX, x.text.length ≤ 100000000 ∧ x.key.length ≤ 100000000) := fun x hx => by
    obtain ⟨y, hy, rfl⟩ := List.mem_map.1 hx
    have := hts y hy
    refine ⟨?_, by rw [turnX_key]; omega⟩
    unfold turnX
    split
    · rw [List.length_append, List.length_singleton]; omega
    · omega
  have HIT2 : Hid (∀ x ∈ c.val.map turnX, I64 x.int) := fun x hx => by
    obtain ⟨y, hy, rfl⟩ := List.mem_map.1 hx
    rw [turnX_int]
    exact H.it y hy
  have HML : Hid (∀ x ∈ c.aud, x.length ≤ 1048576) := hml
  have hcl : (Tryz.prog.info? 27).map (·.size) = some ([.slice va c.val.length vc, .string ⟨c.iss.toArray⟩, .bool c.hIss, .string ⟨c.sub.toArray⟩, .bool c.hSub, .slice aa c.aud.length ac, .bool c.hAud, .string ⟨c.jti.toArray⟩, .bool c.hJti, .bool c.exp.has, .int .i64 c.exp.at_, .bool c.nbf.has, .int .i64 c.nbf.at_, .bool c.iat.has, .int .i64 c.iat.at_] : List Value).length := by kernel_rfl
  have hwt : (Tryz.prog.info? 30).map (·.size) = some ([.string ⟨tcl.toArray⟩, .string ⟨tno.toArray⟩, .bool thN, .string ⟨tac.toArray⟩, .bool thA, .string ⟨tco.toArray⟩, .bool thC, .int .i64 tag, .bool thG, .int .i64 tle] : List Value).length := by kernel_rfl
  have hcn : (Tryz.prog.info? 35).map (·.size) = some ([.int .i64 0, .string ⟨#[]⟩, .string ⟨#[109, 97, 114, 107]⟩, .bool false, .int .i64 0, .int .i64 0] : List Value).length := by kernel_rfl
  have CB := (HLq.out W HBW.out).bey
  have k0 : W.cell? ⟨w.heap.size, 0, none⟩ = some (.slice va c.val.length vc) := HBc.out.cell 0 (Nat.le_of_ble_eq_true rfl)
  clear H hR hvn han hts hml hln hla h1 h2 hn g1 g2 g3 g4 hW
  go_enter Tryz.func3, Tryz.ntmps3
  go_wp2_with fail
  rw [HW.out]
  clear HW
  refine CB.mono ?_
  clear CB k0
  rintro e w1 ⟨hb, by_, rfl⟩
  have HB1 : Hid (Below w.heap.size w w1) := HBW.out.trans (hb.mono HBW.out.size)
  have HC1 : Hid (Bl 27 w1 w.heap.size [.slice va c.val.length vc, .string ⟨c.iss.toArray⟩, .bool c.hIss, .string ⟨c.sub.toArray⟩, .bool c.hSub, .slice aa c.aud.length ac, .bool c.hAud, .string ⟨c.jti.toArray⟩, .bool c.hJti, .bool c.exp.has, .int .i64 c.exp.at_, .bool c.nbf.has, .int .i64 c.nbf.at_, .bool c.iat.has, .int .i64 c.iat.at_]) := HBc.out.below hb HBc.out.lt
  have HW1 : Hid (Bl 30 w1 (w.heap.size + 1) [.string ⟨tcl.toArray⟩, .string ⟨tno.toArray⟩, .bool thN, .string ⟨tac.toArray⟩, .bool thA, .string ⟨tco.toArray⟩, .bool thC, .int .i64 tag, .bool thG, .int .i64 tle]) := HBw.out.below hb HBw.out.lt
  clear hb HBW HBc HBw
  cases by_
  · have p1 := bl_rng9 HC1.out
    have CR := ctwin_any c.val va vc c.aud aa ac c.iss c.hIss c.sub c.hSub c.hAud c.jti c.hJti c.exp c.nbf c.iat w1 (HLq.out w1 HB1.out).nr (HLq.out w1 HB1.out).tr HVN.out.1 HVN.out.2 HLN.out.1 HLN.out.2.1
    go_wp2_with (first | (refine wpList_load_mid rfl 27 (.tmp 4) rfl w.heap.size 0 rfl [.slice va c.val.length vc, .string ⟨c.iss.toArray⟩, .bool c.hIss, .string ⟨c.sub.toArray⟩, .bool c.hSub, .slice aa c.aud.length ac, .bool c.hAud, .string ⟨c.jti.toArray⟩, .bool c.hJti, .bool c.exp.has, .int .i64 c.exp.at_, .bool c.nbf.has, .int .i64 c.nbf.at_, .bool c.iat.has, .int .i64 c.iat.at_] _ p1 Tryz.underlying27 rfl hcl ?_) | fail)
    refine CR.mono ?_
    clear CR p1
    rintro e w2 ⟨⟨v, a, rfl, hno, hot⟩, hb⟩
    obtain ⟨vA, vC, e1, _, _⟩ := own_slice hno
    obtain ⟨aA, aC, e2, _, _⟩ := own_slice hot
    subst e1
    subst e2
    have hB2 : Below w.heap.size w w2 := HB1.out.trans (hb.mono HB1.out.size)
    have hC2 := HC1.out.below hb HC1.out.lt
    have hW2 := HW1.out.below hb HW1.out.lt
    obtain ⟨w3, hw3⟩ : ∃ x, w2.alloc (.cells #[.slice vA c.val.length vC, .string ⟨c.iss.toArray⟩, .bool c.hIss, .string ⟨c.sub.toArray⟩, .bool c.hSub, .slice aA c.aud.length aC, .bool c.hAud, .string ⟨c.jti.toArray⟩, .bool c.hJti, .bool c.exp.has, .int .i64 c.exp.at_, .bool c.nbf.has, .int .i64 c.nbf.at_, .bool c.iat.has, .int .i64 c.iat.at_] 27) = x := ⟨_, rfl⟩
    have hA3 : Below w2.heap.size w2 w3 := by rw [← hw3]; exact alloc_below9 _ _
    have hD3 : Bl 27 w3 w2.heap.size [.slice vA c.val.length vC, .string ⟨c.iss.toArray⟩, .bool c.hIss, .string ⟨c.sub.toArray⟩, .bool c.hSub, .slice aA c.aud.length aC, .bool c.hAud, .string ⟨c.jti.toArray⟩, .bool c.hJti, .bool c.exp.has, .int .i64 c.exp.at_, .bool c.nbf.has, .int .i64 c.nbf.at_, .bool c.iat.has, .int .i64 c.iat.at_] := by rw [← hw3]; exact alloc_bl _ _ _
    obtain ⟨bm, hbme⟩ : ∃ b, w2.heap.size = b := ⟨_, rfl⟩
    rw [hbme] at hD3
    have hlm : w.heap.size + 1 < bm := by rw [← hbme]; exact hW2.lt
    have hB3 : Below w.heap.size w w3 := hB2.trans (hA3.mono hB2.size)
    have HN3 : NO w.heap.size w3 (.slice vA c.val.length vC) c.val := own_mono2 (own_below hno hA3 (Nat.le_refl _)) HB1.out.size
    have HT3 : OT w.heap.size w3 (.slice aA c.aud.length aC) c.aud := own_mono2 (own_below hot hA3 (Nat.le_refl _)) HB1.out.size
    have hC3 := hC2.below hA3 hC2.lt
    have hW3 := hW2.below hA3 hW2.lt
    have HWX : Hid (w2.alloc (.cells #[.slice vA c.val.length vC, .string ⟨c.iss.toArray⟩, .bool c.hIss, .string ⟨c.sub.toArray⟩, .bool c.hSub, .slice aA c.aud.length aC, .bool c.hAud, .string ⟨c.jti.toArray⟩, .bool c.hJti, .bool c.exp.has, .int .i64 c.exp.at_, .bool c.nbf.has, .int .i64 c.nbf.at_, .bool c.iat.has, .int .i64 c.iat.at_] 27) = w3) := hw3
    have HBE : Hid (w2.heap.size = bm) := hbme
    obtain ⟨x4, hx4⟩ : ∃ x, w3.alloc (.cells #[.int .i64 0, .string ⟨#[]⟩, .string ⟨#[109, 97, 114, 107]⟩, .bool false, .int .i64 0, .int .i64 0] 35) = x := ⟨_, rfl⟩
    have hA4 : Below w3.heap.size w3 x4 := by rw [← hx4]; exact alloc_below9 _ _
    have hL4 : NO w3.heap.size x4 (.slice (some ⟨w3.heap.size, 0, none⟩) 1 1) ([mkN] ++ []) := by rw [← hx4]; exact World.ownsRow_lit w3 #[.int .i64 0, .string ⟨#[]⟩, .string ⟨#[109, 97, 114, 107]⟩, .bool false, .int .i64 0, .int .i64 0] 1 (Nat.le_refl _) (by decide) rfl
    have hR4 := nr_pre hL4
    have HO4 : Hid (NO w.heap.size x4 (.slice vA c.val.length vC) c.val) := own_below HN3 hA4 (Nat.le_refl _)
    have HT4 : Hid (OT w.heap.size x4 (.slice aA c.aud.length aC) c.aud) := own_below HT3 hA4 (Nat.le_refl _)
    have HB4 : Hid (Below w.heap.size w x4) := hB3.trans (hA4.mono hB3.size)
    have HC4 : Hid (Bl 27 x4 w.heap.size [.slice va c.val.length vc, .string ⟨c.iss.toArray⟩, .bool c.hIss, .string ⟨c.sub.toArray⟩, .bool c.hSub, .slice aa c.aud.length ac, .bool c.hAud, .string ⟨c.jti.toArray⟩, .bool c.hJti, .bool c.exp.has, .int .i64 c.exp.at_, .bool c.nbf.has, .int .i64 c.nbf.at_, .bool c.iat.has, .int .i64 c.iat.at_]) := hC3.below hA4 hC3.lt
    have HW4 : Hid (Bl 30 x4 (w.heap.size + 1) [.string ⟨tcl.toArray⟩, .string ⟨tno.toArray⟩, .bool thN, .string ⟨tac.toArray⟩, .bool thA, .string ⟨tco.toArray⟩, .bool thC, .int .i64 tag, .bool thG, .int .i64 tle]) := hW3.below hA4 hW3.lt
    have HD4 : Hid (Bl 27 x4 bm [.slice vA c.val.length vC, .string ⟨c.iss.toArray⟩, .bool c.hIss, .string ⟨c.sub.toArray⟩, .bool c.hSub, .slice aA c.aud.length aC, .bool c.hAud, .string ⟨c.jti.toArray⟩, .bool c.hJti, .bool c.exp.has, .int .i64 c.exp.at_, .bool c.nbf.has, .int .i64 c.nbf.at_, .bool c.iat.has, .int .i64 c.iat.at_]) := hD3.below hA4 hD3.lt
    have HS4 : Hid (w.heap.size ≤ x4.heap.size) := HB4.out.size
    have HX4 : Hid (w3.alloc (.cells #[.int .i64 0, .string ⟨#[]⟩, .string ⟨#[109, 97, 114, 107]⟩, .bool false, .int .i64 0, .int .i64 0] 35) = x4) := hx4
    have k0 : w3.cell? ⟨bm, 0, none⟩ = some (.slice vA c.val.length vC) := hD3.cell 0 (Nat.le_of_ble_eq_true rfl)
    have HLM : Hid (w.heap.size + 1 < bm) := hlm
    clear hw3 hbme hx4 hA3 hD3 hB3 HN3 HT3 hC3 hW3 hA4 hL4 hB2 hC2 hW2 hno hot hb HB1 HC1 HW1 hlm
    go_upto_region 4 with fail
    rw [HBE.out, HWX.out]
    clear HBE HWX
    go_upto_region 5 with (at_builtin; rw [HX4.out]; clear HX4; refine append_nds rfl (.tmp 23) (.tmp 25) rfl w.heap.size (.slice vA c.val.length vC) c.val rfl HO4.out (some ⟨w3.heap.size, 0, none⟩) 1 [mkN] rfl hR4 (fun h => by cases h) (by have := HLN.out.1; simp only [List.length_cons, List.length_nil]; omega) HS4.out ?_; intro v5 w5 ho5 hg5)
    have ea := block_apart HO4.out HC4.out (by decide)
    have eb := block_apart HO4.out HW4.out (by decide)
    have ed := block_apart HO4.out HD4.out (by decide)
    have HC5 : Hid (Bl 27 w5 w.heap.size [.slice va c.val.length vc, .string ⟨c.iss.toArray⟩, .bool c.hIss, .string ⟨c.sub.toArray⟩, .bool c.hSub, .slice aa c.aud.length ac, .bool c.hAud, .string ⟨c.jti.toArray⟩, .bool c.hJti, .bool c.exp.has, .int .i64 c.exp.at_, .bool c.nbf.has, .int .i64 c.nbf.at_, .bool c.iat.has, .int .i64 c.iat.at_]) := bl_grown' HC4.out hg5 ea
    have HW5 : Hid (Bl 30 w5 (w.heap.size + 1) [.string ⟨tcl.toArray⟩, .string ⟨tno.toArray⟩, .bool thN, .string ⟨tac.toArray⟩, .bool thA, .string ⟨tco.toArray⟩, .bool thC, .int .i64 tag, .bool thG, .int .i64 tle]) := bl_grown' HW4.out hg5 eb
    have HD5 : Hid (Bl 27 w5 bm [.slice vA c.val.length vC, .string ⟨c.iss.toArray⟩, .bool c.hIss, .string ⟨c.sub.toArray⟩, .bool c.hSub, .slice aA c.aud.length aC, .bool c.hAud, .string ⟨c.jti.toArray⟩, .bool c.hJti, .bool c.exp.has, .int .i64 c.exp.at_, .bool c.nbf.has, .int .i64 c.nbf.at_, .bool c.iat.has, .int .i64 c.iat.at_]) := bl_grown' HD4.out hg5 ed
    have HT5 : Hid (OT w.heap.size w5 (.slice aA c.aud.length aC) c.aud) := own_keep HT4.out fun g hg => hg5.block g (HT4.out.lt g hg).2 (fun e => kinds_apart HT4.out HO4.out (by decide) hg e.symm)
    have HB5 : Hid (Below w.heap.size w w5) := HB4.out.grown hg5 HS4.out (own_block HO4.out)
    have ho6 : NO w.heap.size w5 v5 (c.val ++ [mkN]) := ho5
    obtain ⟨n5, cv, e5, hcv, hgv⟩ := own_slice ho5
    obtain ⟨gv, e6⟩ := hgv (by rw [List.length_append, List.length_singleton]; omega)
    subst e6
    subst e5
    rw [show (c.val ++ [mkN]).length = c.val.length + 1 from by rw [List.length_append, List.length_singleton]] at ho6 hcv
    have HN5 : Hid (NO w.heap.size w5 (.slice (some ⟨gv, 0, none⟩) (c.val.length + 1) cv) (c.val ++ [mkN])) := ho6
    have HCV : Hid (c.val.length + 1 ≤ cv) := hcv
    clear ho5 hg5 ea eb ed HO4 HT4 HB4 HC4 HW4 HD4 HS4 hR4 k0 ho6 hcv hgv
    obtain ⟨x6, hx6⟩ : ∃ x, w5.alloc (.cells #[.string ⟨#[109, 97, 114, 107]⟩] 9) = x := ⟨_, rfl⟩
    have hA6 : Below w5.heap.size w5 x6 := by rw [← hx6]; exact alloc_below9 _ _
    have hL6 : OT w5.heap.size x6 (.slice (some ⟨w5.heap.size, 0, none⟩) 1 1) ([mkT] ++ []) := by rw [← hx6]; exact World.ownsRow_lit w5 #[.string ⟨#[109, 97, 114, 107]⟩] 1 (Nat.le_refl _) (by decide) rfl
    have hR6 := tr_pre hL6
    have HO6 : Hid (OT w.heap.size x6 (.slice aA c.aud.length aC) c.aud) := own_below HT5.out hA6 (Nat.le_refl _)
    have HN6 : Hid (NO w.heap.size x6 (.slice (some ⟨gv, 0, none⟩) (c.val.length + 1) cv) (c.val ++ [mkN])) := own_below HN5.out hA6 (Nat.le_refl _)
    have HB6 : Hid (Below w.heap.size w x6) := HB5.out.trans (hA6.mono HB5.out.size)
    have HC6 : Hid (Bl 27 x6 w.heap.size [.slice va c.val.length vc, .string ⟨c.iss.toArray⟩, .bool c.hIss, .string ⟨c.sub.toArray⟩, .bool c.hSub, .slice aa c.aud.length ac, .bool c.hAud, .string ⟨c.jti.toArray⟩, .bool c.hJti, .bool c.exp.has, .int .i64 c.exp.at_, .bool c.nbf.has, .int .i64 c.nbf.at_, .bool c.iat.has, .int .i64 c.iat.at_]) := HC5.out.below hA6 HC5.out.lt
    have HW6 : Hid (Bl 30 x6 (w.heap.size + 1) [.string ⟨tcl.toArray⟩, .string ⟨tno.toArray⟩, .bool thN, .string ⟨tac.toArray⟩, .bool thA, .string ⟨tco.toArray⟩, .bool thC, .int .i64 tag, .bool thG, .int .i64 tle]) := HW5.out.below hA6 HW5.out.lt
    have HD6 : Hid (Bl 27 x6 bm [.slice vA c.val.length vC, .string ⟨c.iss.toArray⟩, .bool c.hIss, .string ⟨c.sub.toArray⟩, .bool c.hSub, .slice aA c.aud.length aC, .bool c.hAud, .string ⟨c.jti.toArray⟩, .bool c.hJti, .bool c.exp.has, .int .i64 c.exp.at_, .bool c.nbf.has, .int .i64 c.nbf.at_, .bool c.iat.has, .int .i64 c.iat.at_]) := HD5.out.below hA6 HD5.out.lt
    have HS6 : Hid (w.heap.size ≤ x6.heap.size) := HB6.out.size
    have HX6 : Hid (w5.alloc (.cells #[.string ⟨#[109, 97, 114, 107]⟩] 9) = x6) := hx6
    have k5 : w5.cell? ⟨bm, 5, none⟩ = some (.slice aA c.aud.length aC) := HD5.out.cell 5 (Nat.le_of_ble_eq_true rfl)
    clear hx6 hA6 hL6 HC5 HW5 HD5 HT5 HB5 HN5
    go_upto_region 6 with (at_builtin; rw [HX6.out]; clear HX6; refine append_txt rfl (.tmp 28) (.tmp 29) rfl w.heap.size (.slice aA c.aud.length aC) c.aud rfl HO6.out (some ⟨w5.heap.size, 0, none⟩) 1 [mkT] rfl hR6 (fun h => by cases h) (by have := HLN.out.2.1; simp only [List.length_cons, List.length_nil]; omega) HS6.out ?_; intro v7 w7 ho7 hg7)
    have ea := block_apart HO6.out HC6.out (by decide)
    have eb := block_apart HO6.out HW6.out (by decide)
    have ed := block_apart HO6.out HD6.out (by decide)
    have hC7 : Bl 27 w7 w.heap.size [.slice va c.val.length vc, .string ⟨c.iss.toArray⟩, .bool c.hIss, .string ⟨c.sub.toArray⟩, .bool c.hSub, .slice aa c.aud.length ac, .bool c.hAud, .string ⟨c.jti.toArray⟩, .bool c.hJti, .bool c.exp.has, .int .i64 c.exp.at_, .bool c.nbf.has, .int .i64 c.nbf.at_, .bool c.iat.has, .int .i64 c.iat.at_] := bl_grown' HC6.out hg7 ea
    have hW7 : Bl 30 w7 (w.heap.size + 1) [.string ⟨tcl.toArray⟩, .string ⟨tno.toArray⟩, .bool thN, .string ⟨tac.toArray⟩, .bool thA, .string ⟨tco.toArray⟩, .bool thC, .int .i64 tag, .bool thG, .int .i64 tle] := bl_grown' HW6.out hg7 eb
    have hD7 : Bl 27 w7 bm [.slice vA c.val.length vC, .string ⟨c.iss.toArray⟩, .bool c.hIss, .string ⟨c.sub.toArray⟩, .bool c.hSub, .slice aA c.aud.length aC, .bool c.hAud, .string ⟨c.jti.toArray⟩, .bool c.hJti, .bool c.exp.has, .int .i64 c.exp.at_, .bool c.nbf.has, .int .i64 c.nbf.at_, .bool c.iat.has, .int .i64 c.iat.at_] := bl_grown' HD6.out hg7 ed
    have hN7 : NO w.heap.size w7 (.slice (some ⟨gv, 0, none⟩) (c.val.length + 1) cv) (c.val ++ [mkN]) := own_keep HN6.out fun g hg => hg7.block g (HN6.out.lt g hg).2 (fun e => kinds_apart HN6.out HO6.out (by decide) hg e.symm)
    have hB7 : Below w.heap.size w w7 := HB6.out.grown hg7 HS6.out (own_block HO6.out)
    have ho8 : OT w.heap.size w7 v7 (c.aud ++ [mkT]) := ho7
    obtain ⟨n7, ca, e7, hca, hga⟩ := own_slice ho7
    obtain ⟨ga, e8⟩ := hga (by rw [List.length_append, List.length_singleton]; omega)
    subst e8
    subst e7
    rw [show (c.aud ++ [mkT]).length = c.aud.length + 1 from by rw [List.length_append, List.length_singleton]] at ho8 hca
    have HLN' := HLM.out
    have hnc : bm ≠ w.heap.size := by omega
    have hnw : bm ≠ w.heap.size + 1 := by omega
    have k0 : w7.cell? ⟨w.heap.size, 0, none⟩ = some (.slice va c.val.length vc) := hC7.cell 0 (Nat.le_of_ble_eq_true rfl)
    have kf : w7.frozen? ⟨bm, 0, none⟩ = false := hD7.frozen 0
    have km : w7.cell? ⟨bm, 0, none⟩ = some (.slice vA c.val.length vC) := hD7.cell 0 (Nat.le_of_ble_eq_true rfl)
    obtain ⟨w8, hw8⟩ : ∃ x, w7.setCell ⟨bm, 0, none⟩ (.slice (some ⟨gv, 0, none⟩) c.val.length cv) = x := ⟨_, rfl⟩
    have hC8 : Bl 27 w8 w.heap.size [.slice va c.val.length vc, .string ⟨c.iss.toArray⟩, .bool c.hIss, .string ⟨c.sub.toArray⟩, .bool c.hSub, .slice aa c.aud.length ac, .bool c.hAud, .string ⟨c.jti.toArray⟩, .bool c.hJti, .bool c.exp.has, .int .i64 c.exp.at_, .bool c.nbf.has, .int .i64 c.nbf.at_, .bool c.iat.has, .int .i64 c.iat.at_] := by rw [← hw8]; exact bl_oth2 hC7 hnc.symm
    have hW8 : Bl 30 w8 (w.heap.size + 1) [.string ⟨tcl.toArray⟩, .string ⟨tno.toArray⟩, .bool thN, .string ⟨tac.toArray⟩, .bool thA, .string ⟨tco.toArray⟩, .bool thC, .int .i64 tag, .bool thG, .int .i64 tle] := by rw [← hw8]; exact bl_oth2 hW7 hnw.symm
    have hD8 : Bl 27 w8 bm [.slice (some ⟨gv, 0, none⟩) c.val.length cv, .string ⟨c.iss.toArray⟩, .bool c.hIss, .string ⟨c.sub.toArray⟩, .bool c.hSub, .slice aA c.aud.length aC, .bool c.hAud, .string ⟨c.jti.toArray⟩, .bool c.hJti, .bool c.exp.has, .int .i64 c.exp.at_, .bool c.nbf.has, .int .i64 c.nbf.at_, .bool c.iat.has, .int .i64 c.iat.at_] := by rw [← hw8]; exact hD7.set 0 _
    have hN8 : NO w.heap.size w8 (.slice (some ⟨gv, 0, none⟩) (c.val.length + 1) cv) (c.val ++ [mkN]) := by rw [← hw8]; exact own_set hN7 hD7 (by decide)
    have hT8 : OT w.heap.size w8 (.slice (some ⟨ga, 0, none⟩) (c.aud.length + 1) ca) (c.aud ++ [mkT]) := by rw [← hw8]; exact own_set ho8 hD7 (by decide)
    have hB8 : Below w.heap.size w w8 := by rw [← hw8]; exact hB7.setCell (show w.heap.size ≤ bm by omega) _
    have k5 : w8.cell? ⟨w.heap.size, 5, none⟩ = some (.slice aa c.aud.length ac) := hC8.cell 5 (Nat.le_of_ble_eq_true rfl)
    have kf5 : w8.frozen? ⟨bm, 5, none⟩ = false := hD8.frozen 5
    have km5 : w8.cell? ⟨bm, 5, none⟩ = some (.slice aA c.aud.length aC) := hD8.cell 5 (Nat.le_of_ble_eq_true rfl)
    obtain ⟨w9, hw9⟩ : ∃ x, w8.setCell ⟨bm, 5, none⟩ (.slice (some ⟨ga, 0, none⟩) c.aud.length ca) = x := ⟨_, rfl⟩
    have HC9 : Hid (Bl 27 w9 w.heap.size [.slice va c.val.length vc, .string ⟨c.iss.toArray⟩, .bool c.hIss, .string ⟨c.sub.toArray⟩, .bool c.hSub, .slice aa c.aud.length ac, .bool c.hAud, .string ⟨c.jti.toArray⟩, .bool c.hJti, .bool c.exp.has, .int .i64 c.exp.at_, .bool c.nbf.has, .int .i64 c.nbf.at_, .bool c.iat.has, .int .i64 c.iat.at_]) := by rw [← hw9]; exact bl_oth2 hC8 hnc.symm
    have HW9 : Hid (Bl 30 w9 (w.heap.size + 1) [.string ⟨tcl.toArray⟩, .string ⟨tno.toArray⟩, .bool thN, .string ⟨tac.toArray⟩, .bool thA, .string ⟨tco.toArray⟩, .bool thC, .int .i64 tag, .bool thG, .int .i64 tle]) := by rw [← hw9]; exact bl_oth2 hW8 hnw.symm
    have HD9 : Hid (Bl 27 w9 bm [.slice (some ⟨gv, 0, none⟩) c.val.length cv, .string ⟨c.iss.toArray⟩, .bool c.hIss, .string ⟨c.sub.toArray⟩, .bool c.hSub, .slice (some ⟨ga, 0, none⟩) c.aud.length ca, .bool c.hAud, .string ⟨c.jti.toArray⟩, .bool c.hJti, .bool c.exp.has, .int .i64 c.exp.at_, .bool c.nbf.has, .int .i64 c.nbf.at_, .bool c.iat.has, .int .i64 c.iat.at_]) := by rw [← hw9]; exact hD8.set 5 _
    have HN9 : Hid (NO w.heap.size w9 (.slice (some ⟨gv, 0, none⟩) (c.val.length + 1) cv) (c.val ++ [mkN])) := by rw [← hw9]; exact own_set hN8 hD8 (by decide)
    have HT9 : Hid (OT w.heap.size w9 (.slice (some ⟨ga, 0, none⟩) (c.aud.length + 1) ca) (c.aud ++ [mkT])) := by rw [← hw9]; exact own_set hT8 hD8 (by decide)
    have HB9 : Hid (Below w.heap.size w w9) := by rw [← hw9]; exact hB8.setCell (show w.heap.size ≤ bm by omega) _
    have HX8 : Hid (w7.setCell ⟨bm, 0, none⟩ (.slice (some ⟨gv, 0, none⟩) c.val.length cv) = w8) := hw8
    have HX9 : Hid (w8.setCell ⟨bm, 5, none⟩ (.slice (some ⟨ga, 0, none⟩) c.aud.length ca) = w9) := hw9
    have hcv0 : c.val.length ≤ cv := by have := HCV.out; omega
    have hcvI : (c.val.length : Int) ≤ (cv : Int) := by omega
    have hca0 : c.aud.length ≤ ca := by omega
    have hcaI : (c.aud.length : Int) ≤ (ca : Int) := by omega
    clear hw8 hw9 hC7 hW7 hD7 hN7 hB7 ho8 ho7 hg7 hC8 hW8 hD8 hN8 hT8 hB8 ea eb ed HO6 HN6 HB6 HC6 HW6 HD6 HS6 hR6 HLN' hnc hnw hca hga
    go_upto_region 7 with fail
    rw [HX8.out]
    clear HX8 k0 kf km
    go_upto_region 8 with fail
    rw [HX9.out]
    clear HX9 k5 kf5 km5 hcv0 hcvI hca0 hcaI
    have p9 := bl_rng9 HD9.out
    have pw := bl_rng9 HW9.out
    have LM : LA w9 c (some ⟨gv, 0, none⟩) cv (some ⟨ga, 0, none⟩) ca := by
      have L0 := HLq.out w9 HB9.out
      exact ⟨nr_pre HN9.out, tr_pre HT9.out, L0.gl, L0.tb, L0.ln, L0.la, L0.ts, L0.it⟩
    obtain ⟨F, hF⟩ : ∃ F, checkQ (mkQ c va vc aa ac alg ⟨tcl, tno, thN, tac, thA, tco, thC, tag, thG, tle⟩ now) = F := ⟨_, rfl⟩
    have CK : Calls Tryz.prog 6 #[.agg #[.slice (some ⟨gv, 0, none⟩) c.val.length cv, .string ⟨c.iss.toArray⟩, .bool c.hIss, .string ⟨c.sub.toArray⟩, .bool c.hSub, .slice (some ⟨ga, 0, none⟩) c.aud.length ca, .bool c.hAud, .string ⟨c.jti.toArray⟩, .bool c.hJti, .bool c.exp.has, .int .i64 c.exp.at_, .bool c.nbf.has, .int .i64 c.nbf.at_, .bool c.iat.has, .int .i64 c.iat.at_], .int .i64 alg, .agg #[.string ⟨tcl.toArray⟩, .string ⟨tno.toArray⟩, .bool thN, .string ⟨tac.toArray⟩, .bool thA, .string ⟨tco.toArray⟩, .bool thC, .int .i64 tag, .bool thG, .int .i64 tle], .int .i64 now] w9 fun e w' => e = .returned (.int .i64 F) ∧ Below w9.heap.size w9 w' := by
      have := LM.chk alg ⟨tcl, tno, thN, tac, thA, tco, thC, tag, thG, tle⟩ now (by have := HLN.out.2.2.1; dsimp only; omega) (by have := HLN.out.2.2.2.1; dsimp only; omega) HLN.out.2.2.2.2
      rw [← hF]
      exact this
    have HF : Hid (checkQ (mkQ c va vc aa ac alg ⟨tcl, tno, thN, tac, thA, tco, thC, tag, thG, tle⟩ now) = F) := hF
    clear LM hF
    go_wp2_with (first | (refine wpList_load_mid rfl 27 (.tmp 9) rfl bm 0 rfl [.slice (some ⟨gv, 0, none⟩) c.val.length cv, .string ⟨c.iss.toArray⟩, .bool c.hIss, .string ⟨c.sub.toArray⟩, .bool c.hSub, .slice (some ⟨ga, 0, none⟩) c.aud.length ca, .bool c.hAud, .string ⟨c.jti.toArray⟩, .bool c.hJti, .bool c.exp.has, .int .i64 c.exp.at_, .bool c.nbf.has, .int .i64 c.nbf.at_, .bool c.iat.has, .int .i64 c.iat.at_] _ p9 Tryz.underlying27 rfl hcl ?_) | (refine wpList_load_mid rfl 30 (.tmp 6) rfl (w.heap.size + 1) 0 rfl [.string ⟨tcl.toArray⟩, .string ⟨tno.toArray⟩, .bool thN, .string ⟨tac.toArray⟩, .bool thA, .string ⟨tco.toArray⟩, .bool thC, .int .i64 tag, .bool thG, .int .i64 tle] _ pw Tryz.underlying30 rfl hwt ?_) | fail)
    refine CK.mono ?_
    clear CK p9 pw
    rintro e w10 ⟨rfl, hb⟩
    have HC10 : Hid (Bl 27 w10 w.heap.size [.slice va c.val.length vc, .string ⟨c.iss.toArray⟩, .bool c.hIss, .string ⟨c.sub.toArray⟩, .bool c.hSub, .slice aa c.aud.length ac, .bool c.hAud, .string ⟨c.jti.toArray⟩, .bool c.hJti, .bool c.exp.has, .int .i64 c.exp.at_, .bool c.nbf.has, .int .i64 c.nbf.at_, .bool c.iat.has, .int .i64 c.iat.at_]) := HC9.out.below hb HC9.out.lt
    have HW10 : Hid (Bl 30 w10 (w.heap.size + 1) [.string ⟨tcl.toArray⟩, .string ⟨tno.toArray⟩, .bool thN, .string ⟨tac.toArray⟩, .bool thA, .string ⟨tco.toArray⟩, .bool thC, .int .i64 tag, .bool thG, .int .i64 tle]) := HW9.out.below hb HW9.out.lt
    have HD10 : Hid (Bl 27 w10 bm [.slice (some ⟨gv, 0, none⟩) c.val.length cv, .string ⟨c.iss.toArray⟩, .bool c.hIss, .string ⟨c.sub.toArray⟩, .bool c.hSub, .slice (some ⟨ga, 0, none⟩) c.aud.length ca, .bool c.hAud, .string ⟨c.jti.toArray⟩, .bool c.hJti, .bool c.exp.has, .int .i64 c.exp.at_, .bool c.nbf.has, .int .i64 c.nbf.at_, .bool c.iat.has, .int .i64 c.iat.at_]) := HD9.out.below hb HD9.out.lt
    have HN10 : Hid (NO w.heap.size w10 (.slice (some ⟨gv, 0, none⟩) (c.val.length + 1) cv) (c.val ++ [mkN])) := own_below HN9.out hb (Nat.le_refl _)
    have HT10 : Hid (OT w.heap.size w10 (.slice (some ⟨ga, 0, none⟩) (c.aud.length + 1) ca) (c.aud ++ [mkT])) := own_below HT9.out hb (Nat.le_refl _)
    have HB10 : Hid (Below w.heap.size w w10) := HB9.out.trans (hb.mono HB9.out.size)
    clear hb HC9 HW9 HD9 HN9 HT9 HB9
    have CN := snodes_any (.slice (some ⟨gv, 0, none⟩) c.val.length cv) (.slice va c.val.length vc) c.val c.val (some ⟨gv, 0, none⟩) va cv vc w10 (nr_pre HN10.out) (HLq.out w10 HB10.out).nr (by have := HLN.out.1; omega)
    rw [decide_eq_true rfl] at CN
    have k1 : w10.cell? ⟨bm, 0, none⟩ = some (.slice (some ⟨gv, 0, none⟩) c.val.length cv) := HD10.out.cell 0 (Nat.le_of_ble_eq_true rfl)
    have k2 : w10.cell? ⟨w.heap.size, 0, none⟩ = some (.slice va c.val.length vc) := HC10.out.cell 0 (Nat.le_of_ble_eq_true rfl)
    go_wp2_with fail
    refine CN.mono ?_
    clear CN k1 k2
    rintro e w11 ⟨rfl, q, hq⟩
    have hb : Below w10.heap.size w10 w11 := by rw [hq]; exact below_drewN (Below.refl _ _) q
    have HC11 : Hid (Bl 27 w11 w.heap.size [.slice va c.val.length vc, .string ⟨c.iss.toArray⟩, .bool c.hIss, .string ⟨c.sub.toArray⟩, .bool c.hSub, .slice aa c.aud.length ac, .bool c.hAud, .string ⟨c.jti.toArray⟩, .bool c.hJti, .bool c.exp.has, .int .i64 c.exp.at_, .bool c.nbf.has, .int .i64 c.nbf.at_, .bool c.iat.has, .int .i64 c.iat.at_]) := HC10.out.below hb HC10.out.lt
    have HW11 : Hid (Bl 30 w11 (w.heap.size + 1) [.string ⟨tcl.toArray⟩, .string ⟨tno.toArray⟩, .bool thN, .string ⟨tac.toArray⟩, .bool thA, .string ⟨tco.toArray⟩, .bool thC, .int .i64 tag, .bool thG, .int .i64 tle]) := HW10.out.below hb HW10.out.lt
    have HD11 : Hid (Bl 27 w11 bm [.slice (some ⟨gv, 0, none⟩) c.val.length cv, .string ⟨c.iss.toArray⟩, .bool c.hIss, .string ⟨c.sub.toArray⟩, .bool c.hSub, .slice (some ⟨ga, 0, none⟩) c.aud.length ca, .bool c.hAud, .string ⟨c.jti.toArray⟩, .bool c.hJti, .bool c.exp.has, .int .i64 c.exp.at_, .bool c.nbf.has, .int .i64 c.nbf.at_, .bool c.iat.has, .int .i64 c.iat.at_]) := HD10.out.below hb HD10.out.lt
    have HN11 : Hid (NO w.heap.size w11 (.slice (some ⟨gv, 0, none⟩) (c.val.length + 1) cv) (c.val ++ [mkN])) := own_below HN10.out hb (Nat.le_refl _)
    have HT11 : Hid (OT w.heap.size w11 (.slice (some ⟨ga, 0, none⟩) (c.aud.length + 1) ca) (c.aud ++ [mkT])) := own_below HT10.out hb (Nat.le_refl _)
    have HB11 : Hid (Below w.heap.size w w11) := HB10.out.trans (hb.mono HB10.out.size)
    clear hb hq HC10 HW10 HD10 HN10 HT10 HB10
    have CT := stexts_any c.aud c.aud (some ⟨ga, 0, none⟩) aa ca ac w11 (tr_pre HT11.out) (HLq.out w11 HB11.out).tr (by have := HLN.out.2.1; omega)
    rw [decide_eq_true rfl] at CT
    have k1 : w11.cell? ⟨bm, 5, none⟩ = some (.slice (some ⟨ga, 0, none⟩) c.aud.length ca) := HD11.out.cell 5 (Nat.le_of_ble_eq_true rfl)
    have k2 : w11.cell? ⟨w.heap.size, 5, none⟩ = some (.slice aa c.aud.length ac) := HC11.out.cell 5 (Nat.le_of_ble_eq_true rfl)
    go_wp2_with fail
    refine CT.mono ?_
    clear CT k1 k2
    rintro e w12 ⟨rfl, q, hq⟩
    have hb : Below w11.heap.size w11 w12 := by rw [hq]; exact below_drewN (Below.refl _ _) q
    have HIJ : Hid (IJ w bm gv ga cv ca c.val.length c.aud.length [.slice va c.val.length vc, .string ⟨c.iss.toArray⟩, .bool c.hIss, .string ⟨c.sub.toArray⟩, .bool c.hSub, .slice aa c.aud.length ac, .bool c.hAud, .string ⟨c.jti.toArray⟩, .bool c.hJti, .bool c.exp.has, .int .i64 c.exp.at_, .bool c.nbf.has, .int .i64 c.nbf.at_, .bool c.iat.has, .int .i64 c.iat.at_] [.string ⟨tcl.toArray⟩, .string ⟨tno.toArray⟩, .bool thN, .string ⟨tac.toArray⟩, .bool thA, .string ⟨tco.toArray⟩, .bool thC, .int .i64 tag, .bool thG, .int .i64 tle] [.slice (some ⟨gv, 0, none⟩) c.val.length cv, .string ⟨c.iss.toArray⟩, .bool c.hIss, .string ⟨c.sub.toArray⟩, .bool c.hSub, .slice (some ⟨ga, 0, none⟩) c.aud.length ca, .bool c.hAud, .string ⟨c.jti.toArray⟩, .bool c.hJti, .bool c.exp.has, .int .i64 c.exp.at_, .bool c.nbf.has, .int .i64 c.nbf.at_, .bool c.iat.has, .int .i64 c.iat.at_] (c.val) (1048576) w12) := ⟨HB11.out.trans (hb.mono HB11.out.size), HC11.out.below hb HC11.out.lt, HW11.out.below hb HW11.out.lt, HD11.out.below hb HD11.out.lt, own_below HN11.out hb (Nat.le_refl _), c.aud ++ [mkT], ⟨by rw [List.length_append, List.length_singleton], fun x hx => by
      rcases List.mem_append.1 hx with h | h
      · exact HML.out x h
      · rw [List.mem_singleton.1 h]; decide⟩, own_below HT11.out hb (Nat.le_refl _)⟩
    have tm : w12.cell? ⟨ga, c.aud.length, none⟩ = some (.string ⟨#[109, 97, 114, 107]⟩) := ot_mark22 (own_below HT11.out hb (Nat.le_refl _))
    have nm := no_mark22 HIJ.out.vs
    have k0 : w12.cell? ⟨w.heap.size, 0, none⟩ = some (.slice va c.val.length vc) := HIJ.out.bc.cell 0 (Nat.le_of_ble_eq_true rfl)
    have k5 : w12.cell? ⟨w.heap.size, 5, none⟩ = some (.slice aa c.aud.length ac) := HIJ.out.bc.cell 5 (Nat.le_of_ble_eq_true rfl)
    have q1 : (c.val.length : Int) < ((c.val.length + 1 : Nat) : Int) := by omega
    have q2 : (c.aud.length : Int) < ((c.aud.length + 1 : Nat) : Int) := by omega
    have hrn : ∀ w : World, (binOp .neq 35 (.agg #[.int .i64 0, .string ⟨#[]⟩, .string ⟨#[109, 97, 114, 107]⟩, .bool false, .int .i64 0, .int .i64 0]) (.agg #[.int .i64 0, .string ⟨#[]⟩, .string ⟨#[109, 97, 114, 107]⟩, .bool false, .int .i64 0, .int .i64 0])).run Tryz.prog w = .ok (.bool false) w := fun w => by
      have := run_nodes_ne9 w mkN mkN
      rw [decide_eq_true rfl] at this
      exact this
    have CS := (HLq.out w12 HIJ.out.bel).shp
    clear hb hq HC11 HW11 HD11 HN11 HT11 HB11
    go_wp2_with (first | (refine wpList_load_midG rfl 35 (.tmp 67) rfl gv (c.val.length * 6) rfl [.int .i64 0, .string ⟨#[]⟩, .string ⟨#[109, 97, 114, 107]⟩, .bool false, .int .i64 0, .int .i64 0] _ nm Tryz.underlying35 rfl hcn ?_) | fail)
    refine CS.mono ?_
    clear CS k0 k5 nm tm hrn q1 q2
    rintro e w13 ⟨rfl, hb⟩
    have HIJ3 : Hid (IJ w bm gv ga cv ca c.val.length c.aud.length [.slice va c.val.length vc, .string ⟨c.iss.toArray⟩, .bool c.hIss, .string ⟨c.sub.toArray⟩, .bool c.hSub, .slice aa c.aud.length ac, .bool c.hAud, .string ⟨c.jti.toArray⟩, .bool c.hJti, .bool c.exp.has, .int .i64 c.exp.at_, .bool c.nbf.has, .int .i64 c.nbf.at_, .bool c.iat.has, .int .i64 c.iat.at_] [.string ⟨tcl.toArray⟩, .string ⟨tno.toArray⟩, .bool thN, .string ⟨tac.toArray⟩, .bool thA, .string ⟨tco.toArray⟩, .bool thC, .int .i64 tag, .bool thG, .int .i64 tle] [.slice (some ⟨gv, 0, none⟩) c.val.length cv, .string ⟨c.iss.toArray⟩, .bool c.hIss, .string ⟨c.sub.toArray⟩, .bool c.hSub, .slice (some ⟨ga, 0, none⟩) c.aud.length ca, .bool c.hAud, .string ⟨c.jti.toArray⟩, .bool c.hJti, .bool c.exp.has, .int .i64 c.exp.at_, .bool c.nbf.has, .int .i64 c.nbf.at_, .bool c.iat.has, .int .i64 c.iat.at_] (c.val) (1048576) w13) := HIJ.out.below hb
    clear hb HIJ
    obtain ⟨sh, hsh⟩ : ∃ x, shapedF c.val = x := ⟨_, rfl⟩
    rw [hsh]
    cases sh
    · go_wp2
      go_ret
      exact ⟨rfl, HIJ3.out.bel⟩
    · have HSH : Hid (shapedF c.val = true) := hsh
      have CD : Calls Tryz.prog 10 #[.agg #[.slice va c.val.length vc, .string ⟨c.iss.toArray⟩, .bool c.hIss, .string ⟨c.sub.toArray⟩, .bool c.hSub, .slice aa c.aud.length ac, .bool c.hAud, .string ⟨c.jti.toArray⟩, .bool c.hJti, .bool c.exp.has, .int .i64 c.exp.at_, .bool c.nbf.has, .int .i64 c.nbf.at_, .bool c.iat.has, .int .i64 c.iat.at_], .int .i64 alg, .agg #[.string ⟨tcl.toArray⟩, .string ⟨tno.toArray⟩, .bool thN, .string ⟨tac.toArray⟩, .bool thA, .string ⟨tco.toArray⟩, .bool thC, .int .i64 tag, .bool thG, .int .i64 tle], .int .i64 now] w13 fun e w' => e = .returned (.int .i64 F) ∧ Below w13.heap.size w13 w' := by
        have := rcheck22_any c va vc aa ac tcl tno thN tac thA tco thC tag thG tle w13 (HLq.out w13 HIJ3.out.bel) hsh alg now (fun t wq ht hq => rhalf_any alg t wq (HRq.out wq (HIJ3.out.bel.trans (hq.mono HIJ3.out.bel.size))) ht) HLN.out.2.2.1 HLN.out.2.2.2.1
        rw [check_doc _ hsh hsh HIT1.out, HF.out] at this
        exact this
      have pc := bl_rng9 HIJ3.out.bc
      have pw := bl_rng9 HIJ3.out.bw
      have qF : ((F : Int) != F) = false := by simp
      clear hsh HF
      go_wp2_with (first | (refine wpList_load_mid rfl 27 (.tmp 4) rfl w.heap.size 0 rfl [.slice va c.val.length vc, .string ⟨c.iss.toArray⟩, .bool c.hIss, .string ⟨c.sub.toArray⟩, .bool c.hSub, .slice aa c.aud.length ac, .bool c.hAud, .string ⟨c.jti.toArray⟩, .bool c.hJti, .bool c.exp.has, .int .i64 c.exp.at_, .bool c.nbf.has, .int .i64 c.nbf.at_, .bool c.iat.has, .int .i64 c.iat.at_] _ pc Tryz.underlying27 rfl hcl ?_) | (refine wpList_load_mid rfl 30 (.tmp 6) rfl (w.heap.size + 1) 0 rfl [.string ⟨tcl.toArray⟩, .string ⟨tno.toArray⟩, .bool thN, .string ⟨tac.toArray⟩, .bool thA, .string ⟨tco.toArray⟩, .bool thC, .int .i64 tag, .bool thG, .int .i64 tle] _ pw Tryz.underlying30 rfl hwt ?_) | fail)
      refine CD.mono ?_
      clear CD pc pw
      rintro e w14 ⟨rfl, hb⟩
      have HIJ : Hid (IJ w bm gv ga cv ca c.val.length c.aud.length [.slice va c.val.length vc, .string ⟨c.iss.toArray⟩, .bool c.hIss, .string ⟨c.sub.toArray⟩, .bool c.hSub, .slice aa c.aud.length ac, .bool c.hAud, .string ⟨c.jti.toArray⟩, .bool c.hJti, .bool c.exp.has, .int .i64 c.exp.at_, .bool c.nbf.has, .int .i64 c.nbf.at_, .bool c.iat.has, .int .i64 c.iat.at_] [.string ⟨tcl.toArray⟩, .string ⟨tno.toArray⟩, .bool thN, .string ⟨tac.toArray⟩, .bool thA, .string ⟨tco.toArray⟩, .bool thC, .int .i64 tag, .bool thG, .int .i64 tle] [.slice (some ⟨gv, 0, none⟩) c.val.length cv, .string ⟨c.iss.toArray⟩, .bool c.hIss, .string ⟨c.sub.toArray⟩, .bool c.hSub, .slice (some ⟨ga, 0, none⟩) c.aud.length ca, .bool c.hAud, .string ⟨c.jti.toArray⟩, .bool c.hJti, .bool c.exp.has, .int .i64 c.exp.at_, .bool c.nbf.has, .int .i64 c.nbf.at_, .bool c.iat.has, .int .i64 c.iat.at_] (c.val) (1048576 + 0) w14) := HIJ3.out.below hb
      clear hb HIJ3
      go_wp2
      clear qF
      go_loopw [13] (fun s wx => ∃ k : Nat, s = .int .i64 k ∧ k ≤ c.aud.length ∧ IJ w bm gv ga cv ca c.val.length c.aud.length [.slice va c.val.length vc, .string ⟨c.iss.toArray⟩, .bool c.hIss, .string ⟨c.sub.toArray⟩, .bool c.hSub, .slice aa c.aud.length ac, .bool c.hAud, .string ⟨c.jti.toArray⟩, .bool c.hJti, .bool c.exp.has, .int .i64 c.exp.at_, .bool c.nbf.has, .int .i64 c.nbf.at_, .bool c.iat.has, .int .i64 c.iat.at_] [.string ⟨tcl.toArray⟩, .string ⟨tno.toArray⟩, .bool thN, .string ⟨tac.toArray⟩, .bool thA, .string ⟨tco.toArray⟩, .bool thC, .int .i64 tag, .bool thG, .int .i64 tle] [.slice (some ⟨gv, 0, none⟩) c.val.length cv, .string ⟨c.iss.toArray⟩, .bool c.hIss, .string ⟨c.sub.toArray⟩, .bool c.hSub, .slice (some ⟨ga, 0, none⟩) c.aud.length ca, .bool c.hAud, .string ⟨c.jti.toArray⟩, .bool c.hJti, .bool c.exp.has, .int .i64 c.exp.at_, .bool c.nbf.has, .int .i64 c.nbf.at_, .bool c.iat.has, .int .i64 c.iat.at_] (c.val) (1048576 + k) wx) (fun s _ => c.aud.length - (intOf s).toNat)
      case atStart => exact ⟨0, rfl, Nat.zero_le _, HIJ.out⟩
      case round =>
        clear HIJ
        obtain ⟨k, rfl, hk, hij⟩ := hrel
        have HIJ : Hid (IJ w bm gv ga cv ca c.val.length c.aud.length [.slice va c.val.length vc, .string ⟨c.iss.toArray⟩, .bool c.hIss, .string ⟨c.sub.toArray⟩, .bool c.hSub, .slice aa c.aud.length ac, .bool c.hAud, .string ⟨c.jti.toArray⟩, .bool c.hJti, .bool c.exp.has, .int .i64 c.exp.at_, .bool c.nbf.has, .int .i64 c.nbf.at_, .bool c.iat.has, .int .i64 c.iat.at_] [.string ⟨tcl.toArray⟩, .string ⟨tno.toArray⟩, .bool thN, .string ⟨tac.toArray⟩, .bool thA, .string ⟨tco.toArray⟩, .bool thC, .int .i64 tag, .bool thG, .int .i64 tle] [.slice (some ⟨gv, 0, none⟩) c.val.length cv, .string ⟨c.iss.toArray⟩, .bool c.hIss, .string ⟨c.sub.toArray⟩, .bool c.hSub, .slice (some ⟨ga, 0, none⟩) c.aud.length ca, .bool c.hAud, .string ⟨c.jti.toArray⟩, .bool c.hJti, .bool c.exp.has, .int .i64 c.exp.at_, .bool c.nbf.has, .int .i64 c.nbf.at_, .bool c.iat.has, .int .i64 c.iat.at_] (c.val) (1048576 + k) wr) := hij
        have kb : wr.cell? ⟨bm, 5, none⟩ = some (.slice (some ⟨ga, 0, none⟩) c.aud.length ca) := hij.bm.cell 5 (Nat.le_of_ble_eq_true rfl)
        by_cases hlt : k < c.aud.length
        · have q0 : decide ((k : Int) < (c.aud.length : Int)) = true := decide_eq_true (by omega)
          have q1 : (k : Int) < (c.aud.length : Int) := by omega
          have qb : c.aud.length ≤ 100000000 := HLN.out.2.1
          obtain ⟨X, ⟨hX, hXl⟩, hO⟩ := hij.as_
          obtain ⟨x, kc, kf, hxl⟩ := row_at22 hX hXl hO (show k < c.aud.length + 1 by omega)
          have hxm : x.length + 1 ≤ 9223372036854775807 := by have := HLN.out.2.1; omega
          have hxn : ¬ (9223372036854775807 < x.length + 1) := by omega
          have HXL : Hid (x.length ≤ 1048576 + k) := hxl
          have HKF : Hid (wr.frozen? ⟨ga, k, none⟩ = false) := kf
          clear hX hXl hO hij kf hxl
          go_wp2
          refine wp_region_tail 10 (by kernel_rfl) (by kernel_rfl) ?_
          simp only [List.take_succ_cons, List.take_zero, List.drop_succ_cons, List.drop_zero]
          repeat (first | go_big_quiet_skip | (go_big_quiet_want; go_big_quiet_op; go_big_quiet_on))
          refine wpQuiet_nil ?_
          have HIS : Hid (IJ w bm gv ga cv ca c.val.length c.aud.length [.slice va c.val.length vc, .string ⟨c.iss.toArray⟩, .bool c.hIss, .string ⟨c.sub.toArray⟩, .bool c.hSub, .slice aa c.aud.length ac, .bool c.hAud, .string ⟨c.jti.toArray⟩, .bool c.hJti, .bool c.exp.has, .int .i64 c.exp.at_, .bool c.nbf.has, .int .i64 c.nbf.at_, .bool c.iat.has, .int .i64 c.iat.at_] [.string ⟨tcl.toArray⟩, .string ⟨tno.toArray⟩, .bool thN, .string ⟨tac.toArray⟩, .bool thA, .string ⟨tco.toArray⟩, .bool thC, .int .i64 tag, .bool thG, .int .i64 tle] [.slice (some ⟨gv, 0, none⟩) c.val.length cv, .string ⟨c.iss.toArray⟩, .bool c.hIss, .string ⟨c.sub.toArray⟩, .bool c.hSub, .slice (some ⟨ga, 0, none⟩) c.aud.length ca, .bool c.hAud, .string ⟨c.jti.toArray⟩, .bool c.hJti, .bool c.exp.has, .int .i64 c.exp.at_, .bool c.nbf.has, .int .i64 c.nbf.at_, .bool c.iat.has, .int .i64 c.iat.at_] (c.val) (1048576 + k) (wr.drewN 1)) := HIJ.out.drewN 1
          have kc1 : (wr.drewN 1).cell? ⟨ga, k, none⟩ = some (.string ⟨x.toArray⟩) := kc
          have kf1 : (wr.drewN 1).frozen? ⟨ga, k, none⟩ = false := HKF.out
          clear HIJ HKF kc kb
          generalize wr.drewN 1 = wd at *
          go_wp2
          go_roundw
          case rel => exact ⟨k + 1, by go_num, by omega, by have h := HIS.out.text k (x ++ [120]) (1048576 + (k + 1)) (by have := HXL.out; rw [List.length_append, List.length_singleton]; omega) (by omega); unfold tV at h; exact h⟩
          case measure => simp [intOf]; omega
        · have q0 : decide ((k : Int) < (c.aud.length : Int)) = false := decide_eq_false (by omega)
          obtain rfl : k = c.aud.length := by omega
          obtain ⟨F, CD, CP⟩ := HIJ.out.both alg tcl tno thN tac thA tco thC tag thG tle now HLQ.out rfl HSH.out HTS1.out HIT1.out HLN.out.1 HLN.out.2.1 HLN.out.2.2.1 HLN.out.2.2.2.1 HLN.out.2.2.2.2
          have HCP := (show Hid _ from CP)
          have pm := bl_rng9 hij.bm
          have pw := bl_rng9 hij.bw
          have qF : ((F : Int) != F) = false := by simp
          clear hij CP
          go_wp2_with (first | (refine wpList_load_mid rfl 27 (.tmp 9) rfl bm 0 rfl [.slice (some ⟨gv, 0, none⟩) c.val.length cv, .string ⟨c.iss.toArray⟩, .bool c.hIss, .string ⟨c.sub.toArray⟩, .bool c.hSub, .slice (some ⟨ga, 0, none⟩) c.aud.length ca, .bool c.hAud, .string ⟨c.jti.toArray⟩, .bool c.hJti, .bool c.exp.has, .int .i64 c.exp.at_, .bool c.nbf.has, .int .i64 c.nbf.at_, .bool c.iat.has, .int .i64 c.iat.at_] _ pm Tryz.underlying27 rfl hcl ?_) | (refine wpList_load_mid rfl 30 (.tmp 6) rfl (w.heap.size + 1) 0 rfl [.string ⟨tcl.toArray⟩, .string ⟨tno.toArray⟩, .bool thN, .string ⟨tac.toArray⟩, .bool thA, .string ⟨tco.toArray⟩, .bool thC, .int .i64 tag, .bool thG, .int .i64 tle] _ pw Tryz.underlying30 rfl hwt ?_) | fail)
          refine CD.mono ?_
          clear CD pm pw kb
          rintro e w14 ⟨rfl, hb⟩
          have HIJ2 : Hid (IJ w bm gv ga cv ca c.val.length c.aud.length [.slice va c.val.length vc, .string ⟨c.iss.toArray⟩, .bool c.hIss, .string ⟨c.sub.toArray⟩, .bool c.hSub, .slice aa c.aud.length ac, .bool c.hAud, .string ⟨c.jti.toArray⟩, .bool c.hJti, .bool c.exp.has, .int .i64 c.exp.at_, .bool c.nbf.has, .int .i64 c.nbf.at_, .bool c.iat.has, .int .i64 c.iat.at_] [.string ⟨tcl.toArray⟩, .string ⟨tno.toArray⟩, .bool thN, .string ⟨tac.toArray⟩, .bool thA, .string ⟨tco.toArray⟩, .bool thC, .int .i64 tag, .bool thG, .int .i64 tle] [.slice (some ⟨gv, 0, none⟩) c.val.length cv, .string ⟨c.iss.toArray⟩, .bool c.hIss, .string ⟨c.sub.toArray⟩, .bool c.hSub, .slice (some ⟨ga, 0, none⟩) c.aud.length ca, .bool c.hAud, .string ⟨c.jti.toArray⟩, .bool c.hJti, .bool c.exp.has, .int .i64 c.exp.at_, .bool c.nbf.has, .int .i64 c.nbf.at_, .bool c.iat.has, .int .i64 c.iat.at_] (c.val) (1048576 + c.aud.length) w14) := HIJ.out.below hb
          have CP := HCP.out w14 hb
          have pm := bl_rng9 HIJ2.out.bm
          have pw := bl_rng9 HIJ2.out.bw
          clear hb HIJ HCP
          go_wp2_with (first | (refine wpList_load_mid rfl 27 (.tmp 9) rfl bm 0 rfl [.slice (some ⟨gv, 0, none⟩) c.val.length cv, .string ⟨c.iss.toArray⟩, .bool c.hIss, .string ⟨c.sub.toArray⟩, .bool c.hSub, .slice (some ⟨ga, 0, none⟩) c.aud.length ca, .bool c.hAud, .string ⟨c.jti.toArray⟩, .bool c.hJti, .bool c.exp.has, .int .i64 c.exp.at_, .bool c.nbf.has, .int .i64 c.nbf.at_, .bool c.iat.has, .int .i64 c.iat.at_] _ pm Tryz.underlying27 rfl hcl ?_) | (refine wpList_load_mid rfl 30 (.tmp 6) rfl (w.heap.size + 1) 0 rfl [.string ⟨tcl.toArray⟩, .string ⟨tno.toArray⟩, .bool thN, .string ⟨tac.toArray⟩, .bool thA, .string ⟨tco.toArray⟩, .bool thC, .int .i64 tag, .bool thG, .int .i64 tle] _ pw Tryz.underlying30 rfl hwt ?_) | fail)
          refine CP.mono ?_
          clear CP pm pw
          rintro e w15 ⟨rfl, hb⟩
          have HIJ : Hid (IJ w bm gv ga cv ca c.val.length c.aud.length [.slice va c.val.length vc, .string ⟨c.iss.toArray⟩, .bool c.hIss, .string ⟨c.sub.toArray⟩, .bool c.hSub, .slice aa c.aud.length ac, .bool c.hAud, .string ⟨c.jti.toArray⟩, .bool c.hJti, .bool c.exp.has, .int .i64 c.exp.at_, .bool c.nbf.has, .int .i64 c.nbf.at_, .bool c.iat.has, .int .i64 c.iat.at_] [.string ⟨tcl.toArray⟩, .string ⟨tno.toArray⟩, .bool thN, .string ⟨tac.toArray⟩, .bool thA, .string ⟨tco.toArray⟩, .bool thC, .int .i64 tag, .bool thG, .int .i64 tle] [.slice (some ⟨gv, 0, none⟩) c.val.length cv, .string ⟨c.iss.toArray⟩, .bool c.hIss, .string ⟨c.sub.toArray⟩, .bool c.hSub, .slice (some ⟨ga, 0, none⟩) c.aud.length ca, .bool c.hAud, .string ⟨c.jti.toArray⟩, .bool c.hJti, .bool c.exp.has, .int .i64 c.exp.at_, .bool c.nbf.has, .int .i64 c.nbf.at_, .bool c.iat.has, .int .i64 c.iat.at_] (c.val) (1048576 + c.aud.length) w15) := HIJ2.out.below hb
          clear hb HIJ2
          go_wp2
          clear qF q0 hlt hk
          go_loopw [15] (fun s wx => ∃ k : Nat, s = .int .i64 k ∧ k ≤ c.aud.length ∧ IJ w bm gv ga cv ca c.val.length c.aud.length [.slice va c.val.length vc, .string ⟨c.iss.toArray⟩, .bool c.hIss, .string ⟨c.sub.toArray⟩, .bool c.hSub, .slice aa c.aud.length ac, .bool c.hAud, .string ⟨c.jti.toArray⟩, .bool c.hJti, .bool c.exp.has, .int .i64 c.exp.at_, .bool c.nbf.has, .int .i64 c.nbf.at_, .bool c.iat.has, .int .i64 c.iat.at_] [.string ⟨tcl.toArray⟩, .string ⟨tno.toArray⟩, .bool thN, .string ⟨tac.toArray⟩, .bool thA, .string ⟨tco.toArray⟩, .bool thC, .int .i64 tag, .bool thG, .int .i64 tle] [.slice (some ⟨gv, 0, none⟩) c.val.length cv, .string ⟨c.iss.toArray⟩, .bool c.hIss, .string ⟨c.sub.toArray⟩, .bool c.hSub, .slice (some ⟨ga, 0, none⟩) c.aud.length ca, .bool c.hAud, .string ⟨c.jti.toArray⟩, .bool c.hJti, .bool c.exp.has, .int .i64 c.exp.at_, .bool c.nbf.has, .int .i64 c.nbf.at_, .bool c.iat.has, .int .i64 c.iat.at_] (c.val) (1048576 + c.aud.length) wx) (fun s _ => c.aud.length - (intOf s).toNat)
          case atStart => exact ⟨0, rfl, Nat.zero_le _, HIJ.out⟩
          case round =>
            clear HIJ
            obtain ⟨k, rfl, hk, hij⟩ := hrel
            have HIJ : Hid (IJ w bm gv ga cv ca c.val.length c.aud.length [.slice va c.val.length vc, .string ⟨c.iss.toArray⟩, .bool c.hIss, .string ⟨c.sub.toArray⟩, .bool c.hSub, .slice aa c.aud.length ac, .bool c.hAud, .string ⟨c.jti.toArray⟩, .bool c.hJti, .bool c.exp.has, .int .i64 c.exp.at_, .bool c.nbf.has, .int .i64 c.nbf.at_, .bool c.iat.has, .int .i64 c.iat.at_] [.string ⟨tcl.toArray⟩, .string ⟨tno.toArray⟩, .bool thN, .string ⟨tac.toArray⟩, .bool thA, .string ⟨tco.toArray⟩, .bool thC, .int .i64 tag, .bool thG, .int .i64 tle] [.slice (some ⟨gv, 0, none⟩) c.val.length cv, .string ⟨c.iss.toArray⟩, .bool c.hIss, .string ⟨c.sub.toArray⟩, .bool c.hSub, .slice (some ⟨ga, 0, none⟩) c.aud.length ca, .bool c.hAud, .string ⟨c.jti.toArray⟩, .bool c.hJti, .bool c.exp.has, .int .i64 c.exp.at_, .bool c.nbf.has, .int .i64 c.nbf.at_, .bool c.iat.has, .int .i64 c.iat.at_] (c.val) (1048576 + c.aud.length) wr) := hij
            have kb : wr.cell? ⟨bm, 5, none⟩ = some (.slice (some ⟨ga, 0, none⟩) c.aud.length ca) := hij.bm.cell 5 (Nat.le_of_ble_eq_true rfl)
            by_cases hlt : k < c.aud.length
            · have q0 : decide ((k : Int) < (c.aud.length : Int)) = true := decide_eq_true (by omega)
              have q1 : (k : Int) < (c.aud.length : Int) := by omega
              have qb : c.aud.length ≤ 100000000 := HLN.out.2.1
              obtain ⟨X, ⟨hX, hXl⟩, hO⟩ := hij.as_
              obtain ⟨x, kc, kf, _⟩ := row_at22 hX hXl hO (show k < c.aud.length + 1 by omega)
              have kc0 : wr.cell? ⟨w.heap.size, 5, none⟩ = some (.slice aa c.aud.length ac) := hij.bc.cell 5 (Nat.le_of_ble_eq_true rfl)
              obtain ⟨u, hu⟩ : ∃ u, c.aud.getD k [] = u := ⟨_, rfl⟩
              obtain ⟨gA, oA, rfl, ka⟩ := tr_at22 (HTq.out wr hij.bel) k hlt hu
              have HUL : Hid (u.length ≤ 1048576) := by
                rw [← hu, List.getD_eq_getElem?_getD, List.getElem?_eq_getElem hlt]
                exact HML.out _ (List.getElem_mem hlt)
              have HKF : Hid (wr.frozen? ⟨ga, k, none⟩ = false) := kf
              clear hX hXl hO hij hu kf
              go_wp2
              refine wp_region_tail 9 (by kernel_rfl) (by kernel_rfl) ?_
              simp only [List.take_succ_cons, List.take_zero, List.drop_succ_cons, List.drop_zero]
              repeat (first | go_big_quiet_skip | (go_big_quiet_want; go_big_quiet_op; go_big_quiet_on))
              refine wpQuiet_nil ?_
              have HIS : Hid (IJ w bm gv ga cv ca c.val.length c.aud.length [.slice va c.val.length vc, .string ⟨c.iss.toArray⟩, .bool c.hIss, .string ⟨c.sub.toArray⟩, .bool c.hSub, .slice (some ⟨gA, oA, none⟩) c.aud.length ac, .bool c.hAud, .string ⟨c.jti.toArray⟩, .bool c.hJti, .bool c.exp.has, .int .i64 c.exp.at_, .bool c.nbf.has, .int .i64 c.nbf.at_, .bool c.iat.has, .int .i64 c.iat.at_] [.string ⟨tcl.toArray⟩, .string ⟨tno.toArray⟩, .bool thN, .string ⟨tac.toArray⟩, .bool thA, .string ⟨tco.toArray⟩, .bool thC, .int .i64 tag, .bool thG, .int .i64 tle] [.slice (some ⟨gv, 0, none⟩) c.val.length cv, .string ⟨c.iss.toArray⟩, .bool c.hIss, .string ⟨c.sub.toArray⟩, .bool c.hSub, .slice (some ⟨ga, 0, none⟩) c.aud.length ca, .bool c.hAud, .string ⟨c.jti.toArray⟩, .bool c.hJti, .bool c.exp.has, .int .i64 c.exp.at_, .bool c.nbf.has, .int .i64 c.nbf.at_, .bool c.iat.has, .int .i64 c.iat.at_] (c.val) (1048576 + c.aud.length) (wr.drewN 1)) := HIJ.out.drewN 1
              have kc1 : (wr.drewN 1).cell? ⟨ga, k, none⟩ = some (.string ⟨x.toArray⟩) := kc
              have kf1 : (wr.drewN 1).frozen? ⟨ga, k, none⟩ = false := HKF.out
              clear HIJ HKF kc kb kc0 ka
              generalize wr.drewN 1 = wd at *
              go_wp2
              go_roundw
              case rel => exact ⟨k + 1, by go_num, by omega, by have h := HIS.out.text k u (1048576 + c.aud.length) (by have := HUL.out; omega) (by omega); unfold tV at h; exact h⟩
              case measure => simp [intOf]; omega
            · have q0 : decide ((k : Int) < (c.aud.length : Int)) = false := decide_eq_false (by omega)
              clear hij
              go_wp2
              clear kb q0 hlt hk
              go_loopw [16] (fun s wx => ∃ k : Nat, s = .int .i64 k ∧ k ≤ c.val.length ∧ IJ w bm gv ga cv ca c.val.length c.aud.length [.slice va c.val.length vc, .string ⟨c.iss.toArray⟩, .bool c.hIss, .string ⟨c.sub.toArray⟩, .bool c.hSub, .slice aa c.aud.length ac, .bool c.hAud, .string ⟨c.jti.toArray⟩, .bool c.hJti, .bool c.exp.has, .int .i64 c.exp.at_, .bool c.nbf.has, .int .i64 c.nbf.at_, .bool c.iat.has, .int .i64 c.iat.at_] [.string ⟨tcl.toArray⟩, .string ⟨tno.toArray⟩, .bool thN, .string ⟨tac.toArray⟩, .bool thA, .string ⟨tco.toArray⟩, .bool thC, .int .i64 tag, .bool thG, .int .i64 tle] [.slice (some ⟨gv, 0, none⟩) c.val.length cv, .string ⟨c.iss.toArray⟩, .bool c.hIss, .string ⟨c.sub.toArray⟩, .bool c.hSub, .slice (some ⟨ga, 0, none⟩) c.aud.length ca, .bool c.hAud, .string ⟨c.jti.toArray⟩, .bool c.hJti, .bool c.exp.has, .int .i64 c.exp.at_, .bool c.nbf.has, .int .i64 c.nbf.at_, .bool c.iat.has, .int .i64 c.iat.at_] (turnK k c.val) (1048576 + c.aud.length) wx) (fun s _ => c.val.length - (intOf s).toNat)
              case atStart => exact ⟨0, rfl, Nat.zero_le _, HIJ.out⟩
              case round =>
                clear HIJ
                obtain ⟨k, rfl, hk, hij⟩ := hrel
                have HIJ : Hid (IJ w bm gv ga cv ca c.val.length c.aud.length [.slice va c.val.length vc, .string ⟨c.iss.toArray⟩, .bool c.hIss, .string ⟨c.sub.toArray⟩, .bool c.hSub, .slice aa c.aud.length ac, .bool c.hAud, .string ⟨c.jti.toArray⟩, .bool c.hJti, .bool c.exp.has, .int .i64 c.exp.at_, .bool c.nbf.has, .int .i64 c.nbf.at_, .bool c.iat.has, .int .i64 c.iat.at_] [.string ⟨tcl.toArray⟩, .string ⟨tno.toArray⟩, .bool thN, .string ⟨tac.toArray⟩, .bool thA, .string ⟨tco.toArray⟩, .bool thC, .int .i64 tag, .bool thG, .int .i64 tle] [.slice (some ⟨gv, 0, none⟩) c.val.length cv, .string ⟨c.iss.toArray⟩, .bool c.hIss, .string ⟨c.sub.toArray⟩, .bool c.hSub, .slice (some ⟨ga, 0, none⟩) c.aud.length ca, .bool c.hAud, .string ⟨c.jti.toArray⟩, .bool c.hJti, .bool c.exp.has, .int .i64 c.exp.at_, .bool c.nbf.has, .int .i64 c.nbf.at_, .bool c.iat.has, .int .i64 c.iat.at_] (turnK k c.val) (1048576 + c.aud.length) wr) := hij
                have kb : wr.cell? ⟨bm, 0, none⟩ = some (.slice (some ⟨gv, 0, none⟩) c.val.length cv) := hij.bm.cell 0 (Nat.le_of_ble_eq_true rfl)
                by_cases hlt : k < c.val.length
                · have q0 : decide ((k : Int) < (c.val.length : Int)) = true := decide_eq_true (by omega)
                  have q1 : (k : Int) < (c.val.length : Int) := by omega
                  have qb : c.val.length ≤ 100000000 := HLN.out.1
                  obtain ⟨nd, hnd⟩ : ∃ x, c.val.getD k (nd0 0) = x := ⟨_, rfl⟩
                  have htk := hij.at (turnK_length k c.val) k 0 (.int .i64 nd.kind) hlt (by decide) (by rw [turnK_at hlt, hnd]; rfl)
                  have htx := hij.at (turnK_length k c.val) k 2 (.string ⟨nd.text.toArray⟩) hlt (by decide) (by rw [turnK_at hlt, hnd]; rfl)
                  have kk : wr.cell? ⟨gv, k * 6, none⟩ = some (.int .i64 nd.kind) := htk.1
                  have HND : Hid (c.val.getD k (nd0 0) = nd) := hnd
                  have HTL : Hid (nd.text.length ≤ 1048576) := by
                    have h3 : c.val.getD k (nd0 0) ∈ c.val := by rw [List.getD_eq_getElem?_getD, List.getElem?_eq_getElem hlt]; exact List.getElem_mem hlt
                    have := (HTS.out _ h3).1
                    rw [hnd] at this
                    exact this
                  by_cases h5 : nd.kind = 5
                  · have q5 : (nd.kind == (5 : Int)) = true := by simp [h5]
                    have hxm : nd.text.length + 1 ≤ 9223372036854775807 := by have := HTL.out; omega
                    have hxn : ¬ (9223372036854775807 < nd.text.length + 1) := by omega
                    have HTX : Hid (wr.cell? ⟨gv, k * 6 + 2, none⟩ = some (.string ⟨nd.text.toArray⟩) ∧ wr.frozen? ⟨gv, k * 6 + 2, none⟩ = false) := htx
                    have HIS : Hid (∀ wd, wr.drewN 1 = wd → IJ w bm gv ga cv ca c.val.length c.aud.length [.slice va c.val.length vc, .string ⟨c.iss.toArray⟩, .bool c.hIss, .string ⟨c.sub.toArray⟩, .bool c.hSub, .slice aa c.aud.length ac, .bool c.hAud, .string ⟨c.jti.toArray⟩, .bool c.hJti, .bool c.exp.has, .int .i64 c.exp.at_, .bool c.nbf.has, .int .i64 c.nbf.at_, .bool c.iat.has, .int .i64 c.iat.at_] [.string ⟨tcl.toArray⟩, .string ⟨tno.toArray⟩, .bool thN, .string ⟨tac.toArray⟩, .bool thA, .string ⟨tco.toArray⟩, .bool thC, .int .i64 tag, .bool thG, .int .i64 tle] [.slice (some ⟨gv, 0, none⟩) c.val.length cv, .string ⟨c.iss.toArray⟩, .bool c.hIss, .string ⟨c.sub.toArray⟩, .bool c.hSub, .slice (some ⟨ga, 0, none⟩) c.aud.length ca, .bool c.hAud, .string ⟨c.jti.toArray⟩, .bool c.hJti, .bool c.exp.has, .int .i64 c.exp.at_, .bool c.nbf.has, .int .i64 c.nbf.at_, .bool c.iat.has, .int .i64 c.iat.at_] (turnK (k + 1) c.val) (1048576 + c.aud.length) (wd.setCell ⟨gv, k * 6 + 2, none⟩ (.string ⟨(nd.text ++ [120]).toArray⟩))) := fun wd hwd => by
                      rw [← hwd]
                      have h3 := (HIJ.out.drewN 1).node (turnK_length k c.val) k hlt (nd.text ++ [120])
                      rw [turnK_at hlt, HND.out, ← show turnX nd = { nd with text := nd.text ++ [120] } from if_pos h5, ← HND.out, turnK_set hlt, HND.out] at h3
                      exact h3
                    clear htk htx hij hnd
                    go_wp2
                    refine wp_region_tail 12 (by kernel_rfl) (by kernel_rfl) ?_
                    have kx := HTX.out.1
                    simp only [List.take_succ_cons, List.take_zero, List.drop_succ_cons, List.drop_zero]
                    repeat (first | go_big_quiet_skip | (go_big_quiet_want; go_big_quiet_op; go_big_quiet_on))
                    refine wpQuiet_nil ?_
                    have kx1 : (wr.drewN 1).cell? ⟨gv, k * 6 + 2, none⟩ = some (.string ⟨nd.text.toArray⟩) := kx
                    have kf1 : (wr.drewN 1).frozen? ⟨gv, k * 6 + 2, none⟩ = false := HTX.out.2
                    obtain ⟨wd, hwd⟩ : ∃ wd, wr.drewN 1 = wd := ⟨_, rfl⟩
                    have HIS2 := (show Hid _ from HIS.out wd hwd)
                    rw [hwd] at kx1 kf1 ⊢
                    clear hwd HIS HIJ HTX kx kb kk
                    go_wp2
                    go_roundw
                    case rel => exact ⟨k + 1, by go_num, by omega, HIS2.out⟩
                    case measure => simp [intOf]; omega
                  · have q5 : (nd.kind == (5 : Int)) = false := by simpa using h5
                    have HIS : Hid (IJ w bm gv ga cv ca c.val.length c.aud.length [.slice va c.val.length vc, .string ⟨c.iss.toArray⟩, .bool c.hIss, .string ⟨c.sub.toArray⟩, .bool c.hSub, .slice aa c.aud.length ac, .bool c.hAud, .string ⟨c.jti.toArray⟩, .bool c.hJti, .bool c.exp.has, .int .i64 c.exp.at_, .bool c.nbf.has, .int .i64 c.nbf.at_, .bool c.iat.has, .int .i64 c.iat.at_] [.string ⟨tcl.toArray⟩, .string ⟨tno.toArray⟩, .bool thN, .string ⟨tac.toArray⟩, .bool thA, .string ⟨tco.toArray⟩, .bool thC, .int .i64 tag, .bool thG, .int .i64 tle] [.slice (some ⟨gv, 0, none⟩) c.val.length cv, .string ⟨c.iss.toArray⟩, .bool c.hIss, .string ⟨c.sub.toArray⟩, .bool c.hSub, .slice (some ⟨ga, 0, none⟩) c.aud.length ca, .bool c.hAud, .string ⟨c.jti.toArray⟩, .bool c.hJti, .bool c.exp.has, .int .i64 c.exp.at_, .bool c.nbf.has, .int .i64 c.nbf.at_, .bool c.iat.has, .int .i64 c.iat.at_] (turnK (k + 1) c.val) (1048576 + c.aud.length) wr) := by
                      rw [turnK_same hlt (by rw [hnd]; exact h5)]
                      exact hij
                    clear htk htx hij hnd HIJ
                    go_wp2
                    go_roundw
                    case rel => exact ⟨k + 1, by go_num, by omega, HIS.out⟩
                    case measure => simp [intOf]; omega
                · have q0 : decide ((k : Int) < (c.val.length : Int)) = false := decide_eq_false (by omega)
                  obtain rfl : k = c.val.length := by omega
                  rw [turnK_all] at hij
                  clear HIJ
                  have HIJ : Hid (IJ w bm gv ga cv ca c.val.length c.aud.length [.slice va c.val.length vc, .string ⟨c.iss.toArray⟩, .bool c.hIss, .string ⟨c.sub.toArray⟩, .bool c.hSub, .slice aa c.aud.length ac, .bool c.hAud, .string ⟨c.jti.toArray⟩, .bool c.hJti, .bool c.exp.has, .int .i64 c.exp.at_, .bool c.nbf.has, .int .i64 c.nbf.at_, .bool c.iat.has, .int .i64 c.iat.at_] [.string ⟨tcl.toArray⟩, .string ⟨tno.toArray⟩, .bool thN, .string ⟨tac.toArray⟩, .bool thA, .string ⟨tco.toArray⟩, .bool thC, .int .i64 tag, .bool thG, .int .i64 tle] [.slice (some ⟨gv, 0, none⟩) c.val.length cv, .string ⟨c.iss.toArray⟩, .bool c.hIss, .string ⟨c.sub.toArray⟩, .bool c.hSub, .slice (some ⟨ga, 0, none⟩) c.aud.length ca, .bool c.hAud, .string ⟨c.jti.toArray⟩, .bool c.hJti, .bool c.exp.has, .int .i64 c.exp.at_, .bool c.nbf.has, .int .i64 c.nbf.at_, .bool c.iat.has, .int .i64 c.iat.at_] (c.val.map turnX) (1048576 + c.aud.length) wr) := hij
                  obtain ⟨F, CD, CP⟩ := HIJ.out.both alg tcl tno thN tac thA tco thC tag thG tle now HLQ.out (List.length_map ..) (shaped_turn HSH.out) HTS2.out HIT2.out HLN.out.1 HLN.out.2.1 HLN.out.2.2.1 HLN.out.2.2.2.1 HLN.out.2.2.2.2
                  have HCP := (show Hid _ from CP)
                  have pm := bl_rng9 hij.bm
                  have pw := bl_rng9 hij.bw
                  have qF : ((F : Int) == F) = true := by simp
                  clear hij CP
                  go_wp2_with (first | (refine wpList_load_mid rfl 27 (.tmp 9) rfl bm 0 rfl [.slice (some ⟨gv, 0, none⟩) c.val.length cv, .string ⟨c.iss.toArray⟩, .bool c.hIss, .string ⟨c.sub.toArray⟩, .bool c.hSub, .slice (some ⟨ga, 0, none⟩) c.aud.length ca, .bool c.hAud, .string ⟨c.jti.toArray⟩, .bool c.hJti, .bool c.exp.has, .int .i64 c.exp.at_, .bool c.nbf.has, .int .i64 c.nbf.at_, .bool c.iat.has, .int .i64 c.iat.at_] _ pm Tryz.underlying27 rfl hcl ?_) | (refine wpList_load_mid rfl 30 (.tmp 6) rfl (w.heap.size + 1) 0 rfl [.string ⟨tcl.toArray⟩, .string ⟨tno.toArray⟩, .bool thN, .string ⟨tac.toArray⟩, .bool thA, .string ⟨tco.toArray⟩, .bool thC, .int .i64 tag, .bool thG, .int .i64 tle] _ pw Tryz.underlying30 rfl hwt ?_) | fail)
                  refine CD.mono ?_
                  clear CD pm pw kb
                  rintro e w20 ⟨rfl, hb⟩
                  have HIJ2 : Hid (IJ w bm gv ga cv ca c.val.length c.aud.length [.slice va c.val.length vc, .string ⟨c.iss.toArray⟩, .bool c.hIss, .string ⟨c.sub.toArray⟩, .bool c.hSub, .slice aa c.aud.length ac, .bool c.hAud, .string ⟨c.jti.toArray⟩, .bool c.hJti, .bool c.exp.has, .int .i64 c.exp.at_, .bool c.nbf.has, .int .i64 c.nbf.at_, .bool c.iat.has, .int .i64 c.iat.at_] [.string ⟨tcl.toArray⟩, .string ⟨tno.toArray⟩, .bool thN, .string ⟨tac.toArray⟩, .bool thA, .string ⟨tco.toArray⟩, .bool thC, .int .i64 tag, .bool thG, .int .i64 tle] [.slice (some ⟨gv, 0, none⟩) c.val.length cv, .string ⟨c.iss.toArray⟩, .bool c.hIss, .string ⟨c.sub.toArray⟩, .bool c.hSub, .slice (some ⟨ga, 0, none⟩) c.aud.length ca, .bool c.hAud, .string ⟨c.jti.toArray⟩, .bool c.hJti, .bool c.exp.has, .int .i64 c.exp.at_, .bool c.nbf.has, .int .i64 c.nbf.at_, .bool c.iat.has, .int .i64 c.iat.at_] (c.val.map turnX) (1048576 + c.aud.length) w20) := HIJ.out.below hb
                  have CP := HCP.out w20 hb
                  have pm := bl_rng9 HIJ2.out.bm
                  have pw := bl_rng9 HIJ2.out.bw
                  clear hb HIJ HCP
                  go_wp2_with (first | (refine wpList_load_mid rfl 27 (.tmp 9) rfl bm 0 rfl [.slice (some ⟨gv, 0, none⟩) c.val.length cv, .string ⟨c.iss.toArray⟩, .bool c.hIss, .string ⟨c.sub.toArray⟩, .bool c.hSub, .slice (some ⟨ga, 0, none⟩) c.aud.length ca, .bool c.hAud, .string ⟨c.jti.toArray⟩, .bool c.hJti, .bool c.exp.has, .int .i64 c.exp.at_, .bool c.nbf.has, .int .i64 c.nbf.at_, .bool c.iat.has, .int .i64 c.iat.at_] _ pm Tryz.underlying27 rfl hcl ?_) | (refine wpList_load_mid rfl 30 (.tmp 6) rfl (w.heap.size + 1) 0 rfl [.string ⟨tcl.toArray⟩, .string ⟨tno.toArray⟩, .bool thN, .string ⟨tac.toArray⟩, .bool thA, .string ⟨tco.toArray⟩, .bool thC, .int .i64 tag, .bool thG, .int .i64 tle] _ pw Tryz.underlying30 rfl hwt ?_) | fail)
                  refine CP.mono ?_
                  clear CP pm pw
                  rintro e w21 ⟨rfl, hb⟩
                  have HB : Hid (Below w.heap.size w w21) := (HIJ2.out.below hb).bel
                  clear hb HIJ2
                  go_wp2
                  go_ret
                  exact ⟨rfl, HB.out⟩
  · go_wp2
    go_ret
    exact ⟨rfl, HB1.out⟩

theorem checks_top (c : Cm) (va : Option Addr) (vc : Nat) (aa : Option Addr) (ac : Nat) (alg : Int) (t : Wt) (now : Int) (w : World) (H : LA w c va vc aa ac) (hR : Sha.Rt w) (hvn : va = none → vc = 0) (han : aa = none → ac = 0) (hts : ∀ x ∈ c.val, x.text.length ≤ 1048576 ∧ x.key.length ≤ 1048576) (hml : ∀ x ∈ c.aud, x.length ≤ 1048576) (hln : c.val.length ≤ 1048576) (hla : c.aud.length ≤ 1048576) (h1 : t.access.length ≤ 100000000) (h2 : t.code.length ≤ 100000000) (hn : now ≤ 9223372036854775807) :
    Calls Tryz.prog 3 #[clV (.slice va c.val.length vc) (.slice aa c.aud.length ac) c, .int .i64 alg, wtV t, .int .i64 now] w fun e w' => e = .returned (.bool true) ∧ Below w.heap.size w w' :=
  ichecks_any c va vc aa ac alg t.client t.nonce t.hasN t.access t.hasA t.code t.hasC t.age t.hasAge t.lee now w H hR hvn han hts hml hln hla h1 h2 hn

end Go.Proofs.YtdhfjhdlimmjhaaGreatDoor
