import Derived.Test.YtpfdaclmchcbiaaGreatDoorQBZ
import Derived.Deep.CutRange
namespace Go.Proofs.YtpfdaclmchcbiaaGreatDoor
open Go.RowKit
set_option maxRecDepth 100000

theorem wpList_load_midZ {P : Program} {ops : Array Oper} {rest : List Oper} {op : Oper} {a : Act} {w : World} {Q : Exit → Act → World → Prop} (hw : Region.wanted op (yielded ops a.tmps) = true) (ty : TypeId) (x : Operand) (ho : op.op = .load ty x)
    (b o : Nat) (hx : a.eval x = .pointer (some ⟨b, o, none⟩)) (cs : List Value) (d : TypeDesc) (hc : w.rangeAt b o cs)
    (hu : P.underlying ty = some d) (hd : d.isRow = true) (hi : (P.info? ty).map (·.size) = some cs.length)
    (h : wpList P ops Q rest (a.put op.dst (.agg cs.toArray)) w) : wpList P ops Q (op :: rest) a w :=
  wpList_step fun K hK => by rw [if_pos hw]; exact wp_load_mid ty x ho b o hx cs d hc hu hd hi (hK _ _ h)

theorem chk_any (c : Cm) (va : Option Addr) (vc : Nat) (aa : Option Addr) (ac : Nat) (alg : Int) (t : Wt) (now : Int) (w : World) (hR : NR w (.slice va c.val.length vc) c.val va vc) (hT : TR w (.slice aa c.aud.length ac) c.aud aa ac) (hG : GL w.heap.size w) (hX : Sha.Tb w)
    (ht : TB c.val) (hl : c.val.length ≤ 1000000000) (hla : c.aud.length ≤ 1000000000) (hi : ∀ x ∈ c.val, I64 x.int) (h1 : t.access.length ≤ 1000000000) (h2 : t.code.length ≤ 1000000000) (hn : now ≤ 9223372036854775807) :
    Calls Tryz.prog 10 #[clV (.slice va c.val.length vc) (.slice aa c.aud.length ac) c, .int .i64 alg, wtV t, .int .i64 now] w fun e w' => e = .returned (.int .i64 (checkQ (mkQ c va vc aa ac alg t now))) ∧ Below w.heap.size w w' := by
  refine icheck_any (mkQ c va vc aa ac alg t now) w hR hT hG ht hl hla hX rfl ⟨h1, h2, ?_, hn⟩
  generalize hm : mQ (mkQ c va vc aa ac alg t now) kAuth = m
  have e : nQ (mkQ c va vc aa ac alg t now) kAuth = if m < 0 then nd0 0 else c.val.getD m.toNat (nd0 0) := by rw [← hm]; rfl
  rw [e]
  split
  · decide
  · rcases Nat.lt_or_ge m.toNat c.val.length with h | h
    · rw [List.getD_eq_getElem?_getD, List.getElem?_eq_getElem h]
      exact hi _ (List.getElem_mem h)
    · rw [List.getD_eq_getElem?_getD, List.getElem?_eq_none h]
      decide

def aw22T : List UInt8 := [123, 34, 105, 115, 115, 34, 58, 34, 105, 34, 44, 34, 115, 117, 98, 34, 58, 34, 115, 34, 44, 34, 97, 117, 100, 34, 58, 34, 99, 34, 44, 34, 101, 120, 112, 34, 58, 57, 44, 34, 105, 97, 116, 34, 58, 49, 44, 34, 110, 111, 110, 99, 101, 34, 58, 34, 110, 34, 44, 34, 97, 117, 116, 104, 95, 116, 105, 109, 101, 34, 58, 53, 125]
def aw22L : List Nd := [⟨7, [], [], false, 0, 7⟩, ⟨5, kIss, [105], false, 0, 0⟩, ⟨5, kSub, [115], false, 0, 0⟩, ⟨5, kAud, [99], false, 0, 0⟩, ⟨4, kExp, [57], true, 9, 0⟩, ⟨4, kIat, [49], true, 1, 0⟩, ⟨5, kNonce, [110], false, 0, 0⟩, ⟨4, kAuth, [53], true, 5, 0⟩]
def aw22C : Cm := ⟨aw22L, [105], true, [115], true, [[99]], true, [], false, ⟨true, 9⟩, tm0, ⟨true, 1⟩⟩
def aw22W : Wt := ⟨[99], [110], true, [], false, [], false, 10, true, 5⟩
def aw22V : Wt := ⟨[99], [109], true, [], false, [], false, 10, true, 5⟩
set_option maxRecDepth 100000 in
theorem aw22_parse : cparseF aw22T = (aw22C, 0) := by decide +kernel
set_option maxRecDepth 100000 in
theorem aw22_half : halfF 4 [106, 72, 107, 87, 69, 100, 85, 88, 77, 85, 49, 66, 119, 65, 115, 67, 52, 118, 116, 85, 115, 90, 119, 110, 78, 118, 84, 73, 120, 69, 108, 48, 122, 57, 75, 51, 118, 120, 53, 75, 70, 48, 89] = ([55, 55, 81, 109, 85, 80, 116, 106, 80, 102, 122, 87, 116, 70, 50, 65, 110, 112, 75, 57, 82, 81], 0) := by decide +kernel
set_option maxRecDepth 100000 in
theorem aw22_c1' : checkQ (mkQ aw22C none 0 none 0 4 aw22W 20) = 0 := by decide +kernel
set_option maxRecDepth 100000 in
theorem aw22_c2' : checkQ (mkQ aw22C none 0 none 0 4 aw22W 21) = 153 := by decide +kernel
set_option maxRecDepth 100000 in
theorem aw22_c3' : checkQ (mkQ aw22C none 0 none 0 4 aw22V 20) = 150 := by decide +kernel
theorem aw22_i : ∀ x ∈ aw22L, I64 x.int := by intro x hx; unfold aw22L at hx; simp only [List.mem_cons, List.not_mem_nil, or_false] at hx; rcases hx with rfl | rfl | rfl | rfl | rfl | rfl | rfl | rfl <;> (unfold I64; decide)
theorem aw22_t : TB aw22L := by intro n hn; revert n; decide

theorem aw22_chk (t : Wt) (now r : Int) (va : Option Addr) (vc : Nat) (aa : Option Addr) (ac : Nat) (w : World) (hR : NR w (.slice va aw22L.length vc) aw22L va vc) (hT : TR w (.slice aa ([[99]] : List (List UInt8)).length ac) [[99]] aa ac) (hG : GL w.heap.size w) (hX : Sha.Tb w) (h1 : t.access = []) (h2 : t.code = []) (hn : now ≤ 100)
    (hr : checkQ (mkQ aw22C none 0 none 0 4 t now) = r) :
    Calls Tryz.prog 10 #[.agg #[.slice va 8 vc, .string ⟨#[105]⟩, .bool true, .string ⟨#[115]⟩, .bool true, .slice aa 1 ac, .bool true, .string ⟨#[]⟩, .bool false, .bool true, .int .i64 9, .bool false, .int .i64 0, .bool true, .int .i64 1], .int .i64 4, wtV t, .int .i64 now] w fun e w' => e = .returned (.int .i64 r) ∧ Below w.heap.size w w' := by
  have h := chk_any aw22C va vc aa ac 4 t now w hR hT hG hX aw22_t (by decide) (by decide) aw22_i (by rw [h1]; decide) (by rw [h2]; decide) (by omega)
  rw [show checkQ (mkQ aw22C va vc aa ac 4 t now) = checkQ (mkQ aw22C none 0 none 0 4 t now) from rfl, hr] at h
  exact h

set_option maxRecDepth 100000 in
set_option maxHeartbeats 8000000 in
theorem awake22_any (w : World) (hG : GL w.heap.size w) (hX : Sha.Tb w) : Calls Tryz.prog 15 #[] w fun e w' => e = .returned (.bool true) ∧ Below w.heap.size w w' := by
  have HGq : Hid (∀ wq, Below w.heap.size w wq → GL wq.heap.size wq) := fun wq hq => (hG.below hq).up hq.size
  have HXq : Hid (∀ wq, Below w.heap.size w wq → Sha.Tb wq) := fun wq hq => hX.below hq
  have C0 := cparse_any aw22T w hG
  rw [aw22_parse] at C0
  unfold aw22C at C0
  dsimp only at C0
  unfold clV tm0 at C0
  have C0 : Calls Tryz.prog 30 #[.string ⟨#[123, 34, 105, 115, 115, 34, 58, 34, 105, 34, 44, 34, 115, 117, 98, 34, 58, 34, 115, 34, 44, 34, 97, 117, 100, 34, 58, 34, 99, 34, 44, 34, 101, 120, 112, 34, 58, 57, 44, 34, 105, 97, 116, 34, 58, 49, 44, 34, 110, 111, 110, 99, 101, 34, 58, 34, 110, 34, 44, 34, 97, 117, 116, 104, 95, 116, 105, 109, 101, 34, 58, 53, 125]⟩] w fun e w' => (∃ va aa, e = .returned (.tuple #[.agg #[va, .string ⟨#[105]⟩, .bool true, .string ⟨#[115]⟩, .bool true, aa, .bool true, .string ⟨#[]⟩, .bool false, .bool true, .int .i64 9, .bool false, .int .i64 0, .bool true, .int .i64 1], .int .i64 0]) ∧ NO w.heap.size w' va aw22L ∧ OT w.heap.size w' aa [[99]]) ∧ Below w.heap.size w w' := C0
  clear hG hX
  go_enter Tryz.func15, Tryz.ntmps15
  go_wp2_with fail
  refine C0.mono ?_
  clear C0
  rintro e w1 ⟨⟨v, a, rfl, hno, hot⟩, hB1⟩
  obtain ⟨va, vc, hN⟩ := hno.nr
  obtain ⟨e1, _, _⟩ := id hN
  obtain ⟨aa, ac, e2, hT⟩ := hot.tr
  have e1 : v = .slice va 8 vc := e1
  have e2 : a = .slice aa 1 ac := e2
  subst e1 e2
  have HNq : Hid (∀ wq, Below w1.heap.size w1 wq → NR wq (.slice va aw22L.length vc) aw22L va vc) := fun wq hq => hN.below hq (Nat.le_refl _)
  have HTq : Hid (∀ wq, Below w1.heap.size w1 wq → TR wq (.slice aa ([[99]] : List (List UInt8)).length ac) [[99]] aa ac) := fun wq hq => hT.below hq (Nat.le_refl _)
  have HB1 : Hid (Below w.heap.size w w1) := hB1
  clear hno hot hN hT hB1
  obtain ⟨w2, hw2⟩ : ∃ x, w1.alloc (.cells #[.slice va 8 vc, .string ⟨#[105]⟩, .bool true, .string ⟨#[115]⟩, .bool true, .slice aa 1 ac, .bool true, .string ⟨#[]⟩, .bool false, .bool true, .int .i64 9, .bool false, .int .i64 0, .bool true, .int .i64 1] 27) = x := ⟨_, rfl⟩
  have hB2 : Below w1.heap.size w1 w2 := by rw [← hw2]; exact alloc_below _ _
  have hb2 : Bl 27 w2 w1.heap.size [.slice va 8 vc, .string ⟨#[105]⟩, .bool true, .string ⟨#[115]⟩, .bool true, .slice aa 1 ac, .bool true, .string ⟨#[]⟩, .bool false, .bool true, .int .i64 9, .bool false, .int .i64 0, .bool true, .int .i64 1] := by rw [← hw2]; exact alloc_bl _ _ _
  have hz2 : w2.heap.size = w1.heap.size + 1 := by rw [← hw2, alloc_size]
  obtain ⟨w3, hw3⟩ : ∃ x, w2.alloc (.cells #[.string ⟨#[99]⟩, .string ⟨#[110]⟩, .bool true, .string ⟨#[]⟩, .bool false, .string ⟨#[]⟩, .bool false, .int .i64 10, .bool true, .int .i64 5] 30) = x := ⟨_, rfl⟩
  have hB3 : Below w2.heap.size w2 w3 := by rw [← hw3]; exact alloc_below _ _
  have hb3 : Bl 30 w3 (w1.heap.size + 1) [.string ⟨#[99]⟩, .string ⟨#[110]⟩, .bool true, .string ⟨#[]⟩, .bool false, .string ⟨#[]⟩, .bool false, .int .i64 10, .bool true, .int .i64 5] := by rw [← hw3, ← hz2]; exact alloc_bl _ _ _
  have hb2' : Bl 27 w3 w1.heap.size [.slice va 8 vc, .string ⟨#[105]⟩, .bool true, .string ⟨#[115]⟩, .bool true, .slice aa 1 ac, .bool true, .string ⟨#[]⟩, .bool false, .bool true, .int .i64 9, .bool false, .int .i64 0, .bool true, .int .i64 1] := hb2.below hB3 hb2.lt
  have hB13 : Below w1.heap.size w1 w3 := hB2.trans (hB3.mono hB2.size)
  have HW3 : Hid ((w1.alloc (.cells #[.slice va 8 vc, .string ⟨#[105]⟩, .bool true, .string ⟨#[115]⟩, .bool true, .slice aa 1 ac, .bool true, .string ⟨#[]⟩, .bool false, .bool true, .int .i64 9, .bool false, .int .i64 0, .bool true, .int .i64 1] 27)).alloc (.cells #[.string ⟨#[99]⟩, .string ⟨#[110]⟩, .bool true, .string ⟨#[]⟩, .bool false, .string ⟨#[]⟩, .bool false, .int .i64 10, .bool true, .int .i64 5] 30) = w3) := by show _ = _; rw [hw2, hw3]
  have HB13 : Hid (Below w1.heap.size w1 w3) := hB13
  have HRc : Hid (∀ wq, Below w3.heap.size w3 wq → Bl 27 wq w1.heap.size [.slice va 8 vc, .string ⟨#[105]⟩, .bool true, .string ⟨#[115]⟩, .bool true, .slice aa 1 ac, .bool true, .string ⟨#[]⟩, .bool false, .bool true, .int .i64 9, .bool false, .int .i64 0, .bool true, .int .i64 1]) := fun wq hq => hb2'.below hq hb2'.lt
  have HBw : Hid (∀ wq, Below w3.heap.size w3 wq → Bl 30 wq (w1.heap.size + 1) [.string ⟨#[99]⟩, .string ⟨#[110]⟩, .bool true, .string ⟨#[]⟩, .bool false, .string ⟨#[]⟩, .bool false, .int .i64 10, .bool true, .int .i64 5]) := fun wq hq => hb3.below hq hb3.lt
  have hcl : (Tryz.prog.info? 27).map (·.size) = some ([.slice va 8 vc, .string ⟨#[105]⟩, .bool true, .string ⟨#[115]⟩, .bool true, .slice aa 1 ac, .bool true, .string ⟨#[]⟩, .bool false, .bool true, .int .i64 9, .bool false, .int .i64 0, .bool true, .int .i64 1] : List Value).length := by kernel_rfl
  have hwt : (Tryz.prog.info? 30).map (·.size) = some ([.string ⟨#[99]⟩, .string ⟨#[110]⟩, .bool true, .string ⟨#[]⟩, .bool false, .string ⟨#[]⟩, .bool false, .int .i64 10, .bool true, .int .i64 5] : List Value).length := by kernel_rfl
  have hwu : (Tryz.prog.info? 30).map (·.size) = some ([.string ⟨#[99]⟩, .string ⟨#[109]⟩, .bool true, .string ⟨#[]⟩, .bool false, .string ⟨#[]⟩, .bool false, .int .i64 10, .bool true, .int .i64 5] : List Value).length := by kernel_rfl
  have CH := half_any 4 [106, 72, 107, 87, 69, 100, 85, 88, 77, 85, 49, 66, 119, 65, 115, 67, 52, 118, 116, 85, 115, 90, 119, 110, 78, 118, 84, 73, 120, 69, 108, 48, 122, 57, 75, 51, 118, 120, 53, 75, 70, 48, 89] w3 (HXq.out w3 (HB1.out.trans (hB13.mono HB1.out.size))) (by decide)
  rw [aw22_half] at CH
  have CH : Calls Tryz.prog 16 #[.int .i64 4, .string ⟨#[106, 72, 107, 87, 69, 100, 85, 88, 77, 85, 49, 66, 119, 65, 115, 67, 52, 118, 116, 85, 115, 90, 119, 110, 78, 118, 84, 73, 120, 69, 108, 48, 122, 57, 75, 51, 118, 120, 53, 75, 70, 48, 89]⟩] w3 fun e w' => e = .returned (.tuple #[.string ⟨#[55, 55, 81, 109, 85, 80, 116, 106, 80, 102, 122, 87, 116, 70, 50, 65, 110, 112, 75, 57, 82, 81]⟩, .int .i64 0]) ∧ Below w3.heap.size w3 w' := CH
  have HCK : Hid (∀ wq, Below w1.heap.size w1 wq → NR wq (.slice va aw22L.length vc) aw22L va vc ∧ TR wq (.slice aa ([[99]] : List (List UInt8)).length ac) [[99]] aa ac ∧ GL wq.heap.size wq ∧ Sha.Tb wq) := fun wq hq => ⟨HNq.out wq hq, HTq.out wq hq, HGq.out wq (HB1.out.trans (hq.mono HB1.out.size)), HXq.out wq (HB1.out.trans (hq.mono HB1.out.size))⟩
  clear hw2 hB2 hb2 hz2 hw3 hB3 hb3 hb2' hB13 HNq HTq HGq HXq
  go_upto_region 3 with fail
  rw [HW3.out]
  clear HW3
  go_wp2_with fail
  refine CH.mono ?_
  clear CH
  rintro e w4 ⟨rfl, hB4⟩
  have HB4 : Hid (Below w3.heap.size w3 w4) := hB4
  obtain ⟨n4, t4, g4, x4⟩ := HCK.out w4 (HB13.out.trans (hB4.mono HB13.out.size))
  have CK1 := aw22_chk aw22W 20 0 va vc aa ac w4 n4 t4 g4 x4 rfl rfl (by decide) aw22_c1'
  have CK1 : Calls Tryz.prog 10 #[.agg #[.slice va 8 vc, .string ⟨#[105]⟩, .bool true, .string ⟨#[115]⟩, .bool true, .slice aa 1 ac, .bool true, .string ⟨#[]⟩, .bool false, .bool true, .int .i64 9, .bool false, .int .i64 0, .bool true, .int .i64 1], .int .i64 4, .agg #[.string ⟨#[99]⟩, .string ⟨#[110]⟩, .bool true, .string ⟨#[]⟩, .bool false, .string ⟨#[]⟩, .bool false, .int .i64 10, .bool true, .int .i64 5], .int .i64 20] w4 fun e w' => e = .returned (.int .i64 0) ∧ Below w4.heap.size w4 w' := CK1
  clear hB4 n4 t4 g4 x4
  go_wp2_with (first | (refine wpList_load_mid rfl 27 (.tmp 1) rfl w1.heap.size 0 rfl [.slice va 8 vc, .string ⟨#[105]⟩, .bool true, .string ⟨#[115]⟩, .bool true, .slice aa 1 ac, .bool true, .string ⟨#[]⟩, .bool false, .bool true, .int .i64 9, .bool false, .int .i64 0, .bool true, .int .i64 1] _ (bl_rng9 (HRc.out w4 HB4.out)) Tryz.underlying27 rfl hcl ?_) | (refine wpList_load_mid rfl 30 (.tmp 3) rfl (w1.heap.size + 1) 0 rfl [.string ⟨#[99]⟩, .string ⟨#[110]⟩, .bool true, .string ⟨#[]⟩, .bool false, .string ⟨#[]⟩, .bool false, .int .i64 10, .bool true, .int .i64 5] _ (bl_rng9 (HBw.out w4 HB4.out)) Tryz.underlying30 rfl hwt ?_))
  refine CK1.mono ?_
  clear CK1
  rintro e w5 ⟨rfl, hB5⟩
  have HB5 : Hid (Below w3.heap.size w3 w5) := HB4.out.trans (hB5.mono HB4.out.size)
  obtain ⟨n5, t5, g5, x5⟩ := HCK.out w5 (HB13.out.trans (HB5.out.mono HB13.out.size))
  have CK2 := aw22_chk aw22W 21 153 va vc aa ac w5 n5 t5 g5 x5 rfl rfl (by decide) aw22_c2'
  have CK2 : Calls Tryz.prog 10 #[.agg #[.slice va 8 vc, .string ⟨#[105]⟩, .bool true, .string ⟨#[115]⟩, .bool true, .slice aa 1 ac, .bool true, .string ⟨#[]⟩, .bool false, .bool true, .int .i64 9, .bool false, .int .i64 0, .bool true, .int .i64 1], .int .i64 4, .agg #[.string ⟨#[99]⟩, .string ⟨#[110]⟩, .bool true, .string ⟨#[]⟩, .bool false, .string ⟨#[]⟩, .bool false, .int .i64 10, .bool true, .int .i64 5], .int .i64 21] w5 fun e w' => e = .returned (.int .i64 153) ∧ Below w5.heap.size w5 w' := CK2
  clear hB5 n5 t5 g5 x5
  go_wp2_with (first | (refine wpList_load_midZ rfl 27 (.tmp 1) rfl w1.heap.size 0 rfl [.slice va 8 vc, .string ⟨#[105]⟩, .bool true, .string ⟨#[115]⟩, .bool true, .slice aa 1 ac, .bool true, .string ⟨#[]⟩, .bool false, .bool true, .int .i64 9, .bool false, .int .i64 0, .bool true, .int .i64 1] _ (bl_rng9 (HRc.out w5 HB5.out)) Tryz.underlying27 rfl hcl ?_) | (refine wpList_load_midZ rfl 30 (.tmp 3) rfl (w1.heap.size + 1) 0 rfl [.string ⟨#[99]⟩, .string ⟨#[110]⟩, .bool true, .string ⟨#[]⟩, .bool false, .string ⟨#[]⟩, .bool false, .int .i64 10, .bool true, .int .i64 5] _ (bl_rng9 (HBw.out w5 HB5.out)) Tryz.underlying30 rfl hwt ?_))
  refine CK2.mono ?_
  clear CK2
  rintro e w6 ⟨rfl, hB6⟩
  have HB6 : Hid (Below w3.heap.size w3 w6) := HB5.out.trans (hB6.mono HB5.out.size)
  have hbw := HBw.out w6 HB6.out
  have k1 : w6.cell? ⟨w1.heap.size + 1, 1, none⟩ = some (.string ⟨#[110]⟩) := hbw.cell 1 (by simp)
  have f1 : w6.frozen? ⟨w1.heap.size + 1, 1, none⟩ = false := hbw.frozen 1
  obtain ⟨w7, hw7⟩ : ∃ x, w6.setCell ⟨w1.heap.size + 1, 1, none⟩ (.string ⟨#[109]⟩) = x := ⟨_, rfl⟩
  have HW7 : Hid (w6.setCell ⟨w1.heap.size + 1, 1, none⟩ (.string ⟨#[109]⟩) = w7) := hw7
  have HB7w : Hid (Bl 30 w7 (w1.heap.size + 1) [.string ⟨#[99]⟩, .string ⟨#[109]⟩, .bool true, .string ⟨#[]⟩, .bool false, .string ⟨#[]⟩, .bool false, .int .i64 10, .bool true, .int .i64 5]) := by rw [← hw7]; exact hbw.set 1 (.string ⟨#[109]⟩)
  have HB7c : Hid (Bl 27 w7 w1.heap.size [.slice va 8 vc, .string ⟨#[105]⟩, .bool true, .string ⟨#[115]⟩, .bool true, .slice aa 1 ac, .bool true, .string ⟨#[]⟩, .bool false, .bool true, .int .i64 9, .bool false, .int .i64 0, .bool true, .int .i64 1]) := by rw [← hw7]; exact bl_setCell (HRc.out w6 HB6.out) (by omega)
  have HB7 : Hid (Below w1.heap.size w1 w7) := by rw [← hw7]; exact (HB13.out.trans (HB6.out.mono HB13.out.size)).setCell (by show w1.heap.size ≤ w1.heap.size + 1; omega) _
  obtain ⟨n7, t7, g7, x7⟩ := HCK.out w7 HB7.out
  have CK3 := aw22_chk aw22V 20 150 va vc aa ac w7 n7 t7 g7 x7 rfl rfl (by decide) aw22_c3'
  have CK3 : Calls Tryz.prog 10 #[.agg #[.slice va 8 vc, .string ⟨#[105]⟩, .bool true, .string ⟨#[115]⟩, .bool true, .slice aa 1 ac, .bool true, .string ⟨#[]⟩, .bool false, .bool true, .int .i64 9, .bool false, .int .i64 0, .bool true, .int .i64 1], .int .i64 4, .agg #[.string ⟨#[99]⟩, .string ⟨#[109]⟩, .bool true, .string ⟨#[]⟩, .bool false, .string ⟨#[]⟩, .bool false, .int .i64 10, .bool true, .int .i64 5], .int .i64 20] w7 fun e w' => e = .returned (.int .i64 150) ∧ Below w7.heap.size w7 w' := CK3
  clear hw7 hbw hB6 n7 t7 g7 x7 HB5 HB4 HB6
  go_upto_region 9 with fail
  rw [HW7.out]
  clear HW7 k1 f1
  go_wp2_with (first | (refine wpList_load_mid rfl 27 (.tmp 1) rfl w1.heap.size 0 rfl [.slice va 8 vc, .string ⟨#[105]⟩, .bool true, .string ⟨#[115]⟩, .bool true, .slice aa 1 ac, .bool true, .string ⟨#[]⟩, .bool false, .bool true, .int .i64 9, .bool false, .int .i64 0, .bool true, .int .i64 1] _ (bl_rng9 HB7c.out) Tryz.underlying27 rfl hcl ?_) | (refine wpList_load_mid rfl 30 (.tmp 3) rfl (w1.heap.size + 1) 0 rfl [.string ⟨#[99]⟩, .string ⟨#[109]⟩, .bool true, .string ⟨#[]⟩, .bool false, .string ⟨#[]⟩, .bool false, .int .i64 10, .bool true, .int .i64 5] _ (bl_rng9 HB7w.out) Tryz.underlying30 rfl hwu ?_))
  refine CK3.mono ?_
  clear CK3
  rintro e w8 ⟨rfl, hB8⟩
  have HB8 : Hid (Below w.heap.size w w8) := HB1.out.trans ((HB7.out.trans (hB8.mono HB7.out.size)).mono HB1.out.size)
  clear hB8
  go_wp2
  go_ret
  exact ⟨rfl, HB8.out⟩

end Go.Proofs.YtpfdaclmchcbiaaGreatDoor
