import Derived.Test.YtdhfjhdlimmjhaaGreatDoorCZ
import Derived.Test.YtdhfjhdlimmjhaaGreatDoorQBZ
import Derived.Deep.CutRange
import Derived.Test.YtdhfjhdlimmjhaaGreatDoorGd
import Derived.Test.YtdhfjhdlimmjhaaGreatDoorXAll
namespace Go.Proofs.YtdhfjhdlimmjhaaGreatDoor
open Go.RowKit

theorem land_mask (n : Nat) : n &&& 4294967295 = n % 4294967296 := Nat.and_two_pow_sub_one_eq_mod n 32
theorem bits_low (x : Int) : bits .and .i64 x 4294967295 = x % 4294967296 := by
  show IntKind.i64.wrap (((BitVec.ofInt 64 x) &&& (BitVec.ofInt 64 4294967295)).toNat : Int) = _
  have e2 : (BitVec.ofInt 64 4294967295).toNat = 4294967295 := by decide
  rw [BitVec.toNat_and, e2, land_mask, BitVec.toNat_ofInt]
  have h1 : (((x % (2 ^ 64 : Nat)).toNat % 4294967296 : Nat) : Int) = x % 4294967296 := by
    have : ((2 ^ 64 : Nat) : Int) = 18446744073709551616 := by decide
    rw [this]
    omega
  rw [h1, IntKind.wrap_i64]
  omega

end Go.Proofs.YtdhfjhdlimmjhaaGreatDoor

namespace Go.Proofs.YtdhfjhdlimmjhaaGreatDoor
open Go.RowKit
set_option maxRecDepth 100000

theorem wpList_load_midZ {P : Program} {ops : Array Oper} {rest : List Oper} {op : Oper} {a : Act} {w : World} {Q : Exit → Act → World → Prop} (hw : Region.wanted op (yielded ops a.tmps) = true) (ty : TypeId) (x : Operand) (ho : op.op = .load ty x)
    (b o : Nat) (hx : a.eval x = .pointer (some ⟨b, o, none⟩)) (cs : List Value) (d : TypeDesc) (hc : w.rangeAt b o cs)
    (hu : P.underlying ty = some d) (hd : d.isRow = true) (hi : (P.info? ty).map (·.size) = some cs.length)
    (h : wpList P ops Q rest (a.put op.dst (.agg cs.toArray)) w) : wpList P ops Q (op :: rest) a w :=
  wpList_step fun K hK => by rw [if_pos hw]; exact wp_load_mid ty x ho b o hx cs d hc hu hd hi (hK _ _ h)

theorem chk_any (c : Cm) (va : Option Addr) (vc : Nat) (aa : Option Addr) (ac : Nat) (alg : Int) (t : Wt) (now : Int) (w : World) (hR : NR w (.slice va c.val.length vc) c.val va vc) (hT : TR w (.slice aa c.aud.length ac) c.aud aa ac) (hG : GL w.heap.size w) (hX : Sha.Tb w)
    (ht : TB c.val) (hl : c.val.length ≤ 1000000000) (hla : c.aud.length ≤ 1000000000) (hi : ∀ x ∈ c.val, I64 x.int) (h1 : t.access.length ≤ 1000000000) (h2 : t.code.length ≤ 1000000000) (hn : now ≤ 9223372036854775807) :
    Calls Tryz.prog 6 #[clV (.slice va c.val.length vc) (.slice aa c.aud.length ac) c, .int .i64 alg, wtV t, .int .i64 now] w fun e w' => e = .returned (.int .i64 (checkQ (mkQ c va vc aa ac alg t now))) ∧ Below w.heap.size w w' := by
  refine icheck_any (mkQ c va vc aa ac alg t now) w hR hT hG ht hl hla hX rfl ⟨h1, h2, ?_, hn⟩
  generalize hm : mQ (mkQ c va vc aa ac alg t now) kAuth = m
  have e : nQ (mkQ c va vc aa ac alg t now) kAuth = if m < 0 then nd0 0 else c.val.getD m.toNat (nd0 0) := by rw [← hm]; rfl
  rw [e]
  split
  · decide
  · rcases Nat.lt_or_ge m.toNat c.val.length with h | h
    · rw [List.getD_eq_getElem?_getD, List.getElem?_eq_getElem h]
      exact hi _ (List.getElem_mem h)
    · rw [List.getD_eq_getElem?_getD, List.getElem?_eq_none h]
      decide

def aw22T : List UInt8 := [123, 34, 105, 115, 115, 34, 58, 34, 105, 34, 44, 34, 115, 117, 98, 34, 58, 34, 115, 34, 44, 34, 97, 117, 100, 34, 58, 34, 99, 34, 44, 34, 101, 120, 112, 34, 58, 57, 44, 34, 105, 97, 116, 34, 58, 49, 44, 34, 110, 111, 110, 99, 101, 34, 58, 34, 110, 34, 44, 34, 97, 117, 116, 104, 95, 116, 105, 109, 101, 34, 58, 53, 125]
def aw22L : List Nd := [⟨7, [], [], false, 0, 7⟩, ⟨5, kIss, [105], false, 0, 0⟩, ⟨5, kSub, [115], false, 0, 0⟩, ⟨5, kAud, [99], false, 0, 0⟩, ⟨4, kExp, [57], true, 9, 0⟩, ⟨4, kIat, [49], true, 1, 0⟩, ⟨5, kNonce, [110], false, 0, 0⟩, ⟨4, kAuth, [53], true, 5, 0⟩]
def aw22C : Cm := ⟨aw22L, [105], true, [115], true, [[99]], true, [], false, ⟨true, 9⟩, tm0, ⟨true, 1⟩⟩
def aw22W : Wt := ⟨[99], [110], true, [], false, [], false, 10, true, 5⟩
def aw22V : Wt := ⟨[99], [109], true, [], false, [], false, 10, true, 5⟩
end Go.Proofs.YtdhfjhdlimmjhaaGreatDoor

namespace Go.Proofs.YtdhfjhdlimmjhaaGreatDoor
open Go.RowKit
set_option maxRecDepth 100000

def wtC (t : Wt) : List Value := [.string ⟨t.client.toArray⟩, .string ⟨t.nonce.toArray⟩, .bool t.hasN, .string ⟨t.access.toArray⟩, .bool t.hasA, .string ⟨t.code.toArray⟩, .bool t.hasC, .int .i64 t.age, .bool t.hasAge, .int .i64 t.lee]

structure QL (w wx : World) (cs : List Value) (ws : List (Nat × List Value)) : Prop where
  bel : Below w.heap.size w wx
  cl : Bl 27 wx w.heap.size cs
  wt : ∀ p ∈ ws, w.heap.size < p.1 ∧ Bl 30 wx p.1 p.2
theorem QL.below {w wx w' : World} {cs : List Value} {ws : List (Nat × List Value)} (h : QL w wx cs ws) (hb : Below wx.heap.size wx w') : QL w w' cs ws :=
  ⟨h.bel.trans (hb.mono h.bel.size), h.cl.below hb h.cl.lt, fun p hp => ⟨(h.wt p hp).1, (h.wt p hp).2.below hb (h.wt p hp).2.lt⟩⟩
theorem QL.push {w wx : World} {cs : List Value} {ws : List (Nat × List Value)} (h : QL w wx cs ws) (l : List Value) : QL w (wx.alloc (.cells l.toArray 30)) cs ((wx.heap.size, l) :: ws) := by
  have h1 := h.below (alloc_below9 wx (.cells l.toArray 30))
  refine ⟨h1.bel, h1.cl, fun p hp => ?_⟩
  rcases List.mem_cons.1 hp with rfl | hp
  · exact ⟨h.cl.lt, alloc_bl _ _ _⟩
  · exact h1.wt p hp
theorem QL.first (w : World) (cs : List Value) : QL w (w.alloc (.cells cs.toArray 27)) cs [] := ⟨alloc_below9 _ _, alloc_bl _ _ _, fun p hp => by cases hp⟩
theorem QL.set {w wx : World} {cs l l' : List Value} {ws : List (Nat × List Value)} {b : Nat} (h : QL w wx cs ((b, l) :: ws)) (hne : ∀ p ∈ ws, p.1 ≠ b) (j : Nat) (v : Value) (e : l.set j v = l') : QL w (wx.setCell ⟨b, j, none⟩ v) cs ((b, l') :: ws) := by
  have hb := h.wt (b, l) (List.mem_cons_self ..)
  refine ⟨h.bel.setCell (Nat.le_of_lt hb.1) _, bl_setCell h.cl (by have := hb.1; omega), fun p hp => ?_⟩
  rcases List.mem_cons.1 hp with rfl | hp
  · refine ⟨hb.1, ?_⟩
    have := hb.2.set j v
    rw [e] at this
    exact this
  · have h1 := h.wt p (List.mem_cons_of_mem _ hp)
    exact ⟨h1.1, bl_setCell h1.2 (hne p hp)⟩
theorem QL.at {w wx : World} {cs : List Value} {ws : List (Nat × List Value)} (h : QL w wx cs ws) (i : Nat) {b : Nat} {l : List Value} (hi : ws[i]? = some (b, l)) : Bl 30 wx b l := (h.wt (b, l) (List.mem_of_getElem? hi)).2

structure LA (w : World) (c : Cm) (va : Option Addr) (vc : Nat) (aa : Option Addr) (ac : Nat) : Prop where
  nr : NR w (.slice va c.val.length vc) c.val va vc
  tr : TR w (.slice aa c.aud.length ac) c.aud aa ac
  gl : GL w.heap.size w
  tb : Sha.Tb w
  ln : c.val.length ≤ 100000000
  la : c.aud.length ≤ 100000000
  ts : ∀ x ∈ c.val, x.text.length ≤ 100000000 ∧ x.key.length ≤ 100000000
  it : ∀ x ∈ c.val, I64 x.int
theorem LA.below {w w' : World} {c : Cm} {va : Option Addr} {vc : Nat} {aa : Option Addr} {ac : Nat} (h : LA w c va vc aa ac) (hb : Below w.heap.size w w') : LA w' c va vc aa ac :=
  ⟨h.nr.below hb (Nat.le_refl _), h.tr.below hb (Nat.le_refl _), (h.gl.below hb).up hb.size, h.tb.below hb, h.ln, h.la, h.ts, h.it⟩
theorem LA.chk {w : World} {c : Cm} {va : Option Addr} {vc : Nat} {aa : Option Addr} {ac : Nat} (h : LA w c va vc aa ac) (alg : Int) (t : Wt) (now : Int) (h1 : t.access.length ≤ 1000000000) (h2 : t.code.length ≤ 1000000000) (hn : now ≤ 9223372036854775807) :
    Calls Tryz.prog 6 #[.agg (clC (.slice va c.val.length vc) (.slice aa c.aud.length ac) c).toArray, .int .i64 alg, .agg (wtC t).toArray, .int .i64 now] w fun e w' => e = .returned (.int .i64 (checkQ (mkQ c va vc aa ac alg t now))) ∧ Below w.heap.size w w' :=
  chk_any c va vc aa ac alg t now w h.nr h.tr h.gl h.tb (fun n hn => by have := h.ts n hn; omega) (by have := h.ln; omega) (by have := h.la; omega) h.it h1 h2 hn
theorem LA.bey {w : World} {c : Cm} {va : Option Addr} {vc : Nat} {aa : Option Addr} {ac : Nat} (h : LA w c va vc aa ac) : Calls Tryz.prog 4 #[.slice va c.val.length vc] w fun e w' => Below w.heap.size w w' ∧ ∃ b, e = .returned (.bool b) := beyond_any _ c.val va vc w h.nr (by have := h.ln; omega)
theorem LA.shp {w : World} {c : Cm} {va : Option Addr} {vc : Nat} {aa : Option Addr} {ac : Nat} (h : LA w c va vc aa ac) : Calls Tryz.prog 9 #[.slice va c.val.length vc] w fun e w' => e = .returned (.bool (shapedF c.val)) ∧ Below w.heap.size w w' :=
  rshaped_any c.val va vc w h.nr h.ln (fun i hi => by
    have := h.ts (c.val.getD i (nd0 0)) (by rw [List.getD_eq_getElem?_getD, List.getElem?_eq_getElem hi]; exact List.getElem_mem hi)
    omega)

end Go.Proofs.YtdhfjhdlimmjhaaGreatDoor

namespace Go.Proofs.YtdhfjhdlimmjhaaGreatDoor
open Go.RowKit
set_option maxRecDepth 100000

theorem shaped_whole {l : List Nd} (hs : shapedF l = true) {i : Nat} (hi : i < l.length) (hw : (l.getD i (nd0 0)).whole = true) : (l.getD i (nd0 0)).kind = 4 := by
  obtain ⟨d, n, ks, r, pre, post, _, e, hp, hm, _⟩ := (shaped_sq hs).at i hi
  have hn : l.getD i (nd0 0) = n := by
    rw [e, List.getD_eq_getElem?_getD, List.getElem?_append_right (by omega), hp, Nat.sub_self]
    rfl
  rw [hn] at hw ⊢
  exact wm_whole hm hw

def nM (l : List Nd) (k : List UInt8) : Nd := if memF l 0 k < 0 then nd0 0 else l.getD (memF l 0 k).toNat (nd0 0)
theorem nM_Q (q : Qs) (h : q.sh = true) (k : List UInt8) : nQ q k = nM q.c.val k := by unfold nQ nM mQ; rw [if_pos h]
theorem mQ_M (q : Qs) (h : q.sh = true) (k : List UInt8) : mQ q k = memF q.c.val 0 k := by unfold mQ; rw [if_pos h]

def lateF (at_ age lee now : Int) : Bool :=
  let low0 := wrap64 (wrap64 (at_ % 4294967296 + age) + lee)
  let high := wrap64 (at_ / 4294967296 + low0 / 4294967296)
  decide (high < now / 4294967296) || ((now / 4294967296 == high) && decide (low0 % 4294967296 < now % 4294967296))
theorem late_in (at_ age lee now : Int) (h1 : I64 at_) (h2 : 0 ≤ age ∧ age ≤ 2147483648) (h3 : 0 ≤ lee ∧ lee ≤ 600) : lateF at_ age lee now = decide (at_ + age + lee < now) := by
  unfold I64 at h1
  unfold lateF
  have e1 : wrap64 (at_ % 4294967296 + age) = at_ % 4294967296 + age := by unfold wrap64; omega
  have e2 : wrap64 (at_ % 4294967296 + age + lee) = at_ % 4294967296 + age + lee := by unfold wrap64; omega
  have e3 : wrap64 (at_ / 4294967296 + (at_ % 4294967296 + age + lee) / 4294967296) = at_ / 4294967296 + (at_ % 4294967296 + age + lee) / 4294967296 := by unfold wrap64; omega
  simp only [e1, e2, e3]
  by_cases h : at_ + age + lee < now
  · rw [decide_eq_true h]
    by_cases ha : at_ / 4294967296 + (at_ % 4294967296 + age + lee) / 4294967296 < now / 4294967296
    · rw [decide_eq_true ha]; rfl
    · rw [decide_eq_false ha, decide_eq_true (by omega), show (now / 4294967296 == at_ / 4294967296 + (at_ % 4294967296 + age + lee) / 4294967296) = true by rw [beq_iff_eq]; omega]; rfl
  · rw [decide_eq_false h, decide_eq_false (by omega), Bool.false_or]
    by_cases hb : now / 4294967296 = at_ / 4294967296 + (at_ % 4294967296 + age + lee) / 4294967296
    · rw [decide_eq_false (by omega), Bool.and_false]
    · rw [show (now / 4294967296 == at_ / 4294967296 + (at_ % 4294967296 + age + lee) / 4294967296) = false by rw [beq_eq_false_iff_ne]; exact hb]; rfl

end Go.Proofs.YtdhfjhdlimmjhaaGreatDoor
