import Derived.Test.YtpfdaclmchcbiaaGreatDoorQC
import Derived.Test.YtpfdaclmchcbiaaGreatDoorGd
import Derived.Test.YtpfdaclmchcbiaaGreatDoorXZ
namespace Go.Proofs.YtpfdaclmchcbiaaGreatDoor
open Go.RowKit
set_option maxRecDepth 100000

def wtC (t : Wt) : List Value := [.string ⟨t.client.toArray⟩, .string ⟨t.nonce.toArray⟩, .bool t.hasN, .string ⟨t.access.toArray⟩, .bool t.hasA, .string ⟨t.code.toArray⟩, .bool t.hasC, .int .i64 t.age, .bool t.hasAge, .int .i64 t.lee]

structure QL (w wx : World) (cs : List Value) (ws : List (Nat × List Value)) : Prop where
  bel : Below w.heap.size w wx
  cl : Bl 27 wx w.heap.size cs
  wt : ∀ p ∈ ws, w.heap.size < p.1 ∧ Bl 30 wx p.1 p.2
theorem QL.below {w wx w' : World} {cs : List Value} {ws : List (Nat × List Value)} (h : QL w wx cs ws) (hb : Below wx.heap.size wx w') : QL w w' cs ws :=
  ⟨h.bel.trans (hb.mono h.bel.size), h.cl.below hb h.cl.lt, fun p hp => ⟨(h.wt p hp).1, (h.wt p hp).2.below hb (h.wt p hp).2.lt⟩⟩
theorem QL.push {w wx : World} {cs : List Value} {ws : List (Nat × List Value)} (h : QL w wx cs ws) (l : List Value) : QL w (wx.alloc (.cells l.toArray 30)) cs ((wx.heap.size, l) :: ws) := by
  have h1 := h.below (alloc_below9 wx (.cells l.toArray 30))
  refine ⟨h1.bel, h1.cl, fun p hp => ?_⟩
  rcases List.mem_cons.1 hp with rfl | hp
  · exact ⟨h.cl.lt, alloc_bl _ _ _⟩
  · exact h1.wt p hp
theorem QL.first (w : World) (cs : List Value) : QL w (w.alloc (.cells cs.toArray 27)) cs [] := ⟨alloc_below9 _ _, alloc_bl _ _ _, fun p hp => by cases hp⟩
theorem QL.set {w wx : World} {cs l l' : List Value} {ws : List (Nat × List Value)} {b : Nat} (h : QL w wx cs ((b, l) :: ws)) (hne : ∀ p ∈ ws, p.1 ≠ b) (j : Nat) (v : Value) (e : l.set j v = l') : QL w (wx.setCell ⟨b, j, none⟩ v) cs ((b, l') :: ws) := by
  have hb := h.wt (b, l) (List.mem_cons_self ..)
  refine ⟨h.bel.setCell (Nat.le_of_lt hb.1) _, bl_setCell h.cl (by have := hb.1; omega), fun p hp => ?_⟩
  rcases List.mem_cons.1 hp with rfl | hp
  · refine ⟨hb.1, ?_⟩
    have := hb.2.set j v
    rw [e] at this
    exact this
  · have h1 := h.wt p (List.mem_cons_of_mem _ hp)
    exact ⟨h1.1, bl_setCell h1.2 (hne p hp)⟩
theorem QL.at {w wx : World} {cs : List Value} {ws : List (Nat × List Value)} (h : QL w wx cs ws) (i : Nat) {b : Nat} {l : List Value} (hi : ws[i]? = some (b, l)) : Bl 30 wx b l := (h.wt (b, l) (List.mem_of_getElem? hi)).2

structure LA (w : World) (c : Cm) (va : Option Addr) (vc : Nat) (aa : Option Addr) (ac : Nat) : Prop where
  nr : NR w (.slice va c.val.length vc) c.val va vc
  tr : TR w (.slice aa c.aud.length ac) c.aud aa ac
  gl : GL w.heap.size w
  tb : Sha.Tb w
  ln : c.val.length ≤ 100000000
  la : c.aud.length ≤ 100000000
  ts : ∀ x ∈ c.val, x.text.length ≤ 100000000 ∧ x.key.length ≤ 100000000
  it : ∀ x ∈ c.val, I64 x.int
theorem LA.below {w w' : World} {c : Cm} {va : Option Addr} {vc : Nat} {aa : Option Addr} {ac : Nat} (h : LA w c va vc aa ac) (hb : Below w.heap.size w w') : LA w' c va vc aa ac :=
  ⟨h.nr.below hb (Nat.le_refl _), h.tr.below hb (Nat.le_refl _), (h.gl.below hb).up hb.size, h.tb.below hb, h.ln, h.la, h.ts, h.it⟩
theorem LA.chk {w : World} {c : Cm} {va : Option Addr} {vc : Nat} {aa : Option Addr} {ac : Nat} (h : LA w c va vc aa ac) (alg : Int) (t : Wt) (now : Int) (h1 : t.access.length ≤ 1000000000) (h2 : t.code.length ≤ 1000000000) (hn : now ≤ 9223372036854775807) :
    Calls Tryz.prog 10 #[.agg (clC (.slice va c.val.length vc) (.slice aa c.aud.length ac) c).toArray, .int .i64 alg, .agg (wtC t).toArray, .int .i64 now] w fun e w' => e = .returned (.int .i64 (checkQ (mkQ c va vc aa ac alg t now))) ∧ Below w.heap.size w w' :=
  chk_any c va vc aa ac alg t now w h.nr h.tr h.gl h.tb (fun n hn => by have := h.ts n hn; omega) (by have := h.ln; omega) (by have := h.la; omega) h.it h1 h2 hn
theorem LA.awk {w : World} {c : Cm} {va : Option Addr} {vc : Nat} {aa : Option Addr} {ac : Nat} (h : LA w c va vc aa ac) : Calls Tryz.prog 15 #[] w fun e w' => e = .returned (.bool true) ∧ Below w.heap.size w w' := awake22_any w h.gl h.tb
theorem LA.bey {w : World} {c : Cm} {va : Option Addr} {vc : Nat} {aa : Option Addr} {ac : Nat} (h : LA w c va vc aa ac) : Calls Tryz.prog 8 #[.slice va c.val.length vc] w fun e w' => Below w.heap.size w w' ∧ ∃ b, e = .returned (.bool b) := beyond_any _ c.val va vc w h.nr (by have := h.ln; omega)
theorem LA.shp {w : World} {c : Cm} {va : Option Addr} {vc : Nat} {aa : Option Addr} {ac : Nat} (h : LA w c va vc aa ac) : Calls Tryz.prog 13 #[.slice va c.val.length vc] w fun e w' => e = .returned (.bool (shapedF c.val)) ∧ Below w.heap.size w w' :=
  rshaped_any c.val va vc w h.nr h.ln (fun i hi => by
    have := h.ts (c.val.getD i (nd0 0)) (by rw [List.getD_eq_getElem?_getD, List.getElem?_eq_getElem hi]; exact List.getElem_mem hi)
    omega)

end Go.Proofs.YtpfdaclmchcbiaaGreatDoor
