import Derived.Test.YtglnhlmacngdpaaDoorHZ
import Derived.Test.YtglnhlmacngdpaaDoorTZ
import Derived.Test.YtglnhlmacngdpaaDoorWZ
import Derived.Test.YtglnhlmacngdpaaDoorYZ
import Derived.Laws.Tables
import Derived.Deep.AppendLies
import Derived.Laws.AppendOwnNone
import Derived.Deep.MidRow
namespace Go.Proofs.YtglnhlmacngdpaaDoor
open Go.RowKit

theorem Alg.but {w w' : World} {b : Nat} (h : Alg w) (hb : But w w' b) (hne : b ≠ 0) : Alg w' := fun j v hv => cell_but (h j v hv) fun _ => hb.block _ h.lt (fun e => hne e.symm)
end Go.Proofs.YtglnhlmacngdpaaDoor

namespace Go.Proofs.YtglnhlmacngdpaaDoor
open Go.RowKit

/-- How long a member is, written. -/
def lnN (n : Nd) : Nat := (quoS n.key).length + 1 + (quoS n.text).length
end Go.Proofs.YtglnhlmacngdpaaDoor

namespace Go.Proofs.YtglnhlmacngdpaaDoor
open Go.RowKit

def hdC (h : Hd) : List Value := [.int .i64 h.alg, .string ⟨h.kid.toArray⟩, .string ⟨h.typ.toArray⟩, .bool h.has]
end Go.Proofs.YtglnhlmacngdpaaDoor

namespace Go.Proofs.YtglnhlmacngdpaaDoor
open Go.RowKit Go.Shelf

theorem append_nd2 {wr : World} {ops : Array Oper} {rest : List Oper} {o : Oper} {a : Act} {Q : Exit → Act → World → Prop} (hgd : o.guard = none) (s x : Operand)
    (ho : o.op = .call { callee := .builtin .append, args := #[s, x], argTypes := #[32, 32] })
    (B : Nat) (v : Value) (l : List Nd) (y : Nd) (hs : a.eval s = v) (h : NO B wr v l) (bn : Nat) (hbn : bn = wr.heap.size) (hx : a.eval x = .slice (some ⟨bn, 0, none⟩) 1 1) (hl : l.length ≤ 1000000000) (hB : B ≤ wr.heap.size)
    (k : ∀ g cap w', NO B w' (.slice (some ⟨g, 0, none⟩) (l.length + 1) cap) (l ++ [y]) → (wr.alloc (.cells (nC y).toArray 36)).grownBy w' v.ownBlock → (v.ownBlock = some g ∨ wr.heap.size ≤ g) → wpList Tryd.prog ops Q rest (a.put o.dst (.slice (some ⟨g, 0, none⟩) (l.length + 1) cap)) w') : wpList Tryd.prog ops Q (o :: rest) a (wr.alloc (.cells (nC y).toArray 36)) := by
  subst hbn
  obtain ⟨i, hi, hz, hsize, hby⟩ := info_parts infoN
  have hBl : Bl 36 (wr.alloc (.cells (nC y).toArray 36)) wr.heap.size (nC y) := alloc_bl _ _ _
  have h1 : NO B (wr.alloc (.cells (nC y).toArray 36)) v l := World.ownsRow.alloc h _
  have hsz := alloc_size wr (.cells (nC y).toArray 36)
  refine wpList_append_lies _ hgd s x 32 ho B 36 i (.agg #[.int .i64 0, .string ⟨#[]⟩, .string ⟨#[]⟩, .bool false, .int .i64 0, .int .i64 0]) 6 64 Tryd.underlying32 hi hz hsize hby rfl (by decide) v l.length (nCs l) hs h1 ⟨wr.heap.size, 0, none⟩ 1 1 (nC y) hx rfl ?_ (by intro u hu; simp only [nC, List.mem_cons, List.not_mem_nil, or_false] at hu; rcases hu with rfl | rfl | rfl | rfl | rfl | rfl <;> rfl) (by decide) (by unfold maxLen; omega) (by omega) (by omega) _ rfl ?_
  · intro j u hu
    obtain ⟨hlt, e⟩ := List.getElem?_eq_some_iff.1 hu
    rw [Addr.add_mid, Nat.zero_add, ← e]
    exact hBl.cell j hlt
  · intro g cap w' h2 h3 h4 _
    refine k g cap w' ?_ h3 ?_
    · unfold NO
      rw [List.length_append, nCs_append, nCs_one]
      exact h2
    · rcases h4 with h4 | h4
      · exact .inl h4
      · exact .inr (by omega)

/-- A text's node as a value. -/
def tnV (k l : List UInt8) : Value := .agg #[.int .i64 5, .string ⟨k.toArray⟩, .string ⟨l.toArray⟩, .bool false, .int .i64 0, .int .i64 0]
theorem results_nd {fn : Func} {p : Tmp} (h : fn.results = #[.cell p 36]) (tmps : Array Value) (w : World) (b : Nat) (n : Nd) (hp : tmps.getD p undef = .pointer (some ⟨b, 0, none⟩)) (hb : Bl 36 w b (nC n)) :
    (results fn tmps).run Tryd.prog w = .ok (.agg (nC n).toArray) w := by
  have hr : (loadVar 36 ⟨b, 0, none⟩).run Tryd.prog w = .ok (.agg (nC n).toArray) w := by
    refine run_loadVar_mid w b 0 36 (nC n) _ ?_ Tryd.underlying36 rfl (by kernel_rfl)
    intro j v hv
    obtain ⟨hj, e⟩ := List.getElem?_eq_some_iff.1 hv
    rw [Nat.zero_add, ← e]
    exact hb.cell j hj
  rw [results_cell h, hp]
  unfold asAddr
  simp only [Sem.run_pure, Result.andThen_ok]
  exact hr

theorem own_len {B : Nat} {w : World} {g n cap : Nat} {l : List Nd} (h : NO B w (.slice (some ⟨g, 0, none⟩) n cap) l) : l.length ≤ cap := by
  obtain ⟨a, c, e, hc, _⟩ := own_slice h
  cases e
  exact hc
theorem fin_below {nb g cap : Nat} {w w9 w10 : World} {l : List Nd} {y : Nd} {u : Value} (h9 : Below w.heap.size w w9) (hn : NO nb w9 (.slice (some ⟨nb, 0, none⟩) l.length cap) l) (hg : (w9.alloc (.cells (nC y).toArray 36)).grownBy w10 (Value.ownBlock (.slice (some ⟨nb, 0, none⟩) l.length cap)))
    (hgg : Value.ownBlock (.slice (some ⟨nb, 0, none⟩) l.length cap) = some g ∨ w9.heap.size ≤ g) (hL : w.heap.size < nb) (hs : nb ≤ w9.heap.size) : Below w.heap.size w (w10.setCell ⟨g, 5, none⟩ u) := by
  have h1 : Below w.heap.size w (w9.alloc (.cells (nC y).toArray 36)) := h9.trans ((alloc_below _ _).mono (by omega))
  have h2 : Below nb (w9.alloc (.cells (nC y).toArray 36)) w10 := Below.grown (Below.refl _ _) hg (by rw [alloc_size]; omega) (own_block (World.ownsRow.alloc hn (.cells (nC y).toArray 36)))
  refine Below.setCell (h1.trans (h2.mono (Nat.le_of_lt hL))) ?_ _
  rcases hgg with e | e
  · have : nb = g := Option.some.inj e
    show w.heap.size ≤ g
    omega
  · show w.heap.size ≤ g
    omega
theorem wr_len (h : Hd) : (wrF h).length ≤ 1000000000 := by
  unfold wrF
  cases h.has <;> simp
theorem wr_tb {h : Hd} (hk : h.kid.length ≤ 1073741824) (ht : h.typ.length ≤ 1073741824) : TB (wrF h) := by
  have hn : (nameF' h.alg).length ≤ 1073741824 := by
    unfold nameF'
    split
    · have : ∀ k, k < 13 → (algN k).length ≤ 5 := by decide
      have := this h.alg.toNat (by omega)
      omega
    · simp
  unfold TB wrF
  cases h.has <;> simp <;> omega

set_option maxRecDepth 100000 in
theorem textNode_any (k l : List UInt8) (w : World) : Calls Tryd.prog 16 #[.string ⟨k.toArray⟩, .string ⟨l.toArray⟩] w fun e w' => e = .returned (tnV k l) ∧ Below w.heap.size w w' := by
  have HB : Hid (Below w.heap.size w (w.alloc (.cells (nC ⟨5, k, l, false, 0, 0⟩).toArray 36))) := alloc_below _ _
  have HBl : Hid (Bl 36 (w.alloc (.cells (nC ⟨5, k, l, false, 0, 0⟩).toArray 36)) w.heap.size (nC ⟨5, k, l, false, 0, 0⟩)) := alloc_bl _ _ _
  go_enter Tryd.func16, Tryd.ntmps16
  go_wp2
  (try simp only [Exit.inBlock, Exit.then])
  exact bodyPost_ret (v := tnV k l) (results_nd rfl _ _ w.heap.size ⟨5, k, l, false, 0, 0⟩ rfl HBl.out) rfl ⟨rfl, HB.out⟩

set_option maxRecDepth 100000 in
set_option maxHeartbeats 8000000 in
theorem written_any (h : Hd) (w : World) (hA : Alg w) :
    Calls Tryd.prog 9 #[hdV h] w fun e w' => Below w.heap.size w w' ∧ ∃ v, e = .returned v ∧ ∃ ao cap, NR w' v (wrF h) ao cap := by
  unfold hdV
  obtain ⟨alg, kid, typ, has⟩ := h
  dsimp only
  obtain ⟨W, hW⟩ : ∃ W : World, W = w.alloc (.cells #[.int .i64 alg, .string ⟨kid.toArray⟩, .string ⟨typ.toArray⟩, .bool has] 24) := ⟨_, rfl⟩
  have hB : Below w.heap.size w W := by rw [hW]; exact alloc_below _ _
  have hBl : Bl 24 W w.heap.size [.int .i64 alg, .string ⟨kid.toArray⟩, .string ⟨typ.toArray⟩, .bool has] := by rw [hW]; exact alloc_bl _ _ _
  have HS : Hid (w.heap.size < W.heap.size) := hBl.lt
  have HBq : Hid (∀ wq, Below W.heap.size W wq → Bl 24 wq w.heap.size [.int .i64 alg, .string ⟨kid.toArray⟩, .string ⟨typ.toArray⟩, .bool has]) := fun wq hq => hBl.below hq HS.out
  have HSS : Hid (∀ wq, Below W.heap.size W wq → (fun (w' : World) => w'.cell? ⟨w.heap.size, 0, none⟩ = some (.int .i64 alg) ∧ w'.cell? ⟨w.heap.size, 1, none⟩ = some (.string ⟨kid.toArray⟩)) wq) := fun wq hq => ⟨(HBq.out wq hq).cell 0 (by simp), (HBq.out wq hq).cell 1 (by simp)⟩
  have HAq : Hid (∀ wq, Below W.heap.size W wq → Alg wq) := fun wq hq => (hA.bel hB (Nat.le_refl _)).bel hq (Nat.le_refl _)
  have HB : Hid (Below w.heap.size w W) := hB
  clear hA hB hBl
  go_enter Tryd.func9, Tryd.ntmps9
  go_wp2
  rw [← hW]
  clear hW
  refine wp_region_K 8 (fun (w' : World) => w'.cell? ⟨w.heap.size, 0, none⟩ = some (.int .i64 alg) ∧ w'.cell? ⟨w.heap.size, 1, none⟩ = some (.string ⟨kid.toArray⟩)) (by kernel_rfl) ?_
  have hHeld : ((fun (w' : World) => w'.cell? ⟨w.heap.size, 0, none⟩ = some (.int .i64 alg) ∧ w'.cell? ⟨w.heap.size, 1, none⟩ = some (.string ⟨kid.toArray⟩))) (World.drew _) := HSS.out _ (below_drewN (Below.refl _ _) 1)
  refine wpAnyK_take0 0 (v := ?v1) rfl (by kernel_rfl) (fun _ _ _ h => h) (Or.inl ⟨by rfl, ?hy1⟩) (fun _ => hHeld) ?_
  case hy1 => (intro w hSw; go_simp; try with_reducible rfl)
  try simp only [Act.put, List.setIfInBounds_toArray, List.set_cons_zero, List.set_cons_succ]
  refine wpAnyK_take0 1 (v := ?v2) rfl (by kernel_rfl) (fun _ _ _ h => h) (Or.inl ⟨by rfl, ?hy2⟩) (fun _ => hHeld) ?_
  case hy2 => (intro w hSw; go_simp; try with_reducible rfl)
  try simp only [Act.put, List.setIfInBounds_toArray, List.set_cons_zero, List.set_cons_succ]
  refine wpAnyK_take 2 [3, 4, 8] (v := ?v3) rfl (by kernel_rfl) (fun _ _ _ h => h) (Or.inl ⟨by rfl, ?hy3⟩) hHeld ?_
  case hy3 => (intro w hSw; (try dsimp only at hSw); go_simp; try with_reducible rfl)
  try simp only [Act.put, List.setIfInBounds_toArray, List.set_cons_zero, List.set_cons_succ]
  refine wpAnyK_take0 5 (v := ?v4) rfl (by kernel_rfl) (fun _ _ _ h => h) (Or.inl ⟨by rfl, ?hy4⟩) (fun _ => hHeld) ?_
  case hy4 => (intro w hSw; go_simp; try with_reducible rfl)
  try simp only [Act.put, List.setIfInBounds_toArray, List.set_cons_zero, List.set_cons_succ]
  refine wpAnyK_take 6 [7, 8] (v := ?v5) rfl (by kernel_rfl) (fun _ _ _ h => h) (Or.inl ⟨by rfl, ?hy5⟩) hHeld ?_
  case hy5 => (intro w hSw; (try dsimp only at hSw); go_simp; try with_reducible rfl)
  try simp only [Act.put, List.setIfInBounds_toArray, List.set_cons_zero, List.set_cons_succ]
  refine wpAnyK_step 3 rfl (by kernel_rfl) (fun K hK => ?_)
  go_simp
  refine (kname_any alg _ (HAq.out _ (below_drewN (Below.refl _ _) 1))).mono ?_
  rintro e w3 ⟨rfl, rfl⟩
  dsimp only
  refine hK.out _ _ ?hk6 ?_
  case hk6 => exact fun _ => HSS.out _ (below_drewN (Below.refl _ _) 1)
  have hHeld : ((fun (w' : World) => w'.cell? ⟨w.heap.size, 0, none⟩ = some (.int .i64 alg) ∧ w'.cell? ⟨w.heap.size, 1, none⟩ = some (.string ⟨kid.toArray⟩))) _ := HSS.out _ (below_drewN (Below.refl _ _) 1)
  clear hK K
  try simp only [Act.put, List.setIfInBounds_toArray, List.set_cons_zero, List.set_cons_succ]
  refine wpAnyK_step 4 rfl (by kernel_rfl) (fun K hK => ?_)
  go_simp
  refine (textNode_any kA (nameF' alg) _).mono ?_
  rintro e w4 ⟨rfl, hB4⟩
  unfold tnV
  have HB4 : Hid (Below W.heap.size W w4) := (below_drewN (Below.refl _ _) 1).trans (hB4.mono (Nat.le_refl _))
  clear hB4
  dsimp only
  refine hK.out _ _ ?hk7 ?_
  case hk7 => exact fun _ => HSS.out _ HB4.out
  have hHeld : ((fun (w' : World) => w'.cell? ⟨w.heap.size, 0, none⟩ = some (.int .i64 alg) ∧ w'.cell? ⟨w.heap.size, 1, none⟩ = some (.string ⟨kid.toArray⟩))) _ := HSS.out _ HB4.out
  clear hK K
  try simp only [Act.put, List.setIfInBounds_toArray, List.set_cons_zero, List.set_cons_succ]
  refine wpAnyK_step 7 rfl (by kernel_rfl) (fun K hK => ?_)
  go_simp
  refine (textNode_any kK kid _).mono ?_
  rintro e w7 ⟨rfl, hB7⟩
  unfold tnV
  have HB7 : Hid (Below W.heap.size W w7) := HB4.out.trans (hB7.mono HB4.out.size)
  clear hB7
  dsimp only
  refine hK.out _ _ ?hk8 ?_
  case hk8 => exact fun _ => HSS.out _ HB7.out
  have hHeld : ((fun (w' : World) => w'.cell? ⟨w.heap.size, 0, none⟩ = some (.int .i64 alg) ∧ w'.cell? ⟨w.heap.size, 1, none⟩ = some (.string ⟨kid.toArray⟩))) _ := HSS.out _ HB7.out
  clear hK K
  try simp only [Act.put, List.setIfInBounds_toArray, List.set_cons_zero, List.set_cons_succ]
  refine wpAnyK_step 8 rfl (by kernel_rfl) (fun K hK => ?_)
  go_simp
  refine hK.out _ _ ?hk9 ?_
  case hk9 => exact (fun h => nomatch (h.symm.trans (show _ = true by kernel_rfl)))
  clear hK K
  try simp only [Act.put, List.setIfInBounds_toArray, List.set_cons_zero, List.set_cons_succ]
  refine wpAnyK_take0 9 (v := ?v10) rfl (by kernel_rfl) (fun _ _ _ h => h) (Or.inl ⟨by rfl, ?hy10⟩) (fun h => nomatch (h.symm.trans (show _ = true by kernel_rfl))) ?_
  case hy10 => (intro w hSw; go_simp; try with_reducible rfl)
  try simp only [Act.put, List.setIfInBounds_toArray, List.set_cons_zero, List.set_cons_succ]
  refine wpAnyK_done (by kernel_rfl) ?_ _
  have hL : w.heap.size < w7.heap.size := Nat.lt_of_lt_of_le HS.out HB7.out.size
  have HB7' : Hid (Below w.heap.size w w7) := HB.out.trans (HB7.out.mono (Nat.le_of_lt HS.out))
  have HX7 : Hid (Bl 24 w7 w.heap.size [.int .i64 alg, .string ⟨kid.toArray⟩, .string ⟨typ.toArray⟩, .bool has]) := HBq.out w7 HB7.out
  clear HSS HAq HB7 HB4 HBq HB HS
  obtain ⟨nb, hnb⟩ : ∃ nb, w7.heap.size = nb := ⟨_, rfl⟩
  obtain ⟨w8, hw8⟩ : ∃ w8 : World, w7.alloc (.cells (nCs [⟨7, [], [], false, 0, 0⟩, ⟨5, kA, nameF' alg, false, 0, 0⟩, ⟨5, kK, kid, false, 0, 0⟩]).toArray 36) = w8 := ⟨_, rfl⟩
  rw [show w7.alloc (Obj.cells #[Value.int .i64 7, .string ⟨#[]⟩, .string ⟨#[]⟩, .bool false, .int .i64 0, .int .i64 0, .int .i64 5, .string ⟨kA.toArray⟩, .string ⟨(nameF' alg).toArray⟩, .bool false, .int .i64 0, .int .i64 0, .int .i64 5, .string ⟨kK.toArray⟩, .string ⟨kid.toArray⟩, .bool false, .int .i64 0, .int .i64 0] 36) = w8 from hw8]
  have hNO : NO nb w8 (.slice (some ⟨nb, 0, none⟩) 3 3) [⟨7, [], [], false, 0, 0⟩, ⟨5, kA, nameF' alg, false, 0, 0⟩, ⟨5, kK, kid, false, 0, 0⟩] := by
    rw [← hw8, ← hnb]
    exact World.ownsRow_lit w7 (nCs [⟨7, [], [], false, 0, 0⟩, ⟨5, kA, nameF' alg, false, 0, 0⟩, ⟨5, kK, kid, false, 0, 0⟩]).toArray 3 (Nat.le_refl _) (by unfold maxLen; omega) rfl
  have hB8 : Below w7.heap.size w7 w8 := by rw [← hw8]; exact alloc_below _ _
  have HB8 : Hid (Below w.heap.size w w8) := HB7'.out.trans (hB8.mono (Nat.le_of_lt hL))
  have HX8 : Hid (Bl 24 w8 w.heap.size [.int .i64 alg, .string ⟨kid.toArray⟩, .string ⟨typ.toArray⟩, .bool has]) := HX7.out.below hB8 hL
  have HNO : Hid (NO nb w8 (.slice (some ⟨nb, 0, none⟩) 3 3) [⟨7, [], [], false, 0, 0⟩, ⟨5, kA, nameF' alg, false, 0, 0⟩, ⟨5, kK, kid, false, 0, 0⟩]) := hNO
  have c3 : w8.cell? ⟨w.heap.size, 3, none⟩ = some (.bool has) := HX8.out.cell 3 (by simp)
  have c2 : w8.cell? ⟨w.heap.size, 2, none⟩ = some (.string ⟨typ.toArray⟩) := HX8.out.cell 2 (by simp)
  have hNb : nb < w8.heap.size := (World.ownsRow.lt hNO nb rfl).2
  rw [hnb] at hL hB8 ⊢
  have HL : Hid (w.heap.size < nb) := hL
  clear hw8 hNO hB8 hL HB7' HX7 hnb
  cases has
  · have k5 : w8.cell? ⟨nb, 5, none⟩ = some (.int .i64 0) := (own_cell HNO.out 5 _ rfl).1
    have f5 : w8.frozen? ⟨nb, 5, none⟩ = false := (own_cell HNO.out 5 _ rfl).2
    have hst := World.ownsRow.stored HNO.out 5 (.int .i64 2)
    have HF : Hid (NO nb (w8.setCell ⟨nb, 5, none⟩ (.int .i64 2)) (.slice (some ⟨nb, 0, none⟩) 3 3) (wrF ⟨alg, kid, typ, false⟩)) := hst.1
    have HBF : Hid (Below w.heap.size w (w8.setCell ⟨nb, 5, none⟩ (.int .i64 2))) := Below.setCell HB8.out (Nat.le_of_lt HL.out) _
    clear hst
    go_wp2
    go_ret
    obtain ⟨ao, cap, hN⟩ := HF.out.nr
    exact ⟨HBF.out, _, rfl, ao, cap, hN⟩
  · have CT := textNode_any kT typ w8
    go_wp2_with fail
    refine CT.mono ?_
    clear CT
    rintro e w9 ⟨rfl, hB9⟩
    unfold tnV
    have HN9 : Hid (NO nb w9 (.slice (some ⟨nb, 0, none⟩) 3 3) [⟨7, [], [], false, 0, 0⟩, ⟨5, kA, nameF' alg, false, 0, 0⟩, ⟨5, kK, kid, false, 0, 0⟩]) := own_below HNO.out hB9 (Nat.le_refl _)
    have hs9 : nb ≤ w9.heap.size := Nat.le_of_lt (Nat.lt_of_lt_of_le hNb hB9.size)
    have HB9 : Hid (Below w.heap.size w w9) := HB8.out.trans (hB9.mono HB8.out.size)
    clear hB9 HNO HB8 c2 c3 HX8
    go_wp2_with (at_builtin; refine append_nd2 (wr := w9) rfl (.tmp 15) (.tmp 19) rfl nb (.slice (some ⟨nb, 0, none⟩) 3 3) [⟨7, [], [], false, 0, 0⟩, ⟨5, kA, nameF' alg, false, 0, 0⟩, ⟨5, kK, kid, false, 0, 0⟩] ⟨5, kT, typ, false, 0, 0⟩ rfl HN9.out w9.heap.size rfl rfl (show 3 ≤ 1000000000 by decide) hs9 ?_; intro g cap w10 hno hgr hgg; have k5 : w10.cell? ⟨g, 5, none⟩ = some (.int .i64 0) := (own_cell hno 5 _ rfl).1; have f5 : w10.frozen? ⟨g, 5, none⟩ = false := (own_cell hno 5 _ rfl).2; have hcp : 4 ≤ cap := own_len hno; have HF : Hid (NO nb (w10.setCell ⟨g, 5, none⟩ (.int .i64 3)) (.slice (some ⟨g, 0, none⟩) 4 cap) (wrF ⟨alg, kid, typ, true⟩)) := (World.ownsRow.stored hno 5 (.int .i64 3)).1; have HBF : Hid (Below w.heap.size w (w10.setCell ⟨g, 5, none⟩ (.int .i64 3))) := fin_below HB9.out HN9.out hgr hgg HL.out hs9; clear hno hgr hgg)
    go_ret
    obtain ⟨ao, cap', hN⟩ := HF.out.nr
    exact ⟨HBF.out, _, rfl, ao, cap', hN⟩

set_option maxRecDepth 100000 in
set_option maxHeartbeats 8000000 in
theorem hprint_any (h : Hd) (w : World) (hG : GL w.heap.size w) (hA : Alg w) (hk : h.kid.length ≤ 1073741824) (ht : h.typ.length ≤ 1073741824) :
    Calls Tryd.prog 4 #[hdV h] w fun e w' => e = .returned (.tuple #[.string ⟨(hprintF h).1.toArray⟩, .int .i64 ((hprintF h).2 : Nat)]) ∧ Below w.heap.size w w' := by
  have HWr : Hid (∀ wq, Alg wq → Calls Tryd.prog 9 #[hdV h] wq fun e w' => Below wq.heap.size wq w' ∧ ∃ v, e = .returned v ∧ ∃ ao cap, NR w' v (wrF h) ao cap) := fun wq hq => written_any h wq hq
  have HTB : Hid (TB (wrF h)) := wr_tb hk ht
  have HLn : Hid ((wrF h).length ≤ 1000000000) := wr_len h
  have HFd : Hid (hprintF h = if nameF' h.alg = [] then ([], 111) else if Lib.validD h.kid = false ∨ (h.has = true ∧ Lib.validD h.typ = false) then ([], 110) else printF (wrF h)) := rfl
  generalize hprintF h = R at *
  unfold hdV at HWr ⊢
  generalize wrF h = V at *
  obtain ⟨alg, kid, typ, has⟩ := h
  dsimp only at *
  obtain ⟨W, hW⟩ : ∃ W : World, W = w.alloc (.cells #[.int .i64 alg, .string ⟨kid.toArray⟩, .string ⟨typ.toArray⟩, .bool has] 24) := ⟨_, rfl⟩
  have hB : Below w.heap.size w W := by rw [hW]; exact alloc_below _ _
  have hBl : Bl 24 W w.heap.size [.int .i64 alg, .string ⟨kid.toArray⟩, .string ⟨typ.toArray⟩, .bool has] := by rw [hW]; exact alloc_bl _ _ _
  have HS : Hid (w.heap.size < W.heap.size) := hBl.lt
  have HBq : Hid (∀ wq, Below W.heap.size W wq → Bl 24 wq w.heap.size [.int .i64 alg, .string ⟨kid.toArray⟩, .string ⟨typ.toArray⟩, .bool has]) := fun wq hq => hBl.below hq HS.out
  have HAq : Hid (∀ wq, Below W.heap.size W wq → Alg wq) := fun wq hq => (hA.bel hB (Nat.le_refl _)).bel hq (Nat.le_refl _)
  have HGq : Hid (∀ wq, Below W.heap.size W wq → GL wq.heap.size wq) := fun wq hq => ((hG.below hB).below (hq.mono (Nat.le_of_lt HS.out))).up (Nat.le_trans (Nat.le_of_lt HS.out) hq.size)
  have HB : Hid (∀ wq, Below W.heap.size W wq → Below w.heap.size w wq) := fun wq hq => hB.trans (hq.mono (Nat.le_of_lt HS.out))
  have a0 : W.cell? ⟨w.heap.size, 0, none⟩ = some (.int .i64 alg) := hBl.cell 0 (by simp)
  have a1 : W.cell? ⟨w.heap.size, 1, none⟩ = some (.string ⟨kid.toArray⟩) := hBl.cell 1 (by simp)
  have CN := kname_any alg W (HAq.out W (Below.refl _ _))
  have CV := validString_any kid W hk (HGq.out W (Below.refl _ _)).u8
  clear hA hG hB hBl
  by_cases hn : nameF' alg = []
  · have HR : Hid (R = ([], 111)) := by show _ = _; rw [HFd.out, if_pos hn]
    rw [hn] at CN
    clear CV hn HFd HWr
    go_enter Tryd.func4, Tryd.ntmps4
    go_wp2_with fail
    rw [← hW]
    clear hW
    refine CN.mono ?_
    clear CN
    rintro e w1 ⟨rfl, hw1⟩
    obtain rfl := hw1.symm
    go_wp2
    go_ret2
    rw [HR.out]
    exact ⟨rfl, HB.out _ (Below.refl _ _)⟩
  · have qn : (nameF' alg == ([] : List UInt8)) = false := by simpa using hn
    have HR : Hid (R = if Lib.validD kid = false ∨ (has = true ∧ Lib.validD typ = false) then ([], 110) else printF V) := by show _ = _; rw [HFd.out, if_neg hn]
    generalize nameF' alg = nm at *
    clear HFd hn
    cases hv : Lib.validD kid
    · rw [hv] at CV
      have HX : Hid (R = ([], 110)) := by show _ = _; rw [HR.out, if_pos (Or.inl hv)]
      clear HR hv HWr
      go_enter Tryd.func4, Tryd.ntmps4
      go_wp2_with fail
      rw [← hW]
      clear hW
      refine CN.mono ?_
      clear CN
      rintro e w1 ⟨rfl, hw1⟩
      obtain rfl := hw1.symm
      go_wp2_with fail
      refine CV.mono ?_
      clear CV
      rintro e w2 ⟨rfl, hB2⟩
      go_wp2
      go_ret2
      rw [HX.out]
      exact ⟨rfl, HB.out _ hB2⟩
    · rw [hv] at CV
      cases has
      · have HX : Hid (R = printF V) := by
          show _ = _
          rw [HR.out, if_neg]
          rintro (h | h)
          · rw [hv] at h; cases h
          · cases h.1
        clear HR hv
        go_enter Tryd.func4, Tryd.ntmps4
        go_wp2_with fail
        rw [← hW]
        clear hW
        refine CN.mono ?_
        clear CN
        rintro e w1 ⟨rfl, hw1⟩
        obtain rfl := hw1.symm
        go_wp2_with fail
        refine CV.mono ?_
        clear CV
        rintro e w2 ⟨rfl, hB2⟩
        have d3 : w2.cell? ⟨w.heap.size, 3, none⟩ = some (.bool false) := (HBq.out w2 hB2).cell 3 (by simp)
        have HRg : Hid (w2.rangeAt w.heap.size 0 [.int .i64 alg, .string ⟨kid.toArray⟩, .string ⟨typ.toArray⟩, .bool false]) := fun j v hv => by
          obtain ⟨hj, e⟩ := List.getElem?_eq_some_iff.1 hv
          rw [Nat.zero_add, ← e]
          exact (HBq.out w2 hB2).cell j hj
        have hcl : (Tryd.prog.info? 24).map (·.size) = some ([.int .i64 alg, .string ⟨kid.toArray⟩, .string ⟨typ.toArray⟩, .bool false] : List Value).length := by kernel_rfl
        have CW := HWr.out w2 (HAq.out w2 hB2)
        have HB9 : Hid (Below W.heap.size W w2) := hB2
        clear hB2 HWr HAq
        go_wp2_with (refine wpList_load_mid rfl 24 (.tmp 1) rfl w.heap.size 0 rfl [.int .i64 alg, .string ⟨kid.toArray⟩, .string ⟨typ.toArray⟩, .bool false] _ HRg.out Tryd.underlying24 rfl hcl ?_)
        refine CW.mono ?_
        clear CW
        rintro e w7 ⟨hB7, v, rfl, ao, cap, hN⟩
        have hB7' : Below W.heap.size W w7 := HB9.out.trans (hB7.mono HB9.out.size)
        have CP := print_any v V ao cap w7 hN (HGq.out w7 hB7') HTB.out HLn.out
        have HB7 : Hid (Below w.heap.size w w7) := HB.out w7 hB7'
        clear hB7 hB7' hN
        go_wp2_with fail
        refine CP.mono ?_
        clear CP
        rintro e w8 ⟨rfl, hB8⟩
        have HB8 : Hid (Below w.heap.size w w8) := HB7.out.trans (hB8.mono HB7.out.size)
        clear hB8
        go_wp2
        go_ret2
        rw [HX.out]
        exact ⟨rfl, HB8.out⟩
      · have HR2 : Hid (R = if Lib.validD typ = false then ([], 110) else printF V) := by
          show _ = _
          rw [HR.out]
          cases hx : Lib.validD typ <;> simp [hv]
        clear HR hv
        go_enter Tryd.func4, Tryd.ntmps4
        go_wp2_with fail
        rw [← hW]
        clear hW
        refine CN.mono ?_
        clear CN
        rintro e w1 ⟨rfl, hw1⟩
        obtain rfl := hw1.symm
        go_wp2_with fail
        refine CV.mono ?_
        clear CV
        rintro e w2 ⟨rfl, hB2⟩
        have d3 : w2.cell? ⟨w.heap.size, 3, none⟩ = some (.bool true) := (HBq.out w2 hB2).cell 3 (by simp)
        have d2 : w2.cell? ⟨w.heap.size, 2, none⟩ = some (.string ⟨typ.toArray⟩) := (HBq.out w2 hB2).cell 2 (by simp)
        have CV2 := validString_any typ w2 ht (HGq.out w2 hB2).u8
        cases hv : Lib.validD typ
        · rw [hv] at CV2
          have HX : Hid (R = ([], 110)) := by show _ = _; rw [HR2.out, if_pos hv]
          clear HR2 hv HWr
          go_wp2_with fail
          refine CV2.mono ?_
          clear CV2
          rintro e w3 ⟨rfl, hB3⟩
          go_wp2
          go_ret2
          rw [HX.out]
          exact ⟨rfl, HB.out _ (hB2.trans (hB3.mono hB2.size))⟩
        · rw [hv] at CV2
          have HX : Hid (R = printF V) := by show _ = _; rw [HR2.out, if_neg (by rw [hv]; decide)]
          clear HR2 hv
          go_wp2_with fail
          refine CV2.mono ?_
          clear CV2
          rintro e w3 ⟨rfl, hB3⟩
          have hB3' : Below W.heap.size W w3 := hB2.trans (hB3.mono hB2.size)
          clear hB3 hB2
          have HRg : Hid (w3.rangeAt w.heap.size 0 [.int .i64 alg, .string ⟨kid.toArray⟩, .string ⟨typ.toArray⟩, .bool true]) := fun j v hv => by
            obtain ⟨hj, e⟩ := List.getElem?_eq_some_iff.1 hv
            rw [Nat.zero_add, ← e]
            exact (HBq.out w3 hB3').cell j hj
          have hcl : (Tryd.prog.info? 24).map (·.size) = some ([.int .i64 alg, .string ⟨kid.toArray⟩, .string ⟨typ.toArray⟩, .bool true] : List Value).length := by kernel_rfl
          have CW := HWr.out w3 (HAq.out w3 hB3')
          have HB9 : Hid (Below W.heap.size W w3) := hB3'
          clear hB3' HWr HAq
          go_wp2_with (refine wpList_load_mid rfl 24 (.tmp 1) rfl w.heap.size 0 rfl [.int .i64 alg, .string ⟨kid.toArray⟩, .string ⟨typ.toArray⟩, .bool true] _ HRg.out Tryd.underlying24 rfl hcl ?_)
          refine CW.mono ?_
          clear CW
          rintro e w7 ⟨hB7, v, rfl, ao, cap, hN⟩
          have hB7' : Below W.heap.size W w7 := HB9.out.trans (hB7.mono HB9.out.size)
          have CP := print_any v V ao cap w7 hN (HGq.out w7 hB7') HTB.out HLn.out
          have HB7 : Hid (Below w.heap.size w w7) := HB.out w7 hB7'
          clear hB7 hB7' hN
          go_wp2_with fail
          refine CP.mono ?_
          clear CP
          rintro e w8 ⟨rfl, hB8⟩
          have HB8 : Hid (Below w.heap.size w w8) := HB7.out.trans (hB8.mono HB7.out.size)
          clear hB8
          go_wp2
          go_ret2
          rw [HX.out]
          exact ⟨rfl, HB8.out⟩

end Go.Proofs.YtglnhlmacngdpaaDoor
